/-
  path's weigh, at any level.
-/
import Derived.Test.YtbfkopjpfkgjhaaGreatDoorWgB
import Derived.Test.YtbfkopjpfkgjhaaGreatDoorPkC
import Derived.Stop.RegionWithIn
namespace Go.Proofs.YtbfkopjpfkgjhaaGreatDoor
open Go.RowKit Go.Shelf

attribute [local go_sem] Oper.semAt_some

/-- a weight in a box -/
def Bx3 (W : World) (B : Nat) (x : Pl.Wt) : Prop := W.heap[B]? = some (.cells #[.int .i64 x.ids, .int .i64 x.tests, .int .i64 x.tags] 40 (0, 0))
theorem Bx3.lt {W : World} {B : Nat} {x : Pl.Wt} (h : Bx3 W B x) : B < W.heap.size := (Array.getElem?_eq_some_iff.1 h).1
theorem Bx3.cells {W : World} {B : Nat} {x : Pl.Wt} (h : Bx3 W B x) : W.cell? ⟨B, 0, none⟩ = some (.int .i64 x.ids) ∧ W.cell? ⟨B, 1, none⟩ = some (.int .i64 x.tests) ∧ W.cell? ⟨B, 2, none⟩ = some (.int .i64 x.tags) := by
  refine ⟨?_, ?_, ?_⟩ <;> simp [World.cell?, show W.heap[B]? = _ from h]
theorem Bx3.frozen {W : World} {B : Nat} {x : Pl.Wt} (h : Bx3 W B x) : W.frozen? ⟨B, 0, none⟩ = false ∧ W.frozen? ⟨B, 1, none⟩ = false ∧ W.frozen? ⟨B, 2, none⟩ = false := by
  refine ⟨?_, ?_, ?_⟩ <;> simp [World.frozen?, show W.heap[B]? = _ from h]
theorem Bx3.new (W : World) (x : Pl.Wt) : Bx3 (W.alloc (.cells #[.int .i64 x.ids, .int .i64 x.tests, .int .i64 x.tags] 40)) W.heap.size x := World.alloc_heap_new W _
theorem Bx3.kept {W W' : World} {row : Option Nat} {B : Nat} {x : Pl.Wt} (h : Bx3 W B x) (hg : W.grownBy W' row) (hne : some B ≠ row) : Bx3 W' B x := (hg.block B h.lt hne).trans h
theorem Bx3.alloc {W : World} {B : Nat} {x : Pl.Wt} (h : Bx3 W B x) (o : Obj) : Bx3 (W.alloc o) B x := h.kept (World.grownBy_alloc W o none) (by simp)
theorem Bx3.on {W W' : World} {B : Nat} {x : Pl.Wt} (h : Bx3 W B x) (hb : Below W.heap.size W W') : Bx3 W' B x := (hb.block B h.lt).trans h
theorem Bx3.drew {W : World} {B : Nat} {x : Pl.Wt} (h : Bx3 W B x) : Bx3 W.drew B x := h
theorem bx3_own {β : Type} (B : Nat) (f : β → Pl.Wt) : Own (fun s W => Bx3 W B (f s)) := fun s X Y row hs hg hrow =>
  hs.kept hg fun e => by
    obtain ⟨o, ho, hc⟩ := hrow B e.symm
    rw [show X.heap[B]? = _ from hs] at ho
    cases ho
    cases hc
theorem Bx3.set2 {W : World} {B : Nat} {x : Pl.Wt} (h : Bx3 W B x) (n : Nat) : Bx3 (W.setCell ⟨B, 2, none⟩ (.int .i64 n)) B ⟨x.ids, x.tests, n⟩ := by
  unfold Bx3 at *
  simp [World.setCell, Array.getElem?_modify, h]
theorem Bx3.set {W : World} {B : Nat} {x : Pl.Wt} (h : Bx3 W B x) (y : Pl.Wt) : Bx3 (((W.setCell ⟨B, 0, none⟩ (.int .i64 y.ids)).setCell ⟨B, 1, none⟩ (.int .i64 y.tests)).setCell ⟨B, 2, none⟩ (.int .i64 y.tags)) B y := by
  unfold Bx3 at *
  simp [World.setCell, Array.getElem?_modify, h]
theorem Bx3.other {W : World} {B B' k : Nat} {x : Pl.Wt} (h : Bx3 W B x) (hne : B ≠ B') (u : Value) : Bx3 (W.setCell ⟨B', k, none⟩ u) B x := by
  unfold Bx3 at *
  rw [Below.heap_setCell _ _ _ _ (by exact hne)]
  exact h
theorem results_w {fn : Func} {p : Tmp} (h : fn.results = #[.cell p 40]) (tmps : Array Value) (W : World) (B : Nat) (y : Pl.Wt) (hp : tmps[p]?.getD undef = .pointer (some ⟨B, 0, none⟩)) (hb : Bx3 W B y) : (results fn tmps).run Tryz.prog W = .ok (wtV y) W := by
  obtain ⟨h0, h1, h2⟩ := hb.cells
  simp [results, h, hp, go_sem, h0, h1, h2, wtV]
theorem Blk6w.new (w : World) (u0 u1 u2 u3 u4 u5 : Value) : (w.alloc (.cells #[u0, u1, u2, u3, u4, u5] 61)).cell? ⟨w.heap.size, 1, none⟩ = some u1 ∧ (w.alloc (.cells #[u0, u1, u2, u3, u4, u5] 61)).cell? ⟨w.heap.size, 2, none⟩ = some u2 ∧ (w.alloc (.cells #[u0, u1, u2, u3, u4, u5] 61)).cell? ⟨w.heap.size, 3, none⟩ = some u3 ∧ (w.alloc (.cells #[u0, u1, u2, u3, u4, u5] 61)).cell? ⟨w.heap.size, 4, none⟩ = some u4 := by
  refine ⟨?_, ?_, ?_, ?_⟩ <;> simp [go_sem]
theorem cell_apart {W : World} {B B' j k : Nat} {u v : Value} (h : W.cell? ⟨B, j, none⟩ = some v) (hne : B ≠ B') : (W.setCell ⟨B', k, none⟩ u).cell? ⟨B, j, none⟩ = some v := by
  unfold World.cell? at *
  rw [Below.heap_setCell _ _ _ _ (by exact hne)]
  exact h
theorem together_v (x y : Pl.Wt) (w : World) (hx : x.le 1000000) (hy : y.le 1000000) : Calls Tryz.prog 60 #[.agg #[.int .i64 x.ids, .int .i64 x.tests, .int .i64 x.tags], .agg #[.int .i64 y.ids, .int .i64 y.tests, .int .i64 y.tags]] w fun e w' => e = .returned (.agg #[.int .i64 (x.add y).ids, .int .i64 (x.add y).tests, .int .i64 (x.add y).tags]) ∧ Below w.heap.size w w' := together_any x y w hx hy
theorem wT_id {α : Type} {g : List α → Pl.Wt} {t : Pl.Tst α} (h : (t.kind == 2) = true) : Pl.wT g t = ⟨1, 0, 0⟩ := by
  unfold Pl.wT
  rw [if_pos (by simpa using h)]
theorem wT_list {α : Type} {g : List α → Pl.Wt} {t : Pl.Tst α} (h : (t.kind == 2) = false) (k : Pl.kList t.kind = true) : Pl.wT g t = g t.list := by
  unfold Pl.wT
  rw [if_neg (by simpa using h), if_pos k]
theorem wT_one {α : Type} {g : List α → Pl.Wt} {t : Pl.Tst α} (h : (t.kind == 2) = false) (k : Pl.kList t.kind = false) : Pl.wT g t = ⟨0, 1, 0⟩ := by
  unfold Pl.wT
  rw [if_neg (by simpa using h), if_neg (by rw [k]; simp)]
/-- what greatest tells of a level's lists -/
def Greatest {α : Type} (A : MemL α) (g : List α → Pl.Wt) (ok : List α → Prop) : Prop := ∀ w v l, A w v l → FormsAt w → ok l → Calls Tryz.prog 78 #[v] w fun e w' => e = .returned (wtV (g l)) ∧ Below w.heap.size w w'
set_option maxRecDepth 100000 in
set_option maxHeartbeats 2000000 in
theorem weighTest_any {α : Type} {A : MemL α} (hA : IsL A) {g : List α → Pl.Wt} {ok : List α → Prop} (hg : Greatest A g ok) (t : Pl.Tst α) (x : Value) (w : World) (hx : TstV A w x t) (hF : FormsAt w) (hok : Pl.kList t.kind = true → ok t.list) :
    Calls Tryz.prog 61 #[x] w fun e w' => e = .returned (wtV (Pl.wT g t)) ∧ Below w.heap.size w w' := by
  obtain ⟨v, rfl, hl⟩ := hx
  obtain ⟨au, cu, rfl, -⟩ := hA.form hl
  have hb1 := on_alloc w (.cells #[.int .i64 t.kind, .string ⟨t.name.toArray⟩, .string ⟨t.value.toArray⟩, .int .i64 t.a, .int .i64 t.b, .slice au t.list.length cu] 61)
  have hb2 := on_alloc (w.alloc (.cells #[.int .i64 t.kind, .string ⟨t.name.toArray⟩, .string ⟨t.value.toArray⟩, .int .i64 t.a, .int .i64 t.b, .slice au t.list.length cu] 61)) (.cells #[.int .i64 0, .int .i64 0, .int .i64 0] 40)
  have HB : Hid (Below w.heap.size w _) := below_trans hb1 hb2
  have HF : Hid (FormsAt _) := (hF.on hb1).on hb2
  have HL : Hid (A _ (.slice au t.list.length cu) t.list) := hA.on (hA.on hl hb1) hb2
  have HG : Hid (Greatest A g ok) := hg
  have HA : Hid (IsL A) := hA
  obtain ⟨r0, r5⟩ := Blk6p.new w (.int .i64 t.kind) (.string ⟨t.name.toArray⟩) (.string ⟨t.value.toArray⟩) (.int .i64 t.a) (.int .i64 t.b) (.slice au t.list.length cu)
  obtain ⟨r1, r2, r3, r4⟩ := Blk6w.new w (.int .i64 t.kind) (.string ⟨t.name.toArray⟩) (.string ⟨t.value.toArray⟩) (.int .i64 t.a) (.int .i64 t.b) (.slice au t.list.length cu)
  replace r0 := cell_on hb2 r0
  replace r1 := cell_on hb2 r1
  replace r2 := cell_on hb2 r2
  replace r3 := cell_on hb2 r3
  replace r4 := cell_on hb2 r4
  replace r5 := cell_on hb2 r5
  have BR : Bx3 _ _ Pl.Wt.zero := Bx3.new (w.alloc (.cells #[.int .i64 t.kind, .string ⟨t.name.toArray⟩, .string ⟨t.value.toArray⟩, .int .i64 t.a, .int .i64 t.b, .slice au t.list.length cu] 61)) Pl.Wt.zero
  simp only [World.size_alloc] at BR
  have HBR : Hid (Bx3 _ _ _) := BR
  have HOK : Hid (Pl.kList t.kind = true → ok t.list) := hok
  clear hb1 hb2 hF hl hg hA BR hok
  cases hk : (t.kind == 2) with
  | true =>
    have HE : Hid (Pl.wT g t = ⟨1, 0, 0⟩) := wT_id hk
    have HBB := fun o o2 => ((Below.refl w.heap.size w).alloc (Nat.le_refl _) o).alloc (by simp) o2
    clear HB HF HL HBR r1 r2 r3 r4 r5
    go_enter Tryz.func61, Tryz.ntmps61
    go_wp2
    exact bodyPost_ret (v := wtV ⟨1, 0, 0⟩) (by simp [results, Tryz.results61, go_sem, wtV]) rfl ⟨by rw [HE.out], HBB _ _⟩
  | false =>
    obtain ⟨bl, hbl⟩ : ∃ y, Pl.kList t.kind = y := ⟨_, rfl⟩
    have hh := hasList_any t.kind t.a t.b _ _ _ au t.list.length cu _ rfl ⟨t.name.toArray⟩ ⟨t.value.toArray⟩ rfl rfl HF.out
    rw [hbl] at hh
    have HH : Hid (Calls Tryz.prog 52 _ _ _) := hh
    clear hh
    go_enter Tryz.func61, Tryz.ntmps61
    go_wp2_with fail
    refine HH.out.mono ?_
    rintro e w3 ⟨rfl, hb3⟩
    have HB3 : Hid (Below w.heap.size w w3) := below_trans HB.out hb3
    have HBR3 : Hid (Bx3 w3 (w.heap.size + 1) Pl.Wt.zero) := HBR.out.on hb3
    have HL3 : Hid (A w3 (.slice au t.list.length cu) t.list) := HA.out.on HL.out hb3
    have HF3 : Hid (FormsAt w3) := HF.out.on hb3
    replace r5 := cell_on hb3 r5
    clear HB HF HL HBR r0 r1 r2 r3 r4 hb3 HH
    obtain ⟨c0, c1, c2⟩ := HBR3.out.cells
    obtain ⟨f0, f1, f2⟩ := HBR3.out.frozen
    cases bl with
    | false =>
      have HE : Hid (Pl.wT g t = ⟨0, 1, 0⟩) := wT_one hk hbl
      have HC : Hid (Bx3 _ _ ⟨0, 1, 0⟩) := HBR3.out.set ⟨0, 1, 0⟩
      have hle : w.heap.size ≤ w.heap.size + 1 := by omega
      go_wp2
      exact bodyPost_ret (v := wtV ⟨0, 1, 0⟩) (results_w rfl _ _ (w.heap.size + 1) _ rfl HC.out) rfl ⟨by rw [HE.out], ((HB3.out.setCell (p := ⟨w.heap.size + 1, 0, none⟩) hle _).setCell (p := ⟨w.heap.size + 1, 1, none⟩) hle _).setCell (p := ⟨w.heap.size + 1, 2, none⟩) hle _⟩
    | true =>
      have HE : Hid (Pl.wT g t = g t.list) := wT_list hk hbl
      have HCON : Hid (Calls Tryz.prog 78 _ _ _) := HG.out w3 _ _ HL3.out HF3.out (HOK.out hbl)
      unfold wtV at HCON
      go_wp2_with fail
      refine HCON.out.mono ?_
      rintro e w4 ⟨rfl, hb4⟩
      have HB4 : Hid (Below w.heap.size w w4) := below_trans HB3.out hb4
      have HBR4 : Hid (Bx3 w4 (w.heap.size + 1) Pl.Wt.zero) := HBR3.out.on hb4
      clear HB3 HBR3 HL3 HF3 r5 c0 c1 c2 f0 f1 f2 hb4 HCON
      obtain ⟨c0, c1, c2⟩ := HBR4.out.cells
      obtain ⟨f0, f1, f2⟩ := HBR4.out.frozen
      have HC : Hid (Bx3 _ _ (g t.list)) := HBR4.out.set (g t.list)
      have hle : w.heap.size ≤ w.heap.size + 1 := by omega
      go_wp2
      exact bodyPost_ret (v := wtV (g t.list)) (results_w rfl _ _ (w.heap.size + 1) _ rfl HC.out) rfl ⟨by rw [HE.out], ((HB4.out.setCell (p := ⟨w.heap.size + 1, 0, none⟩) hle _).setCell (p := ⟨w.heap.size + 1, 1, none⟩) hle _).setCell (p := ⟨w.heap.size + 1, 2, none⟩) hle _⟩
set_option maxRecDepth 100000 in
set_option maxHeartbeats 4000000 in
theorem weigh_any {α : Type} {A : MemL α} (hA : IsL A) {g : List α → Pl.Wt} {ok : List α → Prop} (hg : Greatest A g ok) (N : Nat) (hN1 : 1 ≤ N) (hN2 : N ≤ 3000) (v u : Value) (p : Pl.Pth α) (w : World) (hs : RowAt (StpAt A) 2 w v p.steps) (hu : RowAt IntAt 1 w u p.links) (hF : FormsAt w)
    (h5 : p.steps.length ≤ 5) (h30 : p.tests.length ≤ 30) (hok : ∀ t ∈ p.tests, Pl.kList t.kind = true → ok t.list ∧ (g t.list).le N) :
    Calls Tryz.prog 34 #[.agg #[v, u]] w fun e w' => e = .returned (wtV (Pl.wP g p)) ∧ Below w.heap.size w w' := by
  obtain ⟨ax, cx, rfl⟩ := hs.form
  obtain ⟨al, cl, rfl⟩ := hu.form
  have HS : Hid (RowAt (StpAt A) 2 w (.slice ax p.steps.length cx) p.steps) := hs
  have HA : Hid (IsL A) := hA
  have HF : Hid (FormsAt w) := hF
  have HG : Hid (Greatest A g ok) := hg
  have HOK : Hid (∀ t ∈ p.tests, Pl.kList t.kind = true → ok t.list ∧ (g t.list).le N) := hok
  have HH30 : Hid (p.tests.length ≤ 30) := h30
  obtain ⟨P, hP⟩ : ∃ P, P = w.alloc (.cells #[.slice ax p.steps.length cx, .slice al p.links.length cl] 38) := ⟨_, rfl⟩
  have hbP := on_alloc w (.cells #[.slice ax p.steps.length cx, .slice al p.links.length cl] 38)
  obtain ⟨x0, x1⟩ := Blk2p.new w (.slice ax p.steps.length cx) (.slice al p.links.length cl)
  have hzP : (w.alloc (.cells #[.slice ax p.steps.length cx, .slice al p.links.length cl] 38)).heap.size = w.heap.size + 1 := by simp
  rw [← hP] at hbP x0 x1 hzP
  have hbQ := on_alloc P (.cells #[.int .i64 0, .int .i64 0, .int .i64 0] 40)
  have bQ : Bx3 (P.alloc (.cells #[.int .i64 0, .int .i64 0, .int .i64 0] 40)) P.heap.size Pl.Wt.zero := Bx3.new P Pl.Wt.zero
  have hbR := on_alloc (P.alloc (.cells #[.int .i64 0, .int .i64 0, .int .i64 0] 40)) (.cells #[.int .i64 0, .int .i64 0, .int .i64 0] 40)
  have bR : Bx3 ((P.alloc (.cells #[.int .i64 0, .int .i64 0, .int .i64 0] 40)).alloc (.cells #[.int .i64 0, .int .i64 0, .int .i64 0] 40)) (P.alloc (.cells #[.int .i64 0, .int .i64 0, .int .i64 0] 40)).heap.size Pl.Wt.zero := Bx3.new _ Pl.Wt.zero
  replace bQ := bQ.on hbR
  have hB0 : Below w.heap.size w _ := below_trans hbP (below_trans hbQ hbR)
  replace x0 := cell_on (below_trans hbQ hbR) x0
  replace x1 := cell_on (below_trans hbQ hbR) x1
  simp only [World.size_alloc, hzP] at bQ bR
  subst hP
  clear hs hu hA hF hg hok h30 hbP hbQ hbR hzP
  refine (callsIn_wide (n := 6)).1 ?_
  have h1 : 1 ≤ 6 := by omega
  refine callsIn_of_wp_marks Tryz.func34 rfl trivial ?_ rfl
  simp only [Tryz.ntmps34, List.size_toArray, List.length_cons, List.length_nil, Nat.reduceAdd, Nat.reduceSub, Array.replicate_succ, Array.replicate_zero, List.push_toArray, List.append_toArray, List.nil_append, List.cons_append]
  gi_wp2
  have HBQ : Hid (Bx3 _ _ _) := bQ
  have HBR : Hid (Bx3 _ _ _) := bR
  have HB0 : Hid (Below _ _ _) := hB0
  clear bQ bR hB0
  generalize ((w.alloc (.cells #[.slice ax p.steps.length cx, .slice al p.links.length cl] 38)).alloc (.cells #[.int .i64 0, .int .i64 0, .int .i64 0] 40)).alloc (.cells #[.int .i64 0, .int .i64 0, .int .i64 0] 40) = W1 at *
  gi_loopw [10] (fun i wr => ∃ k : Nat, k ≤ p.steps.length ∧ i = .int .i64 k ∧ Hid (Bx3 wr (w.heap.size + 1) Pl.Wt.zero) ∧ Hid (Bx3 wr (w.heap.size + 1 + 1) ⟨0, 0, Pl.wTags (p.steps.take k)⟩) ∧ Hid (Below w.heap.size w wr) ∧ Hid (wr.cell? ⟨w.heap.size, 0, none⟩ = some (.slice ax p.steps.length cx) ∧ wr.cell? ⟨w.heap.size, 1, none⟩ = some (.slice al p.links.length cl))) (fun i _ => p.steps.length - (intOf i).toNat)
  case atStart => exact ⟨0, Nat.zero_le _, rfl, HBQ, HBR, HB0, ⟨x0, x1⟩⟩
  case round =>
    obtain ⟨k, hk, rfl, HQ, HR, HB, HX⟩ := hrel
    clear x0 x1 HBQ HBR HB0
    by_cases hlt : k < p.steps.length
    · obtain ⟨-, b2, o2, rfl, hc2⟩ := RowAt.at HS.out (by omega)
      obtain ⟨vt, m0, m1, rt⟩ := (hc2 k hlt).on HA.out HB.out
      obtain ⟨at_, ct, rfl⟩ := rt.form
      have k1 : (0 : Int) ≤ (k : Int) := by omega
      have k2 : (k : Int) < (p.steps.length : Int) := by omega
      have HN : Hid (Pl.wTags (p.steps.take (k + 1)) = Pl.wTags (p.steps.take k) + if p.steps[k].tag.isEmpty then 0 else 1) := Pl.tags_next hlt
      have hT := Pl.tags_le (p.steps.take k)
      rw [List.length_take] at hT
      clear hc2 rt
      generalize p.steps[k] = st at *
      have hba := on_alloc wr (.cells #[.string ⟨st.tag.toArray⟩, .slice at_ st.tests.length ct] 56)
      have HQa : Hid (Bx3 _ (w.heap.size + 1) Pl.Wt.zero) := HQ.out.on hba
      have HRa : Hid (Bx3 _ (w.heap.size + 1 + 1) _) := HR.out.on hba
      have HBa : Hid (Below w.heap.size w _) := below_trans HB.out hba
      have HXa : Hid (_ ∧ _) := ⟨cell_on hba HX.out.1, cell_on hba HX.out.2⟩
      generalize Pl.wTags (p.steps.take k) = n at *
      obtain ⟨c0, c1, c2⟩ := HRa.out.cells
      obtain ⟨f0, f1, f2⟩ := HRa.out.frozen
      clear hba HQ HR HB HX c0 c1 f0 f1
      have hn5 : n ≤ 5 := by omega
      clear hT
      cases ht : st.tag.isEmpty with
      | true =>
        rw [ht] at HN
        have HRk : Hid (Bx3 (wr.alloc (.cells #[.string ⟨st.tag.toArray⟩, .slice at_ st.tests.length ct] 56)) (w.heap.size + 1 + 1) ⟨0, 0, Pl.wTags (p.steps.take (k + 1))⟩) := by
          rw [HN.out]
          exact HRa
        gi_wp2
        go_roundw
        case rel => exact ⟨k + 1, by omega, by simp, HQa, HRk, HBa, HXa⟩
        case measure => simp [intOf]; omega
      | false =>
        rw [ht] at HN
        have hr := HRa.out.set2 (n + 1)
        have HRk : Hid (Bx3 ((wr.alloc (.cells #[.string ⟨st.tag.toArray⟩, .slice at_ st.tests.length ct] 56)).setCell ⟨w.heap.size + 1 + 1, 2, none⟩ (.int .i64 ((n + 1 : Nat) : Int))) (w.heap.size + 1 + 1) ⟨0, 0, Pl.wTags (p.steps.take (k + 1))⟩) := by
          rw [HN.out]
          exact hr
        have HQk : Hid (Bx3 _ (w.heap.size + 1) Pl.Wt.zero) := HQa.out.other (B' := w.heap.size + 1 + 1) (k := 2) (by omega) (.int .i64 ((n + 1 : Nat) : Int))
        have HBk : Hid (Below w.heap.size w _) := HBa.out.setCell (p := ⟨w.heap.size + 1 + 1, 2, none⟩) (by show _ ≤ w.heap.size + 1 + 1; omega) (.int .i64 ((n + 1 : Nat) : Int))
        clear hr
        gi_wp2
        go_roundw
        case rel => exact ⟨k + 1, by omega, by simp, HQk, HRk, HBk, ⟨cell_apart HXa.out.1 (by omega), cell_apart HXa.out.2 (by omega)⟩⟩
        case measure => simp [intOf]; omega
    · have hT := Pl.tags_le p.steps
      have HRe : Hid (Bx3 wr (w.heap.size + 1 + 1) ⟨0, 0, Pl.wTags p.steps⟩) := by
        have := HR.out
        rw [List.take_of_length_le (by omega)] at this
        exact this
      obtain ⟨x0, x1⟩ := HX.out
      clear HR HX
      obtain ⟨n, hn⟩ : ∃ n, n = Pl.wTags p.steps := ⟨_, rfl⟩
      rw [← hn] at hT HRe
      have HNN : Hid (n = Pl.wTags p.steps) := hn
      clear hn
      gi_wp2_with (refine ⟨trivial, ?_⟩; gi_at_call 51; refine (tests_in Fence.wide _ trivial rfl _ _ _).mono ?_; rintro e w' ⟨rfl, rfl⟩)
      have hB2 : Below w.heap.size w (wr.alloc (.cells #[.slice ax p.steps.length cx, .slice al p.links.length cl] 38)) := below_trans HB.out (on_alloc _ _)
      have d0 := (Blk2p.new wr (.slice ax p.steps.length cx) (.slice al p.links.length cl)).1
      have bQ2 := HQ.out.on (on_alloc wr (.cells #[.slice ax p.steps.length cx, .slice al p.links.length cl] 38))
      have bR2 := HRe.out.on (on_alloc wr (.cells #[.slice ax p.steps.length cx, .slice al p.links.length cl] 38))
      have hszR := HRe.out.lt
      have hsz2 : (wr.alloc (.cells #[.slice ax p.steps.length cx, .slice al p.links.length cl] 38)).heap.size = wr.heap.size + 1 := by simp
      have hsz0 := HB.out.size
      generalize hW2 : wr.alloc (.cells #[.slice ax p.steps.length cx, .slice al p.links.length cl] 38) = W2 at *
      refine wpIn_rangeFunc_ownH rfl h1 (gf := 71) (lb := #[.pointer (some ⟨wr.heap.size, 0, none⟩)]) rfl trivial (enters_of Tryz.func71 (by kernel_rfl) rfl)
        (tests_stops Fence.wide (6 - 1) trivial rfl (by omega) HA.out wr.heap.size w p _ W2 hB2 (by omega) d0 HS.out) belowK_t (belowK_b (by omega)) (Below.refl _ _) (fun _ => rfl)
        (fun pre W => (Bx3 W (w.heap.size + 1 + 1) ((⟨0, 0, n⟩ : Pl.Wt).add (Pl.wSum (pre.map fun x => Pl.wT g x.tst))) ∧ Bx3 W (w.heap.size + 1) Pl.Wt.zero) ∧ Below w.heap.size w W)
        (fun c pre W => False)
        (OwnFrom.and (OwnFrom.and (Own.from (bx3_own _ _) _) (Own.from (bx3_own _ fun _ => Pl.Wt.zero) _)) (ownFrom_below (Nat.le_refl _) (by omega)))
        (fun c => ownFrom_pure _ fun _ => False)
        ⟨⟨bR2, bQ2⟩, hB2⟩
        (fun x a' W => ∃ Bx au cu, w.heap.size + 1 + 1 < Bx ∧ (W.cell? ⟨Bx, 0, none⟩ = some (.int .i64 x.1.2.kind) ∧ W.cell? ⟨Bx, 1, none⟩ = some (.string ⟨x.1.2.name.toArray⟩) ∧ W.cell? ⟨Bx, 2, none⟩ = some (.string ⟨x.1.2.value.toArray⟩) ∧ W.cell? ⟨Bx, 3, none⟩ = some (.int .i64 x.1.2.a) ∧ W.cell? ⟨Bx, 4, none⟩ = some (.int .i64 x.1.2.b) ∧ W.cell? ⟨Bx, 5, none⟩ = some (.slice au x.1.2.list.length cu)) ∧ A w (.slice au x.1.2.list.length cu) x.1.2.list ∧ a' = { tmps := #[.agg #[.slice ax p.steps.length cx, .slice al p.links.length cl], .pointer (some ⟨w.heap.size, 0, none⟩), .pointer (some ⟨w.heap.size + 1, 0, none⟩), .pointer (some ⟨w.heap.size + 1 + 1, 0, none⟩), undef, u5, .pointer (some ⟨Bx, 0, none⟩), .pointer (some ⟨w.heap.size, 0, none⟩), .slice ax p.steps.length cx, .int .i64 p.steps.length, .int .i64 k, .bool false, u12, u13, u14, u15, u16, u17, u18, u19, u20, u21, .agg #[.slice ax p.steps.length cx, .slice al p.links.length cl], .func (.func 71) #[] #[.pointer (some ⟨wr.heap.size, 0, none⟩)], x.1.1, undef, undef, undef, undef, undef], defers := [] })
        (fun x a' _ X Y row hs hg hr => by obtain ⟨Bx, au, cu, h1, ⟨q0, q1, q2, q3, q4, q5⟩, h2, h3⟩ := hs; exact ⟨Bx, au, cu, h1, ⟨cell_kept q0 hg (fun r e => (hr r e).2), cell_kept q1 hg (fun r e => (hr r e).2), cell_kept q2 hg (fun r e => (hr r e).2), cell_kept q3 hg (fun r e => (hr r e).2), cell_kept q4 hg (fun r e => (hr r e).2), cell_kept q5 hg (fun r e => (hr r e).2)⟩, h2, h3⟩)
        ?assign ?body ?done ?stop
      case assign =>
        rintro lo pre x W K ⟨⟨hp, hq⟩, hB⟩ hK
        obtain ⟨lv, hx, hal⟩ := x.2.1
        obtain ⟨au, cu, rfl, -⟩ := HA.out.form hal
        have HXX : Hid _ := hx
        have HAL : Hid _ := hal
        dsimp only
        rw [hx]
        clear hx hal
        gi_wp2
        exact hK _ _ ((KeepsOthers.alloc _ _).from _) ((Below.refl _ W).alloc hB.size _) ⟨⟨hp.alloc _, hq.alloc _⟩, hB.alloc hB.size _⟩ ⟨W.heap.size, au, cu, hp.lt, ⟨(Blk6p.new W _ _ _ _ _ _).1, (Blk6w.new W _ _ _ _ _ _).1, (Blk6w.new W _ _ _ _ _ _).2.1, (Blk6w.new W _ _ _ _ _ _).2.2.1, (Blk6w.new W _ _ _ _ _ _).2.2.2, (Blk6p.new W _ _ _ _ _ _).2⟩, HAL.out, by rw [HXX.out]⟩
      case body =>
        rintro lo pre x a' W hl hr ⟨⟨hp, hq⟩, hB⟩ ⟨Bx, au, cu, hBx, ⟨q0, q1, q2, q3, q4, q5⟩, hal, rfl⟩ hlt
        have hxm := HOK.out x.1.2 x.2.2
        have HSUM : Hid (Pl.wSum ((pre ++ [x]).map fun x => Pl.wT g x.tst) = (Pl.wSum (pre.map fun x => Pl.wT g x.tst)).add (Pl.wT g x.1.2)) := by
          unfold Hid
          rw [List.map_append]
          exact Pl.wSum_snoc _ _
        have hle := Pl.wSum_le (l := pre.map fun x => Pl.wT g x.tst) (n := N) (fun y hy => by
          obtain ⟨z, hz, rfl⟩ := List.mem_map.1 hy
          exact Pl.wT_le hN1 _ fun hk => (HOK.out _ z.2.2 hk).2)
        rw [List.length_map] at hle
        have hmul : pre.length * N ≤ 30 * 3000 := Nat.mul_le_mul (by have := HH30.out; omega) hN2
        have HT1 : Hid (Pl.Wt.le _ 1000000) := show Pl.Wt.le ((⟨0, 0, n⟩ : Pl.Wt).add (Pl.wSum (pre.map fun x => Pl.wT g x.tst))) 1000000 by
          obtain ⟨a1, a2, a3⟩ := hle
          simp only [Pl.Wt.add, Pl.Wt.le]
          exact ⟨by omega, by omega, by omega⟩
        have HT2 : Hid (Pl.Wt.le (Pl.wT g x.1.2) 1000000) := by
          obtain ⟨a1, a2, a3⟩ := Pl.wT_le (n := N) hN1 x.1.2 fun hk => (hxm hk).2
          exact ⟨by omega, by omega, by omega⟩
        generalize Pl.wSum (pre.map fun x => Pl.wT g x.tst) = S at *
        have HWT : Hid (∀ W', Below W.heap.size W W' → Calls Tryz.prog 61 #[.agg #[.int .i64 x.1.2.kind, .string ⟨x.1.2.name.toArray⟩, .string ⟨x.1.2.value.toArray⟩, .int .i64 x.1.2.a, .int .i64 x.1.2.b, .slice au x.1.2.list.length cu]] W' fun e w' => e = .returned (wtV (Pl.wT g x.1.2)) ∧ Below W'.heap.size W' w') := fun W' hW' =>
          weighTest_any HA.out HG.out x.1.2 _ W' ⟨_, rfl, HA.out.on hal (below_trans hB hW')⟩ (HF.out.on (below_trans hB hW')) (fun hk => (hxm hk).1)
        clear hle hmul hxm hal
        generalize x.1.1 = xv
        generalize x.1.2 = t at *
        generalize hS1 : (⟨0, 0, n⟩ : Pl.Wt).add S = S1 at *
        have HS1 : Hid ((⟨0, 0, n⟩ : Pl.Wt).add S = S1) := hS1
        clear hS1
        generalize Pl.wT g t = T at *
        have HBX : Hid (Bx3 W _ S1) := hp
        have HBQ : Hid (Bx3 W _ _) := hq
        have HBB : Hid (Below w.heap.size w W) := hB
        obtain ⟨c0, c1, c2⟩ := hp.cells
        have h1' : 1 ≤ 6 - 1 - 1 := by omega
        clear hp hq hB
        unfold wtV at HWT
        gi_wp2
        gi_region_with (first
          | (refine ⟨trivial, ?_⟩; gi_at_call 61; refine (CallsIn.inRound lo (callsIn_wide.2 (HWT.out _ (by first | exact Below.refl _ _ | exact (Below.refl _ _).drew | exact (Below.refl _ _).drew.drew)))).mono ?_; rintro e w6 ⟨rfl, hb6⟩; have HB6 : Hid (Bx3 w6 _ S1) := (by first | exact HBX.out.on hb6 | exact (Bx3.drew HBX.out).on hb6 | exact (Bx3.drew (Bx3.drew HBX.out)).on hb6); have HQ6 : Hid (Bx3 w6 _ Pl.Wt.zero) := (by first | exact HBQ.out.on hb6 | exact (Bx3.drew HBQ.out).on hb6 | exact (Bx3.drew (Bx3.drew HBQ.out)).on hb6); have HL6 : Hid (Below w.heap.size w w6 ∧ Below W.heap.size W w6) := (by first | exact ⟨below_trans HBB.out hb6, hb6⟩ | exact ⟨below_trans HBB.out.drew hb6, below_trans (Below.refl _ _).drew hb6⟩ | exact ⟨below_trans HBB.out.drew.drew hb6, below_trans (Below.refl _ _).drew.drew hb6⟩); clear hb6; obtain ⟨e0, e1, e2⟩ := HB6.out.cells)
          | (refine ⟨trivial, ?_⟩; gi_at_call 60; refine (CallsIn.inRound lo (callsIn_wide.2 (together_v S1 T _ HT1.out HT2.out))).mono ?_; rintro e w7 ⟨rfl, hb7⟩; have HB7 : Hid (Bx3 w7 _ S1) := (by first | exact HB6.out.on hb7 | exact (Bx3.drew HB6.out).on hb7); have HQ7 : Hid (Bx3 w7 _ Pl.Wt.zero) := (by first | exact HQ6.out.on hb7 | exact (Bx3.drew HQ6.out).on hb7); have HL7 : Hid (Below w.heap.size w w7 ∧ Below W.heap.size W w7) := (by first | exact ⟨below_trans HL6.out.1 hb7, below_trans HL6.out.2 hb7⟩ | exact ⟨below_trans HL6.out.1.drew hb7, below_trans HL6.out.2.drew hb7⟩); clear hb7; obtain ⟨f0, f1, f2⟩ := HB7.out.frozen; obtain ⟨e3, e4, e5⟩ := HB7.out.cells))
        all_goals gi_wp2
        all_goals
          have hszW := HBB.out.size
          have hle : w.heap.size ≤ w.heap.size + 1 + 1 := by omega
          refine ⟨((((keeps_of_below HL7.out.2).trans (KeepsOthers.setCell _ _ _)).trans (KeepsOthers.setCell _ _ _)).trans (KeepsOthers.setCell _ _ _)).from _, (((HL7.out.2.mono hszW).setCell (p := ⟨w.heap.size + 1 + 1, 0, none⟩) hle _).setCell (p := ⟨w.heap.size + 1 + 1, 1, none⟩) hle _).setCell (p := ⟨w.heap.size + 1 + 1, 2, none⟩) hle _, ⟨?_, ((HQ7.out.other (by omega) _).other (by omega) _).other (by omega) _⟩, ((HL7.out.1.setCell (p := ⟨w.heap.size + 1 + 1, 0, none⟩) hle _).setCell (p := ⟨w.heap.size + 1 + 1, 1, none⟩) hle _).setCell (p := ⟨w.heap.size + 1 + 1, 2, none⟩) hle _⟩
          rw [HSUM.out, ← Pl.Wt.add_assoc, HS1.out]
          exact HB7.out.set (S1.add T)
      case done =>
        rintro D ys W hD hys ⟨⟨hp, hq⟩, hB⟩ hK
        have HPW : Hid ((⟨0, 0, n⟩ : Pl.Wt).add (Pl.wSum (ys.map fun x => Pl.wT g x.tst)) = Pl.wP g p) := by
          unfold Hid Pl.wP
          rw [← hys, List.map_map, HNN.out]
          rfl
        rw [HPW.out] at hp
        obtain ⟨c0, c1, c2⟩ := hp.cells
        obtain ⟨f0, f1, f2⟩ := hq.frozen
        obtain ⟨e0, e1, e2⟩ := hq.cells
        obtain ⟨T, hT⟩ : ∃ T, T = Pl.wP g p := ⟨_, rfl⟩
        rw [← hT] at hp c0 c1 c2
        have HPP : Hid (Bx3 _ _ T) := hq.set T
        have HT : Hid (T = Pl.wP g p) := hT
        have HBB : Hid (Below _ _ _) := hB
        have hle : w.heap.size ≤ w.heap.size + 1 := by omega
        clear hp hq hB hT
        gi_wp2
        have hK' := (((KeepsOthers.setCell W ⟨w.heap.size + 1, 0, none⟩ (.int .i64 T.ids)).trans (KeepsOthers.setCell _ ⟨w.heap.size + 1, 1, none⟩ (.int .i64 T.tests))).trans (KeepsOthers.setCell _ ⟨w.heap.size + 1, 2, none⟩ (.int .i64 T.tags))).same D _ hK rfl
        refine ⟨by simp, .inl ⟨_, _, rfl, run_takeDeferred hK', ?_⟩⟩
        have hc5 := bx3_own (β := Unit) (w.heap.size + 1) (fun _ => T) () _ _ _ HPP.out (grownBy_putObj' _ D (.deferred none)) (fun r e => by cases e; exact ⟨_, hK', rfl⟩)
        refine ⟨wtV T, results_w rfl _ _ (w.heap.size + 1) T rfl hc5, by rw [HT.out], (((HBB.out.setCell (p := ⟨w.heap.size + 1, 0, none⟩) hle _).setCell (p := ⟨w.heap.size + 1, 1, none⟩) hle _).setCell (p := ⟨w.heap.size + 1, 2, none⟩) hle _).trans (belowK_b (w := w) (Nat.le_refl _) _ D _ _ (by omega) hK' rfl rfl)⟩
      case stop =>
        rintro D c pre W hD hpre hx hK
        exact hx.elim
end Go.Proofs.YtbfkopjpfkgjhaaGreatDoor
/-
  path's greatest, at any level.
-/
namespace Go.Proofs.YtbfkopjpfkgjhaaGreatDoor
open Go.RowKit

/-- what weigh tells of a level's paths -/
def Weighs {α : Type} (A : MemL α) (f : Pl.Pth α → Pl.Wt) (ok : Pl.Pth α → Prop) : Prop := ∀ w v u p, RowAt (StpAt A) 2 w v p.steps → RowAt IntAt 1 w u p.links → FormsAt w → ok p → Calls Tryz.prog 34 #[.agg #[v, u]] w fun e w' => e = .returned (wtV (f p)) ∧ Below w.heap.size w w'
theorem isLess_v (x y : Pl.Wt) (w : World) : Calls Tryz.prog 88 #[.agg #[.int .i64 x.ids, .int .i64 x.tests, .int .i64 x.tags], .agg #[.int .i64 y.ids, .int .i64 y.tests, .int .i64 y.tags]] w fun e w' => e = .returned (.bool (x.less y)) ∧ Below w.heap.size w w' := isLess_any x y w
theorem wL_next {β : Type} (f : β → Pl.Wt) {l : List β} {k : Nat} (h : k < l.length) : Pl.wL f (l.take (k + 1)) = Pl.more (Pl.wL f (l.take k)) (f l[k]) := by
  rw [List.take_succ_eq_append_getElem h, Pl.wL_snoc]
set_option maxRecDepth 100000 in
set_option maxHeartbeats 2000000 in
theorem greatest_up {α : Type} {A : MemL α} (hA : IsL A) {f : Pl.Pth α → Pl.Wt} {ok : Pl.Pth α → Prop} (hw : Weighs A f ok) : Greatest (LstAt A) (Pl.wL f) (fun l => ∀ p ∈ l, ok p) := by
  intro w v l h hF hok
  obtain ⟨a, c, rfl⟩ := RowAt.form h
  have fl := RowAt.fit h
  unfold maxLen at fl
  have HL : Hid (LstAt A w (.slice a l.length c) l) := h
  have HA : Hid (IsL A) := hA
  have HW : Hid (Weighs A f ok) := hw
  have HF : Hid (FormsAt w) := hF
  have HOK : Hid (∀ p ∈ l, ok p) := hok
  have hb1 := on_alloc w (.cells #[.int .i64 0, .int .i64 0, .int .i64 0] 40)
  have bQ : Bx3 (w.alloc (.cells #[.int .i64 0, .int .i64 0, .int .i64 0] 40)) w.heap.size Pl.Wt.zero := Bx3.new w Pl.Wt.zero
  have hb2 := on_alloc (w.alloc (.cells #[.int .i64 0, .int .i64 0, .int .i64 0] 40)) (.cells #[.int .i64 0, .int .i64 0, .int .i64 0] 40)
  have bR : Bx3 ((w.alloc (.cells #[.int .i64 0, .int .i64 0, .int .i64 0] 40)).alloc (.cells #[.int .i64 0, .int .i64 0, .int .i64 0] 40)) (w.heap.size + 1) Pl.Wt.zero := by
    have := Bx3.new (w.alloc (.cells #[.int .i64 0, .int .i64 0, .int .i64 0] 40)) Pl.Wt.zero
    simp only [World.size_alloc] at this
    exact this
  have HBQ : Hid (Bx3 _ _ _) := bQ.on hb2
  have HBR : Hid (Bx3 _ _ _) := bR
  have HB0 : Hid (Below w.heap.size w _) := below_trans hb1 hb2
  clear h hA hw hF hok hb1 hb2 bQ bR
  go_enter Tryz.func78, Tryz.ntmps78
  go_wp2_with fail
  generalize (w.alloc (.cells #[.int .i64 0, .int .i64 0, .int .i64 0] 40)).alloc (.cells #[.int .i64 0, .int .i64 0, .int .i64 0] 40) = W1 at *
  go_loopw [9] (fun i wr => ∃ k : Nat, k ≤ l.length ∧ i = .int .i64 k ∧ Hid (Bx3 wr w.heap.size Pl.Wt.zero) ∧ Hid (Bx3 wr (w.heap.size + 1) (Pl.wL f (l.take k))) ∧ Hid (Below w.heap.size w wr)) (fun i _ => l.length - (intOf i).toNat)
  case atStart => exact ⟨0, Nat.zero_le _, rfl, HBQ, HBR, HB0⟩
  case round =>
    obtain ⟨k, hk, rfl, HQ, HR, HB⟩ := hrel
    by_cases hlt : k < l.length
    · obtain ⟨-, b, o, rfl, hc⟩ := RowAt.at HL.out (by omega)
      obtain ⟨vs, vl, n0, n1, rs, rl⟩ := (hc k hlt).on HA.out HB.out
      obtain ⟨ax, cx, rfl⟩ := rs.form
      obtain ⟨al, cl, rfl⟩ := rl.form
      have i1 : (0 : Int) ≤ (k : Int) := by omega
      have i2 : (k : Int) < (l.length : Int) := by omega
      have HN : Hid (Pl.wL f (l.take (k + 1)) = Pl.more (Pl.wL f (l.take k)) (f l[k])) := wL_next f hlt
      have hokp := HOK.out l[k] (List.getElem_mem hlt)
      clear hc
      generalize l[k] = p at *
      have hba := on_alloc wr (.cells #[.slice ax p.steps.length cx, .slice al p.links.length cl] 38)
      have HCON : Hid (Calls Tryz.prog 34 _ _ _) := HW.out _ _ _ p (rs.map fun b o x hx => hx.on HA.out hba) (rl.map fun b o x hx => cell_on hba hx) (HF.out.on (below_trans HB.out hba)) hokp
      have HQa : Hid (Bx3 _ w.heap.size Pl.Wt.zero) := HQ.out.on hba
      have HRa : Hid (Bx3 _ (w.heap.size + 1) _) := HR.out.on hba
      have HBa : Hid (Below w.heap.size w _) := below_trans HB.out hba
      unfold wtV at HCON
      generalize Pl.wL f (l.take k) = M at *
      generalize f p = T at *
      clear hba rs rl HQ HR HB hokp
      go_wp2_with fail
      refine HCON.out.mono ?_
      rintro e w2 ⟨rfl, hb2⟩
      have hbb := on_alloc w2 (.cells #[.int .i64 T.ids, .int .i64 T.tests, .int .i64 T.tags] 40)
      have bT := Bx3.new w2 T
      have HQb : Hid (Bx3 _ w.heap.size Pl.Wt.zero) := (HQa.out.on hb2).on hbb
      have HRb : Hid (Bx3 _ (w.heap.size + 1) M) := (HRa.out.on hb2).on hbb
      have HBb : Hid (Below w.heap.size w _) := below_trans (below_trans HBa.out hb2) hbb
      have HTb : Hid (Bx3 _ w2.heap.size T) := bT
      obtain ⟨t0, t1, t2⟩ := bT.cells
      obtain ⟨r0, r1, r2⟩ := HRb.out.cells
      clear hb2 hbb bT HQa HRa HBa HCON
      go_wp2_with fail
      generalize w2.alloc (.cells #[.int .i64 T.ids, .int .i64 T.tests, .int .i64 T.tags] 40) = w3 at *
      obtain ⟨bl, hbl⟩ : ∃ y, M.less T = y := ⟨_, rfl⟩
      have hcon := isLess_v M T w3
      rw [hbl] at hcon
      refine hcon.mono ?_
      rintro e w4 ⟨rfl, hb4⟩
      have HQ4 : Hid (Bx3 w4 w.heap.size Pl.Wt.zero) := HQb.out.on hb4
      have HR4 : Hid (Bx3 w4 (w.heap.size + 1) M) := HRb.out.on hb4
      have HT4 : Hid (Bx3 w4 w2.heap.size T) := HTb.out.on hb4
      have HB4 : Hid (Below w.heap.size w w4) := below_trans HBb.out hb4
      clear hb4 HQb HRb HTb HBb t0 t1 t2 r0 r1 r2 hcon
      cases bl with
      | false =>
        have HM : Hid (Pl.wL f (l.take (k + 1)) = M) := by
          unfold Hid
          rw [HN.out, Pl.more, hbl]
          rfl
        have HRk : Hid (Bx3 w4 (w.heap.size + 1) (Pl.wL f (l.take (k + 1)))) := by
          rw [HM.out]
          exact HR4
        go_wp2
        exact ⟨⟨k + 1, hlt, by go_num, HQ4, HRk, HB4⟩, by simp [intOf]; omega⟩
      | true =>
        have HM : Hid (Pl.wL f (l.take (k + 1)) = T) := by
          unfold Hid
          rw [HN.out, Pl.more, hbl]
          rfl
        obtain ⟨t0, t1, t2⟩ := HT4.out.cells
        obtain ⟨r0, r1, r2⟩ := HR4.out.cells
        obtain ⟨f0, f1, f2⟩ := HR4.out.frozen
        have hset := HR4.out.set T
        have HS : Hid (Bx3 _ (w.heap.size + 1) T) := hset
        have HSQ : Hid (Bx3 _ w.heap.size Pl.Wt.zero) := ((HQ4.out.other (B' := w.heap.size + 1) (k := 0) (by omega) (.int .i64 T.ids)).other (B' := w.heap.size + 1) (k := 1) (by omega) (.int .i64 T.tests)).other (B' := w.heap.size + 1) (k := 2) (by omega) (.int .i64 T.tags)
        have hle : w.heap.size ≤ w.heap.size + 1 := by omega
        have HSB : Hid (Below w.heap.size w _) := ((HB4.out.setCell (p := ⟨w.heap.size + 1, 0, none⟩) hle (.int .i64 T.ids)).setCell (p := ⟨w.heap.size + 1, 1, none⟩) hle (.int .i64 T.tests)).setCell (p := ⟨w.heap.size + 1, 2, none⟩) hle (.int .i64 T.tags)
        clear hset
        go_wp2
        exact ⟨⟨k + 1, hlt, by go_num, HSQ, by rw [HM.out]; exact HS, HSB⟩, by simp [intOf]; omega⟩
    · have HE : Hid (Bx3 wr (w.heap.size + 1) (Pl.wL f l)) := by
        have := HR.out
        rw [List.take_of_length_le (by omega)] at this
        exact this
      obtain ⟨T, hT⟩ : ∃ T, T = Pl.wL f l := ⟨_, rfl⟩
      rw [← hT] at HE
      have HT : Hid (T = Pl.wL f l) := hT
      clear hT HR
      obtain ⟨r0, r1, r2⟩ := HE.out.cells
      obtain ⟨q0, q1, q2⟩ := HQ.out.cells
      obtain ⟨f0, f1, f2⟩ := HQ.out.frozen
      have HC : Hid (Bx3 _ _ T) := HQ.out.set T
      have hle : w.heap.size ≤ w.heap.size := by omega
      go_wp2
      exact bodyPost_ret (v := wtV T) (results_w rfl _ _ w.heap.size T rfl HC.out) rfl ⟨by rw [HT.out], ((HB.out.setCell (p := ⟨w.heap.size, 0, none⟩) hle _).setCell (p := ⟨w.heap.size, 1, none⟩) hle _).setCell (p := ⟨w.heap.size, 2, none⟩) hle _⟩
end Go.Proofs.YtbfkopjpfkgjhaaGreatDoor
/-
  The document's own weight of a path, at any level.
-/
namespace Go.Proofs.YtbfkopjpfkgjhaaGreatDoor
open Go.RowKit

/-- what the document tells of the paths of a level's lists -/
def WeightsOf {α : Type} (A : MemL α) (f : α → Pl.Wt) (ok : List α → Prop) : Prop := ∀ w a n c l i, A w (.slice a n c) l → ok l → ∀ h : i < l.length, ∃ b o av nv cv au nu cu, a = some ⟨b, o, none⟩ ∧ w.cell? ⟨b, o + i * 2, none⟩ = some (.slice av nv cv) ∧ w.cell? ⟨b, o + i * 2 + 1, none⟩ = some (.slice au nu cu) ∧
  Calls Tryz.prog 15 #[.agg #[.slice av nv cv, .slice au nu cu]] w fun e w' => e = .returned (.agg #[.int .i64 (f l[i]).ids, .int .i64 (f l[i]).tests, .int .i64 (f l[i]).tags]) ∧ Below w.heap.size w w'
theorem heavier_v (x y : Pl.Wt) (w : World) : Calls Tryz.prog 35 #[.agg #[.int .i64 x.ids, .int .i64 x.tests, .int .i64 x.tags], .agg #[.int .i64 y.ids, .int .i64 y.tests, .int .i64 y.tags]] w fun e w' => e = .returned (.bool (y.less x)) ∧ Below w.heap.size w w' := heavier_any x y w
theorem Bx3.set0 {W : World} {B : Nat} {x : Pl.Wt} (h : Bx3 W B x) (n : Nat) : Bx3 (W.setCell ⟨B, 0, none⟩ (.int .i64 n)) B ⟨n, x.tests, x.tags⟩ := by
  unfold Bx3 at *
  simp [World.setCell, Array.getElem?_modify, h]
theorem Bx3.set1 {W : World} {B : Nat} {x : Pl.Wt} (h : Bx3 W B x) (n : Nat) : Bx3 (W.setCell ⟨B, 1, none⟩ (.int .i64 n)) B ⟨x.ids, n, x.tags⟩ := by
  unfold Bx3 at *
  simp [World.setCell, Array.getElem?_modify, h]
theorem wsum_next {β : Type} (f : β → Pl.Wt) {l : List β} {k : Nat} (h : k < l.length) : Pl.wSum ((l.take (k + 1)).map f) = (Pl.wSum ((l.take k).map f)).add (f l[k]) := by
  rw [List.take_succ_eq_append_getElem h, List.map_append]
  exact Pl.wSum_snoc _ _
theorem kList_of {k : Int} (h : Pl.isKind k = true) (h2 : ¬ k < 13) : Pl.kList k = true := by
  simp [Pl.isKind, Pl.kList] at *
  omega
theorem kList_not {k : Int} (h : k < 13) : Pl.kList k = false := by
  simp [Pl.kList]
  omega
/-- the best of a list, told by its paths -/
theorem more_less {M T : Pl.Wt} : Pl.more M T = if M.less T = true then T else M := rfl
/-- the boxes of a call: the path, the answer, the sum -/
structure WBox (w W : World) (va vb : Value) (S : Pl.Wt) : Prop where
  x0 : W.cell? ⟨w.heap.size, 0, none⟩ = some va
  x1 : W.cell? ⟨w.heap.size, 1, none⟩ = some vb
  q : Bx3 W (w.heap.size + 1) Pl.Wt.zero
  r : Bx3 W (w.heap.size + 1 + 1) S
  b : Below w.heap.size w W
theorem WBox.on {w W W' : World} {va vb : Value} {S : Pl.Wt} (h : WBox w W va vb S) (hb : Below W.heap.size W W') : WBox w W' va vb S := ⟨cell_on hb h.x0, cell_on hb h.x1, h.q.on hb, h.r.on hb, below_trans h.b hb⟩
theorem WBox.put {w W : World} {va vb : Value} {S : Pl.Wt} (h : WBox w W va vb S) (k : Nat) (u : Value) {T : Pl.Wt} (hr : Bx3 (W.setCell ⟨w.heap.size + 1 + 1, k, none⟩ u) (w.heap.size + 1 + 1) T) : WBox w (W.setCell ⟨w.heap.size + 1 + 1, k, none⟩ u) va vb T :=
  ⟨cell_apart h.x0 (by omega), cell_apart h.x1 (by omega), h.q.other (by omega) _, hr, h.b.setCell (p := ⟨w.heap.size + 1 + 1, k, none⟩) (by show _ ≤ w.heap.size + 1 + 1; omega) _⟩
theorem WBox.putAll {w W : World} {va vb : Value} {S : Pl.Wt} (h : WBox w W va vb S) (T : Pl.Wt) : WBox w (((W.setCell ⟨w.heap.size + 1 + 1, 0, none⟩ (.int .i64 T.ids)).setCell ⟨w.heap.size + 1 + 1, 1, none⟩ (.int .i64 T.tests)).setCell ⟨w.heap.size + 1 + 1, 2, none⟩ (.int .i64 T.tags)) va vb T :=
  ⟨cell_apart (cell_apart (cell_apart h.x0 (by omega)) (by omega)) (by omega), cell_apart (cell_apart (cell_apart h.x1 (by omega)) (by omega)) (by omega), ((h.q.other (by omega) _).other (by omega) _).other (by omega) _, h.r.set T,
    ((h.b.setCell (p := ⟨w.heap.size + 1 + 1, 0, none⟩) (by show _ ≤ w.heap.size + 1 + 1; omega) _).setCell (p := ⟨w.heap.size + 1 + 1, 1, none⟩) (by show _ ≤ w.heap.size + 1 + 1; omega) _).setCell (p := ⟨w.heap.size + 1 + 1, 2, none⟩) (by show _ ≤ w.heap.size + 1 + 1; omega) _⟩
/-- another box set -/
theorem WBox.away {w W : World} {va vb : Value} {S : Pl.Wt} (h : WBox w W va vb S) {B : Nat} (hB : w.heap.size + 1 + 1 < B) (T : Pl.Wt) : WBox w (((W.setCell ⟨B, 0, none⟩ (.int .i64 T.ids)).setCell ⟨B, 1, none⟩ (.int .i64 T.tests)).setCell ⟨B, 2, none⟩ (.int .i64 T.tags)) va vb S :=
  ⟨cell_apart (cell_apart (cell_apart h.x0 (by omega)) (by omega)) (by omega), cell_apart (cell_apart (cell_apart h.x1 (by omega)) (by omega)) (by omega), ((h.q.other (by omega) _).other (by omega) _).other (by omega) _, ((h.r.other (by omega) _).other (by omega) _).other (by omega) _,
    ((h.b.setCell (p := ⟨B, 0, none⟩) (by show _ ≤ B; omega) _).setCell (p := ⟨B, 1, none⟩) (by show _ ≤ B; omega) _).setCell (p := ⟨B, 2, none⟩) (by show _ ≤ B; omega) _⟩
set_option maxRecDepth 100000 in
set_option maxHeartbeats 4000000 in
theorem weightOf_any {α : Type} {A : MemL α} (hA : IsL A) {f : α → Pl.Wt} {ok : List α → Prop} (hw : WeightsOf A f ok) (N : Nat) (hN1 : 1 ≤ N) (hN2 : N ≤ 3000) (v u : Value) (p : Pl.Pth α) (w : World) (hs : RowAt (StpAt A) 2 w v p.steps) (hu : RowAt IntAt 1 w u p.links)
    (h5 : p.steps.length ≤ 5) (h6 : ∀ s ∈ p.steps, s.tests.length ≤ 6) (hok : ∀ s ∈ p.steps, ∀ t ∈ s.tests, Pl.isKind t.kind = true ∧ (Pl.kList t.kind = true → ok t.list ∧ t.list.length ≤ 5 ∧ (Pl.wL f t.list).le N)) :
    Calls Tryz.prog 15 #[.agg #[v, u]] w fun e w' => e = .returned (wtV (Pl.wP (Pl.wL f) p)) ∧ Below w.heap.size w w' := by
  obtain ⟨ax, cx, rfl⟩ := hs.form
  obtain ⟨al, cl, rfl⟩ := hu.form
  have HS : Hid (RowAt (StpAt A) 2 w (.slice ax p.steps.length cx) p.steps) := hs
  have HA : Hid (IsL A) := hA
  have HW : Hid (WeightsOf A f ok) := hw
  have HP : Hid (Pl.wP (Pl.wL f) p = Pl.wSum (p.steps.map (Pl.wS (Pl.wL f)))) := Pl.wP_steps _ _
  have HOK : Hid (∀ s ∈ p.steps, ∀ t ∈ s.tests, Pl.isKind t.kind = true ∧ (Pl.kList t.kind = true → ok t.list ∧ t.list.length ≤ 5 ∧ (Pl.wL f t.list).le N)) := hok
  have H6 : Hid (∀ s ∈ p.steps, s.tests.length ≤ 6) := h6
  have HTL : Hid (∀ s ∈ p.steps, ∀ j, (Pl.wSum ((s.tests.take j).map (Pl.wT (Pl.wL f)))).le (6 * N)) := fun s hs j => by
    have := Pl.wSum_le (l := (s.tests.take j).map (Pl.wT (Pl.wL f))) (n := N) (fun x hx => by
      obtain ⟨t, ht, rfl⟩ := List.mem_map.1 hx
      exact Pl.wT_le hN1 t fun hk => ((hok s hs t (List.mem_of_mem_take ht)).2 hk).2.2)
    have h7 := h6 s hs
    have h8 : ((s.tests.take j).map (Pl.wT (Pl.wL f))).length ≤ 6 := by simp; omega
    have h9 : ((s.tests.take j).map (Pl.wT (Pl.wL f))).length * N ≤ 6 * N := Nat.mul_le_mul_right N h8
    obtain ⟨a1, a2, a3⟩ := this
    exact ⟨by omega, by omega, by omega⟩
  have HSL : Hid (∀ k, (Pl.wSum ((p.steps.take k).map (Pl.wS (Pl.wL f)))).le (5 * (1 + 6 * N))) := fun k => by
    have := Pl.wSum_le (l := (p.steps.take k).map (Pl.wS (Pl.wL f))) (n := 1 + 6 * N) (fun x hx => by
      obtain ⟨s, hs, rfl⟩ := List.mem_map.1 hx
      have h7 := HTL.out s (List.mem_of_mem_take hs) s.tests.length
      rw [List.take_of_length_le (Nat.le_refl _)] at h7
      obtain ⟨a1, a2, a3⟩ := h7
      unfold Pl.wS Pl.wTag
      simp only [Pl.Wt.add, Pl.Wt.le]
      refine ⟨by omega, by omega, ?_⟩
      split <;> omega)
    have h8 : ((p.steps.take k).map (Pl.wS (Pl.wL f))).length ≤ 5 := by simp; omega
    have h9 : ((p.steps.take k).map (Pl.wS (Pl.wL f))).length * (1 + 6 * N) ≤ 5 * (1 + 6 * N) := Nat.mul_le_mul_right _ h8
    obtain ⟨a1, a2, a3⟩ := this
    exact ⟨by omega, by omega, by omega⟩
  have hbP := on_alloc w (.cells #[.slice ax p.steps.length cx, .slice al p.links.length cl] 38)
  obtain ⟨x0, x1⟩ := Blk2p.new w (.slice ax p.steps.length cx) (.slice al p.links.length cl)
  have hzP : (w.alloc (.cells #[.slice ax p.steps.length cx, .slice al p.links.length cl] 38)).heap.size = w.heap.size + 1 := by simp
  obtain ⟨P, hP⟩ : ∃ P, P = w.alloc (.cells #[.slice ax p.steps.length cx, .slice al p.links.length cl] 38) := ⟨_, rfl⟩
  rw [← hP] at hbP x0 x1 hzP
  have hbQ := on_alloc P (.cells #[.int .i64 0, .int .i64 0, .int .i64 0] 40)
  have bQ : Bx3 (P.alloc (.cells #[.int .i64 0, .int .i64 0, .int .i64 0] 40)) P.heap.size Pl.Wt.zero := Bx3.new P Pl.Wt.zero
  have hbR := on_alloc (P.alloc (.cells #[.int .i64 0, .int .i64 0, .int .i64 0] 40)) (.cells #[.int .i64 0, .int .i64 0, .int .i64 0] 40)
  have bR : Bx3 ((P.alloc (.cells #[.int .i64 0, .int .i64 0, .int .i64 0] 40)).alloc (.cells #[.int .i64 0, .int .i64 0, .int .i64 0] 40)) (P.alloc (.cells #[.int .i64 0, .int .i64 0, .int .i64 0] 40)).heap.size Pl.Wt.zero := Bx3.new _ Pl.Wt.zero
  replace bQ := bQ.on hbR
  simp only [World.size_alloc, hzP] at bQ bR
  have HB0 : Hid (WBox w _ _ _ Pl.Wt.zero) := ⟨cell_on (below_trans hbQ hbR) x0, cell_on (below_trans hbQ hbR) x1, bQ, bR, below_trans hbP (below_trans hbQ hbR)⟩
  subst hP
  clear hs hu hA hw hok h6 hbP hbQ hbR hzP bQ bR x0 x1
  go_enter Tryz.func15, Tryz.ntmps15
  go_wp2_with fail
  generalize ((w.alloc (.cells #[.slice ax p.steps.length cx, .slice al p.links.length cl] 38)).alloc (.cells #[.int .i64 0, .int .i64 0, .int .i64 0] 40)).alloc (.cells #[.int .i64 0, .int .i64 0, .int .i64 0] 40) = W1 at *
  go_loopw [4] (fun i wr => ∃ k : Nat, k ≤ p.steps.length ∧ i = .int .i64 k ∧ Hid (WBox w wr (.slice ax p.steps.length cx) (.slice al p.links.length cl) (Pl.wSum ((p.steps.take k).map (Pl.wS (Pl.wL f)))))) (fun i _ => p.steps.length - (intOf i).toNat)
  case atStart => exact ⟨0, Nat.zero_le _, rfl, HB0⟩
  case round =>
    obtain ⟨k, hk, rfl, HX⟩ := hrel
    clear HB0
    have y0 := HX.out.x0
    by_cases hlt : k < p.steps.length
    · obtain ⟨-, b2, o2, rfl, hc2⟩ := RowAt.at HS.out (by omega)
      obtain ⟨vt, m0, m1, rt⟩ := hc2 k hlt
      obtain ⟨at_, ct, rfl⟩ := rt.form
      have k1 : (0 : Int) ≤ (k : Int) := by omega
      have k2 : (k : Int) < (p.steps.length : Int) := by omega
      have HN : Hid (Pl.wSum ((p.steps.take (k + 1)).map (Pl.wS (Pl.wL f))) = (Pl.wSum ((p.steps.take k).map (Pl.wS (Pl.wL f)))).add (Pl.wS (Pl.wL f) p.steps[k])) := wsum_next _ hlt
      have hSL := HSL.out k
      have HOKS : Hid _ := HOK.out p.steps[k] (List.getElem_mem hlt)
      have h6S := H6.out p.steps[k] (List.getElem_mem hlt)
      have HTLS : Hid _ := HTL.out p.steps[k] (List.getElem_mem hlt)
      have HM : Hid (∀ W, Below w.heap.size w W → W.cell? ⟨b2, o2 + k * 2, none⟩ = some (.string ⟨p.steps[k].tag.toArray⟩) ∧ W.cell? ⟨b2, o2 + k * 2 + 1, none⟩ = some (.slice at_ p.steps[k].tests.length ct)) := fun W hW => ⟨cell_on hW m0, cell_on hW m1⟩
      have HRT : Hid (RowAt (TstAt A) 6 w (.slice at_ p.steps[k].tests.length ct) p.steps[k].tests) := rt
      obtain ⟨n0, n1⟩ := HM.out wr HX.out.b
      clear hc2 m0 m1 rt
      generalize p.steps[k] = st at *
      generalize Pl.wSum ((p.steps.take k).map (Pl.wS (Pl.wL f))) = S at *
      obtain ⟨s1, s2, s3⟩ := hSL
      obtain ⟨c0, c1, c2⟩ := HX.out.r.cells
      obtain ⟨f0, f1, f2⟩ := HX.out.r.frozen
      have ft := HRT.out.fit
      unfold maxLen at ft
      cases ht : st.tag.isEmpty
      case' true =>
        have HY : Hid (WBox w wr (.slice (some ⟨b2, o2, none⟩) p.steps.length cx) (.slice al p.links.length cl) (S.add (Pl.wTag st))) := by
          have e : S.add (Pl.wTag st) = S := by
            unfold Pl.wTag
            rw [ht]
            simp [Pl.Wt.add]
          rw [e]
          exact HX
        clear HX n1 c0 c1 c2 f0 f1 f2
        go_wp2_with fail
        obtain ⟨wz, hwz⟩ : ∃ q, q = wr := ⟨_, rfl⟩
        subst hwz
      case' false =>
        have HY : Hid (WBox w (wr.setCell ⟨w.heap.size + 1 + 1, 2, none⟩ (.int .i64 ((S.tags : Int) + 1))) (.slice (some ⟨b2, o2, none⟩) p.steps.length cx) (.slice al p.links.length cl) (S.add (Pl.wTag st))) := by
          have e : S.add (Pl.wTag st) = ⟨S.ids, S.tests, S.tags + 1⟩ := by
            unfold Pl.wTag
            rw [ht]
            simp [Pl.Wt.add]
          rw [e]
          exact HX.out.put 2 _ (HX.out.r.set2 (S.tags + 1))
        clear HX n1 c0 c1 f0 f1
        go_wp2_with fail
        generalize wr.setCell ⟨w.heap.size + 1 + 1, 2, none⟩ (.int .i64 ((S.tags : Int) + 1)) = wz at *
      all_goals
        have HTG : Hid ((Pl.wTag st).tags ≤ 1 ∧ (Pl.wTag st).ids = 0 ∧ (Pl.wTag st).tests = 0) := by
          unfold Hid Pl.wTag
          refine ⟨?_, rfl, rfl⟩
          dsimp only
          split <;> omega
        have HNS : Hid (Pl.wSum ((p.steps.take (k + 1)).map (Pl.wS (Pl.wL f))) = (S.add (Pl.wTag st)).add (Pl.wSum (st.tests.map (Pl.wT (Pl.wL f))))) := by
          unfold Hid
          rw [HN.out, Pl.Wt.add_assoc]
          rfl
        have HSG : Hid ((S.add (Pl.wTag st)).le (5 * (1 + 6 * N) + 1)) := by
          obtain ⟨t1, t2, t3⟩ := HTG.out
          simp only [Pl.Wt.add, Pl.Wt.le]
          exact ⟨by omega, by omega, by omega⟩
        generalize S.add (Pl.wTag st) = G at *
        clear HN HTG s1 s2 s3 ht
        go_loopw [5] (fun i wr => ∃ j : Nat, j ≤ st.tests.length ∧ i = .int .i64 j ∧ Hid (WBox w wr (.slice (some ⟨b2, o2, none⟩) p.steps.length cx) (.slice al p.links.length cl) (G.add (Pl.wSum ((st.tests.take j).map (Pl.wT (Pl.wL f))))))) (fun i _ => st.tests.length - (intOf i).toNat)
        case atStart => exact ⟨0, Nat.zero_le _, rfl, by rw [show G.add (Pl.wSum ((st.tests.take 0).map (Pl.wT (Pl.wL f)))) = G from Pl.Wt.add_zero G]; exact HY⟩
        case round =>
          obtain ⟨j, hj, rfl, HJ⟩ := hrel
          clear HY y0 n0
          have y0 := HJ.out.x0
          obtain ⟨n0, n1⟩ := HM.out wr HJ.out.b
          by_cases hlt2 : j < st.tests.length
          · obtain ⟨-, b3, o3, rfl, hc3⟩ := RowAt.at HRT.out (by omega)
            obtain ⟨vu, q0, q1, q2, q3, q4, q5, rl⟩ := hc3 j hlt2
            obtain ⟨au, cu, rfl, -⟩ := HA.out.form rl
            have j1 : (0 : Int) ≤ (j : Int) := by omega
            have j2 : (j : Int) < (st.tests.length : Int) := by omega
            have HNJ : Hid (Pl.wSum ((st.tests.take (j + 1)).map (Pl.wT (Pl.wL f))) = (Pl.wSum ((st.tests.take j).map (Pl.wT (Pl.wL f)))).add (Pl.wT (Pl.wL f) st.tests[j])) := wsum_next _ hlt2
            have hTJ := HTLS.out j
            obtain ⟨hkd, hokT⟩ := HOKS.out st.tests[j] (List.getElem_mem hlt2)
            have HOKT : Hid _ := hokT
            have HRL : Hid (A w (.slice au st.tests[j].list.length cu) st.tests[j].list) := rl
            replace q0 := cell_on HJ.out.b q0
            replace q1 := cell_on HJ.out.b q1
            replace q2 := cell_on HJ.out.b q2
            replace q3 := cell_on HJ.out.b q3
            replace q4 := cell_on HJ.out.b q4
            replace q5 := cell_on HJ.out.b q5
            clear hc3 rl hokT
            generalize st.tests[j] = t at *
            have HGS : Hid ((G.add (Pl.wSum ((st.tests.take j).map (Pl.wT (Pl.wL f))))).le (5 * (1 + 6 * N) + 1 + 6 * N)) := by
              obtain ⟨a1, a2, a3⟩ := hTJ
              obtain ⟨b1, b2, b3⟩ := HSG.out
              simp only [Pl.Wt.add, Pl.Wt.le]
              exact ⟨by omega, by omega, by omega⟩
            have HNG : Hid (G.add (Pl.wSum ((st.tests.take (j + 1)).map (Pl.wT (Pl.wL f)))) = (G.add (Pl.wSum ((st.tests.take j).map (Pl.wT (Pl.wL f))))).add (Pl.wT (Pl.wL f) t)) := by
              unfold Hid
              rw [HNJ.out, Pl.Wt.add_assoc]
            generalize G.add (Pl.wSum ((st.tests.take j).map (Pl.wT (Pl.wL f)))) = U at *
            clear hTJ HNJ
            have hba := on_alloc wr (.cells #[.int .i64 t.kind, .string ⟨t.name.toArray⟩, .string ⟨t.value.toArray⟩, .int .i64 t.a, .int .i64 t.b, .slice au t.list.length cu] 61)
            have HJa : Hid (WBox w (wr.alloc (.cells #[.int .i64 t.kind, .string ⟨t.name.toArray⟩, .string ⟨t.value.toArray⟩, .int .i64 t.a, .int .i64 t.b, .slice au t.list.length cu] 61)) (.slice (some ⟨b2, o2, none⟩) p.steps.length cx) (.slice al p.links.length cl) U) := HJ.out.on hba
            obtain ⟨r0, r5⟩ := Blk6p.new wr (.int .i64 t.kind) (.string ⟨t.name.toArray⟩) (.string ⟨t.value.toArray⟩) (.int .i64 t.a) (.int .i64 t.b) (.slice au t.list.length cu)
            have hszr : w.heap.size + 1 + 1 < wr.heap.size := HJ.out.r.lt
            obtain ⟨g1, g2, g3⟩ := HGS.out
            obtain ⟨c0, c1, c2⟩ := HJ.out.r.cells
            obtain ⟨f0, f1, f2⟩ := HJ.out.r.frozen
            clear hba
            cases hk2 : (t.kind == 2) with
            | true =>
              have HWT : Hid (Pl.wT (Pl.wL f) t = ⟨1, 0, 0⟩) := wT_id hk2
              have HZ : Hid (WBox w ((wr.setCell ⟨w.heap.size + 1 + 1, 0, none⟩ (.int .i64 ((U.ids : Int) + 1))).alloc (.cells #[.int .i64 t.kind, .string ⟨t.name.toArray⟩, .string ⟨t.value.toArray⟩, .int .i64 t.a, .int .i64 t.b, .slice au t.list.length cu] 61)) (.slice (some ⟨b2, o2, none⟩) p.steps.length cx) (.slice al p.links.length cl) (G.add (Pl.wSum ((st.tests.take (j + 1)).map (Pl.wT (Pl.wL f)))))) := by
                rw [HNG.out, HWT.out]
                exact (HJ.out.put 0 _ (HJ.out.r.set0 (U.ids + 1))).on (on_alloc _ _)
              clear HJa HJ HRL r5
              go_wp2
              exact ⟨⟨j + 1, hlt2, by go_num, HZ⟩, by simp [intOf]; omega⟩
            | false =>
              by_cases h13 : t.kind < 13
              · have HWT : Hid (Pl.wT (Pl.wL f) t = ⟨0, 1, 0⟩) := wT_one hk2 (kList_not h13)
                have HZ : Hid (WBox w ((wr.setCell ⟨w.heap.size + 1 + 1, 1, none⟩ (.int .i64 ((U.tests : Int) + 1))).alloc (.cells #[.int .i64 t.kind, .string ⟨t.name.toArray⟩, .string ⟨t.value.toArray⟩, .int .i64 t.a, .int .i64 t.b, .slice au t.list.length cu] 61)) (.slice (some ⟨b2, o2, none⟩) p.steps.length cx) (.slice al p.links.length cl) (G.add (Pl.wSum ((st.tests.take (j + 1)).map (Pl.wT (Pl.wL f)))))) := by
                  rw [HNG.out, HWT.out]
                  exact (HJ.out.put 1 _ (HJ.out.r.set1 (U.tests + 1))).on (on_alloc _ _)
                clear HJa HJ HRL r5
                go_wp2
                exact ⟨⟨j + 1, hlt2, by go_num, HZ⟩, by simp [intOf]; omega⟩
              · have hkl := kList_of hkd h13
                have HWT : Hid (Pl.wT (Pl.wL f) t = Pl.wL f t.list) := wT_list hk2 hkl
                obtain ⟨hok1, hok2, hok3⟩ := HOKT.out hkl
                have HO1 : Hid (ok t.list) := hok1
                have hbb := on_alloc (wr.alloc (.cells #[.int .i64 t.kind, .string ⟨t.name.toArray⟩, .string ⟨t.value.toArray⟩, .int .i64 t.a, .int .i64 t.b, .slice au t.list.length cu] 61)) (.cells #[.int .i64 0, .int .i64 0, .int .i64 0] 40)
                have HJb : Hid (WBox w ((wr.alloc (.cells #[.int .i64 t.kind, .string ⟨t.name.toArray⟩, .string ⟨t.value.toArray⟩, .int .i64 t.a, .int .i64 t.b, .slice au t.list.length cu] 61)).alloc (.cells #[.int .i64 0, .int .i64 0, .int .i64 0] 40)) (.slice (some ⟨b2, o2, none⟩) p.steps.length cx) (.slice al p.links.length cl) U) := HJa.out.on hbb
                have bB : Bx3 ((wr.alloc (.cells #[.int .i64 t.kind, .string ⟨t.name.toArray⟩, .string ⟨t.value.toArray⟩, .int .i64 t.a, .int .i64 t.b, .slice au t.list.length cu] 61)).alloc (.cells #[.int .i64 0, .int .i64 0, .int .i64 0] 40)) (wr.heap.size + 1) Pl.Wt.zero := by
                  have := Bx3.new (wr.alloc (.cells #[.int .i64 t.kind, .string ⟨t.name.toArray⟩, .string ⟨t.value.toArray⟩, .int .i64 t.a, .int .i64 t.b, .slice au t.list.length cu] 61)) Pl.Wt.zero
                  simp only [World.size_alloc] at this
                  exact this
                have HBB : Hid (Bx3 _ _ _) := bB
                have z5 := cell_on hbb r5
                clear hbb bB HJa HJ hok1 c0 c1 c2 f0 f1 f2
                obtain ⟨wq, hwq⟩ : ∃ q, q = wr := ⟨_, rfl⟩
                subst hwq
                go_wp2_with fail
                generalize (wq.alloc (.cells #[.int .i64 t.kind, .string ⟨t.name.toArray⟩, .string ⟨t.value.toArray⟩, .int .i64 t.a, .int .i64 t.b, .slice au t.list.length cu] 61)).alloc (.cells #[.int .i64 0, .int .i64 0, .int .i64 0] 40) = W2 at *
                clear q0 q1 q2 q3 q4 q5 r0 r5
                go_loopw [8] (fun i wr => ∃ m : Nat, m ≤ t.list.length ∧ i = .int .i64 m ∧ Hid (WBox w wr (.slice (some ⟨b2, o2, none⟩) p.steps.length cx) (.slice al p.links.length cl) U) ∧ Hid (Bx3 wr (wq.heap.size + 1) (Pl.wL f (t.list.take m))) ∧ Hid (wr.cell? ⟨wq.heap.size, 5, none⟩ = some (.slice au t.list.length cu))) (fun i _ => t.list.length - (intOf i).toNat)
                case atStart => exact ⟨0, Nat.zero_le _, rfl, HJb, HBB, z5⟩
                case round =>
                  obtain ⟨m, hm, rfl, HJm, HBm, HZm⟩ := hrel
                  have z6 := HZm.out
                  clear z5 HBB HJb
                  by_cases hlt3 : m < t.list.length
                  · obtain ⟨b4, o4, av, nv, cv, aw, nw, cw, rfl, d0, d1, hcon⟩ := HW.out wr _ _ _ _ m (HA.out.on HRL.out HJm.out.b) HO1.out hlt3
                    have HCON : Hid (Calls Tryz.prog 15 _ _ _) := hcon
                    have m1 : (0 : Int) ≤ (m : Int) := by omega
                    have m2 : (m : Int) < (t.list.length : Int) := by omega
                    have HNM : Hid (Pl.wL f (t.list.take (m + 1)) = Pl.more (Pl.wL f (t.list.take m)) (f t.list[m])) := wL_next f hlt3
                    generalize f t.list[m] = T at *
                    generalize Pl.wL f (t.list.take m) = M at *
                    clear hcon
                    go_wp2_with fail
                    refine HCON.out.mono ?_
                    rintro e w5 ⟨rfl, hb5⟩
                    have hb6 := on_alloc w5 (.cells #[.int .i64 T.ids, .int .i64 T.tests, .int .i64 T.tags] 40)
                    have bT := Bx3.new w5 T
                    have HT6 : Hid (Bx3 _ w5.heap.size T) := bT
                    have HJ6 : Hid (WBox w _ (.slice (some ⟨b2, o2, none⟩) p.steps.length cx) (.slice al p.links.length cl) U) := (HJm.out.on hb5).on hb6
                    have HB6 : Hid (Bx3 _ (wq.heap.size + 1) M) := (HBm.out.on hb5).on hb6
                    have HZ6 : Hid (_ = _) := cell_on hb6 (cell_on hb5 z6)
                    obtain ⟨t0, t1, t2⟩ := bT.cells
                    obtain ⟨c0, c1, c2⟩ := HB6.out.cells
                    clear hb5 hb6 bT HJm HBm HZm z6 d0 d1 HCON
                    go_wp2_with fail
                    generalize w5.alloc (.cells #[.int .i64 T.ids, .int .i64 T.tests, .int .i64 T.tags] 40) = w6 at *
                    obtain ⟨bl, hbl⟩ : ∃ y, M.less T = y := ⟨_, rfl⟩
                    have hcon := heavier_v T M w6
                    rw [hbl] at hcon
                    refine hcon.mono ?_
                    rintro e w7 ⟨rfl, hb7⟩
                    have HT7 : Hid (Bx3 w7 w5.heap.size T) := HT6.out.on hb7
                    have HJ7 : Hid (WBox w w7 (.slice (some ⟨b2, o2, none⟩) p.steps.length cx) (.slice al p.links.length cl) U) := HJ6.out.on hb7
                    have HB7 : Hid (Bx3 w7 (wq.heap.size + 1) M) := HB6.out.on hb7
                    have HZ7 : Hid (w7.cell? ⟨wq.heap.size, 5, none⟩ = _) := cell_on hb7 HZ6.out
                    clear hb7 hcon t0 t1 t2 c0 c1 c2 HT6 HJ6 HB6 HZ6
                    cases bl with
                    | false =>
                      have HM : Hid (Pl.wL f (t.list.take (m + 1)) = M) := by
                        unfold Hid
                        rw [HNM.out, Pl.more, hbl]
                        rfl
                      go_wp2
                      exact ⟨⟨m + 1, hlt3, by go_num, HJ7, by rw [HM.out]; exact HB7, HZ7⟩, by simp [intOf]; omega⟩
                    | true =>
                      have HM : Hid (Pl.wL f (t.list.take (m + 1)) = T) := by
                        unfold Hid
                        rw [HNM.out, Pl.more, hbl]
                        rfl
                      obtain ⟨t0, t1, t2⟩ := HT7.out.cells
                      obtain ⟨c0, c1, c2⟩ := HB7.out.cells
                      obtain ⟨f0, f1, f2⟩ := HB7.out.frozen
                      have HB8 : Hid (Bx3 _ (wq.heap.size + 1) T) := HB7.out.set T
                      have HJ8 : Hid (WBox w _ (.slice (some ⟨b2, o2, none⟩) p.steps.length cx) (.slice al p.links.length cl) U) := HJ7.out.away (B := wq.heap.size + 1) (by omega) T
                      have HZ8 : Hid (World.cell? _ ⟨wq.heap.size, 5, none⟩ = _) := cell_apart (u := .int .i64 T.tags) (k := 2) (cell_apart (u := .int .i64 T.tests) (k := 1) (cell_apart (u := .int .i64 T.ids) (k := 0) HZ7.out (B' := wq.heap.size + 1) (by omega)) (B' := wq.heap.size + 1) (by omega)) (B' := wq.heap.size + 1) (by omega)
                      clear HJ7 HZ7
                      go_wp2
                      exact ⟨⟨m + 1, hlt3, by go_num, HJ8, by rw [HM.out]; exact HB8, HZ8⟩, by simp [intOf]; omega⟩
                  · have HBe : Hid (Bx3 wr (wq.heap.size + 1) (Pl.wL f t.list)) := by
                      have := HBm.out
                      rw [List.take_of_length_le (by omega)] at this
                      exact this
                    have HZ : Hid (WBox w (((wr.setCell ⟨w.heap.size + 1 + 1, 0, none⟩ (.int .i64 ((U.ids : Int) + (Pl.wL f t.list).ids))).setCell ⟨w.heap.size + 1 + 1, 1, none⟩ (.int .i64 ((U.tests : Int) + (Pl.wL f t.list).tests))).setCell ⟨w.heap.size + 1 + 1, 2, none⟩ (.int .i64 ((U.tags : Int) + (Pl.wL f t.list).tags))) (.slice (some ⟨b2, o2, none⟩) p.steps.length cx) (.slice al p.links.length cl) (G.add (Pl.wSum ((st.tests.take (j + 1)).map (Pl.wT (Pl.wL f)))))) := by
                      rw [HNG.out, HWT.out]
                      exact HJm.out.putAll (U.add (Pl.wL f t.list))
                    obtain ⟨l1, l2, l3⟩ := hok3
                    generalize Pl.wL f t.list = B at *
                    obtain ⟨c0, c1, c2⟩ := HJm.out.r.cells
                    obtain ⟨f0, f1, f2⟩ := HJm.out.r.frozen
                    obtain ⟨e0, e1, e2⟩ := HBe.out.cells
                    clear HBm HJm
                    go_wp2
                    exact ⟨⟨j + 1, hlt2, by go_num, HZ⟩, by simp [intOf]; omega⟩
          · have HZ : Hid (WBox w wr (.slice (some ⟨b2, o2, none⟩) p.steps.length cx) (.slice al p.links.length cl) (Pl.wSum ((p.steps.take (k + 1)).map (Pl.wS (Pl.wL f))))) := by
              have := HJ.out
              rw [List.take_of_length_le (by omega), ← HNS.out] at this
              exact this
            go_wp2
            exact ⟨⟨k + 1, hlt, by go_num, HZ⟩, by simp [intOf]; omega⟩
    · have HE : Hid (WBox w wr (.slice ax p.steps.length cx) (.slice al p.links.length cl) (Pl.wP (Pl.wL f) p)) := by
        have := HX.out
        rw [List.take_of_length_le (by omega), ← HP.out] at this
        exact this
      obtain ⟨T, hT⟩ : ∃ T, T = Pl.wP (Pl.wL f) p := ⟨_, rfl⟩
      rw [← hT] at HE
      have HT : Hid (T = Pl.wP (Pl.wL f) p) := hT
      clear hT HX
      obtain ⟨r0, r1, r2⟩ := HE.out.r.cells
      obtain ⟨q0, q1, q2⟩ := HE.out.q.cells
      obtain ⟨f0, f1, f2⟩ := HE.out.q.frozen
      have HC : Hid (Bx3 _ _ T) := HE.out.q.set T
      have HB : Hid (Below w.heap.size w wr) := HE.out.b
      have hle : w.heap.size ≤ w.heap.size + 1 := by omega
      clear HE
      go_wp2
      exact bodyPost_ret (v := wtV T) (results_w rfl _ _ (w.heap.size + 1) T rfl HC.out) rfl ⟨by rw [HT.out], ((HB.out.setCell (p := ⟨w.heap.size + 1, 0, none⟩) hle _).setCell (p := ⟨w.heap.size + 1, 1, none⟩) hle _).setCell (p := ⟨w.heap.size + 1, 2, none⟩) hle _⟩
end Go.Proofs.YtbfkopjpfkgjhaaGreatDoor
