/-
  Weights at the three levels; path.Weigh.
-/
import Derived.Test.YtbfkopjpfkgjhaaGreatDoorWgE
import Derived.Test.YtbfkopjpfkgjhaaGreatDoorChQ
namespace Go.Proofs.YtbfkopjpfkgjhaaGreatDoor
open Go.RowKit

/-- paths that may be weighed -/
def okP {α : Type} (ok : List α → Prop) (p : Pl.Pth α) : Prop := p.steps.length ≤ 5 ∧ (∀ s ∈ p.steps, s.tests.length ≤ 6) ∧ ∀ s ∈ p.steps, ∀ t ∈ s.tests, Pl.isKind t.kind = true ∧ (Pl.kList t.kind = true → ok t.list)
def okL {α : Type} (ok : List α → Prop) (l : List (Pl.Pth α)) : Prop := l.length ≤ 5 ∧ ∀ p ∈ l, okP ok p
def ok0 : List Unit → Prop := fun _ => False
def ok1 : List Pl.D1 → Prop := okL ok0
def ok2 : List Pl.D2 → Prop := okL ok1
def ok3 : List Pl.D3 → Prop := okL ok2
theorem okL_of {α : Type} {f k : List α → Bool} {ok : List α → Prop} (h : ∀ m, f m = true → k m = true → ok m) {l : List (Pl.Pth α)} (hf : Pl.fitUp f l = true) (hk : Pl.evUp Pl.pKinds k l = true) : okL ok l := by
  unfold Pl.fitUp at hf
  unfold Pl.evUp at hk
  rw [Bool.and_eq_true, decide_eq_true_eq, List.all_eq_true] at hf
  rw [List.all_eq_true] at hk
  refine ⟨hf.1.2, fun p hp => ?_⟩
  have h1 := hf.2 p hp
  have h2 := hk p hp
  rw [Bool.and_eq_true] at h1 h2
  obtain ⟨h1, h3⟩ := h1
  obtain ⟨h2, h4⟩ := h2
  unfold Pl.pFits at h1
  unfold Pl.pKinds at h2
  unfold Pl.inner at h3 h4
  rw [Bool.and_eq_true, decide_eq_true_eq, List.all_eq_true] at h1
  rw [Bool.and_eq_true, List.all_eq_true, List.all_eq_true] at h2
  rw [List.all_eq_true] at h3 h4
  refine ⟨h1.1.2.1, fun s hs => by simpa using h1.2 s hs, fun s hs t ht => ?_⟩
  have hm : t ∈ p.tests := List.mem_flatMap.2 ⟨s, hs, ht⟩
  refine ⟨h2.2 t hm, fun hk => ?_⟩
  have h5 := h3 t hm
  have h6 := h4 t hm
  rw [hk] at h5 h6
  exact h t.list h5 h6
theorem ok3_of {l : List Pl.D3} (hf : Pl.fit3 l = true) (hk : Pl.kind3 l = true) : ok3 l :=
  okL_of (fun _ a b => okL_of (fun _ a b => okL_of (fun _ a _ => by cases a) a b) a b) hf hk
theorem pick4_zero {a b c d : Bool} (h : Pl.pick4 a b c d = 0) : a = true ∧ b = true ∧ c = true ∧ d = true := by
  cases a <;> cases b <;> cases c <;> cases d <;> simp [Pl.pick4] at h ⊢
theorem ok3_chk {l : List Pl.D3} (h : chkList l = 0) : ok3 l := by
  obtain ⟨h1, h2, _⟩ := pick4_zero h
  exact ok3_of h1 h2
/-- the weights of the levels -/
def f0 : Unit → Pl.Wt := fun _ => Pl.Wt.zero
def f1 : Pl.D1 → Pl.Wt := Pl.wP (Pl.wL f0)
def f2 : Pl.D2 → Pl.Wt := Pl.wP (Pl.wL f1)
def f3 : Pl.D3 → Pl.Wt := Pl.wP (Pl.wL f2)
theorem okP_tests {α : Type} {ok : List α → Prop} {p : Pl.Pth α} (h : okP ok p) : p.tests.length ≤ 30 ∧ ∀ t ∈ p.tests, Pl.isKind t.kind = true ∧ (Pl.kList t.kind = true → ok t.list) :=
  ⟨Pl.tests_len h.2.1 h.1, fun t ht => by
    obtain ⟨s, hs, hts⟩ := mem_tests ht
    exact h.2.2 s hs t hts⟩
theorem wP_ok {α : Type} {ok : List α → Prop} {g : List α → Pl.Wt} {n : Nat} (h1 : 1 ≤ n) (hg : ∀ l, ok l → (g l).le n) {p : Pl.Pth α} (h : okP ok p) : (Pl.wP g p).le (5 + 30 * n) :=
  Pl.wP_le h1 (okP_tests h).1 h.1 fun t ht hk => hg _ (((okP_tests h).2 t ht).2 hk)
theorem wL_ok {α : Type} {ok : List α → Prop} {g : List α → Pl.Wt} {n : Nat} (h1 : 1 ≤ n) (hg : ∀ l, ok l → (g l).le n) (l : List (Pl.Pth α)) (h : okL ok l) : (Pl.wL (Pl.wP g) l).le (5 + 30 * n) :=
  Pl.wL_le fun p hp => wP_ok h1 hg (h.2 p hp)
theorem le_0 (l : List Unit) (h : ok0 l) : (Pl.wL f0 l).le 1 := h.elim
theorem le_1 (l : List Pl.D1) (h : ok1 l) : (Pl.wL f1 l).le 35 := wL_ok (n := 1) (by omega) le_0 l h
theorem le_2 (l : List Pl.D2) (h : ok2 l) : (Pl.wL f2 l).le 1055 := wL_ok (n := 35) (by omega) le_1 l h
/-- from a level to the next -/
theorem weighs_up {α : Type} {A : MemL α} (hA : IsL A) {g : List α → Pl.Wt} {ok : List α → Prop} (hg : Greatest A g ok) {n : Nat} (h1 : 1 ≤ n) (h2 : n ≤ 3000) (hn : ∀ l, ok l → (g l).le n) : Weighs A (Pl.wP g) (okP ok) := fun w v u p hs hu hF hok =>
  weigh_any hA hg n h1 h2 v u p w hs hu hF hok.1 (okP_tests hok).1 fun t ht hk => ⟨((okP_tests hok).2 t ht).2 hk, hn _ (((okP_tests hok).2 t ht).2 hk)⟩
theorem greatest_of {α : Type} {A : MemL α} (hA : IsL A) {f : Pl.Pth α → Pl.Wt} {ok : List α → Prop} (hw : Weighs A f (okP ok)) : Greatest (LstAt A) (Pl.wL f) (okL ok) := fun w v l h hF hok => greatest_up hA hw w v l h hF hok.2
theorem weighs_1 : Weighs ZAt f1 (okP ok0) := weighs_up isL_z (g := Pl.wL f0) (ok := ok0) (fun _ _ _ _ _ h => h.elim) (n := 1) (by omega) (by omega) le_0
theorem weighs_2 : Weighs A1 f2 (okP ok1) := weighs_up isL_1 (greatest_of isL_z weighs_1) (n := 35) (by omega) (by omega) le_1
theorem weighs_3 : Weighs A2 f3 (okP ok2) := weighs_up isL_2 (greatest_of isL_1 weighs_2) (n := 1055) (by omega) (by omega) le_2
/-- the document's own -/
def WeightOf {α : Type} (A : MemL α) (f : Pl.Pth α → Pl.Wt) (ok : Pl.Pth α → Prop) : Prop := ∀ w v u p, RowAt (StpAt A) 2 w v p.steps → RowAt IntAt 1 w u p.links → ok p → Calls Tryz.prog 15 #[.agg #[v, u]] w fun e w' => e = .returned (wtV (f p)) ∧ Below w.heap.size w w'
theorem weightOf_up {α : Type} {A : MemL α} (hA : IsL A) {f : α → Pl.Wt} {ok : List α → Prop} (hw : WeightsOf A f ok) (hlen : ∀ l, ok l → l.length ≤ 5) {n : Nat} (h1 : 1 ≤ n) (h2 : n ≤ 3000) (hn : ∀ l, ok l → (Pl.wL f l).le n) : WeightOf A (Pl.wP (Pl.wL f)) (okP ok) := fun w v u p hs hu hok =>
  weightOf_any hA hw n h1 h2 v u p w hs hu hok.1 hok.2.1 fun s hs t ht => ⟨(hok.2.2 s hs t ht).1, fun hk => ⟨(hok.2.2 s hs t ht).2 hk, hlen _ ((hok.2.2 s hs t ht).2 hk), hn _ ((hok.2.2 s hs t ht).2 hk)⟩⟩
theorem weightsOf_of {α : Type} {A : MemL α} {f : Pl.Pth α → Pl.Wt} {ok : List α → Prop} (hw : WeightOf A f (okP ok)) : WeightsOf (LstAt A) f (okL ok) := by
  intro w a n c l i h hok hi
  obtain ⟨rfl, b, o, rfl, hc⟩ := RowAt.at h (by omega)
  obtain ⟨v, u, c0, c1, rs, rl⟩ := hc i hi
  have hcall := hw w v u _ rs rl (hok.2 _ (List.getElem_mem hi))
  obtain ⟨av, cv, rfl⟩ := rs.form
  obtain ⟨au, cu, rfl⟩ := rl.form
  exact ⟨b, o, av, _, cv, au, _, cu, rfl, c0, c1, hcall⟩
theorem weightOf_1 : WeightOf ZAt f1 (okP ok0) := weightOf_up isL_z (f := f0) (ok := ok0) (fun _ _ _ _ _ _ _ h => h.elim) (fun _ h => h.elim) (n := 1) (by omega) (by omega) le_0
theorem weightOf_2 : WeightOf A1 f2 (okP ok1) := weightOf_up isL_1 (weightsOf_of weightOf_1) (fun _ h => h.1) (n := 35) (by omega) (by omega) le_1
theorem weightOf_3 : WeightOf A2 f3 (okP ok2) := weightOf_up isL_2 (weightsOf_of weightOf_2) (fun _ h => h.1) (n := 1055) (by omega) (by omega) le_2
/-- a list of one path, made -/
theorem one_new {α : Type} {A : MemL α} (hA : IsL A) (w : World) (v u : Value) (p : Pl.Pth α) (hs : RowAt (StpAt A) 2 w v p.steps) (hu : RowAt IntAt 1 w u p.links) : LstAt A (w.alloc (.cells #[v, u] 38)) (.slice (some ⟨w.heap.size, 0, none⟩) 1 1) [p] := by
  have hb := on_alloc w (.cells #[v, u] 38)
  obtain ⟨x0, x1⟩ := Blk2p.new w v u
  refine ⟨_, _, rfl, by unfold maxLen; simp, Or.inr ⟨_, _, rfl, fun i hi => ?_⟩⟩
  have : i = 0 := by simp at hi; exact hi
  subst this
  exact ⟨v, u, x0, x1, hs.map fun b o x hx => hx.on hA hb, hu.map fun b o x hx => cell_on hb hx⟩
/-- what Weigh tells -/
def weighOf (p : Pl.D3) : Pl.Wt := if chkList [p] = 0 then f3 p else Pl.Wt.zero
theorem results_w2 {fn : Func} {p q : Tmp} (h : fn.results = #[.cell p 40, .tmp q]) (tmps : Array Value) (W : World) (B : Nat) (y : Pl.Wt) (hp : tmps[p]?.getD undef = .pointer (some ⟨B, 0, none⟩)) (hb : Bx3 W B y) (x : Value) (hx : tmps[q]?.getD undef = x) : (results fn tmps).run Tryz.prog W = .ok (.tuple #[wtV y, x]) W := by
  subst hx
  obtain ⟨h0, h1, h2⟩ := hb.cells
  simp [results, h, hp, go_sem, h0, h1, h2, wtV]
set_option maxRecDepth 100000 in
set_option maxHeartbeats 2000000 in
theorem weighCall_any (v u : Value) (p : Pl.D3) (w : World) (hs : RowAt (StpAt A2) 2 w v p.steps) (hu : RowAt IntAt 1 w u p.links) (hF : FormsAt w) :
    Calls Tryz.prog 14 #[.agg #[v, u]] w fun e w' => e = .returned (.tuple #[wtV (weighOf p), .int .i64 (chkList [p])]) ∧ Below w.heap.size w w' := by
  obtain ⟨ax, cx, rfl⟩ := hs.form
  obtain ⟨al, cl, rfl⟩ := hu.form
  have hb1 := on_alloc w (.cells #[.slice ax p.steps.length cx, .slice al p.links.length cl] 38)
  have hb2 := on_alloc (w.alloc (.cells #[.slice ax p.steps.length cx, .slice al p.links.length cl] 38)) (.cells #[.int .i64 0, .int .i64 0, .int .i64 0] 40)
  have bQ : Bx3 ((w.alloc (.cells #[.slice ax p.steps.length cx, .slice al p.links.length cl] 38)).alloc (.cells #[.int .i64 0, .int .i64 0, .int .i64 0] 40)) (w.heap.size + 1) Pl.Wt.zero := by
    have := Bx3.new (w.alloc (.cells #[.slice ax p.steps.length cx, .slice al p.links.length cl] 38)) Pl.Wt.zero
    simp only [World.size_alloc] at this
    exact this
  obtain ⟨x0, x1⟩ := Blk2p.new w (.slice ax p.steps.length cx) (.slice al p.links.length cl)
  replace x0 := cell_on hb2 x0
  replace x1 := cell_on hb2 x1
  have hz1 : ((w.alloc (.cells #[.slice ax p.steps.length cx, .slice al p.links.length cl] 38)).alloc (.cells #[.int .i64 0, .int .i64 0, .int .i64 0] 40)).heap.size = w.heap.size + 1 + 1 := by simp
  have HZ1 : Hid (_ = _) := hz1
  have HBQ : Hid (Bx3 _ _ _) := bQ
  have HB : Hid (Below w.heap.size w _) := below_trans hb1 hb2
  have HS : Hid (RowAt (StpAt A2) 2 w (.slice ax p.steps.length cx) p.steps) := hs
  have HU : Hid (RowAt IntAt 1 w (.slice al p.links.length cl) p.links) := hu
  have HF : Hid (FormsAt w) := hF
  clear hb1 hb2 bQ hs hu hF hz1
  go_enter Tryz.func14, Tryz.ntmps14
  go_wp2_with fail
  generalize (w.alloc (.cells #[.slice ax p.steps.length cx, .slice al p.links.length cl] 38)).alloc (.cells #[.int .i64 0, .int .i64 0, .int .i64 0] 40) = W1 at *
  have hcon := pathCheck_any _ _ [p] (one_new isL_2 W1 _ _ p (HS.out.map fun b o x hx => hx.on isL_2 HB.out) (HU.out.map fun b o x hx => cell_on HB.out hx)) ((HF.out.on HB.out).on (on_alloc _ _))
  obtain ⟨E, hE⟩ : ∃ E, E = chkList [p] := ⟨_, rfl⟩
  rw [← hE, HZ1.out] at hcon
  refine hcon.mono ?_
  rintro e w2 ⟨rfl, hb2⟩
  have hbb : Below W1.heap.size W1 w2 := below_trans (on_alloc _ _) hb2
  have HB2 : Hid (Below w.heap.size w w2) := below_trans HB.out hbb
  have HQ2 : Hid (Bx3 w2 (w.heap.size + 1) Pl.Wt.zero) := HBQ.out.on hbb
  replace x0 := cell_on hbb x0
  replace x1 := cell_on hbb x1
  have HE : Hid (E = chkList [p]) := hE
  obtain ⟨q0, q1, q2⟩ := HQ2.out.cells
  obtain ⟨g0, g1, g2⟩ := HQ2.out.frozen
  have hle : w.heap.size ≤ w.heap.size + 1 := by omega
  clear hcon hb2 hbb HBQ HB hE
  cases hz : (E != 0) with
  | true =>
    have HW : Hid (weighOf p = Pl.Wt.zero) := by
      unfold Hid weighOf
      rw [if_neg (by rw [← HE.out]; simpa using hz)]
    have HC : Hid (Bx3 _ _ Pl.Wt.zero) := HQ2.out.set Pl.Wt.zero
    go_wp2
    exact bodyPost_ret (v := .tuple #[wtV Pl.Wt.zero, .int .i64 E]) (results_w2 rfl _ _ (w.heap.size + 1) _ rfl HC.out _ rfl) rfl ⟨by rw [HW.out, HE.out], ((HB2.out.setCell (p := ⟨w.heap.size + 1, 0, none⟩) hle _).setCell (p := ⟨w.heap.size + 1, 1, none⟩) hle _).setCell (p := ⟨w.heap.size + 1, 2, none⟩) hle _⟩
  | false =>
    have hz0 : E = 0 := by simpa using hz
    have HW : Hid (weighOf p = f3 p) := by
      unfold Hid weighOf
      rw [if_pos (by rw [← HE.out]; exact hz0)]
    have hok : okP ok2 p := (ok3_chk (l := [p]) (by rw [← HE.out]; exact hz0)).2 p (by simp)
    have hcon := weighs_3 w2 _ _ p (HS.out.map fun b o x hx => hx.on isL_2 HB2.out) (HU.out.map fun b o x hx => cell_on HB2.out hx) (HF.out.on HB2.out) hok
    have HCON : Hid (Calls Tryz.prog 34 _ _ _) := hcon
    unfold wtV at HCON
    clear hcon hok hz0
    obtain ⟨T, hT⟩ : ∃ T, T = f3 p := ⟨_, rfl⟩
    rw [← hT] at HCON HW
    clear hT
    go_wp2_with fail
    refine HCON.out.mono ?_
    rintro e w3 ⟨rfl, hb3⟩
    have HB3 : Hid (Below w.heap.size w w3) := below_trans HB2.out hb3
    have HQ3 : Hid (Bx3 w3 (w.heap.size + 1) Pl.Wt.zero) := HQ2.out.on hb3
    clear hb3 q0 q1 q2 g0 g1 g2 HQ2
    obtain ⟨q0, q1, q2⟩ := HQ3.out.cells
    obtain ⟨g0, g1, g2⟩ := HQ3.out.frozen
    have HC : Hid (Bx3 _ _ T) := HQ3.out.set T
    have HZ : Hid (chkList [p] = 0) := HE.out.symm.trans (by simpa using hz)
    go_wp2
    exact bodyPost_ret (v := .tuple #[wtV T, .int .i64 0]) (results_w2 rfl _ _ (w.heap.size + 1) _ rfl HC.out _ rfl) rfl ⟨by rw [HW.out, HZ.out], ((HB3.out.setCell (p := ⟨w.heap.size + 1, 0, none⟩) hle _).setCell (p := ⟨w.heap.size + 1, 1, none⟩) hle _).setCell (p := ⟨w.heap.size + 1, 2, none⟩) hle _⟩
end Go.Proofs.YtbfkopjpfkgjhaaGreatDoor
