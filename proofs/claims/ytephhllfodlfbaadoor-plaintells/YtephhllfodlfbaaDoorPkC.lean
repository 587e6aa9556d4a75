/-
  path's hasCounts.
-/
import Derived.Test.YtephhllfodlfbaaDoorFrmA
namespace Go.Proofs.YtephhllfodlfbaaDoor
open Go.RowKit Go.Shelf

attribute [local go_sem] Oper.semAt_some

theorem keeps_of_below {W W' : World} (hb : Below W.heap.size W W') : KeepsOthers W W' := ⟨hb.size, fun k _ hk _ => (hb.block k (Array.getElem?_eq_some_iff.1 hk).1).trans hk⟩
theorem boxed_on {W W' : World} {B : Nat} {t : TypeId} {v : Value} (h : Boxed W B t v) (hb : Below W.heap.size W W') : Boxed W' B t v := (hb.block B h.lt).trans h
set_option maxHeartbeats 1000000 in
theorem inBounds_any (k : Int) (w : World) : Calls Tryd.prog 66 #[.int .i64 k] w fun e w' => e = .returned (.bool (within k (-1048576) 1048576)) ∧ w' = w := by
  by_cases h1 : -1048576 ≤ k
  · by_cases h2 : k ≤ 1048576
    · have HI : Hid (within k (-1048576) 1048576 = true) := by simp [Hid, within, h1, h2]
      go_enter Tryd.func66, Tryd.ntmps66
      go_wp2
      go_ret
      exact ⟨by rw [HI.out]; simp, rfl⟩
    · have HI : Hid (within k (-1048576) 1048576 = false) := by simp [Hid, within, h2]
      go_enter Tryd.func66, Tryd.ntmps66
      go_wp2
      go_ret
      exact ⟨by rw [HI.out]; simp, rfl⟩
  · have HI : Hid (within k (-1048576) 1048576 = false) := by simp [Hid, within, h1]
    go_enter Tryd.func66, Tryd.ntmps66
    go_wp2
    go_ret
    exact ⟨by rw [HI.out]; rfl, rfl⟩
set_option maxHeartbeats 1000000 in
theorem nthCheck_any (a b : Int) (w : World) : Calls Tryd.prog 51 #[.agg #[.int .i64 a, .int .i64 b]] w fun e w' => e = .returned (.int .i64 (nErr a b)) ∧ Below w.heap.size w w' := by
  have HBB : Hid (Below _ _ _) := on_alloc w (.cells #[.int .i64 a, .int .i64 b] 43)
  cases ha : within a (-1048576) 1048576 with
  | false =>
    have HN : Hid (nErr a b = 3) := nErr_no (by simp [nB, ha])
    go_enter Tryd.func51, Tryd.ntmps51
    go_wp2_with fail
    refine (inBounds_any _ _).mono ?_
    rintro e w1 ⟨rfl, rfl⟩
    rw [ha]
    go_wp2
    go_ret
    exact ⟨by rw [HN.out]; rfl, HBB.out⟩
  | true =>
    cases hb : within b (-1048576) 1048576 with
    | false =>
      have HN : Hid (nErr a b = 3) := nErr_no (by simp [nB, hb])
      go_enter Tryd.func51, Tryd.ntmps51
      go_wp2_with fail
      refine (inBounds_any _ _).mono ?_
      rintro e w1 ⟨rfl, rfl⟩
      rw [ha]
      go_wp2_with fail
      refine (inBounds_any _ _).mono ?_
      rintro e w1 ⟨rfl, rfl⟩
      rw [hb]
      go_wp2
      go_ret
      exact ⟨by rw [HN.out]; rfl, HBB.out⟩
    | true =>
      have HN : Hid (nErr a b = 0) := nErr_ok (by simp [nB, ha, hb])
      go_enter Tryd.func51, Tryd.ntmps51
      go_wp2_with fail
      refine (inBounds_any _ _).mono ?_
      rintro e w1 ⟨rfl, rfl⟩
      rw [ha]
      go_wp2_with fail
      refine (inBounds_any _ _).mono ?_
      rintro e w1 ⟨rfl, rfl⟩
      rw [hb]
      go_wp2
      go_ret
      exact ⟨by rw [HN.out]; rfl, HBB.out⟩
def cntT {α : Type} (t : Pl.Tst α) : Bool := !Pl.kNth t.kind || nB t.a t.b
set_option maxRecDepth 100000 in
set_option maxHeartbeats 4000000 in
theorem hasCounts_any {α : Type} {A : MemL α} (hA : IsL A) (v u : Value) (p : Pl.Pth α) (w : World) (hs : RowAt (StpAt A) 2 w v p.steps) (hu : RowAt IntAt 1 w u p.links) (hF : FormsAt w) (hk : ∀ t ∈ p.tests, Pl.isKind t.kind = true) :
    Calls Tryd.prog 29 #[.agg #[v, u]] w fun e w' => e = .returned (.bool (Pl.pCounts nB p)) ∧ Below w.heap.size w w' := by
  obtain ⟨ax, cx, rfl⟩ := hs.form
  obtain ⟨al, cl, rfl⟩ := hu.form
  have HS : Hid (RowAt (StpAt A) 2 w (.slice ax p.steps.length cx) p.steps) := hs
  have HA : Hid (IsL A) := hA
  have HF : Hid (FormsAt w) := hF
  have HKN : Hid (∀ t ∈ p.tests, Pl.isKind t.kind = true) := hk
  have HPK : Hid (Pl.pCounts nB p = p.tests.all cntT) := rfl
  have hB0 : Below w.heap.size w ((w.alloc (.cells #[.slice ax p.steps.length cx, .slice al p.links.length cl] 38)).alloc (.cells #[.bool false] 4)) := ((Below.refl _ w).alloc (Nat.le_refl _) _).alloc (by simp) _
  have bR := Boxed.new (w.alloc (.cells #[.slice ax p.steps.length cx, .slice al p.links.length cl] 38)) 4 (.bool false)
  simp only [World.size_alloc] at bR
  have HBR : Hid (Boxed _ _ _ _) := bR
  have HB0 : Hid (Below _ _ _) := hB0
  clear hs hu hA hF hk bR hB0
  refine (callsIn_wide (n := 6)).1 ?_
  have h1 : 1 ≤ 6 := by omega
  refine callsIn_of_wp_marks Tryd.func29 rfl trivial ?_ rfl
  simp only [Tryd.ntmps29, List.size_toArray, List.length_cons, List.length_nil, Nat.reduceAdd, Nat.reduceSub, Array.replicate_succ, Array.replicate_zero, List.push_toArray, List.append_toArray, List.nil_append, List.cons_append]
  gi_wp2_with (refine ⟨trivial, ?_⟩; gi_at_call 45; refine (tests_in Fence.wide _ trivial rfl _ _ _).mono ?_; rintro e w' ⟨rfl, rfl⟩)
  have hszW : ((w.alloc (.cells #[.slice ax p.steps.length cx, .slice al p.links.length cl] 38)).alloc (.cells #[.bool false] 4)).heap.size = w.heap.size + 1 + 1 := by simp
  generalize (w.alloc (.cells #[.slice ax p.steps.length cx, .slice al p.links.length cl] 38)).alloc (.cells #[.bool false] 4) = wr at *
  have hB2 : Below w.heap.size w (wr.alloc (.cells #[.slice ax p.steps.length cx, .slice al p.links.length cl] 38)) := below_trans HB0.out (on_alloc _ _)
  have d0 := (Blk2p.new wr (.slice ax p.steps.length cx) (.slice al p.links.length cl)).1
  have bR2 := HBR.out.alloc (.cells #[.slice ax p.steps.length cx, .slice al p.links.length cl] 38)
  have hszR := HBR.out.lt
  have hsz2 : (wr.alloc (.cells #[.slice ax p.steps.length cx, .slice al p.links.length cl] 38)).heap.size = wr.heap.size + 1 := by simp
  have hsz0 := HB0.out.size
  rw [hszW] at d0
  generalize hW2 : wr.alloc (.cells #[.slice ax p.steps.length cx, .slice al p.links.length cl] 38) = W2 at *
  refine wpIn_rangeFunc_ownH rfl h1 (gf := 61) (lb := #[.pointer (some ⟨w.heap.size + 1 + 1, 0, none⟩)]) rfl trivial (enters_of Tryd.func61 (by kernel_rfl) rfl)
    (tests_stops Fence.wide (6 - 1) trivial rfl (by omega) HA.out (w.heap.size + 1 + 1) w p _ W2 hB2 (by omega) d0 HS.out) belowK_t (belowK_b (by omega)) (Below.refl _ _) (fun _ => rfl)
    (fun pre W => (((pre.map XT.tst).all cntT = true) ∧ Boxed W (w.heap.size + 1) 4 (.bool false)) ∧ Below w.heap.size w W)
    (fun c pre W => ((c = .ret ∧ (pre.map XT.tst).all cntT = false) ∧ Boxed W (w.heap.size + 1) 4 (.bool false)) ∧ Below w.heap.size w W)
    (OwnFrom.and (OwnFrom.and (ownFrom_pure _ _) (Own.from (boxed_own _ _ _) _)) (ownFrom_below (Nat.le_refl _) (by omega)))
    (fun c => OwnFrom.and (OwnFrom.and (ownFrom_pure _ _) (Own.from (boxed_own _ _ _) _)) (ownFrom_below (Nat.le_refl _) (by omega)))
    ⟨⟨by simp, bR2⟩, hB2⟩
    (fun x a' W => ∃ Bx, w.heap.size + 1 < Bx ∧ (W.cell? ⟨Bx, 0, none⟩ = some (.int .i64 x.1.2.kind) ∧ W.cell? ⟨Bx, 3, none⟩ = some (.int .i64 x.1.2.a) ∧ W.cell? ⟨Bx, 4, none⟩ = some (.int .i64 x.1.2.b)) ∧ a' = { tmps := #[.agg #[.slice ax p.steps.length cx, .slice al p.links.length cl], .pointer (some ⟨w.heap.size, 0, none⟩), .pointer (some ⟨w.heap.size + 1, 0, none⟩), .pointer (some ⟨Bx, 0, none⟩), .agg #[.slice ax p.steps.length cx, .slice al p.links.length cl], .func (.func 61) #[] #[.pointer (some ⟨w.heap.size + 1 + 1, 0, none⟩)], x.1.1, undef, undef, undef, undef, undef, undef, undef, undef, undef, undef, undef], defers := [] })
    (fun x a' _ X Y row hs hg hr => by obtain ⟨Bx, h1, ⟨h2, h4, h5⟩, h3⟩ := hs; exact ⟨Bx, h1, ⟨cell_kept h2 hg (fun r e => (hr r e).2), cell_kept h4 hg (fun r e => (hr r e).2), cell_kept h5 hg (fun r e => (hr r e).2)⟩, h3⟩)
    ?assign ?body ?done ?stop
  case assign =>
    rintro l pre x W K ⟨⟨hp, hbx⟩, hB⟩ hK
    obtain ⟨lv, hx, hal⟩ := x.2.1
    obtain ⟨au, cu, rfl, -⟩ := HA.out.form hal
    have HXX : Hid _ := hx
    dsimp only
    rw [hx]
    clear hx hal
    gi_wp2
    exact hK _ _ ((KeepsOthers.alloc _ _).from _) ((Below.refl _ W).alloc hB.size _) ⟨⟨hp, hbx.alloc _⟩, hB.alloc hB.size _⟩ ⟨W.heap.size, hbx.lt, ⟨(Blk6p.new W _ _ _ _ _ _).1, (Blk6r.new W _ _ _ _ _ _).1, (Blk6r.new W _ _ _ _ _ _).2⟩, by rw [HXX.out]⟩
  case body =>
    rintro l pre x a' W hl hr ⟨⟨hp, hbx⟩, hB⟩ ⟨Bx, hBx, ⟨hcx, hca, hcb⟩, rfl⟩ hlt
    have fR := hbx.frozen
    have cR := hbx.cell
    have hkk := HKN.out _ x.2.2
    obtain ⟨kd, hkd, hk15, -⟩ := kind_nat hkk
    rw [hkd] at hcx
    obtain ⟨-, -, f2, -⟩ := (HF.out.on hB) kd hk15
    obtain ⟨bc, hbc⟩ : ∃ y, Pl.kNth kd = y := ⟨_, rfl⟩
    rw [hbc] at f2
    have i1 : (0 : Int) ≤ (kd : Int) := by omega
    have i2 : (kd : Int) < 16 := by omega
    obtain ⟨na, hna⟩ : ∃ y, x.1.2.a = y := ⟨_, rfl⟩
    obtain ⟨nb, hnb⟩ : ∃ y, x.1.2.b = y := ⟨_, rfl⟩
    rw [hna] at hca
    rw [hnb] at hcb
    have HKD : Hid (cntT x.tst = (!bc || nB na nb)) := by
      unfold Hid cntT XT.tst
      rw [hkd, hbc, hna, hnb]
    clear hkd hkk hna hnb hbc
    generalize x.1.1 = xv
    have h1' : 1 ≤ 6 - 1 - 1 := by omega
    cases bc with
    | false =>
      gi_wp2
      refine ⟨trivial, ?_⟩
      gi_wp2
      exact ⟨(KeepsOthers.refl _).from _, Below.refl _ _, ⟨by rw [List.map_append, List.all_append, hp]; simp [HKD.out], hbx⟩, hB⟩
    | true =>
      cases hb : nB na nb with
      | true =>
        gi_wp2_with (refine ⟨trivial, ?_⟩; gi_at_call 51; refine (CallsIn.inRound l (callsIn_wide.2 (nthCheck_any _ _ _))).mono ?_; rintro e w' ⟨rfl, hb6⟩; rw [nErr_ok hb])
        exact ⟨(keeps_of_below hb6).from _, hb6.mono hB.size, ⟨by rw [List.map_append, List.all_append, hp]; simp [HKD.out, hb], boxed_on hbx hb6⟩, below_trans hB hb6⟩
      | false =>
        gi_wp2_with (refine ⟨trivial, ?_⟩; gi_at_call 51; refine (CallsIn.inRound l (callsIn_wide.2 (nthCheck_any _ _ _))).mono ?_; rintro e w' ⟨rfl, hb6⟩; rw [nErr_no hb]; have fR2 := (boxed_on hbx hb6).frozen; have cR2 := (boxed_on hbx hb6).cell)
        exact ⟨((keeps_of_below hb6).trans (KeepsOthers.setCell _ _ _)).from _, ⟨⟨rfl, by rw [List.map_append, List.all_append]; simp [HKD.out, hb]⟩, (boxed_on hbx hb6).set _⟩, (below_trans hB hb6).setCell (p := ⟨w.heap.size + 1, 0, none⟩) (by simp) _⟩
  case done =>
    rintro D ys W hD hys ⟨⟨hp, hbx⟩, hB⟩ hK
    have fR := hbx.frozen
    have cR := hbx.cell
    rw [hys] at hp
    gi_wp2
    have hK' := (KeepsOthers.setCell W ⟨w.heap.size + 1, 0, none⟩ (.bool true)).same D _ hK rfl
    refine ⟨by simp, .inl ⟨_, _, rfl, run_takeDeferred hK', ?_⟩⟩
    have hc5 := cell_kept (hbx.set (.bool true)).cell (grownBy_putObj' _ D (.deferred none)) (fun r e => by cases e; exact ⟨_, hK', rfl⟩)
    refine ⟨.bool true, ?_, by rw [HPK.out, hp], (hB.setCell (p := ⟨w.heap.size + 1, 0, none⟩) (by simp) _).trans (belowK_b (w := w) (Nat.le_refl _) _ D _ _ (by omega) hK' rfl rfl)⟩
    simp [results, Tryd.results29, go_sem, hc5]
  case stop =>
    rintro D c pre W hD hpre ⟨⟨⟨rfl, hp⟩, hbx⟩, hB⟩ hK
    gi_wp2
    refine ⟨by simp, .inl ⟨_, _, rfl, run_takeDeferred hK, ?_⟩⟩
    have hc5 := cell_kept hbx.cell (grownBy_putObj' _ D (.deferred none)) (fun r e => by cases e; exact ⟨_, hK, rfl⟩)
    have hno : p.tests.all cntT = false := by
      obtain ⟨rest, hrest⟩ := hpre
      rw [← hrest, List.all_append, hp]
      rfl
    refine ⟨.bool false, ?_, by rw [HPK.out, hno], hB.trans (belowK_b (w := w) (Nat.le_refl _) W D _ _ (by omega) hK rfl rfl)⟩
    simp [results, Tryd.results29, go_sem, hc5]
end Go.Proofs.YtephhllfodlfbaaDoor
