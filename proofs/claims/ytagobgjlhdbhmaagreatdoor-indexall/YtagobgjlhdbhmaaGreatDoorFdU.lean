/-
  What the laws of the index begin with.
-/
import Derived.Test.YtagobgjlhdbhmaaGreatDoorFdS
namespace Go.Proofs.YtagobgjlhdbhmaaGreatDoor
open Go.RowKit

theorem sx_ferr : findErr smallNs (Pl.idxAns smallNs) lkL = 0 := by
  unfold findErr pageErr
  rw [if_pos s_chk, if_pos rfl, if_pos rfl]
  exact (chkBoth_zero sm_chk).2
theorem sx_find : findA smallNs (Pl.idxAns smallNs) lkL = [0, 2] := by
  have h := sm_all
  unfold allA at h
  rw [if_pos sm_chk] at h
  unfold findA
  rw [if_pos sx_ferr]
  exact h
section
variable (W : World) (hL : Laid W)
theorem bi_build (v : Value) (hv : DocAt W v smallNs) : Calls Tryz.prog 20 #[.agg #[v]] W fun e w' => ∃ a c, e = .returned (.tuple #[.slice a 6 c, .int .i64 0]) ∧ EnsAt w' (.slice a 6 c) (Pl.idxAns smallNs) ∧ Below W.heap.size W w' := by
  refine (build_any v smallNs W hv).mono ?_
  rintro e w' ⟨u, rfl, h1, h2⟩
  obtain ⟨a, c, rfl, -⟩ := id h1
  rw [sx_len] at h1 ⊢
  exact ⟨a, c, by rw [s_chk], h1, h2⟩
theorem bi_look (a : Option Addr) (c : Nat) (hv : EnsAt W (.slice a 6 c) (Pl.idxAns smallNs)) : Calls Tryz.prog 23 #[.slice a 6 c, .int .i64 3, .string ⟨#[97]⟩] W fun e w' => ∃ a c, e = .returned (.tuple #[.slice a 2 c, .int .i64 0]) ∧ IntsAt w' (.slice a 2 c) [1, 4] ∧ Below W.heap.size W w' := by
  refine (look_any (.slice a 6 c) _ 3 [97] W hv sx_fit).mono ?_
  rintro e w' ⟨u, rfl, h1, h2⟩
  rw [sx_look] at h1
  obtain ⟨a, c, rfl, -⟩ := id h1
  exact ⟨a, c, by rw [sx_err]; rfl, h1, h2⟩
include hL in
theorem bi_find (v u : Value) (hp : PgAt W v smallNs (Pl.idxAns smallNs)) (hl : A3 W u lkL) : Calls Tryz.prog 26 #[v, u] W fun e w' => ∃ a c, e = .returned (.tuple #[.slice a 2 c, .int .i64 0]) ∧ IntsAt w' (.slice a 2 c) [0, 2] ∧ Below W.heap.size W w' := by
  refine (find_any v u smallNs (Pl.idxAns smallNs) lkL W hp (ix_ans _) hl hL).mono ?_
  rintro e w' ⟨a, c, rfl, h1, h2⟩
  rw [sx_find] at h1
  exact ⟨a, c, by rw [sx_ferr, sx_find]; rfl, h1, h2⟩
end
theorem two_ints (W : World) (x y : Int) : IntsAt (W.alloc (.cells #[.int .i64 x, .int .i64 y] 3)) (.slice (some ⟨W.heap.size, 0, none⟩) 2 2) [x, y] := by
  obtain ⟨y0, y1⟩ := blk2d (World.alloc_heap_new W (.cells #[.int .i64 x, .int .i64 y] 3))
  refine ⟨_, _, rfl, Or.inr ⟨W.heap.size, 0, rfl, fun i hi => ?_⟩⟩
  match i, hi with
  | 0, _ => exact y0
  | 1, _ => exact y1
set_option maxRecDepth 100000 in
set_option maxHeartbeats 4000000 in
theorem ixbegun_any (w : World) (hL : Laid w) : Calls Tryz.prog 24 #[] w fun e w' => e = .returned (.bool true) ∧ Below w.heap.size w w' := by
  have HL : Hid (Laid w) := hL
  clear hL
  go_enter Tryz.func24, Tryz.ntmps24
  go_wp2_with fail
  refine (small_any _).mono ?_
  rintro e w1 ⟨v1, rfl, hd1, hb1⟩
  have HB1 : Hid (Below w.heap.size w w1) := hb1
  have HC1 : Hid (Calls Tryz.prog 20 _ _ _) := bi_build w1 v1 hd1
  obtain ⟨a1, c1, rfl, -⟩ := id hd1.1
  clear hd1 hb1
  go_wp2_with fail
  refine HC1.out.mono ?_
  rintro e w2 ⟨a2, c2, rfl, he2, hb2⟩
  have HB2 : Hid (Below w.heap.size w w2) := below_trans HB1.out hb2
  have HC2 : Hid (Calls Tryz.prog 23 _ _ _) := bi_look w2 a2 c2 he2
  clear he2 hb2 HB1 HC1
  go_wp2_with fail
  refine HC2.out.mono ?_
  rintro e w3 ⟨a3, c3, rfl, hx3, hb3⟩
  have HB3 : Hid (Below w.heap.size w w3) := below_trans HB2.out hb3
  have HX3 : Hid (IntsAt w3 (.slice a3 2 c3) [1, 4]) := hx3
  clear hx3 hb3 HB2 HC2
  go_wp2_with fail
  refine (page_any _).mono ?_
  rintro e w4 ⟨v4, rfl, hp4, hb4⟩
  have HB4 : Hid (Below w.heap.size w w4) := below_trans HB3.out hb4
  have HX4 : Hid (IntsAt w4 (.slice a3 2 c3) [1, 4]) := HX3.out.on hb4
  have HP4 : Hid (PgAt w4 v4 smallNs (Pl.idxAns smallNs)) := hp4
  obtain ⟨b1, d1, b2, d2, rfl⟩ := hp4.form
  clear hp4 hb4 HB3 HX3
  go_wp2_with fail
  refine (looked_any _).mono ?_
  rintro e w5 ⟨a5, rfl, hl5, hb5⟩
  have HB5 : Hid (Below w.heap.size w w5) := below_trans HB4.out hb5
  have HX5 : Hid (IntsAt w5 (.slice a3 2 c3) [1, 4]) := HX4.out.on hb5
  have HC5 : Hid (Calls Tryz.prog 26 _ _ _) := bi_find w5 (HL.out.on HB5.out) _ _ (HP4.out.on hb5) hl5
  clear hl5 hb5 HB4 HX4 HP4
  go_wp2_with fail
  refine HC5.out.mono ?_
  rintro e w6 ⟨a6, c6, rfl, hx6, hb6⟩
  have hba := on_alloc w6 (.cells #[.int .i64 1, .int .i64 4] 3)
  have HB6 : Hid (Below w.heap.size w (w6.alloc (.cells #[.int .i64 1, .int .i64 4] 3))) := below_trans (below_trans HB5.out hb6) hba
  have HC6 : Hid (Calls Tryz.prog 19 _ _ _) := sameInts_eq _ _ [1, 4] _ (by simp) ((HX5.out.on hb6).on hba) (two_ints w6 1 4)
  have HY6 : Hid (IntsAt (w6.alloc (.cells #[.int .i64 1, .int .i64 4] 3)) (.slice a6 2 c6) [0, 2]) := hx6.on hba
  clear hx6 hb6 hba HB5 HX5 HC5
  go_wp2_with fail
  generalize w6.alloc (.cells #[.int .i64 1, .int .i64 4] 3) = w6b at *
  refine HC6.out.mono ?_
  rintro e w7 ⟨rfl, hb7⟩
  have hba := on_alloc w7 (.cells #[.int .i64 0, .int .i64 2] 3)
  have HB7 : Hid (Below w.heap.size w (w7.alloc (.cells #[.int .i64 0, .int .i64 2] 3))) := below_trans (below_trans HB6.out hb7) hba
  have HC7 : Hid (Calls Tryz.prog 19 _ _ _) := sameInts_eq _ _ [0, 2] _ (by simp) ((HY6.out.on hb7).on hba) (two_ints w7 0 2)
  clear hb7 hba HB6 HY6 HC6
  go_wp2_with fail
  refine HC7.out.mono ?_
  rintro e w8 ⟨rfl, hb8⟩
  have HB8 : Hid (Below w.heap.size w w8) := below_trans HB7.out hb8
  clear hb8
  go_wp2
  go_ret
  exact ⟨rfl, HB8.out⟩
end Go.Proofs.YtagobgjlhdbhmaaGreatDoor
/-
  IndexFinds and IndexAll: the laws.
-/
namespace Go.Proofs.YtagobgjlhdbhmaaGreatDoor
open Go.RowKit

theorem find_all {ns : List Pl.Nd} {ix : List Pl.Er} {l : List Pl.D3} (h : pageErr ns ix = 0) (hl : chkList l = 0) : findErr ns ix l = 0 ∧ findA ns ix l = allA ns l := by
  have h0 : Pl.checkDoc ns = 0 := by
    unfold pageErr at h
    split at h
    · assumption
    · assumption
  have h1 : findErr ns ix l = 0 := by unfold findErr; rw [if_pos h]; exact hl
  refine ⟨h1, ?_⟩
  unfold findA allA chkBoth
  rw [if_pos h1, if_pos h0, if_pos hl]
theorem page_made {ns : List Pl.Nd} (h : Pl.checkDoc ns = 0) : pageErr ns (Pl.idxAns ns) = 0 := by
  unfold pageErr
  rw [if_pos h, if_pos rfl]

set_option maxRecDepth 100000 in
set_option maxHeartbeats 4000000 in
theorem alls_no (v u : Value) (ns : List Pl.Nd) (l : List Pl.D3) (w : World) (hv : DocAt w v ns) (hl : A3 w u l) (hL : Laid w) (hC : chkBoth ns l ≠ 0) :
    Calls Tryz.prog 7 #[.agg #[v], u] w fun e w' => e = .returned (.bool true) ∧ Below w.heap.size w w' := by
  obtain ⟨av, cv, rfl, -⟩ := id hv.1
  obtain ⟨al, cl, rfl, -⟩ := isL_3.form hl
  have HB0 : Hid (Below w.heap.size w (w.alloc (.cells #[.slice av ns.length cv] 24))) := on_alloc _ _
  have c0 : (w.alloc (.cells #[.slice av ns.length cv] 24)).cell? ⟨w.heap.size, 0, none⟩ = some (.slice av ns.length cv) := by simp [go_sem]
  have H14 : Hid (∀ W, Below w.heap.size w W → Calls Tryz.prog 14 #[.agg #[.slice av ns.length cv], .slice al l.length cl] W fun e w' => ∃ a c, e = .returned (.tuple #[.slice a (allA ns l).length c, .int .i64 (chkBoth ns l)]) ∧ IntsAt w' (.slice a (allA ns l).length c) ((allA ns l).map fun (k : Nat) => (k : Int)) ∧ Below W.heap.size W w') := fun W hW => by
    refine (all_call _ _ ns l W (hv.on hW) (isL_3.on hl hW) (hL.on hW).forms (hL.on hW).glob).mono ?_
    rintro e w' ⟨x, rfl, hx, hb⟩
    have h1 := hx.ints
    obtain ⟨a, c, rfl, -⟩ := id hx
    exact ⟨a, c, rfl, h1, hb⟩
  have H20 : Hid (∀ W, Below w.heap.size w W → Calls Tryz.prog 20 #[.agg #[.slice av ns.length cv]] W fun e w' => ∃ a c, e = .returned (.tuple #[.slice a (Pl.idxAns ns).length c, .int .i64 (Pl.checkDoc ns)]) ∧ EnsAt w' (.slice a (Pl.idxAns ns).length c) (Pl.idxAns ns) ∧ Below W.heap.size W w') := fun W hW => by
    refine (build_any _ ns W (hv.on hW)).mono ?_
    rintro e w' ⟨x, rfl, hx, hb⟩
    obtain ⟨a, c, rfl, -⟩ := id hx
    exact ⟨a, c, rfl, hx, hb⟩
  have H24 : Hid (∀ W, Below w.heap.size w W → Calls Tryz.prog 24 #[] W fun e w' => e = .returned (.bool true) ∧ Below W.heap.size W w') := fun W hW => ixbegun_any W (hL.on hW)
  have r1 : (chkBoth ns l != 0) = true := by simpa using hC
  clear hv hl hL hC
  generalize chkBoth ns l = r at *
  generalize Pl.checkDoc ns = r3 at *
  generalize allA ns l = aL at *
  generalize Pl.idxAns ns = iL at *
  go_enter Tryz.func7, Tryz.ntmps7
  go_wp2_with fail
  generalize w.alloc (.cells #[.slice av ns.length cv] 24) = w0 at *
  refine (H14.out _ HB0.out).mono ?_
  rintro e w1 ⟨ax, cx, rfl, hx1, hb1⟩
  have HB1 : Hid (Below w.heap.size w w1) := below_trans HB0.out hb1
  have c1 := cell_on hb1 c0
  have HX1 : Hid (IntsAt w1 (.slice ax aL.length cx) (aL.map fun (k : Nat) => (k : Int))) := hx1
  clear hx1 hb1 c0 HB0
  go_wp2_with fail
  refine (H20.out _ HB1.out).mono ?_
  rintro e w2 ⟨ai, ci, rfl, he2, hb2⟩
  have HB2 : Hid (Below w.heap.size w w2) := below_trans HB1.out hb2
  have c2 := cell_on hb2 c1
  have HX2 : Hid (IntsAt w2 (.slice ax aL.length cx) (aL.map fun (k : Nat) => (k : Int))) := HX1.out.on hb2
  have HE2 : Hid (EnsAt w2 (.slice ai iL.length ci) iL) := he2
  clear he2 hb2 c1 HB1 HX1
  go_wp2_with fail
  refine (H24.out _ HB2.out).mono ?_
  rintro e w3 ⟨rfl, hb3⟩
  have HB3 : Hid (Below w.heap.size w w3) := below_trans HB2.out hb3
  clear hb3
  go_wp2
  go_ret
  exact ⟨rfl, HB3.out⟩
set_option maxRecDepth 100000 in
set_option maxHeartbeats 4000000 in
theorem alls_yes (v u : Value) (ns : List Pl.Nd) (l : List Pl.D3) (w : World) (hv : DocAt w v ns) (hl : A3 w u l) (hL : Laid w) (hC : chkBoth ns l = 0) :
    Calls Tryz.prog 7 #[.agg #[v], u] w fun e w' => e = .returned (.bool true) ∧ Below w.heap.size w w' := by
  obtain ⟨av, cv, rfl, -⟩ := id hv.1
  obtain ⟨al, cl, rfl, -⟩ := isL_3.form hl
  have HB0 : Hid (Below w.heap.size w (w.alloc (.cells #[.slice av ns.length cv] 24))) := on_alloc _ _
  have c0 : (w.alloc (.cells #[.slice av ns.length cv] 24)).cell? ⟨w.heap.size, 0, none⟩ = some (.slice av ns.length cv) := by simp [go_sem]
  have H14 : Hid (∀ W, Below w.heap.size w W → Calls Tryz.prog 14 #[.agg #[.slice av ns.length cv], .slice al l.length cl] W fun e w' => ∃ a c, e = .returned (.tuple #[.slice a (allA ns l).length c, .int .i64 (0)]) ∧ IntsAt w' (.slice a (allA ns l).length c) ((allA ns l).map fun (k : Nat) => (k : Int)) ∧ Below W.heap.size W w') := fun W hW => by
    refine (all_call _ _ ns l W (hv.on hW) (isL_3.on hl hW) (hL.on hW).forms (hL.on hW).glob).mono ?_
    rintro e w' ⟨x, rfl, hx, hb⟩
    have h1 := hx.ints
    obtain ⟨a, c, rfl, -⟩ := id hx
    exact ⟨a, c, by rw [hC], h1, hb⟩
  have H20 : Hid (∀ W, Below w.heap.size w W → Calls Tryz.prog 20 #[.agg #[.slice av ns.length cv]] W fun e w' => ∃ a c, e = .returned (.tuple #[.slice a (Pl.idxAns ns).length c, .int .i64 (0)]) ∧ EnsAt w' (.slice a (Pl.idxAns ns).length c) (Pl.idxAns ns) ∧ Below W.heap.size W w') := fun W hW => by
    refine (build_any _ ns W (hv.on hW)).mono ?_
    rintro e w' ⟨x, rfl, hx, hb⟩
    obtain ⟨a, c, rfl, -⟩ := id hx
    exact ⟨a, c, by rw [(chkBoth_zero hC).1], hx, hb⟩
  have H24 : Hid (∀ W, Below w.heap.size w W → Calls Tryz.prog 24 #[] W fun e w' => e = .returned (.bool true) ∧ Below W.heap.size W w') := fun W hW => ixbegun_any W (hL.on hW)
  have hpe := page_made (chkBoth_zero hC).1
  obtain ⟨hfe, hfa⟩ := find_all (ix := Pl.idxAns ns) hpe (chkBoth_zero hC).2
  have H26 : Hid (∀ W a c, Below w.heap.size w W → EnsAt W (.slice a (Pl.idxAns ns).length c) (Pl.idxAns ns) → Calls Tryz.prog 26 #[.agg #[.slice av ns.length cv, .slice a (Pl.idxAns ns).length c], .slice al l.length cl] W fun e w' => ∃ a c, e = .returned (.tuple #[.slice a (allA ns l).length c, .int .i64 0]) ∧ IntsAt w' (.slice a (allA ns l).length c) ((allA ns l).map fun (k : Nat) => (k : Int)) ∧ Below W.heap.size W w') := fun W a c hW he => by
    have := find_any _ _ ns (Pl.idxAns ns) l W ⟨av, cv, a, c, rfl, hv.on hW, he⟩ (ix_ans ns) (isL_3.on hl hW) (hL.on hW)
    unfold FindSays at this
    rw [hfe, hfa] at this
    exact this
  have H64 : Hid (((allA ns l).map fun (k : Nat) => (k : Int)).length ≤ 64) := allA_len ns l
  clear hv hl hL hC hpe hfe hfa
  generalize allA ns l = aL at *
  generalize Pl.idxAns ns = iL at *
  go_enter Tryz.func7, Tryz.ntmps7
  go_wp2_with fail
  generalize w.alloc (.cells #[.slice av ns.length cv] 24) = w0 at *
  refine (H14.out _ HB0.out).mono ?_
  rintro e w1 ⟨ax, cx, rfl, hx1, hb1⟩
  have HB1 : Hid (Below w.heap.size w w1) := below_trans HB0.out hb1
  have c1 := cell_on hb1 c0
  have HX1 : Hid (IntsAt w1 (.slice ax aL.length cx) (aL.map fun (k : Nat) => (k : Int))) := hx1
  clear hx1 hb1 c0 HB0
  go_wp2_with fail
  refine (H20.out _ HB1.out).mono ?_
  rintro e w2 ⟨ai, ci, rfl, he2, hb2⟩
  have HB2 : Hid (Below w.heap.size w w2) := below_trans HB1.out hb2
  have c2 := cell_on hb2 c1
  have HX2 : Hid (IntsAt w2 (.slice ax aL.length cx) (aL.map fun (k : Nat) => (k : Int))) := HX1.out.on hb2
  have HE2 : Hid (EnsAt w2 (.slice ai iL.length ci) iL) := he2
  clear he2 hb2 c1 HB1 HX1
  go_wp2_with fail
  refine (H26.out _ _ _ HB2.out HE2.out).mono ?_
  rintro e w3 ⟨ay, cy, rfl, hy3, hb3⟩
  have HB3 : Hid (Below w.heap.size w w3) := below_trans HB2.out hb3
  have HX3 : Hid (IntsAt w3 (.slice ax aL.length cx) (aL.map fun (k : Nat) => (k : Int))) := HX2.out.on hb3
  have HY3 : Hid (IntsAt w3 (.slice ay aL.length cy) (aL.map fun (k : Nat) => (k : Int))) := hy3
  clear hy3 hb3 c2 HB2 HX2 HE2
  go_wp2_with fail
  refine (H24.out _ HB3.out).mono ?_
  rintro e w4 ⟨rfl, hb4⟩
  have HB4 : Hid (Below w.heap.size w w4) := below_trans HB3.out hb4
  have HC4 : Hid (Calls Tryz.prog 19 _ _ _) := sameInts_eq _ _ _ w4 H64.out (HX3.out.on hb4) (HY3.out.on hb4)
  clear hb4 HB3 HX3 HY3
  go_wp2_with fail
  refine HC4.out.mono ?_
  rintro e w5 ⟨rfl, hb5⟩
  have HB5 : Hid (Below w.heap.size w w5) := below_trans HB4.out hb5
  clear hb5
  go_wp2
  go_ret
  exact ⟨rfl, HB5.out⟩
theorem alls_law (v u : Value) (ns : List Pl.Nd) (l : List Pl.D3) (w : World) (hv : DocAt w v ns) (hl : A3 w u l) (hL : Laid w) :
    Calls Tryz.prog 7 #[.agg #[v], u] w fun e w' => e = .returned (.bool true) ∧ Below w.heap.size w w' := by
  by_cases hC : chkBoth ns l = 0
  · exact alls_yes v u ns l w hv hl hL hC
  · exact alls_no v u ns l w hv hl hL hC
end Go.Proofs.YtagobgjlhdbhmaaGreatDoor
