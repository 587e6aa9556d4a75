/-
  What the laws of the index begin with.
-/
import Derived.Test.YtagobgjlhdbhmaaGreatDoorFdS
import Derived.Test.YtagobgjlhdbhmaaGreatDoorRpg
import Derived.Test.YtagobgjlhdbhmaaGreatDoorFor
namespace Go.Proofs.YtagobgjlhdbhmaaGreatDoor
open Go.RowKit

theorem sx_ferr : findErr smallNs (Pl.idxAns smallNs) lkL = 0 := by
  unfold findErr pageErr
  rw [if_pos s_chk, if_pos rfl, if_pos rfl]
  exact (chkBoth_zero sm_chk).2
theorem sx_find : findA smallNs (Pl.idxAns smallNs) lkL = [0, 2] := by
  have h := sm_all
  unfold allA at h
  rw [if_pos sm_chk] at h
  unfold findA
  rw [if_pos sx_ferr]
  exact h
section
variable (W : World) (hL : Laid W)
theorem bi_build (v : Value) (hv : DocAt W v smallNs) : Calls Tryz.prog 20 #[.agg #[v]] W fun e w' => ∃ a c, e = .returned (.tuple #[.slice a 6 c, .int .i64 0]) ∧ EnsAt w' (.slice a 6 c) (Pl.idxAns smallNs) ∧ Below W.heap.size W w' := by
  refine (build_any v smallNs W hv).mono ?_
  rintro e w' ⟨u, rfl, h1, h2⟩
  obtain ⟨a, c, rfl, -⟩ := id h1
  rw [sx_len] at h1 ⊢
  exact ⟨a, c, by rw [s_chk], h1, h2⟩
theorem bi_look (a : Option Addr) (c : Nat) (hv : EnsAt W (.slice a 6 c) (Pl.idxAns smallNs)) : Calls Tryz.prog 23 #[.slice a 6 c, .int .i64 3, .string ⟨#[97]⟩] W fun e w' => ∃ a c, e = .returned (.tuple #[.slice a 2 c, .int .i64 0]) ∧ IntsAt w' (.slice a 2 c) [1, 4] ∧ Below W.heap.size W w' := by
  refine (look_any (.slice a 6 c) _ 3 [97] W hv sx_fit).mono ?_
  rintro e w' ⟨u, rfl, h1, h2⟩
  rw [sx_look] at h1
  obtain ⟨a, c, rfl, -⟩ := id h1
  exact ⟨a, c, by rw [sx_err]; rfl, h1, h2⟩
include hL in
theorem bi_find (v u : Value) (hp : PgAt W v smallNs (Pl.idxAns smallNs)) (hl : A3 W u lkL) : Calls Tryz.prog 26 #[v, u] W fun e w' => ∃ a c, e = .returned (.tuple #[.slice a 2 c, .int .i64 0]) ∧ IntsAt w' (.slice a 2 c) [0, 2] ∧ Below W.heap.size W w' := by
  refine (find_any v u smallNs (Pl.idxAns smallNs) lkL W hp (ix_ans _) hl hL).mono ?_
  rintro e w' ⟨a, c, rfl, h1, h2⟩
  rw [sx_find] at h1
  exact ⟨a, c, by rw [sx_ferr, sx_find]; rfl, h1, h2⟩
end
theorem two_ints (W : World) (x y : Int) : IntsAt (W.alloc (.cells #[.int .i64 x, .int .i64 y] 3)) (.slice (some ⟨W.heap.size, 0, none⟩) 2 2) [x, y] := by
  obtain ⟨y0, y1⟩ := blk2d (World.alloc_heap_new W (.cells #[.int .i64 x, .int .i64 y] 3))
  refine ⟨_, _, rfl, Or.inr ⟨W.heap.size, 0, rfl, fun i hi => ?_⟩⟩
  match i, hi with
  | 0, _ => exact y0
  | 1, _ => exact y1
set_option maxRecDepth 100000 in
set_option maxHeartbeats 4000000 in
theorem ixbegun_any (w : World) (hL : Laid w) : Calls Tryz.prog 24 #[] w fun e w' => e = .returned (.bool true) ∧ Below w.heap.size w w' := by
  have HL : Hid (Laid w) := hL
  clear hL
  go_enter Tryz.func24, Tryz.ntmps24
  go_wp2_with fail
  refine (small_any _).mono ?_
  rintro e w1 ⟨v1, rfl, hd1, hb1⟩
  have HB1 : Hid (Below w.heap.size w w1) := hb1
  have HC1 : Hid (Calls Tryz.prog 20 _ _ _) := bi_build w1 v1 hd1
  obtain ⟨a1, c1, rfl, -⟩ := id hd1.1
  clear hd1 hb1
  go_wp2_with fail
  refine HC1.out.mono ?_
  rintro e w2 ⟨a2, c2, rfl, he2, hb2⟩
  have HB2 : Hid (Below w.heap.size w w2) := below_trans HB1.out hb2
  have HC2 : Hid (Calls Tryz.prog 23 _ _ _) := bi_look w2 a2 c2 he2
  clear he2 hb2 HB1 HC1
  go_wp2_with fail
  refine HC2.out.mono ?_
  rintro e w3 ⟨a3, c3, rfl, hx3, hb3⟩
  have HB3 : Hid (Below w.heap.size w w3) := below_trans HB2.out hb3
  have HX3 : Hid (IntsAt w3 (.slice a3 2 c3) [1, 4]) := hx3
  clear hx3 hb3 HB2 HC2
  go_wp2_with fail
  refine (page_any _).mono ?_
  rintro e w4 ⟨v4, rfl, hp4, hb4⟩
  have HB4 : Hid (Below w.heap.size w w4) := below_trans HB3.out hb4
  have HX4 : Hid (IntsAt w4 (.slice a3 2 c3) [1, 4]) := HX3.out.on hb4
  have HP4 : Hid (PgAt w4 v4 smallNs (Pl.idxAns smallNs)) := hp4
  obtain ⟨b1, d1, b2, d2, rfl⟩ := hp4.form
  clear hp4 hb4 HB3 HX3
  go_wp2_with fail
  refine (looked_any _).mono ?_
  rintro e w5 ⟨a5, rfl, hl5, hb5⟩
  have HB5 : Hid (Below w.heap.size w w5) := below_trans HB4.out hb5
  have HX5 : Hid (IntsAt w5 (.slice a3 2 c3) [1, 4]) := HX4.out.on hb5
  have HC5 : Hid (Calls Tryz.prog 26 _ _ _) := bi_find w5 (HL.out.on HB5.out) _ _ (HP4.out.on hb5) hl5
  clear hl5 hb5 HB4 HX4 HP4
  go_wp2_with fail
  refine HC5.out.mono ?_
  rintro e w6 ⟨a6, c6, rfl, hx6, hb6⟩
  have hba := on_alloc w6 (.cells #[.int .i64 1, .int .i64 4] 3)
  have HB6 : Hid (Below w.heap.size w (w6.alloc (.cells #[.int .i64 1, .int .i64 4] 3))) := below_trans (below_trans HB5.out hb6) hba
  have HC6 : Hid (Calls Tryz.prog 19 _ _ _) := sameInts_eq _ _ [1, 4] _ (by simp) ((HX5.out.on hb6).on hba) (two_ints w6 1 4)
  have HY6 : Hid (IntsAt (w6.alloc (.cells #[.int .i64 1, .int .i64 4] 3)) (.slice a6 2 c6) [0, 2]) := hx6.on hba
  clear hx6 hb6 hba HB5 HX5 HC5
  go_wp2_with fail
  generalize w6.alloc (.cells #[.int .i64 1, .int .i64 4] 3) = w6b at *
  refine HC6.out.mono ?_
  rintro e w7 ⟨rfl, hb7⟩
  have hba := on_alloc w7 (.cells #[.int .i64 0, .int .i64 2] 3)
  have HB7 : Hid (Below w.heap.size w (w7.alloc (.cells #[.int .i64 0, .int .i64 2] 3))) := below_trans (below_trans HB6.out hb7) hba
  have HC7 : Hid (Calls Tryz.prog 19 _ _ _) := sameInts_eq _ _ [0, 2] _ (by simp) ((HY6.out.on hb7).on hba) (two_ints w7 0 2)
  clear hb7 hba HB6 HY6 HC6
  go_wp2_with fail
  refine HC7.out.mono ?_
  rintro e w8 ⟨rfl, hb8⟩
  have HB8 : Hid (Below w.heap.size w w8) := below_trans HB7.out hb8
  clear hb8
  go_wp2
  go_ret
  exact ⟨rfl, HB8.out⟩
end Go.Proofs.YtagobgjlhdbhmaaGreatDoor
/-
  IndexFinds and IndexAll: the laws.
-/
namespace Go.Proofs.YtagobgjlhdbhmaaGreatDoor
open Go.RowKit

theorem find_all {ns : List Pl.Nd} {ix : List Pl.Er} {l : List Pl.D3} (h : pageErr ns ix = 0) (hl : chkList l = 0) : findErr ns ix l = 0 ∧ findA ns ix l = allA ns l := by
  have h0 : Pl.checkDoc ns = 0 := by
    unfold pageErr at h
    split at h
    · assumption
    · assumption
  have h1 : findErr ns ix l = 0 := by unfold findErr; rw [if_pos h]; exact hl
  refine ⟨h1, ?_⟩
  unfold findA allA chkBoth
  rw [if_pos h1, if_pos h0, if_pos hl]
theorem page_zero {ns : List Pl.Nd} {ix : List Pl.Er} (h : pageErr ns ix = 0) : Pl.checkDoc ns = 0 := by
  unfold pageErr at h
  split at h
  · assumption
  · assumption
set_option maxRecDepth 100000 in
set_option maxHeartbeats 4000000 in
theorem finds_page (v u : Value) (ns : List Pl.Nd) (ix : List Pl.Er) (l : List Pl.D3) (w : World) (hp : PgAt w v ns ix) (hx : IxFit ix) (hl : A3 w u l) (hL : Laid w) (hE : pageErr ns ix ≠ 0) :
    Calls Tryz.prog 6 #[v, u] w fun e w' => e = .returned (.bool true) ∧ Below w.heap.size w w' := by
  have hfe : findErr ns ix l = pageErr ns ix := by unfold findErr; rw [if_neg hE]
  have hfa : findA ns ix l = [] := find_err (by rw [hfe]; exact hE)
  have hp0 := hp
  obtain ⟨a, c, a2, c2, rfl, hd, he⟩ := hp
  obtain ⟨al, cl, rfl, -⟩ := isL_3.form hl
  have HB0 : Hid (Below w.heap.size w (w.alloc (.cells #[.slice a ns.length c, .slice a2 ix.length c2] 59))) := on_alloc _ _
  obtain ⟨⟨s0, s1⟩, _⟩ := (Blk2.new w (.slice a ns.length c) (.slice a2 ix.length c2)).facts
  have H26 : Hid (∀ W, Below w.heap.size w W → Calls Tryz.prog 26 #[.agg #[.slice a ns.length c, .slice a2 ix.length c2], .slice al l.length cl] W fun e w' => ∃ a c, e = .returned (.tuple #[.slice a (([] : List Nat)).length c, .int .i64 (pageErr ns ix)]) ∧ IntsAt w' (.slice a (([] : List Nat)).length c) ((([] : List Nat)).map fun (k : Nat) => (k : Int)) ∧ Below W.heap.size W w') := fun W hW => by
    have := find_any _ _ ns ix l W (hp0.on hW) hx (isL_3.on hl hW) (hL.on hW)
    unfold FindSays at this
    rw [hfe, hfa] at this
    exact this
  have H27 : Hid (∀ W, Below w.heap.size w W → Calls Tryz.prog 27 #[.agg #[.slice a ns.length c, .slice a2 ix.length c2]] W fun e w' => e = .returned (.int .i64 (pageErr ns ix)) ∧ Below W.heap.size W w') := fun W hW => by
    have := pageError_any _ ns ix W (hp0.on hW) hx
    exact this
  have H24 : Hid (∀ W, Below w.heap.size w W → Calls Tryz.prog 24 #[] W fun e w' => e = .returned (.bool true) ∧ Below W.heap.size W w') := fun W hW => ixbegun_any W (hL.on hW)
  have r1 : (pageErr ns ix == 0) = false := by simpa using hE
  have r2 : ¬ pageErr ns ix = 0 := hE
  clear hp0 hd he hl hL hfe hfa hx hE
  generalize pageErr ns ix = r at *
  go_enter Tryz.func6, Tryz.ntmps6
  go_wp2_with fail
  generalize w.alloc (.cells #[.slice a ns.length c, .slice a2 ix.length c2] 59) = w0 at *
  refine (H26.out _ HB0.out).mono ?_
  rintro e w1 ⟨ax, cx, rfl, hx1, hb1⟩
  have HB1 : Hid (Below w.heap.size w w1) := below_trans HB0.out hb1
  have t0 := cell_on hb1 s0
  have t1 := cell_on hb1 s1
  have HX1 : Hid (IntsAt w1 (.slice ax 0 cx) []) := hx1
  clear hx1 hb1 s0 s1 HB0
  go_wp2_with fail
  refine (H27.out _ HB1.out).mono ?_
  rintro e w2 ⟨rfl, hb2⟩
  have HB2 : Hid (Below w.heap.size w w2) := below_trans HB1.out hb2
  have x0 := cell_on hb2 t0
  have x1 := cell_on hb2 t1
  have HX2 : Hid (IntsAt w2 (.slice ax 0 cx) []) := HX1.out.on hb2
  clear hb2 t0 t1 HB1 HX1
  go_wp2_with fail
  refine (H24.out _ HB2.out).mono ?_
  rintro e w5 ⟨rfl, hb5⟩
  have HB5 : Hid (Below w.heap.size w w5) := below_trans HB2.out hb5
  have HC5 : Hid (Calls Tryz.prog 19 _ _ _) := sameInts_eq (.slice ax 0 cx) (.slice none 0 0) [] w5 (by simp) (HX2.out.on hb5) ⟨none, 0, rfl, Or.inl rfl⟩
  clear hb5 HB2 HX2
  go_wp2_with fail
  refine HC5.out.mono ?_
  rintro e w6 ⟨rfl, hb6⟩
  have HB6 : Hid (Below w.heap.size w w6) := below_trans HB5.out hb6
  clear hb6
  go_wp2
  go_ret
  exact ⟨rfl, HB6.out⟩
set_option maxRecDepth 100000 in
set_option maxHeartbeats 4000000 in
theorem finds_list (v u : Value) (ns : List Pl.Nd) (ix : List Pl.Er) (l : List Pl.D3) (w : World) (hp : PgAt w v ns ix) (hx : IxFit ix) (hl : A3 w u l) (hL : Laid w) (hE : pageErr ns ix = 0) (hC : chkList l ≠ 0) :
    Calls Tryz.prog 6 #[v, u] w fun e w' => e = .returned (.bool true) ∧ Below w.heap.size w w' := by
  have hfe : findErr ns ix l = chkList l := by unfold findErr; rw [if_pos hE]
  have hfa : findA ns ix l = [] := find_err (by rw [hfe]; exact hC)
  have hp0 := hp
  obtain ⟨a, c, a2, c2, rfl, hd, he⟩ := hp
  obtain ⟨al, cl, rfl, -⟩ := isL_3.form hl
  have HB0 : Hid (Below w.heap.size w (w.alloc (.cells #[.slice a ns.length c, .slice a2 ix.length c2] 59))) := on_alloc _ _
  obtain ⟨⟨s0, s1⟩, _⟩ := (Blk2.new w (.slice a ns.length c) (.slice a2 ix.length c2)).facts
  have H26 : Hid (∀ W, Below w.heap.size w W → Calls Tryz.prog 26 #[.agg #[.slice a ns.length c, .slice a2 ix.length c2], .slice al l.length cl] W fun e w' => ∃ a c, e = .returned (.tuple #[.slice a (([] : List Nat)).length c, .int .i64 (chkList l)]) ∧ IntsAt w' (.slice a (([] : List Nat)).length c) ((([] : List Nat)).map fun (k : Nat) => (k : Int)) ∧ Below W.heap.size W w') := fun W hW => by
    have := find_any _ _ ns ix l W (hp0.on hW) hx (isL_3.on hl hW) (hL.on hW)
    unfold FindSays at this
    rw [hfe, hfa] at this
    exact this
  have H27 : Hid (∀ W, Below w.heap.size w W → Calls Tryz.prog 27 #[.agg #[.slice a ns.length c, .slice a2 ix.length c2]] W fun e w' => e = .returned (.int .i64 (0)) ∧ Below W.heap.size W w') := fun W hW => by
    have := pageError_any _ ns ix W (hp0.on hW) hx
    rw [hE] at this
    exact this
  have H28 : Hid (∀ W, Below w.heap.size w W → Calls Tryz.prog 28 #[.slice al l.length cl] W fun e w' => e = .returned (.int .i64 (chkList l)) ∧ Below W.heap.size W w') := fun W hW => by
    have := refList_any W _ l (isL_3.on hl hW)
    exact this
  have H24 : Hid (∀ W, Below w.heap.size w W → Calls Tryz.prog 24 #[] W fun e w' => e = .returned (.bool true) ∧ Below W.heap.size W w') := fun W hW => ixbegun_any W (hL.on hW)
  have r1 : (chkList l == 0) = false := by simpa using hC
  have r2 : ¬ chkList l = 0 := hC
  clear hp0 hd he hl hL hfe hfa hx hE hC
  generalize chkList l = r at *
  go_enter Tryz.func6, Tryz.ntmps6
  go_wp2_with fail
  generalize w.alloc (.cells #[.slice a ns.length c, .slice a2 ix.length c2] 59) = w0 at *
  refine (H26.out _ HB0.out).mono ?_
  rintro e w1 ⟨ax, cx, rfl, hx1, hb1⟩
  have HB1 : Hid (Below w.heap.size w w1) := below_trans HB0.out hb1
  have t0 := cell_on hb1 s0
  have t1 := cell_on hb1 s1
  have HX1 : Hid (IntsAt w1 (.slice ax 0 cx) []) := hx1
  clear hx1 hb1 s0 s1 HB0
  go_wp2_with fail
  refine (H27.out _ HB1.out).mono ?_
  rintro e w2 ⟨rfl, hb2⟩
  have HB2 : Hid (Below w.heap.size w w2) := below_trans HB1.out hb2
  have x0 := cell_on hb2 t0
  have x1 := cell_on hb2 t1
  have HX2 : Hid (IntsAt w2 (.slice ax 0 cx) []) := HX1.out.on hb2
  clear hb2 t0 t1 HB1 HX1
  go_wp2_with fail
  refine (H28.out _ HB2.out).mono ?_
  rintro e w3 ⟨rfl, hb3⟩
  have HB3 : Hid (Below w.heap.size w w3) := below_trans HB2.out hb3
  have y0 := cell_on hb3 x0
  have y1 := cell_on hb3 x1
  have HX3 : Hid (IntsAt w3 (.slice ax 0 cx) []) := HX2.out.on hb3
  clear hb3 x0 x1 HB2 HX2
  go_wp2_with fail
  refine (H24.out _ HB3.out).mono ?_
  rintro e w5 ⟨rfl, hb5⟩
  have HB5 : Hid (Below w.heap.size w w5) := below_trans HB3.out hb5
  have HC5 : Hid (Calls Tryz.prog 19 _ _ _) := sameInts_eq (.slice ax 0 cx) (.slice none 0 0) [] w5 (by simp) (HX3.out.on hb5) ⟨none, 0, rfl, Or.inl rfl⟩
  clear hb5 HB3 HX3
  go_wp2_with fail
  refine HC5.out.mono ?_
  rintro e w6 ⟨rfl, hb6⟩
  have HB6 : Hid (Below w.heap.size w w6) := below_trans HB5.out hb6
  clear hb6
  go_wp2
  go_ret
  exact ⟨rfl, HB6.out⟩
set_option maxRecDepth 100000 in
set_option maxHeartbeats 4000000 in
theorem finds_yes (v u : Value) (ns : List Pl.Nd) (ix : List Pl.Er) (l : List Pl.D3) (w : World) (hp : PgAt w v ns ix) (hx : IxFit ix) (hl : A3 w u l) (hL : Laid w) (hE : pageErr ns ix = 0) (hC : chkList l = 0) :
    Calls Tryz.prog 6 #[v, u] w fun e w' => e = .returned (.bool true) ∧ Below w.heap.size w w' := by
  obtain ⟨hfe, hfa⟩ := find_all (ix := ix) hE hC
  have hp0 := hp
  obtain ⟨a, c, a2, c2, rfl, hd, he⟩ := hp
  obtain ⟨al, cl, rfl, -⟩ := isL_3.form hl
  obtain ⟨b, o, cv, e0, hRD, -, -, -⟩ := doc_parts hd (page_zero hE)
  injection e0 with e1 e2 e3
  subst e1 e3
  have HB0 : Hid (Below w.heap.size w (w.alloc (.cells #[.slice (some ⟨b, o, none⟩) ns.length c, .slice a2 ix.length c2] 59))) := on_alloc _ _
  obtain ⟨⟨s0, s1⟩, _⟩ := (Blk2.new w (.slice (some ⟨b, o, none⟩) ns.length c) (.slice a2 ix.length c2)).facts
  have H26 : Hid (∀ W, Below w.heap.size w W → Calls Tryz.prog 26 #[.agg #[.slice (some ⟨b, o, none⟩) ns.length c, .slice a2 ix.length c2], .slice al l.length cl] W fun e w' => ∃ a c, e = .returned (.tuple #[.slice a (allA ns l).length c, .int .i64 (0)]) ∧ IntsAt w' (.slice a (allA ns l).length c) ((allA ns l).map fun (k : Nat) => (k : Int)) ∧ Below W.heap.size W w') := fun W hW => by
    have := find_any _ _ ns ix l W (hp0.on hW) hx (isL_3.on hl hW) (hL.on hW)
    unfold FindSays at this
    rw [hfe, hfa] at this
    exact this
  have H27 : Hid (∀ W, Below w.heap.size w W → Calls Tryz.prog 27 #[.agg #[.slice (some ⟨b, o, none⟩) ns.length c, .slice a2 ix.length c2]] W fun e w' => e = .returned (.int .i64 (0)) ∧ Below W.heap.size W w') := fun W hW => by
    have := pageError_any _ ns ix W (hp0.on hW) hx
    rw [hE] at this
    exact this
  have H28 : Hid (∀ W, Below w.heap.size w W → Calls Tryz.prog 28 #[.slice al l.length cl] W fun e w' => e = .returned (.int .i64 (0)) ∧ Below W.heap.size W w') := fun W hW => by
    have := refList_any W _ l (isL_3.on hl hW)
    rw [hC] at this
    exact this
  have H16 : Hid (∀ W, Below w.heap.size w W → Calls Tryz.prog 16 #[.agg #[.slice (some ⟨b, o, none⟩) ns.length c], .slice al l.length cl] W fun e w' => ∃ a c, e = .returned (.slice a (allA ns l).length c) ∧ IntsAt w' (.slice a (allA ns l).length c) ((allA ns l).map fun (k : Nat) => (k : Int)) ∧ Below W.heap.size W w') := fun W hW => by
    refine (allOf_any b o c ns _ l W (hRD.on hW) (isL_3.on hl hW) ((R3_iff l).2 hC)).mono ?_
    rintro e w' ⟨x, rfl, hx, hb⟩
    have hal : allA ns l = allTo (m3 ns l) ns.length := by unfold allA chkBoth; rw [if_pos (page_zero hE), if_pos hC]
    rw [← hal] at hx
    have h1 := hx.ints
    obtain ⟨a, c, rfl, -⟩ := id hx
    exact ⟨a, c, rfl, h1, hb⟩
  have H64 : Hid (((allA ns l).map fun (k : Nat) => (k : Int)).length ≤ 64) := allA_len ns l
  have H24 : Hid (∀ W, Below w.heap.size w W → Calls Tryz.prog 24 #[] W fun e w' => e = .returned (.bool true) ∧ Below W.heap.size W w') := fun W hW => ixbegun_any W (hL.on hW)
  clear hp0 hd he hl hL hfe hfa hx hE hC hRD
  generalize allA ns l = aL at *
  go_enter Tryz.func6, Tryz.ntmps6
  go_wp2_with fail
  generalize w.alloc (.cells #[.slice (some ⟨b, o, none⟩) ns.length c, .slice a2 ix.length c2] 59) = w0 at *
  refine (H26.out _ HB0.out).mono ?_
  rintro e w1 ⟨ax, cx, rfl, hx1, hb1⟩
  have HB1 : Hid (Below w.heap.size w w1) := below_trans HB0.out hb1
  have t0 := cell_on hb1 s0
  have t1 := cell_on hb1 s1
  have HX1 : Hid (IntsAt w1 (.slice ax aL.length cx) (aL.map fun (k : Nat) => (k : Int))) := hx1
  clear hx1 hb1 s0 s1 HB0
  go_wp2_with fail
  refine (H27.out _ HB1.out).mono ?_
  rintro e w2 ⟨rfl, hb2⟩
  have HB2 : Hid (Below w.heap.size w w2) := below_trans HB1.out hb2
  have x0 := cell_on hb2 t0
  have x1 := cell_on hb2 t1
  have HX2 : Hid (IntsAt w2 (.slice ax aL.length cx) (aL.map fun (k : Nat) => (k : Int))) := HX1.out.on hb2
  clear hb2 t0 t1 HB1 HX1
  go_wp2_with fail
  refine (H28.out _ HB2.out).mono ?_
  rintro e w3 ⟨rfl, hb3⟩
  have HB3 : Hid (Below w.heap.size w w3) := below_trans HB2.out hb3
  have y0 := cell_on hb3 x0
  have y1 := cell_on hb3 x1
  have HX3 : Hid (IntsAt w3 (.slice ax aL.length cx) (aL.map fun (k : Nat) => (k : Int))) := HX2.out.on hb3
  clear hb3 x0 x1 HB2 HX2
  go_wp2_with fail
  refine (H16.out _ HB3.out).mono ?_
  rintro e w4 ⟨ay, cy, rfl, hy4, hb4⟩
  have HB4 : Hid (Below w.heap.size w w4) := below_trans HB3.out hb4
  have HX4 : Hid (IntsAt w4 (.slice ax aL.length cx) (aL.map fun (k : Nat) => (k : Int))) := HX3.out.on hb4
  have HY4 : Hid (IntsAt w4 (.slice ay aL.length cy) (aL.map fun (k : Nat) => (k : Int))) := hy4
  clear hb4 hy4 y0 y1 HB3 HX3
  go_wp2_with fail
  refine (H24.out _ HB4.out).mono ?_
  rintro e w5 ⟨rfl, hb5⟩
  have HB5 : Hid (Below w.heap.size w w5) := below_trans HB4.out hb5
  have HC5 : Hid (Calls Tryz.prog 19 _ _ _) := sameInts_eq _ _ _ w5 H64.out (HX4.out.on hb5) (HY4.out.on hb5)
  clear hb5 HB4 HX4
  go_wp2_with fail
  refine HC5.out.mono ?_
  rintro e w6 ⟨rfl, hb6⟩
  have HB6 : Hid (Below w.heap.size w w6) := below_trans HB5.out hb6
  clear hb6
  go_wp2
  go_ret
  exact ⟨rfl, HB6.out⟩
theorem finds_law (v u : Value) (ns : List Pl.Nd) (ix : List Pl.Er) (l : List Pl.D3) (w : World) (hp : PgAt w v ns ix) (hx : IxFit ix) (hl : A3 w u l) (hL : Laid w) :
    Calls Tryz.prog 6 #[v, u] w fun e w' => e = .returned (.bool true) ∧ Below w.heap.size w w' := by
  by_cases hE : pageErr ns ix = 0
  · by_cases hC : chkList l = 0
    · exact finds_yes v u ns ix l w hp hx hl hL hE hC
    · exact finds_list v u ns ix l w hp hx hl hL hE hC
  · exact finds_page v u ns ix l w hp hx hl hL hE
end Go.Proofs.YtagobgjlhdbhmaaGreatDoor
/-
  A page among the arguments of a law; an element too.
-/
namespace Go.Proofs.YtagobgjlhdbhmaaGreatDoor
open Go.RowKit

theorem cl55 : Tryz.prog.cellsOf 38 = 1 := by kernel_rfl
theorem cl25 : Tryz.prog.cellsOf 48 = 1 := by kernel_rfl
theorem cl24 : Tryz.prog.cellsOf 24 = 1 := by kernel_rfl
theorem cl27 : Tryz.prog.cellsOf 59 = 2 := by kernel_rfl
theorem cl81 : Tryz.prog.cellsOf 55 = 3 := by kernel_rfl
theorem list3 {α : Type} {l : List α} (h : l.length = 3) : ∃ a b c, l = [a, b, c] := by
  rcases l with _ | ⟨a, _ | ⟨b, _ | ⟨c, _ | ⟨d, r⟩⟩⟩⟩
  all_goals first | exact ⟨_, _, _, rfl⟩ | (simp at h; done) | (simp at h; omega)
section
variable {H : Type} {enc : TypeId × Value → H} {W : World} {held : Bool} {fuel : Nat} {cs : List Value} {x : DataW H × List MemPlace}
theorem ints_open (h : DataW.trod enc Tryz.prog W 0 (fun _ => true) held fuel 38 cs = some x) : ∃ v ks, cs = [v] ∧ IntsAt W v ks ∧ ks.length ≤ maxLen := by
  rcases ChangeShapes.open_ints Tryz.underlying38 Tryz.underlying3 cl3 h with ⟨rfl, _⟩ | ⟨a, len, cap, ss, rfl, _, hl, hm, hlen, _, hc, _⟩
  · exact ⟨_, [], rfl, ⟨none, 0, rfl, Or.inl rfl⟩, by simp⟩
  · simp at hlen
    have hL : (ss.take len).length = len := by simp; omega
    refine ⟨_, ss.take len, rfl, ⟨some a, cap, by rw [hL], ?_⟩, by omega⟩
    rcases Nat.eq_zero_or_pos len with h0 | h0
    · left; subst h0; simp
    · right
      have ha := addr_of (by have := hc 0 (by omega); rwa [add_zero] at this)
      refine ⟨a.block, a.off, by rw [← ha], fun i hi => ?_⟩
      rw [hL] at hi
      have := hc i (by omega)
      rw [ha, Addr.add_lit] at this
      rw [this]
      simp [List.getD, List.getElem?_eq_getElem (show i < ss.length by omega)]
theorem entry_open {b o n : Nat} {cs' : List Value} {y : DataW H × List MemPlace} (hb : ∀ i, i < 3 → W.cell? ⟨b, o + i, none⟩ = cs'[i]?) (h : DataW.trod enc Tryz.prog W 0 (fun _ => true) held n 55 cs' = some y) : ∃ e : Pl.Er, EnAt W b o e ∧ e.2.length ≤ maxLen := by
  obtain ⟨xs, m, _, _, hl, hlen, hf⟩ := DataW.trod_struct Tryz.underlying55 h
  rw [cl81] at hl
  obtain ⟨v0, v1, v2, rfl⟩ := list3 hl
  obtain ⟨y0, y1, y2, rfl⟩ := list3 hlen
  have f0 : DataW.trod enc Tryz.prog W 0 (fun _ => true) held m 3 (([v0, v1, v2].drop 0).take (Tryz.prog.cellsOf 3)) = some y0 := hf 0 _ rfl
  rw [cl3] at f0
  replace f0 : DataW.trod enc Tryz.prog W 0 (fun _ => true) held m 3 [v0] = some y0 := f0
  have f1 : DataW.trod enc Tryz.prog W 0 (fun _ => true) held m 9 (([v0, v1, v2].drop 1).take (Tryz.prog.cellsOf 9)) = some y1 := hf 1 _ rfl
  rw [cl9] at f1
  replace f1 : DataW.trod enc Tryz.prog W 0 (fun _ => true) held m 9 [v1] = some y1 := f1
  have f2 : DataW.trod enc Tryz.prog W 0 (fun _ => true) held m 38 (([v0, v1, v2].drop 2).take (Tryz.prog.cellsOf 38)) = some y2 := hf 2 _ rfl
  rw [cl55] at f2
  replace f2 : DataW.trod enc Tryz.prog W 0 (fun _ => true) held m 38 [v2] = some y2 := f2
  obtain ⟨k, e0, _, _⟩ := DataW.trod_int Tryz.underlying3 f0
  obtain ⟨s1, e1, _, _⟩ := DataW.trod_string Tryz.underlying9 f1
  obtain ⟨w2, ks, e2, hs, ls⟩ := ints_open f2
  injection e0 with e0 _
  injection e1 with e1 _
  injection e2 with e2 _
  subst e0 e1 e2
  exact ⟨((k, s1.data.toList), ks), ⟨v2, hb 0 (by omega), hb 1 (by omega), hb 2 (by omega), hs⟩, ls⟩
instance : Inhabited Pl.Er := ⟨((0, []), [])⟩
theorem ens_open (h : DataW.trod enc Tryz.prog W 0 (fun _ => true) held fuel 48 cs = some x) : ∃ v l, cs = [v] ∧ EnsAt W v l ∧ IxFit l := by
  rcases Deep.open_slice Tryz.underlying48 h with ⟨rfl, _⟩ | ⟨a, len, cap, m, n, D, PL, rfl, _, hl, hm, hmm, _, hc⟩
  · exact ⟨_, [], rfl, EnsAt.nil W, by simp, by simp⟩
  · simp at hmm
    rcases Nat.eq_zero_or_pos len with h0 | h0
    · subst h0
      exact ⟨_, [], rfl, ⟨some a, cap, rfl, Or.inl rfl⟩, by simp, by simp⟩
    have hcell : ∀ i, i < len → ∃ cs' : List Value, (∀ j, j < 3 → W.cell? ((a.add (i * 3)).add j) = cs'[j]?) ∧ ∃ y, DataW.trod enc Tryz.prog W 0 (fun _ => true) held n 55 cs' = some y := by
      intro i hi
      obtain ⟨cs', h1, h2⟩ := hc i (by omega)
      rw [cl81] at h1
      obtain ⟨_, h4, h3⟩ := World.cells?_some h1
      exact ⟨cs', fun j hj => h3 j hj, _, h2⟩
    have ha : a = ⟨a.block, a.off, none⟩ := by
      obtain ⟨cs', h1, y, h2⟩ := hcell 0 h0
      obtain ⟨_, _, _, _, hl5, _⟩ := DataW.trod_struct Tryz.underlying55 h2
      rw [cl81] at hl5
      have h3 := h1 0 (by omega)
      rw [Nat.zero_mul, add_zero, add_zero, List.getElem?_eq_getElem (by omega)] at h3
      exact addr_of h3
    have hex : ∀ i, i < len → ∃ e : Pl.Er, EnAt W a.block (a.off + i * 3) e ∧ e.2.length ≤ maxLen := by
      intro i hi
      obtain ⟨cs', h1, y, h2⟩ := hcell i hi
      refine entry_open (fun j hj => ?_) h2
      have := h1 j hj
      rw [ha, Addr.add_lit, Addr.add_lit] at this
      exact this
    obtain ⟨f, hf⟩ := Deep.choose_lt hex
    have hL : ((List.range len).map f).length = len := by simp
    refine ⟨_, (List.range len).map f, rfl, ⟨some a, cap, by rw [hL], Or.inr ⟨a.block, a.off, by rw [← ha], fun i hi => ?_⟩⟩, by omega, fun e he => ?_⟩
    · rw [hL] at hi
      simp only [List.getElem_map, List.getElem_range]
      exact (hf i hi).1
    · obtain ⟨i, hi, rfl⟩ := List.mem_map.1 he
      exact (hf i (List.mem_range.1 hi)).2
end
end Go.Proofs.YtagobgjlhdbhmaaGreatDoor
namespace Go.Proofs.YtagobgjlhdbhmaaGreatDoor
open Go.ChangeShapes Go.WideShapes Go.ChangeAt Go.RowKit Go.Joins

set_option maxRecDepth 100000 in
/-- a page among the arguments -/
theorem page_open {H : Type} {enc : TypeId × Value → H} {W : World} {r : Reach} {b0 : Nat} {v : Value} {d : DataW H} {p : List MemPlace} (hv : Value.okWide Tryz.prog W r b0 59 v) (h : DataW.Trod enc Tryz.prog W 0 (fun _ => true) true 59 v d p) : ∃ ns l, PgAt W v ns l ∧ IxFit l := by
  obtain ⟨cs, rfl, _⟩ := okWide_struct Tryz.underlying59 hv
  obtain ⟨fuel, hf0⟩ := h
  have hf1 : DataW.trod enc Tryz.prog W 0 (fun _ => true) true fuel 59 cs.toList = some (d, p) := hf0
  obtain ⟨l⟩ := cs
  obtain ⟨xs, m, _, _, hl, hlen, hf⟩ := DataW.trod_struct Tryz.underlying59 hf1
  rw [cl27] at hl
  obtain ⟨v0, v1, rfl⟩ := list2 hl
  obtain ⟨y0, y1, rfl⟩ := list2 hlen
  have f0 : DataW.trod enc Tryz.prog W 0 (fun _ => true) true m 24 (([v0, v1].drop 0).take (Tryz.prog.cellsOf 24)) = some y0 := hf 0 _ rfl
  rw [cl24] at f0
  replace f0 : DataW.trod enc Tryz.prog W 0 (fun _ => true) true m 24 [v0] = some y0 := f0
  have f1 : DataW.trod enc Tryz.prog W 0 (fun _ => true) true m 48 (([v0, v1].drop 1).take (Tryz.prog.cellsOf 48)) = some y1 := hf 1 _ rfl
  rw [cl25] at f1
  replace f1 : DataW.trod enc Tryz.prog W 0 (fun _ => true) true m 48 [v1] = some y1 := f1
  obtain ⟨y2, n2, _, _, h2⟩ := trod_struct1 Tryz.underlying24 f0
  have h3 : DataW.trod enc Tryz.prog W 0 (fun _ => true) true n2 22 (([v0].drop 0).take (Tryz.prog.cellsOf 22)) = some y2 := h2
  rw [d_cl22] at h3
  obtain ⟨u0, ns, e0, hd⟩ := nds_open h3
  obtain ⟨u1, l, e1, he, hx⟩ := ens_open f1
  injection e0 with e0 _
  injection e1 with e1 _
  subst e0 e1
  obtain ⟨a, c, rfl⟩ := hd.form
  obtain ⟨a2, c2, rfl⟩ := he.form
  exact ⟨ns, l, ⟨a, c, a2, c2, rfl, hd, he⟩, hx⟩
end Go.Proofs.YtagobgjlhdbhmaaGreatDoor
