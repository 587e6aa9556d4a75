/-
  PlainTells, walked: what Size, Once and Plain answer is what the document says.
-/
import Derived.Test.YtephhllfodlfbaaDoorBgA
import Derived.Test.YtephhllfodlfbaaDoorDzA
import Derived.Test.YtephhllfodlfbaaDoorRcE
namespace Go.Proofs.YtephhllfodlfbaaDoor
open Go.RowKit

theorem sub3 : IsSub A3 := isSub_up (isSub_up (isSub_up isSub_z))
theorem ptPlain (l m : List Pl.D3) (u : Value) (W : World) (hl : A3 W u l) (hL : FormsAt W) (er : Int) (hm : plainOfL l = m) (he : chkList l = er) : Calls Tryd.prog 6 #[u] W fun e w' => ∃ a c, e = .returned (.tuple #[.slice a m.length c, .int .i64 er]) ∧ A3 w' (.slice a m.length c) m ∧ Below W.heap.size W w' := by
  subst hm he
  refine (plainPlain_any W u l hl hL).mono ?_
  rintro e w' ⟨a, c, rfl, h, hb⟩
  exact ⟨a, c, rfl, sub3.sub h (incl_real _ _), hb⟩
theorem ptOnce (l m : List Pl.D3) (u : Value) (W : World) (hl : A3 W u l) (hL : FormsAt W) (er : Int) (hm : onceOfL l = m) (he : chkList l = er) : Calls Tryd.prog 5 #[u] W fun e w' => ∃ a c, e = .returned (.tuple #[.slice a m.length c, .int .i64 er]) ∧ A3 w' (.slice a m.length c) m ∧ Below W.heap.size W w' := by
  subst hm he
  refine (plainOnce_any W u l hl hL).mono ?_
  rintro e w' ⟨a, c, rfl, h, hb⟩
  exact ⟨a, c, rfl, sub3.sub h (incl_real _ _), hb⟩
theorem ptSize (l : List Pl.D3) (n : Nat) (u : Value) (W : World) (hl : A3 W u l) (hL : FormsAt W) (er : Int) (hm : sizeOfL l = n) (he : chkList l = er) : Calls Tryd.prog 4 #[u] W fun e w' => e = .returned (.tuple #[.int .i64 n, .int .i64 er]) ∧ Below W.heap.size W w' := by
  subst hm he
  exact plainSize_any W u l hl hL
theorem ptCheck (l : List Pl.D3) (u : Value) (W : World) (hl : A3 W u l) (er : Int) (he : chkList l = er) : Calls Tryd.prog 7 #[u] W fun e w' => e = .returned (.int .i64 er) ∧ Below W.heap.size W w' := by
  subst he
  exact refList_any W u l hl
theorem L3W_nil : Pl.L3.W [] := ⟨by simp, fun p hp => by simp at hp⟩
set_option maxRecDepth 100000 in
set_option maxHeartbeats 16000000 in
theorem ptells_bad (u : Value) (l : List Pl.D3) (w : World) (hl : A3 w u l) (hL : FormsAt w) (h0 : ¬ chkList l = 0) : Calls Tryd.prog 3 #[u] w fun e w' => e = .returned (.bool true) ∧ Below w.heap.size w w' := by
  obtain ⟨al, cl, rfl, -⟩ := isL_3.form hl
  obtain ⟨er, her⟩ : ∃ q, chkList l = q := ⟨_, rfl⟩
  have HE : Hid (chkList l = er) := her
  have HL : Hid (FormsAt w) := hL
  have HLl : Hid (A3 w (.slice al l.length cl) l) := hl
  have HSZ : Hid (sizeOfL l = 0) := by unfold Hid sizeOfL; rw [if_neg h0]
  have HON : Hid (onceOfL l = []) := by unfold Hid onceOfL; rw [if_neg h0]
  have HPL : Hid (plainOfL l = []) := by unfold Hid plainOfL; rw [if_neg h0]
  have hne : (er == 0) = false := by rw [← her]; simpa using h0
  have HC1 : Hid (Calls Tryd.prog 4 _ _ _) := ptSize l 0 _ w hl hL er HSZ.out her
  clear hl hL h0 her
  go_enter Tryd.func3, Tryd.ntmps3
  go_wp2_with fail
  refine HC1.out.mono ?_
  rintro e w1 ⟨rfl, hb1⟩
  have HB1 : Hid (Below w.heap.size w w1) := hb1
  have HC2 : Hid (Calls Tryd.prog 5 _ _ _) := ptOnce l [] _ w1 (isL_3.on HLl.out hb1) (HL.out.on hb1) er HON.out HE.out
  clear hb1 HC1
  go_wp2_with fail
  refine HC2.out.mono ?_
  rintro e w2 ⟨ao, co, rfl, h2, hb2⟩
  have HO2 : Hid (A3 w2 (.slice ao 0 co) []) := h2
  have HB2 : Hid (Below w.heap.size w w2) := below_trans HB1.out hb2
  have HC3 : Hid (Calls Tryd.prog 6 _ _ _) := ptPlain l [] _ w2 (isL_3.on HLl.out HB2.out) (HL.out.on HB2.out) er HPL.out HE.out
  clear h2 hb2 HC2 HB1
  go_wp2_with fail
  refine HC3.out.mono ?_
  rintro e w3 ⟨ap, cp, rfl, h3, hb3⟩
  have HP3 : Hid (A3 w3 (.slice ap 0 cp) []) := h3
  have HO3 : Hid (A3 w3 (.slice ao 0 co) []) := isL_3.on HO2.out hb3
  have HB3 : Hid (Below w.heap.size w w3) := below_trans HB2.out hb3
  have HC4 : Hid (Calls Tryd.prog 7 _ _ _) := ptCheck l _ w3 (isL_3.on HLl.out HB3.out) er HE.out
  clear h3 hb3 HC3 HB2 HO2
  go_wp2_with fail
  refine HC4.out.mono ?_
  rintro e w4 ⟨rfl, hb4⟩
  have HP4 : Hid (A3 w4 (.slice ap 0 cp) []) := isL_3.on HP3.out hb4
  have HO4 : Hid (A3 w4 (.slice ao 0 co) []) := isL_3.on HO3.out hb4
  have HB4 : Hid (Below w.heap.size w w4) := below_trans HB3.out hb4
  have HC5 : Hid (Calls Tryd.prog 11 _ _ _) := plainBegun_any w4 (HL.out.on HB4.out)
  clear hb4 HC4 HB3 HO3 HP3
  go_wp2_with fail
  refine HC5.out.mono ?_
  rintro e w5 ⟨rfl, hb5⟩
  have HP5 : Hid (A3 w5 (.slice ap 0 cp) []) := isL_3.on HP4.out hb5
  have HB5 : Hid (Below w.heap.size w w5) := below_trans HB4.out hb5
  have HC6 : Hid (Calls Tryd.prog 12 _ _ _) := dSameL_3 w5 _ _ [] [] (isL_3.on HO4.out hb5) (isL_3.nil w5) L3W_nil L3W_nil
  have hs : sm ([] : List Pl.D3) [] = true := by unfold sm; simp
  rw [hs] at HC6
  clear hb5 HC5 HB4 HO4 HP4
  go_wp2_with fail
  refine HC6.out.mono ?_
  rintro e w6 ⟨rfl, hb6⟩
  have HB6 : Hid (Below w.heap.size w w6) := below_trans HB5.out hb6
  have HC7 : Hid (Calls Tryd.prog 12 _ _ _) := dSameL_3 w6 _ _ [] [] (isL_3.on HP5.out hb6) (isL_3.nil w6) L3W_nil L3W_nil
  rw [hs] at HC7
  clear hb6 HC6 HB5 HP5 hs
  go_wp2_with fail
  refine HC7.out.mono ?_
  rintro e w7 ⟨rfl, hb7⟩
  have HB7 : Hid (Below w.heap.size w w7) := below_trans HB6.out hb7
  clear hb7 HC7
  go_wp2
  go_ret
  exact ⟨rfl, HB7.out⟩
set_option maxRecDepth 100000 in
set_option maxHeartbeats 16000000 in
theorem ptells_good (u : Value) (l o m : List Pl.D3) (n : Nat) (w : World) (hl : A3 w u l) (hL : FormsAt w) (h0 : chkList l = 0) (hSz : sizeOfL l = n) (hOn : onceOfL l = o) (hPl : plainOfL l = m) (hWl : Pl.L3.W l) (hWo : Pl.L3.W o) (hWm : Pl.L3.W m) (hsz : Pl.L3.z l = n) (ho : Pl.L3.f l = o) (hm : Pl.plain3 l = m) : Calls Tryd.prog 3 #[u] w fun e w' => e = .returned (.bool true) ∧ Below w.heap.size w w' := by
  obtain ⟨al, cl, rfl, -⟩ := isL_3.form hl
  have HE : Hid (chkList l = 0) := h0
  have HL : Hid (FormsAt w) := hL
  have HLl : Hid (A3 w (.slice al l.length cl) l) := hl
  have HON : Hid (onceOfL l = o) := hOn
  have HPL : Hid (plainOfL l = m) := hPl
  have HWL : Hid (Pl.L3.W l) := hWl
  have HWO : Hid (Pl.L3.W o) := hWo
  have HWM : Hid (Pl.L3.W m) := hWm
  have HC1 : Hid (Calls Tryd.prog 4 _ _ _) := ptSize l n _ w hl hL 0 hSz h0
  have HD1 : Hid (∀ W, Below w.heap.size w W → Calls Tryd.prog 8 #[.slice al l.length cl] W fun e w' => e = .returned (.int .i64 n) ∧ Below W.heap.size W w') := fun W hb => by
    have := sizeOf_3 W _ l (isL_3.on hl hb) hWl
    rw [hsz] at this
    exact this
  have HD2 : Hid (∀ W, Below w.heap.size w W → Calls Tryd.prog 9 #[.slice al l.length cl] W fun e w' => ∃ a c, e = .returned (.slice a o.length c) ∧ A3 w' (.slice a o.length c) o ∧ Below W.heap.size W w') := fun W hb => by
    refine (dPlC_3 W _ l (isL_3.on hl hb) hWl).mono ?_
    rw [ho]
    rintro e w' ⟨a, c, rfl, h, hb⟩
    exact ⟨a, c, rfl, sub3.sub h (incl_real _ _), hb⟩
  have HD3 : Hid (∀ W, Below w.heap.size w W → Calls Tryd.prog 10 #[.slice al l.length cl] W fun e w' => ∃ a c, e = .returned (.slice a m.length c) ∧ A3 w' (.slice a m.length c) m ∧ Below W.heap.size W w') := fun W hb => by
    refine (plainOf_any dPlC_3 W _ l (isL_3.on hl hb) hWl).mono ?_
    rw [hm]
    rintro e w' ⟨a, c, rfl, h, hb⟩
    exact ⟨a, c, rfl, sub3.sub h (incl_real _ _), hb⟩
  clear hl hL h0 hSz hOn hPl hWl hWo hWm hsz ho hm
  go_enter Tryd.func3, Tryd.ntmps3
  go_wp2_with fail
  refine HC1.out.mono ?_
  rintro e w1 ⟨rfl, hb1⟩
  have HB1 : Hid (Below w.heap.size w w1) := hb1
  have HC2 : Hid (Calls Tryd.prog 5 _ _ _) := ptOnce l o _ w1 (isL_3.on HLl.out hb1) (HL.out.on hb1) 0 HON.out HE.out
  clear hb1 HC1
  go_wp2_with fail
  refine HC2.out.mono ?_
  rintro e w2 ⟨ao, co, rfl, h2, hb2⟩
  have HO2 : Hid (A3 w2 (.slice ao o.length co) o) := h2
  have HB2 : Hid (Below w.heap.size w w2) := below_trans HB1.out hb2
  have HC3 : Hid (Calls Tryd.prog 6 _ _ _) := ptPlain l m _ w2 (isL_3.on HLl.out HB2.out) (HL.out.on HB2.out) 0 HPL.out HE.out
  clear h2 hb2 HC2 HB1
  go_wp2_with fail
  refine HC3.out.mono ?_
  rintro e w3 ⟨ap, cp, rfl, h3, hb3⟩
  have HP3 : Hid (A3 w3 (.slice ap m.length cp) m) := h3
  have HO3 : Hid (A3 w3 (.slice ao o.length co) o) := isL_3.on HO2.out hb3
  have HB3 : Hid (Below w.heap.size w w3) := below_trans HB2.out hb3
  have HC4 : Hid (Calls Tryd.prog 7 _ _ _) := ptCheck l _ w3 (isL_3.on HLl.out HB3.out) 0 HE.out
  clear h3 hb3 HC3 HB2 HO2
  go_wp2_with fail
  refine HC4.out.mono ?_
  rintro e w4 ⟨rfl, hb4⟩
  have HP4 : Hid (A3 w4 (.slice ap m.length cp) m) := isL_3.on HP3.out hb4
  have HO4 : Hid (A3 w4 (.slice ao o.length co) o) := isL_3.on HO3.out hb4
  have HB4 : Hid (Below w.heap.size w w4) := below_trans HB3.out hb4
  have HC5 : Hid (Calls Tryd.prog 8 _ _ _) := HD1.out w4 HB4.out
  clear hb4 HC4 HB3 HO3 HP3
  go_wp2_with fail
  refine HC5.out.mono ?_
  rintro e w5 ⟨rfl, hb5⟩
  have HP5 : Hid (A3 w5 (.slice ap m.length cp) m) := isL_3.on HP4.out hb5
  have HO5 : Hid (A3 w5 (.slice ao o.length co) o) := isL_3.on HO4.out hb5
  have HB5 : Hid (Below w.heap.size w w5) := below_trans HB4.out hb5
  have HC6 : Hid (Calls Tryd.prog 9 _ _ _) := HD2.out w5 HB5.out
  clear hb5 HC5 HB4 HO4 HP4
  go_wp2_with fail
  refine HC6.out.mono ?_
  rintro e w6 ⟨ar, cr, rfl, h6, hb6⟩
  have HP6 : Hid (A3 w6 (.slice ap m.length cp) m) := isL_3.on HP5.out hb6
  have HO6 : Hid (A3 w6 (.slice ao o.length co) o) := isL_3.on HO5.out hb6
  have HR6 : Hid (A3 w6 (.slice ar o.length cr) o) := h6
  have HB6 : Hid (Below w.heap.size w w6) := below_trans HB5.out hb6
  have HC7 : Hid (Calls Tryd.prog 10 _ _ _) := HD3.out w6 HB6.out
  clear h6 hb6 HC6 HB5 HO5 HP5
  go_wp2_with fail
  refine HC7.out.mono ?_
  rintro e w7 ⟨aq, cq, rfl, h7, hb7⟩
  have HP7 : Hid (A3 w7 (.slice ap m.length cp) m) := isL_3.on HP6.out hb7
  have HO7 : Hid (A3 w7 (.slice ao o.length co) o) := isL_3.on HO6.out hb7
  have HR7 : Hid (A3 w7 (.slice ar o.length cr) o) := isL_3.on HR6.out hb7
  have HQ7 : Hid (A3 w7 (.slice aq m.length cq) m) := h7
  have HB7 : Hid (Below w.heap.size w w7) := below_trans HB6.out hb7
  have HC8 : Hid (Calls Tryd.prog 11 _ _ _) := plainBegun_any w7 (HL.out.on HB7.out)
  clear h7 hb7 HC7 HB6 HO6 HP6 HR6
  go_wp2_with fail
  refine HC8.out.mono ?_
  rintro e w8 ⟨rfl, hb8⟩
  have HP8 : Hid (A3 w8 (.slice ap m.length cp) m) := isL_3.on HP7.out hb8
  have HQ8 : Hid (A3 w8 (.slice aq m.length cq) m) := isL_3.on HQ7.out hb8
  have HB8 : Hid (Below w.heap.size w w8) := below_trans HB7.out hb8
  have HC9 : Hid (Calls Tryd.prog 12 _ _ _) := dSameL_3 w8 _ _ o o (isL_3.on HO7.out hb8) (isL_3.on HR7.out hb8) HWO.out HWO.out
  have hs : sm o o = true := by unfold sm; simp
  rw [hs] at HC9
  clear hb8 HC8 HB7 HO7 HP7 HR7 HQ7 hs
  go_wp2_with fail
  refine HC9.out.mono ?_
  rintro e w9 ⟨rfl, hb9⟩
  have HB9 : Hid (Below w.heap.size w w9) := below_trans HB8.out hb9
  have HC10 : Hid (Calls Tryd.prog 12 _ _ _) := dSameL_3 w9 _ _ m m (isL_3.on HP8.out hb9) (isL_3.on HQ8.out hb9) HWM.out HWM.out
  have hs : sm m m = true := by unfold sm; simp
  rw [hs] at HC10
  clear hb9 HC9 HB8 HP8 HQ8 hs
  go_wp2_with fail
  refine HC10.out.mono ?_
  rintro e w10 ⟨rfl, hb10⟩
  have HB10 : Hid (Below w.heap.size w w10) := below_trans HB9.out hb10
  clear hb10 HC10
  go_wp2
  go_ret
  exact ⟨rfl, HB10.out⟩
theorem ptells_law (u : Value) (l : List Pl.D3) (w : World) (hl : A3 w u l) (hL : FormsAt w) : Calls Tryd.prog 3 #[u] w fun e w' => e = .returned (.bool true) ∧ Below w.heap.size w w' := by
  by_cases h0 : chkList l = 0
  · have hw : Pl.W3 l := W3_of h0
    obtain ⟨f1, f2, f3⟩ := Pl.plain_fix _ l hw (Nat.le_refl _)
    exact ptells_good u l (Pl.once3 l) (Pl.plain3 l) (Pl.size3 l) w hl hL h0 (by unfold sizeOfL; rw [if_pos h0]) (by unfold onceOfL; rw [if_pos h0]) (by unfold plainOfL; rw [if_pos h0]) hw (Pl.once_ok hw) f2 rfl rfl rfl
  · exact ptells_bad u l w hl hL h0
end Go.Proofs.YtephhllfodlfbaaDoor
