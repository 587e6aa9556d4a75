/-
  PathBack: the law.
-/
import Derived.Test.YtbfkopjpfkgjhaaGreatDoorBgC
namespace Go.Proofs.YtbfkopjpfkgjhaaGreatDoor
open Go.RowKit

theorem Laid.lf {w : World} (h : Laid w) : Lf w := ⟨h.forms, h.links⟩
theorem shown_of {s : List UInt8} {l : List Pl.D3} (h : Pl.rdAll s = some l) : showOf l = s ∧ chkList l = 0 := by
  obtain ⟨h1, h2⟩ := (all_iff s l).1 h
  unfold showOf
  rw [if_pos h1]
  exact ⟨h2, h1⟩
theorem read_cases (s : List UInt8) : (readErr s = 1) ∨ (readErr s = 0 ∧ chkList (readLs s) = 0 ∧ showOf (readLs s) = s) := by
  cases h : Pl.rdAll s with
  | none => exact Or.inl (read_no h).1
  | some l =>
    have a := read_yes h
    have b := shown_of h
    rw [a.1, a.2]
    exact Or.inr ⟨rfl, b.2, b.1⟩
set_option maxRecDepth 100000 in
set_option maxHeartbeats 4000000 in
theorem back_law (v : Value) (l : List Pl.D3) (s : List UInt8) (w : World) (h : A3 w v l) (hs : s.length ≤ maxLen) (hL : Laid w) :
    Calls Tryz.prog 5 #[v, .string ⟨s.toArray⟩] w fun e w' => e = .returned (.bool true) ∧ Below w.heap.size w w' := by
  obtain ⟨a, c, rfl, -⟩ := isL_3.form h
  have HH : Hid (A3 w (.slice a l.length c) l) := h
  have HL : Hid (Laid w) := hL
  have HSL : Hid (s.length ≤ maxLen) := hs
  have hcon := show_any _ l w h hL
  obtain ⟨E, hE⟩ : ∃ E, E = chkList l := ⟨_, rfl⟩
  obtain ⟨t, ht⟩ : ∃ t, t = showOf l := ⟨_, rfl⟩
  rw [← hE, ← ht] at hcon
  have HE : Hid (E = chkList l) := hE
  have HT : Hid (t = showOf l) := ht
  have HC : Hid (Calls Tryz.prog 6 _ _ _) := hcon
  clear hcon hE ht h hs hL
  have HRS : Hid (∀ W : World, Laid W → Calls Tryz.prog 9 #[.string ⟨s.toArray⟩] W (ReadSays s W)) := fun W hW => read_any s W HSL.out hW.lf
  have HR : Hid (_ ∨ _) := read_cases s
  go_enter Tryz.func5, Tryz.ntmps5
  go_wp2_with fail
  refine HC.out.mono ?_
  rintro e w1 ⟨rfl, hb1⟩
  have HB1 : Hid (Below w.heap.size w w1) := hb1
  clear hb1 HC
  cases hz : (E == 0) with
  | false =>
    clear HH HE HT
    go_wp2_with fail
    refine (HRS.out _ (HL.out.on HB1.out)).mono ?_
    rintro e w4 ⟨au, cu, rfl, ha, hb4⟩
    have HB4 : Hid (Below w.heap.size w w4) := below_trans HB1.out hb4
    have HA4 : Hid (A3 w4 (.slice au (readLs s).length cu) (readLs s)) := ha
    clear ha hb4 HB1
    rcases HR.out with hG | ⟨hG, hy, hsy⟩
    · rw [hG]
      clear hG HA4
      generalize (readLs s).length = N at *
      go_wp2_with fail
      refine (begun_any _ (HL.out.on HB4.out)).mono ?_
      rintro e w5 ⟨rfl, hb5⟩
      have HB5 : Hid (Below w.heap.size w w5) := below_trans HB4.out hb5
      clear hb5
      go_wp2
      go_ret
      exact ⟨rfl, HB5.out⟩
    · rw [hG]
      have hcon := show_any _ _ w4 HA4.out (HL.out.on HB4.out)
      rw [hy, hsy] at hcon
      have HC : Hid (Calls Tryz.prog 6 _ _ _) := hcon
      clear hcon hG hy hsy HA4
      generalize (readLs s).length = N at *
      go_wp2_with fail
      refine HC.out.mono ?_
      rintro e w5 ⟨rfl, hb5⟩
      have HB5 : Hid (Below w.heap.size w w5) := below_trans HB4.out hb5
      clear hb5 HB4 HC
      go_wp2_with fail
      refine (begun_any _ (HL.out.on HB5.out)).mono ?_
      rintro e w6 ⟨rfl, hb6⟩
      have HB6 : Hid (Below w.heap.size w w6) := below_trans HB5.out hb6
      clear hb6 HB5
      go_wp2
      go_ret
      exact ⟨rfl, HB6.out⟩
  | true =>
    have hz0 : chkList l = 0 := HE.out.symm.trans (by simpa using hz)
    have hts : t = Pl.sh3 l := by
      rw [HT.out]
      unfold showOf
      rw [if_pos hz0]
    have hall : Pl.rdAll t = some l := by rw [hts]; exact all_full hz0
    have HRT : Hid (Calls Tryz.prog 9 #[.string ⟨t.toArray⟩] w1 (ReadSays t w1)) := read_any t w1 (by rw [hts]; have := sh3_len hz0; unfold maxLen; omega) (HL.out.on HB1.out).lf
    have HRY : Hid (readErr t = 0 ∧ readLs t = l) := read_yes hall
    have HOK : Hid (InnerA okN2 l) := okN_chk hz0
    clear hz0 hts hall HT
    go_wp2_with fail
    refine HRT.out.mono ?_
    rintro e w2 ⟨ax, cx, rfl, hx, hb2⟩
    rw [HRY.out.2] at hx
    rw [HRY.out.1, HRY.out.2]
    have HB2 : Hid (Below w.heap.size w w2) := below_trans HB1.out hb2
    have HSM : Hid (Calls Tryz.prog 13 _ _ _) := same_3 w2 _ _ l hx (isL_3.on HH.out HB2.out) HOK.out
    clear hx hb2 HB1 HRT HRY HOK HH HE
    go_wp2_with fail
    refine HSM.out.mono ?_
    rintro e w3 ⟨rfl, hb3⟩
    have HB3 : Hid (Below w.heap.size w w3) := below_trans HB2.out hb3
    clear hb3 HB2 HSM
    go_wp2_with fail
    refine (HRS.out _ (HL.out.on HB3.out)).mono ?_
    rintro e w4 ⟨au, cu, rfl, ha, hb4⟩
    have HB4 : Hid (Below w.heap.size w w4) := below_trans HB3.out hb4
    have HA4 : Hid (A3 w4 (.slice au (readLs s).length cu) (readLs s)) := ha
    clear ha hb4 HB3
    rcases HR.out with hG | ⟨hG, hy, hsy⟩
    · rw [hG]
      clear hG HA4
      generalize (readLs s).length = N at *
      go_wp2_with fail
      refine (begun_any _ (HL.out.on HB4.out)).mono ?_
      rintro e w5 ⟨rfl, hb5⟩
      have HB5 : Hid (Below w.heap.size w w5) := below_trans HB4.out hb5
      clear hb5
      go_wp2
      go_ret
      exact ⟨rfl, HB5.out⟩
    · rw [hG]
      have hcon := show_any _ _ w4 HA4.out (HL.out.on HB4.out)
      rw [hy, hsy] at hcon
      have HC : Hid (Calls Tryz.prog 6 _ _ _) := hcon
      clear hcon hG hy hsy HA4
      generalize (readLs s).length = N at *
      go_wp2_with fail
      refine HC.out.mono ?_
      rintro e w5 ⟨rfl, hb5⟩
      have HB5 : Hid (Below w.heap.size w w5) := below_trans HB4.out hb5
      clear hb5 HB4 HC
      go_wp2_with fail
      refine (begun_any _ (HL.out.on HB5.out)).mono ?_
      rintro e w6 ⟨rfl, hb6⟩
      have HB6 : Hid (Below w.heap.size w w6) := below_trans HB5.out hb6
      clear hb6 HB5
      go_wp2
      go_ret
      exact ⟨rfl, HB6.out⟩
end Go.Proofs.YtbfkopjpfkgjhaaGreatDoor
