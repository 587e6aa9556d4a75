/-
  PathShows: the law.
-/
import Derived.Test.YtbfkopjpfkgjhaaGreatDoorLnX
import Derived.Test.YtbfkopjpfkgjhaaGreatDoorLwB
import Derived.Test.YtbfkopjpfkgjhaaGreatDoorChQ
import Derived.Test.YtbfkopjpfkgjhaaGreatDoorSam
namespace Go.Proofs.YtbfkopjpfkgjhaaGreatDoor
open Go.RowKit

theorem okN_read (s : List UInt8) : InnerA okN2 (readLs s) := by
  cases h : Pl.rdAll s with
  | none =>
    rw [(read_no h).2]
    intro p hp
    cases hp
  | some l =>
    rw [(read_yes h).2]
    exact okN_chk (shown_of h).2
theorem readErr_eq (s : List UInt8) : readErr s = if (Pl.rdAll s).isSome = true then 0 else 1 := rfl
set_option maxRecDepth 100000 in
set_option maxHeartbeats 8000000 in
theorem shows_law (v : Value) (l : List Pl.D3) (s : List UInt8) (w : World) (h : A3 w v l) (hs : s.length ≤ maxLen) (hL : Laid w) :
    Calls Tryz.prog 3 #[v, .string ⟨s.toArray⟩] w fun e w' => e = .returned (.bool true) ∧ Below w.heap.size w w' := by
  obtain ⟨a, c, rfl, -⟩ := isL_3.form h
  have HH : Hid (A3 w (.slice a l.length c) l) := h
  have HL : Hid (Laid w) := hL
  have hcon := show_any _ l w h hL
  have HC7 : Hid (∀ W : World, A3 W (.slice a l.length c) l → Calls Tryz.prog 7 #[.slice a l.length c] W fun e w' => e = .returned (.int .i64 (chkList l)) ∧ Below W.heap.size W w') := fun W hW => refList_any W _ l hW
  have HC12 : Hid (∀ W : World, A3 W (.slice a l.length c) l → Laid W → Calls Tryz.prog 12 #[.slice a l.length c] W fun e w' => e = .returned (.int .i64 (chkList l)) ∧ Below W.heap.size W w') := fun W hW hLW => pathCheck_any W _ l hW hLW.forms
  have HC8 : Hid (chkList l = 0 → ∀ W : World, A3 W (.slice a l.length c) l → Calls Tryz.prog 8 #[.slice a l.length c] W fun e w' => e = .returned (.string ⟨(showOf l).toArray⟩) ∧ Below W.heap.size W w') := fun hz W hW => by
    have := listText_any W _ l hW hz
    unfold showOf
    rw [if_pos hz]
    exact this
  have HSE : Hid (chkList l ≠ 0 → showOf l = []) := fun hz => by
    unfold showOf
    rw [if_neg hz]
  have HRS : Hid (∀ W : World, Laid W → Calls Tryz.prog 9 #[.string ⟨s.toArray⟩] W (ReadSays s W)) := fun W hW => read_any s W hs hW.lf
  have HFS : Hid (∀ W : World, Calls Tryz.prog 10 #[.string ⟨s.toArray⟩] W (FromSays s W)) := fun W => listFrom_any s W hs
  have HOK : Hid (InnerA okN2 (readLs s)) := okN_read s
  have HRE : Hid (readErr s = if (Pl.rdAll s).isSome = true then 0 else 1) := rfl
  unfold ReadSays at HRS
  unfold FromSays at HFS
  clear h hs hL
  obtain ⟨E, hE⟩ : ∃ E, E = chkList l := ⟨_, rfl⟩
  obtain ⟨tx, htx⟩ : ∃ tx, tx = showOf l := ⟨_, rfl⟩
  rw [← hE] at HC7 HC12 HC8 HSE
  rw [← htx] at HC8 HSE
  rw [← hE, ← htx] at hcon
  have HC6 : Hid (Calls Tryz.prog 6 _ _ _) := hcon
  clear hcon hE htx
  obtain ⟨x, hx⟩ : ∃ x, x = readLs s := ⟨_, rfl⟩
  obtain ⟨re, hre⟩ : ∃ re, re = readErr s := ⟨_, rfl⟩
  obtain ⟨is, his⟩ : ∃ is, is = (Pl.rdAll s).isSome := ⟨_, rfl⟩
  rw [← hre, ← his] at HRE
  rw [← hx] at HOK
  simp only [← hx, ← hre] at HRS
  simp only [← hx, ← his] at HFS
  clear hx hre his
  go_enter Tryz.func3, Tryz.ntmps3
  go_wp2_with fail
  refine HC6.out.mono ?_
  rintro e w1 ⟨rfl, hb1⟩
  have HB1 : Hid (Below w.heap.size w w1) := hb1
  clear hb1 HC6
  go_wp2_with fail
  refine (HC7.out _ (isL_3.on HH.out HB1.out)).mono ?_
  rintro e w2 ⟨rfl, hb2⟩
  have HB2 : Hid (Below w.heap.size w w2) := below_trans HB1.out hb2
  clear hb2 HB1 HC7
  by_cases hz : E = 0
  case' pos =>
    subst hz
    go_wp2_with fail
    refine (HC8.out (by first | rfl | trivial) _ (isL_3.on HH.out HB2.out)).mono ?_
    rintro e w3 ⟨rfl, hb3⟩
    have HB3 : Hid (Below w.heap.size w w3) := below_trans HB2.out hb3
    clear hb3 HB2
    go_wp2_with fail
  case' neg =>
    have ht : tx = [] := HSE.out hz
    subst ht
    have hzb : (E == 0) = false := by simpa using hz
    have HB3 : Hid (Below w.heap.size w w2) := HB2
    clear hz HB2
    go_wp2_with fail
  all_goals
    refine (HRS.out _ (HL.out.on HB3.out)).mono ?_
    rintro e w4 ⟨ax, cx, rfl, ha4, hb4⟩
    have HB4 : Hid (Below w.heap.size w w4) := below_trans HB3.out hb4
    have HA4 : Hid (A3 w4 (.slice ax x.length cx) x) := ha4
    clear hb4 ha4 HB3
    go_wp2_with fail
    refine (HFS.out _).mono ?_
    rintro e w5 ⟨ay, cy, rfl, ha5, hb5⟩
    have HB5 : Hid (Below w.heap.size w w5) := below_trans HB4.out hb5
    have HA5 : Hid (A3 w5 (.slice ax x.length cx) x) := isL_3.on HA4.out hb5
    have HA5' : Hid (A3 w5 (.slice ay x.length cy) x) := ha5
    clear hb5 ha5 HB4 HA4
    cases is
    case' true =>
      have hre : re = 0 := by
        have := HRE.out
        rw [if_pos rfl] at this
        exact this
      subst hre
    case' false =>
      have hre : re = 1 := by
        have := HRE.out
        rw [if_neg (by simp)] at this
        exact this
      subst hre
    all_goals
      go_wp2_with fail
      refine (begun_any _ (HL.out.on HB5.out)).mono ?_
      rintro e w6 ⟨rfl, hb6⟩
      have HB6 : Hid (Below w.heap.size w w6) := below_trans HB5.out hb6
      have HA6 : Hid (A3 w6 (.slice ax x.length cx) x) := isL_3.on HA5.out hb6
      have HA6' : Hid (A3 w6 (.slice ay x.length cy) x) := isL_3.on HA5'.out hb6
      clear hb6 HB5 HA5 HA5'
      go_wp2_with fail
      refine (HC12.out _ (isL_3.on HH.out HB6.out) (HL.out.on HB6.out)).mono ?_
      rintro e w7 ⟨rfl, hb7⟩
      have HB7 : Hid (Below w.heap.size w w7) := below_trans HB6.out hb7
      have HC13 : Hid (Calls Tryz.prog 13 _ _ _) := same_3 w7 _ _ x (isL_3.on HA6.out hb7) (isL_3.on HA6'.out hb7) HOK.out
      clear hb7 HB6 HA6 HA6'
      go_wp2_with fail
      refine HC13.out.mono ?_
      rintro e w8 ⟨rfl, hb8⟩
      have HB8 : Hid (Below w.heap.size w w8) := below_trans HB7.out hb8
      clear hb8
      go_wp2
      go_ret
      exact ⟨rfl, HB8.out⟩
end Go.Proofs.YtbfkopjpfkgjhaaGreatDoor
