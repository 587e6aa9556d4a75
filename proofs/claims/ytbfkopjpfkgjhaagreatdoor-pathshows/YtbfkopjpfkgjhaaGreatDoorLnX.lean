/-
  ListFrom, the document's own.
-/
import Derived.Test.YtbfkopjpfkgjhaaGreatDoorLnW
namespace Go.Proofs.YtbfkopjpfkgjhaaGreatDoor
open Go.RowKit

def FromSays (s : List UInt8) (w : World) (e : Ending) (w' : World) : Prop := ∃ au cu, e = .returned (.tuple #[.slice au (readLs s).length cu, .bool (Pl.rdAll s).isSome]) ∧ A3 w' (.slice au (readLs s).length cu) (readLs s) ∧ Below w.heap.size w w'
theorem from_no {s : List UInt8} {w w' : World} (h : Pl.rdAll s = none) (hb : Below w.heap.size w w') : FromSays s w (.returned (.tuple #[.slice none 0 0, .bool false])) w' := by
  obtain ⟨_, h2⟩ := read_no h
  refine ⟨none, 0, ?_, ?_, hb⟩
  · rw [h, h2]
    rfl
  · rw [h2]
    exact isL_3.nil _
theorem from_yes {s : List UInt8} {x : List Pl.D3} {w w' : World} {au : Option Addr} {cu : Nat} (h : Pl.rdAll s = some x) (ha : A3 w' (.slice au x.length cu) x) (hb : Below w.heap.size w w') : FromSays s w (.returned (.tuple #[.slice au x.length cu, .bool true])) w' := by
  obtain ⟨_, h2⟩ := read_yes h
  refine ⟨au, cu, ?_, ?_, hb⟩
  · rw [h, h2]
    rfl
  · rw [h2]
    exact ha
/-- what the document's own reader finds, held against what is shown -/
theorem from_cases (s : List UInt8) : (Pl.rdAll s = none ∧ chkList (Pl.ln3 s).1 ≠ 0) ∨ (Pl.rdAll s = none ∧ chkList (Pl.ln3 s).1 = 0 ∧ Pl.sh3 (Pl.ln3 s).1 ≠ s) ∨ (Pl.rdAll s = some (Pl.ln3 s).1 ∧ chkList (Pl.ln3 s).1 = 0 ∧ Pl.sh3 (Pl.ln3 s).1 = s) := by
  cases h : Pl.rdAll s with
  | none =>
    by_cases hc : chkList (Pl.ln3 s).1 = 0
    · refine Or.inr (Or.inl ⟨rfl, hc, fun e => ?_⟩)
      have := (all_iff s (Pl.ln3 s).1).2 ⟨hc, e⟩
      rw [h] at this
      cases this
    · exact Or.inl ⟨rfl, hc⟩
  | some x =>
    have e := ln3_of h
    obtain ⟨h1, h2⟩ := (all_iff s x).1 h
    exact Or.inr (Or.inr ⟨by rw [e], by rw [e]; exact h1, by rw [e]; exact h2⟩)
set_option maxRecDepth 100000 in
set_option maxHeartbeats 2000000 in
theorem listFrom_any (s : List UInt8) (w : World) (hl : s.length ≤ maxLen) : Calls Tryz.prog 10 #[.string ⟨s.toArray⟩] w (FromSays s w) := by
  have hx : LnAt w.heap.size s (w.alloc (.cells #[.string ⟨s.toArray⟩] 68)) := World.alloc_heap_new w _
  have HC : Hid (Calls Tryz.prog 26 _ _ _) := lnReads_3 w.heap.size s (w.alloc (.cells #[.string ⟨s.toArray⟩] 68)) hx hl
  have HB0 : Hid (Below w.heap.size w (w.alloc (.cells #[.string ⟨s.toArray⟩] 68))) := on_alloc w _
  have HCS : Hid (_ ∨ _) := from_cases s
  clear hx
  go_enter Tryz.func10, Tryz.ntmps10
  go_wp2_with fail
  generalize w.alloc (.cells #[.string ⟨s.toArray⟩] 68) = W0 at *
  refine HC.out.mono ?_
  rintro e w1 ⟨x, r, au, cu, hn, rfl, ha, _, g1⟩
  have HX : Hid ((Pl.ln3 s).1 = x) := by
    unfold Hid
    rw [hn]
  have HB1 : Hid (Below w.heap.size w w1) := below_gb HB0.out g1 (Nat.le_refl _)
  have HA1 : Hid (A3 w1 (.slice au x.length cu) x) := isSub_3.sub ha (incl_real _ _)
  clear hn ha g1 HC
  have HC7 := refList_any w1 _ x HA1.out
  rcases HCS.out with ⟨h1, h2⟩ | ⟨h1, h2, h3⟩ | ⟨h1, h2, h3⟩
  · rw [HX.out] at h2
    have HN : Hid (Pl.rdAll s = none) := h1
    obtain ⟨E, hE⟩ : ∃ E, E = chkList x := ⟨_, rfl⟩
    rw [← hE] at HC7 h2
    have hE0 : (E == 0) = false := by simpa using h2
    have HC7' : Hid (Calls Tryz.prog 7 _ _ _) := HC7
    clear HC7 hE h1 HCS
    go_wp2_with fail
    refine HC7'.out.mono ?_
    rintro e w2 ⟨rfl, hb2⟩
    have HB2 : Hid (Below w.heap.size w w2) := below_trans HB1.out hb2
    clear hb2
    go_wp2
    go_ret2
    exact from_no HN.out HB2.out
  · rw [HX.out] at h2 h3
    have HN : Hid (Pl.rdAll s = none) := h1
    rw [h2] at HC7
    have HC7' : Hid (Calls Tryz.prog 7 _ _ _) := HC7
    have HZ : Hid (chkList x = 0) := h2
    have e2 : ¬ (⟨(Pl.sh3 x).toArray⟩ : ByteArray) = ⟨s.toArray⟩ := fun e => h3 (by
      have := congrArg (fun x : ByteArray => x.data.toList) e
      simpa using this)
    have e3 : (Pl.sh3 x == s) = false := by simpa using h3
    clear HC7 h1 h2 h3 HCS
    go_wp2_with fail
    refine HC7'.out.mono ?_
    rintro e w2 ⟨rfl, hb2⟩
    have HB2 : Hid (Below w.heap.size w w2) := below_trans HB1.out hb2
    have HC8 : Hid (Calls Tryz.prog 8 _ _ _) := listText_any w2 _ x (isL_3.on HA1.out hb2) HZ.out
    clear hb2
    generalize Pl.sh3 x = sx at *
    go_wp2_with fail
    refine HC8.out.mono ?_
    rintro e w3 ⟨rfl, hb3⟩
    have HB3 : Hid (Below w.heap.size w w3) := below_trans HB2.out hb3
    clear hb3
    go_wp2
    go_ret2
    exact from_no HN.out HB3.out
  · rw [HX.out] at h1 h2 h3
    have HN : Hid (Pl.rdAll s = some x) := h1
    rw [h2] at HC7
    have HC7' : Hid (Calls Tryz.prog 7 _ _ _) := HC7
    have HZ : Hid (chkList x = 0) := h2
    have HE3 : Hid (Pl.sh3 x = s) := h3
    clear HC7 h1 h2 h3 HCS
    go_wp2_with fail
    refine HC7'.out.mono ?_
    rintro e w2 ⟨rfl, hb2⟩
    have HB2 : Hid (Below w.heap.size w w2) := below_trans HB1.out hb2
    have HA2 : Hid (A3 w2 (.slice au x.length cu) x) := isL_3.on HA1.out hb2
    have hc8 := listText_any w2 _ x HA2.out HZ.out
    rw [HE3.out] at hc8
    have HC8 : Hid (Calls Tryz.prog 8 _ _ _) := hc8
    clear hb2 hc8
    go_wp2_with fail
    refine HC8.out.mono ?_
    rintro e w3 ⟨rfl, hb3⟩
    have HB3 : Hid (Below w.heap.size w w3) := below_trans HB2.out hb3
    have HA3 : Hid (A3 w3 (.slice au x.length cu) x) := isL_3.on HA2.out hb3
    clear hb3
    go_wp2
    go_ret2
    exact from_yes HN.out HA3.out HB3.out
end Go.Proofs.YtbfkopjpfkgjhaaGreatDoor
