/-
  Counts: what must be in any case.
-/
import Derived.Test.YthlpcmgeelkncaaDoorHolds
namespace Go.Proofs.YthlpcmgeelkncaaDoor
open Go.RowKit

theorem read_ex : Pl.read [45, 49, 110, 43, 51] = some (-1, 3) := by
  rw [Pl.read_iff]; refine ⟨⟨by decide, by decide⟩, ⟨by decide, by decide⟩, ?_⟩
  simp [Pl.shown, Lib.itoa, Lib.decDigits]
theorem shown_ex : Pl.shown 2 (-1) = [50, 110, 45, 49] := by simp [Pl.shown, Lib.itoa, Lib.decDigits]
theorem holds_ex1 : Pl.holds (-1) 3 3 = true := by decide
theorem holds_ex2 : Pl.holds (-1) 3 4 = false := by decide
theorem holds_ex3 : Pl.holds 2 (-1) 5 = true := by decide

set_option maxHeartbeats 1000000 in
theorem begun_any (w : World) (hT : Lib.TabIs Tryd.prog w "internal/strconv.uint64pow10" .u64 Lib.pow10Tab) :
    Calls Tryd.prog 10 #[] w fun e w' => e = .returned (.bool true) ∧ Below w.heap.size w w' := by
  go_enter Tryd.func10, Tryd.ntmps10
  go_wp2_with fail
  refine (show_ok 2 (-1) _ (by decide) (by decide) hT).mono ?_
  rintro e w1 ⟨rfl, h1⟩
  rw [shown_ex]
  clear hT
  go_wp2_with fail
  refine (read_some [45, 49, 110, 43, 51] (-1) 3 _ (by decide) read_ex).mono ?_
  rintro e w2 ⟨rfl, h2⟩
  have hz := h2.size
  have hB := h1.trans (h2.mono h1.size)
  clear h1 h2 hz
  go_wp2_with fail
  refine (holds_any (-1) 3 3 _).mono ?_
  rintro e w3 ⟨rfl, h3⟩
  obtain ⟨⟨c0, c1⟩, hb3, hz3⟩ := box_cells w2 w3 (-1) 3 (by simpa using h3)
  rw [holds_ex1]
  have hB3 := hB.trans (hb3.mono hB.size)
  clear h3 hB
  go_wp2_with fail
  refine (holds_any (-1) 3 4 _).mono ?_
  rintro e w4 ⟨rfl, h4⟩
  rw [holds_ex2]
  have hB4 := hB3.trans (h4.mono hB3.size)
  clear h4 hB3 c0 c1
  go_wp2_with fail
  refine (holds_any 2 (-1) 5 _).mono ?_
  rintro e w5 ⟨rfl, h5⟩
  rw [holds_ex3]
  have hB5 := hB4.trans (h5.mono hB4.size)
  clear h5 hB4
  go_wp2
  go_ret
  exact ⟨rfl, hB5⟩

namespace Pl
/-- A COUNT HOLDS, without reckoning: there is a k. -/
theorem holds_iff (a b i : Int) : holds a b i = true ↔ inB a ∧ inB b ∧ 1 ≤ i ∧ i ≤ 1073741824 ∧ ∃ k : Int, 0 ≤ k ∧ a * k + b = i := by
  unfold holds
  simp only [Bool.and_eq_true, inBB_iff, decide_eq_true_eq]
  constructor
  · rintro ⟨⟨⟨⟨ha, hb⟩, h1⟩, h2⟩, h⟩
    refine ⟨ha, hb, h1, h2, ?_⟩
    by_cases h0 : a = 0
    · rw [if_pos h0] at h
      have : i - b = 0 := by simpa using h
      exact ⟨0, by omega, by simp; omega⟩
    · rw [if_neg h0] at h
      simp only [Bool.and_eq_true, beq_iff_eq, decide_eq_true_eq] at h
      refine ⟨(i - b).tdiv a, h.2, ?_⟩
      have := Int.mul_tdiv_add_tmod (i - b) a
      omega
  · rintro ⟨ha, hb, h1, h2, k, hk, rfl⟩
    refine ⟨⟨⟨⟨ha, hb⟩, h1⟩, h2⟩, ?_⟩
    by_cases h0 : a = 0
    · rw [if_pos h0]; subst h0; simp
    · rw [if_neg h0]
      have e : a * k + b - b = a * k := by omega
      rw [e, Int.mul_tmod_right, Int.mul_tdiv_cancel_left _ h0]
      simpa using hk
end Pl
end Go.Proofs.YthlpcmgeelkncaaDoor
