/-
  Counts: of which numbers one holds.
-/
import Derived.Test.YthlpcmgeelkncaaDoorShow
namespace Go.Proofs.YthlpcmgeelkncaaDoor
open Go.RowKit

theorem quo_wrap (x a : Int) (h1 : -4611686018427387904 ≤ x) (h2 : x ≤ 4611686018427387904) : wrap64 (x.tdiv a) = x.tdiv a := by
  have e : (x.tdiv a).natAbs = x.natAbs / a.natAbs := Int.natAbs_tdiv x a
  have l : x.natAbs / a.natAbs ≤ x.natAbs := Nat.div_le_self _ _
  exact IntWalk.wrap64_in _ ⟨by omega, by omega⟩
set_option maxHeartbeats 400000 in
theorem holds_wrong (a b i : Int) (w : World) (h : (Pl.inBB a && Pl.inBB b) = false) :
    Calls Tryd.prog 12 #[.agg #[.int .i64 a, .int .i64 b], .int .i64 i] w fun e w' => e = .returned (.bool false) ∧ Below w.heap.size w w' := by
  go_enter Tryd.func12, Tryd.ntmps12
  go_wp2_with fail
  refine (check_no a b _ h).mono ?_
  rintro e w1 ⟨rfl, hb⟩
  obtain ⟨⟨c0, c1⟩, hB, _⟩ := box_cells w w1 a b (by simpa using hb)
  clear hb
  go_wp2
  go_ret
  exact ⟨rfl, hB⟩
set_option maxHeartbeats 400000 in
theorem holds_out (a b i : Int) (w : World) (ha : Pl.inBB a = true) (hb : Pl.inBB b = true) (h : i < 1 ∨ 1073741824 < i) :
    Calls Tryd.prog 12 #[.agg #[.int .i64 a, .int .i64 b], .int .i64 i] w fun e w' => e = .returned (.bool false) ∧ Below w.heap.size w w' := by
  rcases h with h | h
  · go_enter Tryd.func12, Tryd.ntmps12
    go_wp2_with fail
    refine (check_ok a b _ ha hb).mono ?_
    rintro e w1 ⟨rfl, hb⟩
    obtain ⟨⟨c0, c1⟩, hB, _⟩ := box_cells w w1 a b (by simpa using hb)
    clear hb
    go_wp2
    go_ret
    exact ⟨rfl, hB⟩
  · have h1 : ¬ i < 1 := by omega
    go_enter Tryd.func12, Tryd.ntmps12
    go_wp2_with fail
    refine (check_ok a b _ ha hb).mono ?_
    rintro e w1 ⟨rfl, hb⟩
    obtain ⟨⟨c0, c1⟩, hB, _⟩ := box_cells w w1 a b (by simpa using hb)
    clear hb
    go_wp2
    go_ret
    exact ⟨rfl, hB⟩
set_option maxHeartbeats 400000 in
theorem holds_in (a b i : Int) (w : World) (ha : Pl.inBB a = true) (hb : Pl.inBB b = true) (h1 : 1 ≤ i) (h2 : i ≤ 1073741824) :
    Calls Tryd.prog 12 #[.agg #[.int .i64 a, .int .i64 b], .int .i64 i] w fun e w' => e = .returned (.bool (Pl.holds a b i)) ∧ Below w.heap.size w w' := by
  obtain ⟨a1, a2⟩ := (Pl.inBB_iff a).1 ha
  obtain ⟨b1, b2⟩ := (Pl.inBB_iff b).1 hb
  have hh : Pl.holds a b i = (if a = 0 then (i - b == 0) else ((i - b).tmod a == 0 && decide (0 ≤ (i - b).tdiv a))) := by
    simp [Pl.holds, ha, hb, h1, h2]
  have HH : Hid _ := hh
  clear hh
  by_cases h0 : a = 0
  · subst h0
    have HZ : Hid (Pl.holds 0 b i = (i - b == 0)) := by rw [Hid, HH.out]; simp
    clear HH
    go_enter Tryd.func12, Tryd.ntmps12
    go_wp2_with fail
    refine (check_ok 0 b _ ha hb).mono ?_
    rintro e w1 ⟨rfl, hb⟩
    obtain ⟨⟨c0, c1⟩, hB, _⟩ := box_cells w w1 0 b (by simpa using hb)
    clear hb
    go_wp2
    go_ret
    exact ⟨by rw [HZ.out]; rfl, hB⟩
  · have HZ : Hid (Pl.holds a b i = ((i - b).tmod a == 0 && decide (0 ≤ (i - b).tdiv a))) := by rw [Hid, HH.out, if_neg h0]
    clear HH
    have hn : (a == 0) = false := by simp [h0]
    go_enter Tryd.func12, Tryd.ntmps12
    go_wp2_with fail
    refine (check_ok a b _ ha hb).mono ?_
    rintro e w1 ⟨rfl, hb⟩
    obtain ⟨⟨c0, c1⟩, hB, _⟩ := box_cells w w1 a b (by simpa using hb)
    clear hb
    go_wp2
    · rename_i hm
      go_ret
      refine ⟨?_, hB⟩
      rw [HZ.out]
      have hf : ((i - b).tmod a == 0) = true := by simpa using hm
      rw [hf, quo_wrap (i - b) a (by omega) (by omega)]; rfl
    · rename_i hm
      go_ret
      refine ⟨?_, hB⟩
      rw [HZ.out]
      have hf : ((i - b).tmod a == 0) = false := by simpa using hm
      rw [hf]; rfl

theorem holds_any (a b i : Int) (w : World) :
    Calls Tryd.prog 12 #[.agg #[.int .i64 a, .int .i64 b], .int .i64 i] w fun e w' => e = .returned (.bool (Pl.holds a b i)) ∧ Below w.heap.size w w' := by
  cases h : (Pl.inBB a && Pl.inBB b) with
  | false =>
    have hh : Pl.holds a b i = false := by simp only [Pl.holds, h, Bool.false_and]
    rw [hh]; exact holds_wrong a b i w h
  | true =>
    rw [Bool.and_eq_true] at h
    by_cases hi : 1 ≤ i ∧ i ≤ 1073741824
    · exact holds_in a b i w h.1 h.2 hi.1 hi.2
    · have hh : Pl.holds a b i = false := by
        have : (decide (1 ≤ i) && decide (i ≤ 1073741824)) = false := by simp; omega
        simp only [Pl.holds, h.1, h.2, Bool.true_and, this, Bool.false_and]
      rw [hh]; exact holds_out a b i w h.1 h.2 (by omega)

set_option maxHeartbeats 400000 in
theorem choose_any (c : Int) (w : World) (h1 : -9223372036854775808 ≤ c) (h2 : c ≤ 9223372036854775807) :
    Calls Tryd.prog 14 #[.int .i64 c, .int .i64 2097152] w fun e w' => ∃ k : Int, 0 ≤ k ∧ k < 2097152 ∧ e = .returned (.int .i64 k) ∧ w' = w := by
  by_cases h : c < 0
  · go_enter Tryd.func14, Tryd.ntmps14
    go_wp2
    go_ret
    have e : -(c + 1).tmod 2097152 = (-(c + 1)) % 2097152 := by rw [← Int.neg_tmod, Int.tmod_eq_emod_of_nonneg (by omega)]
    exact ⟨_, by rw [e]; omega, by rw [e]; omega, rfl, rfl⟩
  · go_enter Tryd.func14, Tryd.ntmps14
    go_wp2
    go_ret
    exact ⟨_, by omega, by omega, rfl, rfl⟩
end Go.Proofs.YthlpcmgeelkncaaDoor
