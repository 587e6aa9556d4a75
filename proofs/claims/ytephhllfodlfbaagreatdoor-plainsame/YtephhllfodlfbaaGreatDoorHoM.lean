/-
  Counts: of which numbers one holds, as the program tells it and as the document does.
-/
import Derived.Test.YtephhllfodlfbaaGreatDoorMem
import Derived.WalkKit
import Derived.WalkSpells
import Derived.WalkLawsBesides
namespace Go.Proofs.YtephhllfodlfbaaGreatDoor.Nt
open Go.RowKit

namespace Pl
def inB (n : Int) : Prop := -1048576 ≤ n ∧ n ≤ 1048576
def inBB (n : Int) : Bool := decide (-1048576 ≤ n) && decide (n ≤ 1048576)
theorem inBB_iff (n : Int) : inBB n = true ↔ inB n := by simp [inBB, inB]
/-- what one holds of, as it is reckoned -/
def holds (a b i : Int) : Bool :=
  inBB a && inBB b && decide (1 ≤ i) && decide (i ≤ 1073741824) && (if a = 0 then (i - b == 0) else ((i - b).tmod a == 0 && decide (0 ≤ (i - b).tdiv a)))
end Pl
set_option maxHeartbeats 400000 in
theorem inBounds_any (n : Int) (w : World) :
    Calls Tryz.prog 167 #[.int .i64 n] w fun e w' => e = .returned (.bool (Pl.inBB n)) ∧ w' = w := by
  by_cases h1 : -1048576 ≤ n
  · by_cases h2 : n ≤ 1048576
    · have hh : Pl.inBB n = true := by simp [Pl.inBB]; omega
      go_enter Tryz.func167, Tryz.ntmps167
      go_wp2
      go_ret
      exact ⟨by first | rfl | (rw [hh]; rfl), rfl⟩
    · have hh : Pl.inBB n = false := by simp [Pl.inBB]; omega
      go_enter Tryz.func167, Tryz.ntmps167
      go_wp2
      go_ret
      exact ⟨by first | rfl | (rw [hh]; rfl), rfl⟩
  · have hh : Pl.inBB n = false := by simp [Pl.inBB]; omega
    go_enter Tryz.func167, Tryz.ntmps167
    go_wp2
    go_ret
    exact ⟨by first | rfl | (rw [hh]; rfl), rfl⟩

set_option maxHeartbeats 400000 in
theorem check_ok (a b : Int) (w : World) (ha : Pl.inBB a = true) (hb : Pl.inBB b = true) :
    Calls Tryz.prog 132 #[.agg #[.int .i64 a, .int .i64 b]] w fun e w' => e = .returned (.int .i64 0) ∧ Below w.heap.size w w' := by
  go_enter Tryz.func132, Tryz.ntmps132
  go_wp2_with (go_at_call 167; refine (inBounds_any _ _).mono ?_; rintro e w' ⟨rfl, rfl⟩)
  go_ret
  exact ⟨rfl, (Below.refl _ _).alloc (Nat.le_refl _) _⟩
set_option maxHeartbeats 400000 in
theorem check_no (a b : Int) (w : World) (h : (Pl.inBB a && Pl.inBB b) = false) :
    Calls Tryz.prog 132 #[.agg #[.int .i64 a, .int .i64 b]] w fun e w' => e = .returned (.int .i64 3) ∧ Below w.heap.size w w' := by
  cases ha : Pl.inBB a with
  | false =>
    clear h
    go_enter Tryz.func132, Tryz.ntmps132
    go_wp2_with (go_at_call 167; refine (inBounds_any _ _).mono ?_; rintro e w' ⟨rfl, rfl⟩)
    go_ret
    exact ⟨rfl, (Below.refl _ _).alloc (Nat.le_refl _) _⟩
  | true =>
    have hb : Pl.inBB b = false := by rw [ha] at h; simpa using h
    clear h
    go_enter Tryz.func132, Tryz.ntmps132
    go_wp2_with (go_at_call 167; refine (inBounds_any _ _).mono ?_; rintro e w' ⟨rfl, rfl⟩)
    go_ret
    exact ⟨rfl, (Below.refl _ _).alloc (Nat.le_refl _) _⟩

theorem box_cells (w w1 : World) (a b : Int) (hb : Below (w.heap.size + 1) (w.alloc (.cells #[.int .i64 a, .int .i64 b] 69)) w1) :
    (w1.cell? ⟨w.heap.size, 0, none⟩ = some (.int .i64 a) ∧ w1.cell? ⟨w.heap.size, 1, none⟩ = some (.int .i64 b)) ∧ Below w.heap.size w w1 ∧ w.heap.size + 1 ≤ w1.heap.size := by
  refine ⟨⟨?_, ?_⟩, ?_, ?_⟩
  · rw [hb.cell (p := ⟨w.heap.size, 0, none⟩) (by simp)]; simp [go_sem]
  · rw [hb.cell (p := ⟨w.heap.size, 1, none⟩) (by simp)]; simp [go_sem]
  · exact ((Below.refl _ _).alloc (Nat.le_refl _) _).trans (hb.mono (by omega))
  · have := hb.size; simpa using this
theorem quo_wrap (x a : Int) (h1 : -4611686018427387904 ≤ x) (h2 : x ≤ 4611686018427387904) : wrap64 (x.tdiv a) = x.tdiv a := by
  have e : (x.tdiv a).natAbs = x.natAbs / a.natAbs := Int.natAbs_tdiv x a
  have l : x.natAbs / a.natAbs ≤ x.natAbs := Nat.div_le_self _ _
  exact IntWalk.wrap64_in _ ⟨by omega, by omega⟩
set_option maxHeartbeats 400000 in
theorem holds_wrong (a b i : Int) (w : World) (h : (Pl.inBB a && Pl.inBB b) = false) :
    Calls Tryz.prog 184 #[.agg #[.int .i64 a, .int .i64 b], .int .i64 i] w fun e w' => e = .returned (.bool false) ∧ Below w.heap.size w w' := by
  go_enter Tryz.func184, Tryz.ntmps184
  go_wp2_with fail
  refine (check_no a b _ h).mono ?_
  rintro e w1 ⟨rfl, hb⟩
  obtain ⟨⟨c0, c1⟩, hB, _⟩ := box_cells w w1 a b (by simpa using hb)
  clear hb
  go_wp2
  go_ret
  exact ⟨rfl, hB⟩
set_option maxHeartbeats 400000 in
theorem holds_out (a b i : Int) (w : World) (ha : Pl.inBB a = true) (hb : Pl.inBB b = true) (h : i < 1 ∨ 1073741824 < i) :
    Calls Tryz.prog 184 #[.agg #[.int .i64 a, .int .i64 b], .int .i64 i] w fun e w' => e = .returned (.bool false) ∧ Below w.heap.size w w' := by
  rcases h with h | h
  · go_enter Tryz.func184, Tryz.ntmps184
    go_wp2_with fail
    refine (check_ok a b _ ha hb).mono ?_
    rintro e w1 ⟨rfl, hb⟩
    obtain ⟨⟨c0, c1⟩, hB, _⟩ := box_cells w w1 a b (by simpa using hb)
    clear hb
    go_wp2
    go_ret
    exact ⟨rfl, hB⟩
  · have h1 : ¬ i < 1 := by omega
    go_enter Tryz.func184, Tryz.ntmps184
    go_wp2_with fail
    refine (check_ok a b _ ha hb).mono ?_
    rintro e w1 ⟨rfl, hb⟩
    obtain ⟨⟨c0, c1⟩, hB, _⟩ := box_cells w w1 a b (by simpa using hb)
    clear hb
    go_wp2
    go_ret
    exact ⟨rfl, hB⟩
set_option maxHeartbeats 400000 in
theorem holds_in (a b i : Int) (w : World) (ha : Pl.inBB a = true) (hb : Pl.inBB b = true) (h1 : 1 ≤ i) (h2 : i ≤ 1073741824) :
    Calls Tryz.prog 184 #[.agg #[.int .i64 a, .int .i64 b], .int .i64 i] w fun e w' => e = .returned (.bool (Pl.holds a b i)) ∧ Below w.heap.size w w' := by
  obtain ⟨a1, a2⟩ := (Pl.inBB_iff a).1 ha
  obtain ⟨b1, b2⟩ := (Pl.inBB_iff b).1 hb
  have hh : Pl.holds a b i = (if a = 0 then (i - b == 0) else ((i - b).tmod a == 0 && decide (0 ≤ (i - b).tdiv a))) := by
    simp [Pl.holds, ha, hb, h1, h2]
  have HH : Hid _ := hh
  clear hh
  by_cases h0 : a = 0
  · subst h0
    have HZ : Hid (Pl.holds 0 b i = (i - b == 0)) := by rw [Hid, HH.out]; simp
    clear HH
    go_enter Tryz.func184, Tryz.ntmps184
    go_wp2_with fail
    refine (check_ok 0 b _ ha hb).mono ?_
    rintro e w1 ⟨rfl, hb⟩
    obtain ⟨⟨c0, c1⟩, hB, _⟩ := box_cells w w1 0 b (by simpa using hb)
    clear hb
    go_wp2
    go_ret
    exact ⟨by rw [HZ.out]; rfl, hB⟩
  · have HZ : Hid (Pl.holds a b i = ((i - b).tmod a == 0 && decide (0 ≤ (i - b).tdiv a))) := by rw [Hid, HH.out, if_neg h0]
    clear HH
    have hn : (a == 0) = false := by simp [h0]
    go_enter Tryz.func184, Tryz.ntmps184
    go_wp2_with fail
    refine (check_ok a b _ ha hb).mono ?_
    rintro e w1 ⟨rfl, hb⟩
    obtain ⟨⟨c0, c1⟩, hB, _⟩ := box_cells w w1 a b (by simpa using hb)
    clear hb
    go_wp2
    · rename_i hm
      go_ret
      refine ⟨?_, hB⟩
      rw [HZ.out]
      have hf : ((i - b).tmod a == 0) = true := by simpa using hm
      rw [hf, quo_wrap (i - b) a (by omega) (by omega)]; rfl
    · rename_i hm
      go_ret
      refine ⟨?_, hB⟩
      rw [HZ.out]
      have hf : ((i - b).tmod a == 0) = false := by simpa using hm
      rw [hf]; rfl

theorem holds_any (a b i : Int) (w : World) :
    Calls Tryz.prog 184 #[.agg #[.int .i64 a, .int .i64 b], .int .i64 i] w fun e w' => e = .returned (.bool (Pl.holds a b i)) ∧ Below w.heap.size w w' := by
  cases h : (Pl.inBB a && Pl.inBB b) with
  | false =>
    have hh : Pl.holds a b i = false := by simp only [Pl.holds, h, Bool.false_and]
    rw [hh]; exact holds_wrong a b i w h
  | true =>
    rw [Bool.and_eq_true] at h
    by_cases hi : 1 ≤ i ∧ i ≤ 1073741824
    · exact holds_in a b i w h.1 h.2 hi.1 hi.2
    · have hh : Pl.holds a b i = false := by
        have : (decide (1 ≤ i) && decide (i ≤ 1073741824)) = false := by simp; omega
        simp only [Pl.holds, h.1, h.2, Bool.true_and, this, Bool.false_and]
      rw [hh]; exact holds_out a b i w h.1 h.2 (by omega)

namespace Pl
end Pl

end Go.Proofs.YtephhllfodlfbaaGreatDoor.Nt
