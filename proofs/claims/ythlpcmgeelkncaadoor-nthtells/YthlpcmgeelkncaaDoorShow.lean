/-
  Counts: whether one is right, of what it holds, and how it is shown.
-/
import Derived.Test.YthlpcmgeelkncaaDoorWhole
import Derived.Lib.SmallJoins
import Derived.Lib.ItoaLen
namespace Go.Proofs.YthlpcmgeelkncaaDoor
open Go.RowKit

theorem grown_below (w : World) (k : Nat) (os : Array Obj) : Below w.heap.size w (Sort.grow (w.drewN k) os) :=
  ⟨rfl, rfl, rfl, by simp [Sort.grow], fun i hi => by
    simp only [Sort.grow]
    rw [Array.getElem?_append_left (by simpa using hi)]; rfl⟩

theorem gPow : Tryd.prog.globalNamed "internal/strconv.uint64pow10" = some 0 := by kernel_rfl
theorem tab_later {w : World} (h : Lib.TabIs Tryd.prog w "internal/strconv.uint64pow10" .u64 Lib.pow10Tab) : ∀ w', Below w.heap.size w w' → Lib.TabIs Tryd.prog w' "internal/strconv.uint64pow10" .u64 Lib.pow10Tab :=
  fun _ hb => Joins.tab_stays gPow h hb (Nat.le_refl _)

namespace Pl
def inBB (n : Int) : Bool := decide (-1048576 ≤ n) && decide (n ≤ 1048576)
theorem inBB_iff (n : Int) : inBB n = true ↔ inB n := by simp [inBB, inB]
/-- what one holds of, as it is reckoned -/
def holds (a b i : Int) : Bool :=
  inBB a && inBB b && decide (1 ≤ i) && decide (i ≤ 1073741824) && (if a = 0 then (i - b == 0) else ((i - b).tmod a == 0 && decide (0 ≤ (i - b).tdiv a)))
end Pl

set_option maxHeartbeats 400000 in
theorem inBounds_any (n : Int) (w : World) :
    Calls Tryd.prog 21 #[.int .i64 n] w fun e w' => e = .returned (.bool (Pl.inBB n)) ∧ w' = w := by
  by_cases h1 : -1048576 ≤ n
  · by_cases h2 : n ≤ 1048576
    · have hh : Pl.inBB n = true := by simp [Pl.inBB]; omega
      go_enter Tryd.func21, Tryd.ntmps21
      go_wp2
      go_ret
      exact ⟨by first | rfl | (rw [hh]; rfl), rfl⟩
    · have hh : Pl.inBB n = false := by simp [Pl.inBB]; omega
      go_enter Tryd.func21, Tryd.ntmps21
      go_wp2
      go_ret
      exact ⟨by first | rfl | (rw [hh]; rfl), rfl⟩
  · have hh : Pl.inBB n = false := by simp [Pl.inBB]; omega
    go_enter Tryd.func21, Tryd.ntmps21
    go_wp2
    go_ret
    exact ⟨by first | rfl | (rw [hh]; rfl), rfl⟩

set_option maxHeartbeats 400000 in
theorem check_ok (a b : Int) (w : World) (ha : Pl.inBB a = true) (hb : Pl.inBB b = true) :
    Calls Tryd.prog 11 #[.agg #[.int .i64 a, .int .i64 b]] w fun e w' => e = .returned (.int .i64 0) ∧ Below w.heap.size w w' := by
  go_enter Tryd.func11, Tryd.ntmps11
  go_wp2_with (go_at_call 21; refine (inBounds_any _ _).mono ?_; rintro e w' ⟨rfl, rfl⟩)
  go_ret
  exact ⟨rfl, (Below.refl _ _).alloc (Nat.le_refl _) _⟩
set_option maxHeartbeats 400000 in
theorem check_no (a b : Int) (w : World) (h : (Pl.inBB a && Pl.inBB b) = false) :
    Calls Tryd.prog 11 #[.agg #[.int .i64 a, .int .i64 b]] w fun e w' => e = .returned (.int .i64 3) ∧ Below w.heap.size w w' := by
  cases ha : Pl.inBB a with
  | false =>
    clear h
    go_enter Tryd.func11, Tryd.ntmps11
    go_wp2_with (go_at_call 21; refine (inBounds_any _ _).mono ?_; rintro e w' ⟨rfl, rfl⟩)
    go_ret
    exact ⟨rfl, (Below.refl _ _).alloc (Nat.le_refl _) _⟩
  | true =>
    have hb : Pl.inBB b = false := by rw [ha] at h; simpa using h
    clear h
    go_enter Tryd.func11, Tryd.ntmps11
    go_wp2_with (go_at_call 21; refine (inBounds_any _ _).mono ?_; rintro e w' ⟨rfl, rfl⟩)
    go_ret
    exact ⟨rfl, (Below.refl _ _).alloc (Nat.le_refl _) _⟩

theorem box_cells (w w1 : World) (a b : Int) (hb : Below (w.heap.size + 1) (w.alloc (.cells #[.int .i64 a, .int .i64 b] 23)) w1) :
    (w1.cell? ⟨w.heap.size, 0, none⟩ = some (.int .i64 a) ∧ w1.cell? ⟨w.heap.size, 1, none⟩ = some (.int .i64 b)) ∧ Below w.heap.size w w1 ∧ w.heap.size + 1 ≤ w1.heap.size := by
  refine ⟨⟨?_, ?_⟩, ?_, ?_⟩
  · rw [hb.cell (p := ⟨w.heap.size, 0, none⟩) (by simp)]; simp [go_sem]
  · rw [hb.cell (p := ⟨w.heap.size, 1, none⟩) (by simp)]; simp [go_sem]
  · exact ((Below.refl _ _).alloc (Nat.le_refl _) _).trans (hb.mono (by omega))
  · have := hb.size; simpa using this

set_option maxHeartbeats 400000 in
theorem show_no (a b : Int) (w : World) (h : (Pl.inBB a && Pl.inBB b) = false) :
    Calls Tryd.prog 5 #[.agg #[.int .i64 a, .int .i64 b]] w fun e w' => e = .returned (.tuple #[.string ⟨#[]⟩, .int .i64 3]) ∧ Below w.heap.size w w' := by
  go_enter Tryd.func5, Tryd.ntmps5
  go_wp2_with fail
  refine (check_no a b _ h).mono ?_
  rintro e w1 ⟨rfl, hb⟩
  obtain ⟨⟨c0, c1⟩, hB, _⟩ := box_cells w w1 a b (by simpa using hb)
  clear hb
  go_wp2
  go_ret2
  exact ⟨rfl, hB⟩

set_option maxHeartbeats 400000 in
theorem show_ok (a b : Int) (w : World) (ha : Pl.inBB a = true) (hb : Pl.inBB b = true) (hT : Lib.TabIs Tryd.prog w "internal/strconv.uint64pow10" .u64 Lib.pow10Tab) :
    Calls Tryd.prog 5 #[.agg #[.int .i64 a, .int .i64 b]] w fun e w' => e = .returned (.tuple #[.string ⟨(Pl.shown a b).toArray⟩, .int .i64 0]) ∧ Below w.heap.size w w' := by
  have hBa := (Pl.inBB_iff a).1 ha
  have hBb := (Pl.inBB_iff b).1 hb
  have HT : Hid (∀ w', Below w.heap.size w w' → Lib.TabIs Tryd.prog w' "internal/strconv.uint64pow10" .u64 Lib.pow10Tab) := tab_later hT
  clear hT
  go_enter Tryd.func5, Tryd.ntmps5
  go_wp2_with fail
  refine (check_ok a b _ ha hb).mono ?_
  rintro e w1 ⟨rfl, hb1⟩
  obtain ⟨⟨c0, c1⟩, hB, hz⟩ := box_cells w w1 a b (by simpa using hb1)
  clear hb1
  go_wp2_with fail
  refine (Tryd.strconv_Itoa a (by have := hBa.1; omega) (by have := hBa.2; omega) _ (HT.out _ hB)).mono ?_
  rintro e w2 ⟨rfl, k, os, rfl⟩
  have hb2 := grown_below w1 k os
  generalize Sort.grow (w1.drewN k) os = w2 at *
  have d1 : w2.cell? ⟨w.heap.size, 1, none⟩ = some (.int .i64 b) := by rw [hb2.cell (p := ⟨w.heap.size, 1, none⟩) (by show w.heap.size < _; omega)]; exact c1
  have hB2 : Below w.heap.size w w2 := hB.trans (hb2.mono (by omega))
  clear hb2 c0 c1 hB
  have la := Lib.itoa_length_le a (by have := hBa.1; omega) (by have := hBa.2; omega)
  have lb := Lib.itoa_length_le b (by have := hBb.1; omega) (by have := hBb.2; omega)
  by_cases h0 : 0 ≤ b
  · have HS : Hid (({ data := (Lib.itoa a).toArray } : ByteArray) ++ { data := #[110] } ++ { data := #[43] } ++ { data := (Lib.itoa b).toArray } = ⟨(Pl.shown a b).toArray⟩) := by
      unfold Hid; rw [Pl.shown, if_pos h0]; apply ByteArray.ext; simp
    go_wp2_with fail
    refine (Tryd.strconv_Itoa b (by have := hBb.1; omega) (by have := hBb.2; omega) _ (HT.out _ hB2)).mono ?_
    rintro e w3 ⟨rfl, k3, os3, rfl⟩
    have hb3 := grown_below w2 k3 os3
    generalize Sort.grow (w2.drewN k3) os3 = w3 at *
    have hB3 : Below w.heap.size w w3 := hB2.trans (hb3.mono hB2.size)
    clear hb3 d1
    go_wp2
    go_ret2
    exact ⟨by rw [← HS.out]; rfl, hB3⟩
  · have HS : Hid (({ data := (Lib.itoa a).toArray } : ByteArray) ++ { data := #[110] } ++ { data := (Lib.itoa b).toArray } = ⟨(Pl.shown a b).toArray⟩) := by
      unfold Hid; rw [Pl.shown, if_neg h0]; apply ByteArray.ext; simp
    go_wp2_with fail
    refine (Tryd.strconv_Itoa b (by have := hBb.1; omega) (by have := hBb.2; omega) _ (HT.out _ hB2)).mono ?_
    rintro e w3 ⟨rfl, k3, os3, rfl⟩
    have hb3 := grown_below w2 k3 os3
    generalize Sort.grow (w2.drewN k3) os3 = w3 at *
    have hB3 : Below w.heap.size w w3 := hB2.trans (hb3.mono hB2.size)
    clear hb3 d1
    go_wp2
    go_ret2
    exact ⟨by rw [← HS.out]; rfl, hB3⟩
end Go.Proofs.YthlpcmgeelkncaaDoor
