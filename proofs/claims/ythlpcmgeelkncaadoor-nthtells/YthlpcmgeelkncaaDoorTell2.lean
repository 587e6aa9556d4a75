/-
  The law NthTells' walk, of counts that are not right.
-/
import Derived.Test.YthlpcmgeelkncaaDoorTells
namespace Go.Proofs.YthlpcmgeelkncaaDoor
open Go.RowKit
set_option maxHeartbeats 4000000 in
theorem tells_wr (a b i : Int) (l : List UInt8) (x y : Int) (w : World) (hl : l.length ≤ maxLen)
    (hT : Lib.TabIs Tryd.prog w "internal/strconv.uint64pow10" .u64 Lib.pow10Tab) (hw0 : (Pl.inBB a && Pl.inBB b) = false) (hr : Pl.read l = some (x, y)) :
    Calls Tryd.prog 3 #[.agg #[.int .i64 a, .int .i64 b], .int .i64 i, .string ⟨l.toArray⟩] w fun e w' => e = .returned (.bool true) ∧ Below w.heap.size w w' := by
  have HT : Hid (∀ w', Below w.heap.size w w' → Lib.TabIs Tryd.prog w' "internal/strconv.uint64pow10" .u64 Lib.pow10Tab) := tab_later hT
  clear hT
  have HW : Hid _ := hw0
  clear hw0
  have HR : Hid _ := hr
  clear hr
  go_enter Tryd.func3, Tryd.ntmps3
  go_wp2_with fail
  have A0 := At.new w a b
  refine (show_no a b _ HW.out).mono ?_
  rintro e w1 ⟨rfl, h1⟩
  have A1 := A0.step h1
  obtain ⟨c0, c1, _, _⟩ := id A1
  clear A0 h1
  go_wp2_with fail
  refine (rcheck_no a b _ HW.out).mono ?_
  rintro e w2 ⟨rfl, h2⟩
  have A2 := A1.step h2
  clear c0 c1 h2 A1
  obtain ⟨c0, c1, _, _⟩ := id A2
  go_wp2_with fail
  have A3 := A2
  clear c0 c1 A2
  refine (read_some l x y _ hl HR.out).mono ?_
  rintro e w4 ⟨rfl, h4⟩
  have A4 := A3.step h4
  clear h4 A3
  go_wp2_with fail
  have A5 := A4.alloc (.cells #[.int .i64 x, .int .i64 y] 23)
  have B5 := Box.new w4 x y
  refine (from_some l x y _ hl HR.out).mono ?_
  rintro e w5 ⟨rfl, h5⟩
  have A6 := A5.step h5
  have B6 := B5.step h5
  clear h5 A5 B5 A4
  have hd := (Below.refl w5.heap.size w5).alloc (Nat.le_refl _) (.cells #[.int .i64 x, .int .i64 y] 23)
  have T7 : TT w (w5.alloc (.cells #[.int .i64 x, .int .i64 y] 23)) a b w4.heap.size x y w5.heap.size x y := ⟨A6.step hd, B6.step hd, Box.new w5 x y⟩
  clear A6 B6 hd
  go_wp2
  generalize w5.alloc (.cells #[.int .i64 x, .int .i64 y] 23) = w6 at *
  obtain ⟨⟨c0, c1, cz, cB⟩, ⟨d0, d1, dz⟩, ⟨e0, e1, ez⟩⟩ := id T7
  have S7 := six_drew ⟨c0, c1, d0, d1, e0, e1, cz, dz, ez, cB⟩
  clear c0 c1 d0 d1 e0 e1 cz dz ez cB T7
  go_region_held3 (fun w' => w'.cell? ⟨w.heap.size, 0, none⟩ = some (.int .i64 a) ∧ w'.cell? ⟨w.heap.size, 1, none⟩ = some (.int .i64 b) ∧ w'.cell? ⟨w4.heap.size, 0, none⟩ = some (.int .i64 x) ∧ w'.cell? ⟨w4.heap.size, 1, none⟩ = some (.int .i64 y) ∧ w'.cell? ⟨w5.heap.size, 0, none⟩ = some (.int .i64 x) ∧ w'.cell? ⟨w5.heap.size, 1, none⟩ = some (.int .i64 y) ∧ w.heap.size + 1 ≤ w'.heap.size ∧ w4.heap.size < w'.heap.size ∧ w5.heap.size < w'.heap.size ∧ Below w.heap.size w w')
    (first | assumption | exact six_step (by assumption) (by assumption))
    (first
    | (go_at_call 10; refine (begun_any _ (HT.out _ ?_)).mono ?_; (exact six_below (by assumption)); rintro e w' ⟨rfl, hw⟩)
    | (go_at_call 11; refine (check_no a b _ HW.out).mono ?_; rintro e w' ⟨rfl, hw⟩)
    | (go_at_call 12; refine (holds_any a b i _).mono ?_; rintro e w' ⟨rfl, hw⟩)
    | (go_at_call 13; refine (rholds_any a b i _).mono ?_; rintro e w' ⟨rfl, hw⟩))
  go_wp2
  go_ret
  exact ⟨rfl, six_below (by assumption)⟩
set_option maxHeartbeats 4000000 in
theorem tells_wn (a b i : Int) (l : List UInt8) (w : World) (hl : l.length ≤ maxLen)
    (hT : Lib.TabIs Tryd.prog w "internal/strconv.uint64pow10" .u64 Lib.pow10Tab) (hw0 : (Pl.inBB a && Pl.inBB b) = false) (hr : Pl.read l = none) :
    Calls Tryd.prog 3 #[.agg #[.int .i64 a, .int .i64 b], .int .i64 i, .string ⟨l.toArray⟩] w fun e w' => e = .returned (.bool true) ∧ Below w.heap.size w w' := by
  have HT : Hid (∀ w', Below w.heap.size w w' → Lib.TabIs Tryd.prog w' "internal/strconv.uint64pow10" .u64 Lib.pow10Tab) := tab_later hT
  clear hT
  have HW : Hid _ := hw0
  clear hw0
  have HR : Hid _ := hr
  clear hr
  go_enter Tryd.func3, Tryd.ntmps3
  go_wp2_with fail
  have A0 := At.new w a b
  refine (show_no a b _ HW.out).mono ?_
  rintro e w1 ⟨rfl, h1⟩
  have A1 := A0.step h1
  obtain ⟨c0, c1, _, _⟩ := id A1
  clear A0 h1
  go_wp2_with fail
  refine (rcheck_no a b _ HW.out).mono ?_
  rintro e w2 ⟨rfl, h2⟩
  have A2 := A1.step h2
  clear c0 c1 h2 A1
  obtain ⟨c0, c1, _, _⟩ := id A2
  go_wp2_with fail
  have A3 := A2
  clear c0 c1 A2
  refine (read_none l _ hl HR.out).mono ?_
  rintro e w4 ⟨rfl, h4⟩
  have A4 := A3.step h4
  clear h4 A3
  go_wp2_with fail
  have A5 := A4.alloc (.cells #[.int .i64 0, .int .i64 0] 23)
  have B5 := Box.new w4 0 0
  refine (from_none l _ hl HR.out).mono ?_
  rintro e w5 ⟨rfl, h5⟩
  have A6 := A5.step h5
  have B6 := B5.step h5
  clear h5 A5 B5 A4
  have hd := (Below.refl w5.heap.size w5).alloc (Nat.le_refl _) (.cells #[.int .i64 0, .int .i64 0] 23)
  have T7 : TT w (w5.alloc (.cells #[.int .i64 0, .int .i64 0] 23)) a b w4.heap.size 0 0 w5.heap.size 0 0 := ⟨A6.step hd, B6.step hd, Box.new w5 0 0⟩
  clear A6 B6 hd
  go_wp2
  generalize w5.alloc (.cells #[.int .i64 0, .int .i64 0] 23) = w6 at *
  obtain ⟨⟨c0, c1, cz, cB⟩, ⟨d0, d1, dz⟩, ⟨e0, e1, ez⟩⟩ := id T7
  have S7 := six_drew ⟨c0, c1, d0, d1, e0, e1, cz, dz, ez, cB⟩
  clear c0 c1 d0 d1 e0 e1 cz dz ez cB T7
  go_region_held3 (fun w' => w'.cell? ⟨w.heap.size, 0, none⟩ = some (.int .i64 a) ∧ w'.cell? ⟨w.heap.size, 1, none⟩ = some (.int .i64 b) ∧ w'.cell? ⟨w4.heap.size, 0, none⟩ = some (.int .i64 0) ∧ w'.cell? ⟨w4.heap.size, 1, none⟩ = some (.int .i64 0) ∧ w'.cell? ⟨w5.heap.size, 0, none⟩ = some (.int .i64 0) ∧ w'.cell? ⟨w5.heap.size, 1, none⟩ = some (.int .i64 0) ∧ w.heap.size + 1 ≤ w'.heap.size ∧ w4.heap.size < w'.heap.size ∧ w5.heap.size < w'.heap.size ∧ Below w.heap.size w w')
    (first | assumption | exact six_step (by assumption) (by assumption))
    (first
    | (go_at_call 10; refine (begun_any _ (HT.out _ ?_)).mono ?_; (exact six_below (by assumption)); rintro e w' ⟨rfl, hw⟩)
    | (go_at_call 11; refine (check_no a b _ HW.out).mono ?_; rintro e w' ⟨rfl, hw⟩)
    | (go_at_call 12; refine (holds_any a b i _).mono ?_; rintro e w' ⟨rfl, hw⟩)
    | (go_at_call 13; refine (rholds_any a b i _).mono ?_; rintro e w' ⟨rfl, hw⟩))
  go_wp2
  go_ret
  exact ⟨rfl, six_below (by assumption)⟩
theorem tells_any (a b i : Int) (l : List UInt8) (w : World) (hl : l.length ≤ maxLen)
    (hT : Lib.TabIs Tryd.prog w "internal/strconv.uint64pow10" .u64 Lib.pow10Tab) :
    Calls Tryd.prog 3 #[.agg #[.int .i64 a, .int .i64 b], .int .i64 i, .string ⟨l.toArray⟩] w fun e w' => e = .returned (.bool true) ∧ Below w.heap.size w w' := by
  cases h : (Pl.inBB a && Pl.inBB b) with
  | false =>
    cases hr : Pl.read l with
    | none => exact tells_wn a b i l w hl hT h hr
    | some p => exact tells_wr a b i l p.1 p.2 w hl hT h hr
  | true =>
    rw [Bool.and_eq_true] at h
    cases hr : Pl.read l with
    | none => exact tells_rn a b i l w hl hT h.1 h.2 hr
    | some p => exact tells_rr a b i l p.1 p.2 w hl hT h.1 h.2 hr
end Go.Proofs.YthlpcmgeelkncaaDoor
