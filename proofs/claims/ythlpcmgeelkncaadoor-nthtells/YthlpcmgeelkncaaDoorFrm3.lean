/-
  The document's own reader of counts: the one that is shown so, or none.
-/
import Derived.Test.YthlpcmgeelkncaaDoorFrm2
import Derived.Test.YthlpcmgeelkncaaDoorDig
namespace Go.Proofs.YthlpcmgeelkncaaDoor
open Go.RowKit

theorem from_boxes (w w1 : World) (o : Obj) (hb : Below (w.heap.size + 1) ((w.alloc (.cells #[.int .i64 0, .int .i64 0] 23)).alloc o) w1) :
    (w1.cell? ⟨w.heap.size, 0, none⟩ = some (.int .i64 0) ∧ w1.cell? ⟨w.heap.size, 1, none⟩ = some (.int .i64 0)) ∧
    (w1.frozen? ⟨w.heap.size, 0, none⟩ = false ∧ w1.frozen? ⟨w.heap.size, 1, none⟩ = false) ∧ Below w.heap.size w w1 ∧ w.heap.size < w1.heap.size := by
  have hs := hb.size
  simp at hs
  refine ⟨⟨?_, ?_⟩, ⟨?_, ?_⟩, ?_, by omega⟩
  · rw [hb.cell (p := ⟨w.heap.size, 0, none⟩) (by simp)]; simp [go_sem]
  · rw [hb.cell (p := ⟨w.heap.size, 1, none⟩) (by simp)]; simp [go_sem]
  · rw [hb.frozen (p := ⟨w.heap.size, 0, none⟩) (by simp)]; simp [go_sem]
  · rw [hb.frozen (p := ⟨w.heap.size, 1, none⟩) (by simp)]; simp [go_sem]
  · exact (((Below.refl _ _).alloc (Nat.le_refl _) _).alloc (by simp) _).trans (hb.mono (by omega))

/-- the result's box at w's end stands as it was laid -/
def FB (w wi : World) : Prop :=
  (wi.cell? ⟨w.heap.size, 0, none⟩ = some (.int .i64 0) ∧ wi.cell? ⟨w.heap.size, 1, none⟩ = some (.int .i64 0)) ∧
    (wi.frozen? ⟨w.heap.size, 0, none⟩ = false ∧ wi.frozen? ⟨w.heap.size, 1, none⟩ = false) ∧ Below w.heap.size w wi ∧ w.heap.size < wi.heap.size
theorem FB.step {w wi wj : World} (h : FB w wi) (hb : Below wi.heap.size wi wj) : FB w wj := by
  obtain ⟨⟨c0, c1⟩, ⟨f0, f1⟩, hB, hz⟩ := h
  refine ⟨⟨?_, ?_⟩, ⟨?_, ?_⟩, hB.trans (hb.mono hB.size), Nat.lt_of_lt_of_le hz hb.size⟩
  · rw [hb.cell (p := ⟨w.heap.size, 0, none⟩) hz]; exact c0
  · rw [hb.cell (p := ⟨w.heap.size, 1, none⟩) hz]; exact c1
  · rw [hb.frozen (p := ⟨w.heap.size, 0, none⟩) hz]; exact f0
  · rw [hb.frozen (p := ⟨w.heap.size, 1, none⟩) hz]; exact f1

set_option maxHeartbeats 1000000 in
theorem from_bad (l : List UInt8) (w : World) (hl : l.length ≤ maxLen) (h : (Pl.inBB (Pl.lnth l).1 && Pl.inBB (Pl.lnth l).2) = false) :
    Calls Tryd.prog 9 #[.string ⟨l.toArray⟩] w fun e w' => e = .returned (.tuple #[.agg #[.int .i64 0, .int .i64 0], .bool false]) ∧ Below w.heap.size w w' := by
  go_enter Tryd.func9, Tryd.ntmps9
  go_wp2_with fail
  refine (rnth_any _ l _ (by simp) (by simp [go_sem]) (by simp [go_sem]) hl).mono ?_
  rintro e w1 ⟨rfl, hb⟩
  have F1 : FB w w1 := from_boxes w w1 _ hb
  clear hb
  generalize (Pl.lnth l).1 = x at *
  generalize (Pl.lnth l).2 = y at *
  go_wp2_with fail
  have F2 := F1.step ((Below.refl _ _).alloc (Nat.le_refl _) (.cells #[.int .i64 x, .int .i64 y] 23))
  have A2 := At.new w1 x y
  refine (rcheck_no x y _ h).mono ?_
  rintro e w2 ⟨rfl, h2⟩
  have F3 := F2.step h2
  clear F1 F2 h2 A2
  obtain ⟨⟨c0, c1⟩, ⟨f0, f1⟩, hB, hz⟩ := id F3
  go_wp2
  have e1 := set_same (a := ⟨w.heap.size, 1, none⟩) (.int .i64 0) (still_some ⟨w.heap.size, 0, none⟩ (.int .i64 0) ⟨_, c1⟩)
  exact bodyPost_ret (v := .tuple #[.agg #[.int .i64 0, .int .i64 0], .bool false]) (by simp [results, Tryd.results9, go_sem, c0, e1]) rfl
    ⟨rfl, (hB.setCell (p := ⟨w.heap.size, 0, none⟩) (Nat.le_refl _) _).setCell (p := ⟨w.heap.size, 1, none⟩) (Nat.le_refl _) _⟩

set_option maxHeartbeats 1000000 in
theorem from_miss (l : List UInt8) (w : World) (hl : l.length ≤ maxLen) (hx : Pl.inB (Pl.lnth l).1) (hy : Pl.inB (Pl.lnth l).2) (hne : (Pl.shown (Pl.lnth l).1 (Pl.lnth l).2 == l) = false) :
    Calls Tryd.prog 9 #[.string ⟨l.toArray⟩] w fun e w' => e = .returned (.tuple #[.agg #[.int .i64 0, .int .i64 0], .bool false]) ∧ Below w.heap.size w w' := by
  go_enter Tryd.func9, Tryd.ntmps9
  go_wp2_with fail
  refine (rnth_any _ l _ (by simp) (by simp [go_sem]) (by simp [go_sem]) hl).mono ?_
  rintro e w1 ⟨rfl, hb⟩
  have F1 : FB w w1 := from_boxes w w1 _ hb
  clear hb
  generalize (Pl.lnth l).1 = x at *
  generalize (Pl.lnth l).2 = y at *
  go_wp2_with fail
  have F2 := F1.step ((Below.refl _ _).alloc (Nat.le_refl _) (.cells #[.int .i64 x, .int .i64 y] 23))
  have A2 := At.new w1 x y
  refine (rcheck_ok x y _ ((Pl.inBB_iff x).2 hx) ((Pl.inBB_iff y).2 hy)).mono ?_
  rintro e w2 ⟨rfl, h2⟩
  have F3 := F2.step h2
  have A3 := A2.step h2
  clear F1 F2 h2 A2
  obtain ⟨a0, a1, _, _⟩ := id A3
  go_wp2_with fail
  refine (text_any x y _ hx hy).mono ?_
  rintro e w3 ⟨rfl, h3⟩
  have F4 := F3.step h3
  clear F3 h3 A3 a0 a1
  obtain ⟨⟨c0, c1⟩, ⟨f0, f1⟩, hB, hz⟩ := id F4
  have e1 := set_same (a := ⟨w.heap.size, 1, none⟩) (.int .i64 0) (still_some ⟨w.heap.size, 0, none⟩ (.int .i64 0) ⟨_, c1⟩)
  have E1 : Hid _ := e1
  clear e1
  go_wp2
  exact bodyPost_ret (v := .tuple #[.agg #[.int .i64 0, .int .i64 0], .bool false]) (by simp [results, Tryd.results9, go_sem, c0, E1.out]) rfl
    ⟨rfl, (hB.setCell (p := ⟨w.heap.size, 0, none⟩) (Nat.le_refl _) _).setCell (p := ⟨w.heap.size, 1, none⟩) (Nat.le_refl _) _⟩

set_option maxHeartbeats 1000000 in
theorem from_hit (l : List UInt8) (w : World) (hl : l.length ≤ maxLen) (hx : Pl.inB (Pl.lnth l).1) (hy : Pl.inB (Pl.lnth l).2) (he : Pl.shown (Pl.lnth l).1 (Pl.lnth l).2 = l) :
    Calls Tryd.prog 9 #[.string ⟨l.toArray⟩] w fun e w' => e = .returned (.tuple #[.agg #[.int .i64 (Pl.lnth l).1, .int .i64 (Pl.lnth l).2], .bool true]) ∧ Below w.heap.size w w' := by
  have HE : Hid _ := he
  clear he
  go_enter Tryd.func9, Tryd.ntmps9
  go_wp2_with fail
  refine (rnth_any _ l _ (by simp) (by simp [go_sem]) (by simp [go_sem]) hl).mono ?_
  rintro e w1 ⟨rfl, hb⟩
  have F1 : FB w w1 := from_boxes w w1 _ hb
  clear hb
  generalize hX : (Pl.lnth l).1 = x at *
  generalize hY : (Pl.lnth l).2 = y at *
  have HX : Hid _ := hX
  have HY : Hid _ := hY
  clear hX hY
  go_wp2_with fail
  have F2 := F1.step ((Below.refl _ _).alloc (Nat.le_refl _) (.cells #[.int .i64 x, .int .i64 y] 23))
  have A2 := At.new w1 x y
  refine (rcheck_ok x y _ ((Pl.inBB_iff x).2 hx) ((Pl.inBB_iff y).2 hy)).mono ?_
  rintro e w2 ⟨rfl, h2⟩
  have F3 := F2.step h2
  have A3 := A2.step h2
  clear F1 F2 h2 A2
  obtain ⟨a0, a1, _, _⟩ := id A3
  go_wp2_with fail
  refine (text_any x y _ hx hy).mono ?_
  rintro e w3 ⟨rfl, h3⟩
  rw [HE.out]
  have F4 := F3.step h3
  have A4 := A3.step h3
  clear F3 h3 A3 a0 a1
  obtain ⟨d0, d1, _, _⟩ := id A4
  obtain ⟨⟨c0, c1⟩, ⟨f0, f1⟩, hB, hz⟩ := id F4
  have e1 := set_same (a := ⟨w.heap.size, 1, none⟩) (.int .i64 y) (still_some ⟨w.heap.size, 0, none⟩ (.int .i64 x) ⟨_, c1⟩)
  have E1 : Hid _ := e1
  clear e1
  go_wp2
  exact bodyPost_ret (v := .tuple #[.agg #[.int .i64 x, .int .i64 y], .bool true]) (by simp [results, Tryd.results9, go_sem, c0, E1.out]) rfl
    ⟨by rw [HX.out, HY.out], (hB.setCell (p := ⟨w.heap.size, 0, none⟩) (Nat.le_refl _) _).setCell (p := ⟨w.heap.size, 1, none⟩) (Nat.le_refl _) _⟩

theorem from_some (l : List UInt8) (x y : Int) (w : World) (hl : l.length ≤ maxLen) (h : Pl.read l = some (x, y)) :
    Calls Tryd.prog 9 #[.string ⟨l.toArray⟩] w fun e w' => e = .returned (.tuple #[.agg #[.int .i64 x, .int .i64 y], .bool true]) ∧ Below w.heap.size w w' := by
  obtain ⟨hx, hy, hs⟩ := (Pl.read_iff _ _ _).1 h
  have hn : Pl.lnth l = (x, y) := by rw [hs]; exact Pl.lnth_shown hx hy
  have := from_hit l w hl (by rw [hn]; exact hx) (by rw [hn]; exact hy) (by rw [hn]; exact hs.symm)
  rwa [hn] at this
theorem from_none (l : List UInt8) (w : World) (hl : l.length ≤ maxLen) (h : Pl.read l = none) :
    Calls Tryd.prog 9 #[.string ⟨l.toArray⟩] w fun e w' => e = .returned (.tuple #[.agg #[.int .i64 0, .int .i64 0], .bool false]) ∧ Below w.heap.size w w' := by
  cases hb : (Pl.inBB (Pl.lnth l).1 && Pl.inBB (Pl.lnth l).2) with
  | false => exact from_bad l w hl hb
  | true =>
    rw [Bool.and_eq_true] at hb
    have hx := (Pl.inBB_iff _).1 hb.1
    have hy := (Pl.inBB_iff _).1 hb.2
    refine from_miss l w hl hx hy ?_
    rw [beq_eq_false_iff_ne]
    intro e
    have := (Pl.read_iff l _ _).2 ⟨hx, hy, e.symm⟩
    rw [h] at this; cases this
end Go.Proofs.YthlpcmgeelkncaaDoor
