/-
  The law NthTells' walk: Check, Holds, Show and Read answer just what the document says.
-/
import Derived.Test.YthlpcmgeelkncaaDoorFrm3
import Derived.Deep.RegionHeld3
namespace Go.Proofs.YthlpcmgeelkncaaDoor
open Go.RowKit

def Box (wi : World) (M : Nat) (x y : Int) : Prop := wi.cell? ⟨M, 0, none⟩ = some (.int .i64 x) ∧ wi.cell? ⟨M, 1, none⟩ = some (.int .i64 y) ∧ M < wi.heap.size
theorem Box.step {wi wj : World} {M : Nat} {x y : Int} (h : Box wi M x y) (hb : Below wi.heap.size wi wj) : Box wj M x y := by
  obtain ⟨c0, c1, hz⟩ := h
  refine ⟨?_, ?_, Nat.lt_of_lt_of_le hz hb.size⟩
  · rw [hb.cell (p := ⟨M, 0, none⟩) hz]; exact c0
  · rw [hb.cell (p := ⟨M, 1, none⟩) hz]; exact c1
theorem Box.new (w : World) (x y : Int) : Box (w.alloc (.cells #[.int .i64 x, .int .i64 y] 23)) w.heap.size x y := ⟨by simp [go_sem], by simp [go_sem], by simp⟩
/-- three boxes stand -/
def TT (w wi : World) (a b : Int) (M : Nat) (x y : Int) (K : Nat) (z t : Int) : Prop := At w wi a b ∧ Box wi M x y ∧ Box wi K z t
theorem TT.step {w wi wj : World} {a b : Int} {M : Nat} {x y : Int} {K : Nat} {z t : Int} (h : TT w wi a b M x y K z t) (hb : Below wi.heap.size wi wj) : TT w wj a b M x y K z t :=
  ⟨h.1.step hb, h.2.1.step hb, h.2.2.step hb⟩
theorem TT.drew {w wi : World} {a b : Int} {M : Nat} {x y : Int} {K : Nat} {z t : Int} (h : TT w wi a b M x y K z t) : TT w wi.drew a b M x y K z t := h.step (Below.refl _ _).drew

theorem TT.below {w wi : World} {a b : Int} {M : Nat} {x y : Int} {K : Nat} {z t : Int} (h : TT w wi a b M x y K z t) : Below w.heap.size w wi := h.1.below
theorem six_step {w wi wj : World} {a b : Int} {M : Nat} {x y : Int} {K : Nat} {z t : Int}
    (h : wi.cell? ⟨w.heap.size, 0, none⟩ = some (.int .i64 a) ∧ wi.cell? ⟨w.heap.size, 1, none⟩ = some (.int .i64 b) ∧ wi.cell? ⟨M, 0, none⟩ = some (.int .i64 x) ∧ wi.cell? ⟨M, 1, none⟩ = some (.int .i64 y) ∧ wi.cell? ⟨K, 0, none⟩ = some (.int .i64 z) ∧ wi.cell? ⟨K, 1, none⟩ = some (.int .i64 t) ∧ w.heap.size + 1 ≤ wi.heap.size ∧ M < wi.heap.size ∧ K < wi.heap.size ∧ Below w.heap.size w wi)
    (hb : Below wi.heap.size wi wj) :
    wj.cell? ⟨w.heap.size, 0, none⟩ = some (.int .i64 a) ∧ wj.cell? ⟨w.heap.size, 1, none⟩ = some (.int .i64 b) ∧ wj.cell? ⟨M, 0, none⟩ = some (.int .i64 x) ∧ wj.cell? ⟨M, 1, none⟩ = some (.int .i64 y) ∧ wj.cell? ⟨K, 0, none⟩ = some (.int .i64 z) ∧ wj.cell? ⟨K, 1, none⟩ = some (.int .i64 t) ∧ w.heap.size + 1 ≤ wj.heap.size ∧ M < wj.heap.size ∧ K < wj.heap.size ∧ Below w.heap.size w wj := by
  obtain ⟨c0, c1, d0, d1, e0, e1, cz, dz, ez, cB⟩ := h
  obtain ⟨⟨f0, f1, fz, fB⟩, ⟨g0, g1, gz⟩, ⟨h0, h1, hz⟩⟩ := TT.step (M := M) (K := K) ⟨⟨c0, c1, cz, cB⟩, ⟨d0, d1, dz⟩, ⟨e0, e1, ez⟩⟩ hb
  exact ⟨f0, f1, g0, g1, h0, h1, fz, gz, hz, fB⟩
theorem six_drew {w wi : World} {a b : Int} {M : Nat} {x y : Int} {K : Nat} {z t : Int}
    (h : wi.cell? ⟨w.heap.size, 0, none⟩ = some (.int .i64 a) ∧ wi.cell? ⟨w.heap.size, 1, none⟩ = some (.int .i64 b) ∧ wi.cell? ⟨M, 0, none⟩ = some (.int .i64 x) ∧ wi.cell? ⟨M, 1, none⟩ = some (.int .i64 y) ∧ wi.cell? ⟨K, 0, none⟩ = some (.int .i64 z) ∧ wi.cell? ⟨K, 1, none⟩ = some (.int .i64 t) ∧ w.heap.size + 1 ≤ wi.heap.size ∧ M < wi.heap.size ∧ K < wi.heap.size ∧ Below w.heap.size w wi) :
    wi.drew.cell? ⟨w.heap.size, 0, none⟩ = some (.int .i64 a) ∧ wi.drew.cell? ⟨w.heap.size, 1, none⟩ = some (.int .i64 b) ∧ wi.drew.cell? ⟨M, 0, none⟩ = some (.int .i64 x) ∧ wi.drew.cell? ⟨M, 1, none⟩ = some (.int .i64 y) ∧ wi.drew.cell? ⟨K, 0, none⟩ = some (.int .i64 z) ∧ wi.drew.cell? ⟨K, 1, none⟩ = some (.int .i64 t) ∧ w.heap.size + 1 ≤ wi.drew.heap.size ∧ M < wi.drew.heap.size ∧ K < wi.drew.heap.size ∧ Below w.heap.size w wi.drew :=
  six_step h (Below.refl _ _).drew
theorem six_below {w wi : World} {a b : Int} {M : Nat} {x y : Int} {K : Nat} {z t : Int}
    (h : wi.cell? ⟨w.heap.size, 0, none⟩ = some (.int .i64 a) ∧ wi.cell? ⟨w.heap.size, 1, none⟩ = some (.int .i64 b) ∧ wi.cell? ⟨M, 0, none⟩ = some (.int .i64 x) ∧ wi.cell? ⟨M, 1, none⟩ = some (.int .i64 y) ∧ wi.cell? ⟨K, 0, none⟩ = some (.int .i64 z) ∧ wi.cell? ⟨K, 1, none⟩ = some (.int .i64 t) ∧ w.heap.size + 1 ≤ wi.heap.size ∧ M < wi.heap.size ∧ K < wi.heap.size ∧ Below w.heap.size w wi) : Below w.heap.size w wi := h.2.2.2.2.2.2.2.2.2
set_option maxHeartbeats 4000000 in
theorem tells_rr (a b i : Int) (l : List UInt8) (x y : Int) (w : World) (hl : l.length ≤ maxLen)
    (hT : Lib.TabIs Tryd.prog w "internal/strconv.uint64pow10" .u64 Lib.pow10Tab) (ha : Pl.inBB a = true) (hb : Pl.inBB b = true) (hr : Pl.read l = some (x, y)) :
    Calls Tryd.prog 3 #[.agg #[.int .i64 a, .int .i64 b], .int .i64 i, .string ⟨l.toArray⟩] w fun e w' => e = .returned (.bool true) ∧ Below w.heap.size w w' := by
  have HT : Hid (∀ w', Below w.heap.size w w' → Lib.TabIs Tryd.prog w' "internal/strconv.uint64pow10" .u64 Lib.pow10Tab) := tab_later hT
  clear hT
  have hBa := (Pl.inBB_iff a).1 ha
  have hBb := (Pl.inBB_iff b).1 hb
  have HR : Hid _ := hr
  clear hr
  go_enter Tryd.func3, Tryd.ntmps3
  go_wp2_with fail
  have A0 := At.new w a b
  refine (show_ok a b _ ha hb (HT.out _ A0.below)).mono ?_
  rintro e w1 ⟨rfl, h1⟩
  have A1 := A0.step h1
  obtain ⟨c0, c1, _, _⟩ := id A1
  clear A0 h1
  go_wp2_with fail
  refine (rcheck_ok a b _ ha hb).mono ?_
  rintro e w2 ⟨rfl, h2⟩
  have A2 := A1.step h2
  clear c0 c1 h2 A1
  obtain ⟨c0, c1, _, _⟩ := id A2
  go_wp2_with fail
  refine (text_any a b _ hBa hBb).mono ?_
  rintro e w3 ⟨rfl, h3⟩
  have A3 := A2.step h3
  clear c0 c1 h3 A2
  go_wp2_with fail
  refine (read_some l x y _ hl HR.out).mono ?_
  rintro e w4 ⟨rfl, h4⟩
  have A4 := A3.step h4
  clear h4 A3
  go_wp2_with fail
  have A5 := A4.alloc (.cells #[.int .i64 x, .int .i64 y] 23)
  have B5 := Box.new w4 x y
  refine (from_some l x y _ hl HR.out).mono ?_
  rintro e w5 ⟨rfl, h5⟩
  have A6 := A5.step h5
  have B6 := B5.step h5
  clear h5 A5 B5 A4
  have hd := (Below.refl w5.heap.size w5).alloc (Nat.le_refl _) (.cells #[.int .i64 x, .int .i64 y] 23)
  have T7 : TT w (w5.alloc (.cells #[.int .i64 x, .int .i64 y] 23)) a b w4.heap.size x y w5.heap.size x y := ⟨A6.step hd, B6.step hd, Box.new w5 x y⟩
  clear A6 B6 hd
  go_wp2
  generalize w5.alloc (.cells #[.int .i64 x, .int .i64 y] 23) = w6 at *
  obtain ⟨⟨c0, c1, cz, cB⟩, ⟨d0, d1, dz⟩, ⟨e0, e1, ez⟩⟩ := id T7
  have S7 := six_drew ⟨c0, c1, d0, d1, e0, e1, cz, dz, ez, cB⟩
  clear c0 c1 d0 d1 e0 e1 cz dz ez cB T7
  go_region_held3 (fun w' => w'.cell? ⟨w.heap.size, 0, none⟩ = some (.int .i64 a) ∧ w'.cell? ⟨w.heap.size, 1, none⟩ = some (.int .i64 b) ∧ w'.cell? ⟨w4.heap.size, 0, none⟩ = some (.int .i64 x) ∧ w'.cell? ⟨w4.heap.size, 1, none⟩ = some (.int .i64 y) ∧ w'.cell? ⟨w5.heap.size, 0, none⟩ = some (.int .i64 x) ∧ w'.cell? ⟨w5.heap.size, 1, none⟩ = some (.int .i64 y) ∧ w.heap.size + 1 ≤ w'.heap.size ∧ w4.heap.size < w'.heap.size ∧ w5.heap.size < w'.heap.size ∧ Below w.heap.size w w')
    (first | assumption | exact six_step (by assumption) (by assumption))
    (first
    | (go_at_call 10; refine (begun_any _ (HT.out _ ?_)).mono ?_; (exact six_below (by assumption)); rintro e w' ⟨rfl, hw⟩)
    | (go_at_call 11; refine (check_ok a b _ ha hb).mono ?_; rintro e w' ⟨rfl, hw⟩)
    | (go_at_call 12; refine (holds_any a b i _).mono ?_; rintro e w' ⟨rfl, hw⟩)
    | (go_at_call 13; refine (rholds_any a b i _).mono ?_; rintro e w' ⟨rfl, hw⟩))
  go_wp2
  go_ret
  exact ⟨rfl, six_below (by assumption)⟩
set_option maxHeartbeats 4000000 in
theorem tells_rn (a b i : Int) (l : List UInt8) (w : World) (hl : l.length ≤ maxLen)
    (hT : Lib.TabIs Tryd.prog w "internal/strconv.uint64pow10" .u64 Lib.pow10Tab) (ha : Pl.inBB a = true) (hb : Pl.inBB b = true) (hr : Pl.read l = none) :
    Calls Tryd.prog 3 #[.agg #[.int .i64 a, .int .i64 b], .int .i64 i, .string ⟨l.toArray⟩] w fun e w' => e = .returned (.bool true) ∧ Below w.heap.size w w' := by
  have HT : Hid (∀ w', Below w.heap.size w w' → Lib.TabIs Tryd.prog w' "internal/strconv.uint64pow10" .u64 Lib.pow10Tab) := tab_later hT
  clear hT
  have hBa := (Pl.inBB_iff a).1 ha
  have hBb := (Pl.inBB_iff b).1 hb
  have HR : Hid _ := hr
  clear hr
  go_enter Tryd.func3, Tryd.ntmps3
  go_wp2_with fail
  have A0 := At.new w a b
  refine (show_ok a b _ ha hb (HT.out _ A0.below)).mono ?_
  rintro e w1 ⟨rfl, h1⟩
  have A1 := A0.step h1
  obtain ⟨c0, c1, _, _⟩ := id A1
  clear A0 h1
  go_wp2_with fail
  refine (rcheck_ok a b _ ha hb).mono ?_
  rintro e w2 ⟨rfl, h2⟩
  have A2 := A1.step h2
  clear c0 c1 h2 A1
  obtain ⟨c0, c1, _, _⟩ := id A2
  go_wp2_with fail
  refine (text_any a b _ hBa hBb).mono ?_
  rintro e w3 ⟨rfl, h3⟩
  have A3 := A2.step h3
  clear c0 c1 h3 A2
  go_wp2_with fail
  refine (read_none l _ hl HR.out).mono ?_
  rintro e w4 ⟨rfl, h4⟩
  have A4 := A3.step h4
  clear h4 A3
  go_wp2_with fail
  have A5 := A4.alloc (.cells #[.int .i64 0, .int .i64 0] 23)
  have B5 := Box.new w4 0 0
  refine (from_none l _ hl HR.out).mono ?_
  rintro e w5 ⟨rfl, h5⟩
  have A6 := A5.step h5
  have B6 := B5.step h5
  clear h5 A5 B5 A4
  have hd := (Below.refl w5.heap.size w5).alloc (Nat.le_refl _) (.cells #[.int .i64 0, .int .i64 0] 23)
  have T7 : TT w (w5.alloc (.cells #[.int .i64 0, .int .i64 0] 23)) a b w4.heap.size 0 0 w5.heap.size 0 0 := ⟨A6.step hd, B6.step hd, Box.new w5 0 0⟩
  clear A6 B6 hd
  go_wp2
  generalize w5.alloc (.cells #[.int .i64 0, .int .i64 0] 23) = w6 at *
  obtain ⟨⟨c0, c1, cz, cB⟩, ⟨d0, d1, dz⟩, ⟨e0, e1, ez⟩⟩ := id T7
  have S7 := six_drew ⟨c0, c1, d0, d1, e0, e1, cz, dz, ez, cB⟩
  clear c0 c1 d0 d1 e0 e1 cz dz ez cB T7
  go_region_held3 (fun w' => w'.cell? ⟨w.heap.size, 0, none⟩ = some (.int .i64 a) ∧ w'.cell? ⟨w.heap.size, 1, none⟩ = some (.int .i64 b) ∧ w'.cell? ⟨w4.heap.size, 0, none⟩ = some (.int .i64 0) ∧ w'.cell? ⟨w4.heap.size, 1, none⟩ = some (.int .i64 0) ∧ w'.cell? ⟨w5.heap.size, 0, none⟩ = some (.int .i64 0) ∧ w'.cell? ⟨w5.heap.size, 1, none⟩ = some (.int .i64 0) ∧ w.heap.size + 1 ≤ w'.heap.size ∧ w4.heap.size < w'.heap.size ∧ w5.heap.size < w'.heap.size ∧ Below w.heap.size w w')
    (first | assumption | exact six_step (by assumption) (by assumption))
    (first
    | (go_at_call 10; refine (begun_any _ (HT.out _ ?_)).mono ?_; (exact six_below (by assumption)); rintro e w' ⟨rfl, hw⟩)
    | (go_at_call 11; refine (check_ok a b _ ha hb).mono ?_; rintro e w' ⟨rfl, hw⟩)
    | (go_at_call 12; refine (holds_any a b i _).mono ?_; rintro e w' ⟨rfl, hw⟩)
    | (go_at_call 13; refine (rholds_any a b i _).mono ?_; rintro e w' ⟨rfl, hw⟩))
  go_wp2
  go_ret
  exact ⟨rfl, six_below (by assumption)⟩
end Go.Proofs.YthlpcmgeelkncaaDoor
