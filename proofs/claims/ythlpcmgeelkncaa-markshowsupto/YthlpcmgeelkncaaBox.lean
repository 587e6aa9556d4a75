/-
  Documents in boxes, and what stays of a few cells.
-/
import Derived.Test.YthlpcmgeelkncaaFar
import Derived.Deep.DeepCutAuto
namespace Go.Proofs.Ythlpcmgeelkncaa
open Go.RowKit

theorem boxes (w : World) (o1 o2 : Obj) : Below w.heap.size w ((w.alloc o1).alloc o2) := ((Below.refl w.heap.size w).alloc (Nat.le_refl _) o1).alloc (by simp) o2
/-- an answered document in its box -/
def BoxAt (W : World) (M : Nat) (ns : List Pl.Nd) : Prop := ∃ a c, W.cell? ⟨M, 0, none⟩ = some (.slice a ns.length c) ∧ DocAt W (.slice a ns.length c) ns
theorem BoxAt.on {W W' : World} {M : Nat} {ns : List Pl.Nd} (h : BoxAt W M ns) (hb : Below W.heap.size W W') : BoxAt W' M ns := by
  obtain ⟨a, c, h1, h2⟩ := h
  exact ⟨a, c, cell_on hb h1, h2.on hb⟩
theorem BoxAt.new {W : World} {a : Option Addr} {c : Nat} {ns : List Pl.Nd} (h : DocAt W (.slice a ns.length c) ns) : BoxAt (W.alloc (.cells #[.slice a ns.length c] 24)) W.heap.size ns :=
  ⟨a, c, by simp [go_sem], h.on (on_alloc _ _)⟩
theorem DocAt.form {W : World} {v : Value} {ns : List Pl.Nd} (h : DocAt W v ns) : ∃ a c, v = .slice a ns.length c := by
  obtain ⟨a, c, h1, _⟩ := h.1
  exact ⟨a, c, h1⟩

theorem duo_on {w W w' : World} {p0 p1 : Addr} {v0 v1 : Value} (h : W.cell? p0 = some v0 ∧ W.cell? p1 = some v1 ∧ Below w.heap.size w W) (hb : Below W.heap.size W w') : w'.cell? p0 = some v0 ∧ w'.cell? p1 = some v1 ∧ Below w.heap.size w w' :=
  ⟨cell_on hb h.1, cell_on hb h.2.1, below_trans h.2.2 hb⟩
theorem duo_last {w W : World} {p0 p1 : Addr} {v0 v1 : Value} (h : W.cell? p0 = some v0 ∧ W.cell? p1 = some v1 ∧ Below w.heap.size w W) : Below w.heap.size w W := h.2.2

theorem duo_set {w W : World} {b0 o0 b1 o1 : Nat} {v0 v1 u : Value} (h0 : b0 < w.heap.size) (h1 : b1 < w.heap.size) (h : W.cell? ⟨b0, o0, none⟩ = some v0 ∧ W.cell? ⟨b1, o1, none⟩ = some v1 ∧ Below w.heap.size w W) :
    (W.setCell ⟨w.heap.size, 0, none⟩ u).cell? ⟨b0, o0, none⟩ = some v0 ∧ (W.setCell ⟨w.heap.size, 0, none⟩ u).cell? ⟨b1, o1, none⟩ = some v1 ∧ Below w.heap.size w (W.setCell ⟨w.heap.size, 0, none⟩ u) :=
  ⟨cell_set h.1 (by omega), cell_set h.2.1 (by omega), h.2.2.setCell (p := ⟨w.heap.size, 0, none⟩) (Nat.le_refl _) u⟩

theorem duo_re {w W : World} {o o' : Obj} {b0 o0 b1 o1 : Nat} {v0 v1 : Value} (h0 : b0 < w.heap.size) (h1 : b1 < w.heap.size) (hs : w.heap.size ≤ W.heap.size) (h : (W.alloc o).cell? ⟨b0, o0, none⟩ = some v0 ∧ (W.alloc o).cell? ⟨b1, o1, none⟩ = some v1 ∧ Below w.heap.size w (W.alloc o)) :
    (W.alloc o').cell? ⟨b0, o0, none⟩ = some v0 ∧ (W.alloc o').cell? ⟨b1, o1, none⟩ = some v1 ∧ Below w.heap.size w (W.alloc o') := by
  have hb : ∀ k, k < w.heap.size → (W.alloc o').heap[k]? = (W.alloc o).heap[k]? := fun k hk => by rw [Below.heap_alloc _ _ _ (by omega), Below.heap_alloc _ _ _ (by omega)]
  refine ⟨?_, ?_, ?_⟩
  · rw [World.cell?_of_block (w := W.alloc o) (hb b0 h0)]; exact h.1
  · rw [World.cell?_of_block (w := W.alloc o) (hb b1 h1)]; exact h.2.1
  · obtain ⟨e1, e2, e3, e4, e5⟩ := h.2.2
    exact ⟨e1, e2, e3, by simp; omega, fun k hk => (hb k hk).trans (e5 k hk)⟩
theorem cell_all {W w' : World} (hb : Below W.heap.size W w') (p : Addr) : ∀ v, W.cell? p = some v → w'.cell? p = some v := fun _ h => cell_on hb h
end Go.Proofs.Ythlpcmgeelkncaa
