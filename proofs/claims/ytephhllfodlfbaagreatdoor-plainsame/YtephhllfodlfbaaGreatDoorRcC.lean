/-
  The document's own check of a list of paths: its forms.
-/
import Derived.Test.YtephhllfodlfbaaGreatDoorRcB
namespace Go.Proofs.YtephhllfodlfbaaGreatDoor
open Go.RowKit

abbrev tF {α : Type} (t : Pl.Tst α) : Bool := Pl.tForm Pl.isName Pl.isValue t
def formT {α : Type} (g : List α → Bool) (t : Pl.Tst α) : Bool := tF t && (!Pl.kList t.kind || g t.list)
def formS {α : Type} (g : List α → Bool) (s : Pl.Stp α) : Bool := (s.tag.isEmpty || Pl.isName s.tag) && s.tests.all (formT g)
def formP {α : Type} (g : List α → Bool) (p : Pl.Pth α) : Bool := p.steps.all (formS g)
theorem form_eq {α : Type} (g : List α → Bool) (l : List (Pl.Pth α)) : Pl.evUp (Pl.pForm Pl.isName Pl.isValue) g l = l.all (formP g) := by
  have e : (fun p => Pl.pForm Pl.isName Pl.isValue p && Pl.inner g p) = formP g := by
    funext p
    unfold Pl.pForm Pl.inner formP
    rw [Bool.and_assoc, all_and, tests_all, all_and]
    rfl
  unfold Pl.evUp
  rw [e]
theorem Blk6q.new (w : World) (u0 u1 u2 u3 u4 u5 : Value) : (w.alloc (.cells #[u0, u1, u2, u3, u4, u5] 71)).cell? ⟨w.heap.size, 1, none⟩ = some u1 ∧ (w.alloc (.cells #[u0, u1, u2, u3, u4, u5] 71)).cell? ⟨w.heap.size, 2, none⟩ = some u2 ∧ (w.alloc (.cells #[u0, u1, u2, u3, u4, u5] 71)).cell? ⟨w.heap.size, 3, none⟩ = some u3 ∧ (w.alloc (.cells #[u0, u1, u2, u3, u4, u5] 71)).cell? ⟨w.heap.size, 4, none⟩ = some u4 := by
  refine ⟨?_, ?_, ?_, ?_⟩ <;> simp [go_sem]
end Go.Proofs.YtephhllfodlfbaaGreatDoor
