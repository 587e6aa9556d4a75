/-
  The document's own check of a list of paths: its counts.
-/
import Derived.Test.YtephhllfodlfbaaGreatDoorRcB
import Derived.Test.YtephhllfodlfbaaGreatDoorRcC
namespace Go.Proofs.YtephhllfodlfbaaGreatDoor
open Go.RowKit

def nB (a b : Int) : Bool := within a (-1048576) 1048576 && within b (-1048576) 1048576
def nErr (a b : Int) : Int := if nB a b = true then 0 else 3
theorem nErr_ok {a b : Int} (h : nB a b = true) : nErr a b = 0 := by unfold nErr; rw [if_pos h]
theorem nErr_no {a b : Int} (h : nB a b = false) : nErr a b = 3 := by unfold nErr; rw [h]; rfl
theorem Blk6r.new (w : World) (u0 u1 u2 u3 u4 u5 : Value) : (w.alloc (.cells #[u0, u1, u2, u3, u4, u5] 71)).cell? ⟨w.heap.size, 3, none⟩ = some u3 ∧ (w.alloc (.cells #[u0, u1, u2, u3, u4, u5] 71)).cell? ⟨w.heap.size, 4, none⟩ = some u4 := by
  constructor <;> simp [go_sem]
def nthT {α : Type} (g : List α → Bool) (t : Pl.Tst α) : Bool := nB t.a t.b && g t.list
def nthS {α : Type} (g : List α → Bool) (s : Pl.Stp α) : Bool := s.tests.all (nthT g)
def nthP {α : Type} (g : List α → Bool) (p : Pl.Pth α) : Bool := p.steps.all (nthS g)
def nthL {α : Type} (g : List α → Bool) (l : List (Pl.Pth α)) : Bool := l.all (nthP g)
end Go.Proofs.YtephhllfodlfbaaGreatDoor
/-
  The document's own check of a list of paths.
-/
namespace Go.Proofs.YtephhllfodlfbaaGreatDoor
open Go.RowKit

namespace Pl
def kind3 : List D3 → Bool := evUp pKinds (evUp pKinds (evUp pKinds fun _ => true))
def form3 : List D3 → Bool := evUp (pForm isName isValue) (evUp (pForm isName isValue) (evUp (pForm isName isValue) fun _ => true))
/-- which fault a list has -/
def pick4 (a b c d : Bool) : Int := if a then (if b then (if c then (if d then 0 else 3) else 1) else 4) else 2
end Pl
def nth3 : List Pl.D3 → Bool := nthL (nthL (nthL fun _ => true))
def chkList (l : List Pl.D3) : Int := Pl.pick4 (Pl.fit3 l) (Pl.kind3 l) (Pl.form3 l) (nth3 l)
theorem inner_fit {α : Type} {f : List α → Bool} {ok : List α → Prop} {l : List (Pl.Pth α)} (h : Pl.fitUp f l = true) (hf : ∀ l, f l = true → ok l) : Inner ok l := by
  intro p hp s hs t ht hk
  rw [fit_eq, Bool.and_eq_true, List.all_eq_true] at h
  have h1 := h.2 p hp
  unfold fitP at h1
  rw [Bool.and_eq_true, List.all_eq_true] at h1
  have h2 := h1.2 s hs
  unfold fitS at h2
  rw [Bool.and_eq_true, List.all_eq_true] at h2
  have h3 := h2.2 t ht
  unfold fitT at h3
  rw [hk] at h3
  exact hf _ h3
end Go.Proofs.YtephhllfodlfbaaGreatDoor
