/-
  Kids, and what stands behind an element, as the program tells them.
-/
import Derived.Test.YtagobgjlhdbhmaaDoorCheck
import Derived.Deep.AppendLies
namespace Go.Proofs.YtagobgjlhdbhmaaDoor
open Go.RowKit

namespace Pl
/-- the kids of n among the first k -/
def kidsTo (ns : List Nd) (n : Int) (k : Nat) : List Nat := (List.range k).filter fun i => upOf ns i == n
def kidsOf (ns : List Nd) (n : Int) : List Nat := kidsTo ns n ns.length
theorem kidsTo_hit (ns : List Nd) (n : Int) (k : Nat) (h : (upOf ns k == n) = true) : kidsTo ns n (k + 1) = kidsTo ns n k ++ [k] := by
  unfold kidsTo; rw [List.range_succ, List.filter_append]; simp [h]
theorem kidsTo_miss (ns : List Nd) (n : Int) (k : Nat) (h : (upOf ns k == n) = false) : kidsTo ns n (k + 1) = kidsTo ns n k := by
  unfold kidsTo; rw [List.range_succ, List.filter_append]; simp [h]
theorem kidsTo_len (ns : List Nd) (n : Int) (k : Nat) : (kidsTo ns n k).length ≤ k := by
  unfold kidsTo; exact Nat.le_trans (List.length_filter_le _ _) (by simp)
/-- the end of those from e on whose Up is n at least -/
def behindFrom (ns : List Nd) (n : Nat) : Nat → Nat → Nat
  | 0, e => e
  | f + 1, e => if e < ns.length ∧ (n : Int) ≤ upOf ns e then behindFrom ns n f (e + 1) else e
def behind (ns : List Nd) (n : Nat) : Nat := behindFrom ns n (ns.length - n) (n + 1)
end Pl
/-- numbers as cells -/
def natCells (l : List Nat) : List Value := l.map fun (k : Nat) => Value.int .i64 (k : Int)

theorem Tryd.info3 : (Tryd.prog.info? 3).map (fun i => (i.zero, i.size, i.bytes)) = some (some (.int .i64 0), 1, 8) := by kernel_rfl

theorem ints_of_row {w : World} {B : Nat} {v : Value} {l : List Nat} (h : w.ownsRow B 3 1 v l.length (natCells l)) : IntsAt w v (l.map fun (k : Nat) => (k : Int)) := by
  have hh := h
  obtain ⟨_, h0 | ⟨g, cap, cur, rfl, _⟩⟩ := h
  · obtain ⟨rfl, hl⟩ := h0
    have : l = [] := by simpa using hl
    subst this
    exact ⟨none, 0, rfl, Or.inl rfl⟩
  · refine ⟨_, cap, by simp, Or.inr ⟨g, 0, rfl, fun i hi => ?_⟩⟩
    have hl : i < l.length := by simpa using hi
    have := World.ownsRow.cells hh rfl i (.int .i64 (l[i] : Int)) (by simp [natCells, List.getElem?_eq_getElem hl])
    rw [Addr.add_lit] at this
    simpa using this

def hasB (len : Nat) (n : Int) : Bool := decide (0 ≤ n) && decide (n < len)
/-- what calls that ask for one element tell first -/
def checkAtOf (ns : List Pl.Nd) (n : Int) : Int := if Pl.checkDoc ns = 0 then (if hasB ns.length n = true then 0 else 5) else Pl.checkDoc ns
end Go.Proofs.YtagobgjlhdbhmaaDoor
