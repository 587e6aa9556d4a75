/-
  Names and values, as the document's own answer tells them.
-/
import Derived.Test.YtagobgjlhdbhmaaDoorMem
namespace Go.Proofs.YtagobgjlhdbhmaaDoor
open Go.RowKit

def within (n lo hi : Int) : Bool := decide (lo ≤ n) && decide (n ≤ hi)
end Go.Proofs.YtagobgjlhdbhmaaDoor
/-
  Names, as the document's own answer tells them.
-/
namespace Go.Proofs.YtagobgjlhdbhmaaDoor
open Go.RowKit

theorem nb_class (c : UInt8) : ((97 : Int) ≤ (c.toNat : Int) ∧ (c.toNat : Int) ≤ 122 ∧ Pl.isNB c = true) ∨ ((97 : Int) ≤ (c.toNat : Int) ∧ ¬ (c.toNat : Int) ≤ 122 ∧ (48 : Int) ≤ (c.toNat : Int) ∧ ¬ (c.toNat : Int) ≤ 57 ∧ ((c.toNat : Int) == 45) = false ∧ Pl.isNB c = false) ∨
    (¬ (97 : Int) ≤ (c.toNat : Int) ∧ (48 : Int) ≤ (c.toNat : Int) ∧ (c.toNat : Int) ≤ 57 ∧ Pl.isNB c = true) ∨ (¬ (97 : Int) ≤ (c.toNat : Int) ∧ (48 : Int) ≤ (c.toNat : Int) ∧ ¬ (c.toNat : Int) ≤ 57 ∧ ((c.toNat : Int) == 45) = false ∧ Pl.isNB c = false) ∨
    (¬ (97 : Int) ≤ (c.toNat : Int) ∧ ¬ (48 : Int) ≤ (c.toNat : Int) ∧ ((c.toNat : Int) == 45) = true ∧ Pl.isNB c = true) ∨ (¬ (97 : Int) ≤ (c.toNat : Int) ∧ ¬ (48 : Int) ≤ (c.toNat : Int) ∧ ((c.toNat : Int) == 45) = false ∧ Pl.isNB c = false) := by
  unfold Pl.isNB Pl.isLet Pl.isDig
  generalize c.toNat = n
  by_cases h1 : 97 ≤ n
  · by_cases h2 : n ≤ 122
    · left; simp; omega
    · right; left; simp; omega
  · by_cases h3 : 48 ≤ n
    · by_cases h4 : n ≤ 57
      · right; right; left; simp; omega
      · right; right; right; left; simp; omega
    · by_cases h5 : n = 45
      · right; right; right; right; left; simp; omega
      · right; right; right; right; right; simp; omega
end Go.Proofs.YtagobgjlhdbhmaaDoor
