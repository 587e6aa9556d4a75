/-
  What the document says of attribute tests: texts that stand in texts, words. Plain, and walked.
-/
import Derived.Test.YtephhllfodlfbaaGreatDoorIsR
import Derived.Test.YtephhllfodlfbaaGreatDoorMem
namespace Go.Proofs.YtephhllfodlfbaaGreatDoor
open Go.RowKit

namespace Pl
/-- a text stands in another one, at a place -/
def stands (s t : List UInt8) (i : Int) : Bool := decide (0 ≤ i) && (decide (i + t.length ≤ s.length) && ((s.drop i.toNat).take t.length == t))
/-- what word asks at a place -/
def wordAt (s t : List UInt8) (i : Nat) : Bool := stands s t i && ((decide (i = 0) || s[i - 1]? == some 32) && (decide (i + t.length = s.length) || s[i + t.length]? == some 32))
def word (s t : List UInt8) : Bool := !t.isEmpty && (t.all (fun c => !(c == 32)) && (List.range (s.length + 1)).any (wordAt s t))
def valOk (kind : Int) (s t : List UInt8) : Bool :=
  if kind = 3 then true
  else if kind = 4 then s == t
  else if kind = 8 then word s t
  else if t.isEmpty = true then false
  else if kind = 5 then stands s t 0
  else if kind = 6 then stands s t ((s.length : Int) - t.length)
  else (List.range s.length).any fun i => stands s t i
end Pl
theorem ex_mid (l : List UInt8) (a b : Nat) : (⟨l.toArray⟩ : ByteArray).extract a b = ⟨((l.drop a).take (b - a)).toArray⟩ := by
  rw [Lib.extract_eq]
end Go.Proofs.YtephhllfodlfbaaGreatDoor
/-
  What the document says of words in a value.
-/
namespace Go.Proofs.YtephhllfodlfbaaGreatDoor
open Go.RowKit

theorem any_none {n : Nat} {p : Nat → Bool} (h : ∀ j, j < n → p j = false) : (List.range n).any p = false := by
  rw [Bool.eq_false_iff]
  intro e
  rw [List.any_eq_true] at e
  obtain ⟨x, hx, hp⟩ := e
  rw [h x (by simpa using hx)] at hp
  cases hp
end Go.Proofs.YtephhllfodlfbaaGreatDoor
/-
  Names and values, as the document's own answer tells them.
-/
namespace Go.Proofs.YtephhllfodlfbaaGreatDoor
open Go.RowKit

def within (n lo hi : Int) : Bool := decide (lo ≤ n) && decide (n ≤ hi)
end Go.Proofs.YtephhllfodlfbaaGreatDoor
/-
  Names, as the document's own answer tells them.
-/
namespace Go.Proofs.YtephhllfodlfbaaGreatDoor
open Go.RowKit

end Go.Proofs.YtephhllfodlfbaaGreatDoor
