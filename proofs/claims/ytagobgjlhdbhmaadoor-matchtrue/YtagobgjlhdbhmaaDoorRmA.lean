/-
  What the document says of attribute tests: texts that stand in texts, words. Plain, and walked.
-/
import Derived.Test.YtagobgjlhdbhmaaDoorIsR
namespace Go.Proofs.YtagobgjlhdbhmaaDoor
open Go.RowKit

namespace Pl
/-- a text stands in another one, at a place -/
def stands (s t : List UInt8) (i : Int) : Bool := decide (0 ≤ i) && (decide (i + t.length ≤ s.length) && ((s.drop i.toNat).take t.length == t))
/-- what word asks at a place -/
def wordAt (s t : List UInt8) (i : Nat) : Bool := stands s t i && ((decide (i = 0) || s[i - 1]? == some 32) && (decide (i + t.length = s.length) || s[i + t.length]? == some 32))
def word (s t : List UInt8) : Bool := !t.isEmpty && (t.all (fun c => !(c == 32)) && (List.range (s.length + 1)).any (wordAt s t))
def valOk (kind : Int) (s t : List UInt8) : Bool :=
  if kind = 3 then true
  else if kind = 4 then s == t
  else if kind = 8 then word s t
  else if t.isEmpty = true then false
  else if kind = 5 then stands s t 0
  else if kind = 6 then stands s t ((s.length : Int) - t.length)
  else (List.range s.length).any fun i => stands s t i
end Pl
theorem ex_mid (l : List UInt8) (a b : Nat) : (⟨l.toArray⟩ : ByteArray).extract a b = ⟨((l.drop a).take (b - a)).toArray⟩ := by
  rw [Lib.extract_eq]
end Go.Proofs.YtagobgjlhdbhmaaDoor
