/-
  Documents in plain lists: names, values, right elements, where elements hang. No program in this text.
-/
import Derived.Lib.Strings
import GoSem.Op.String
namespace Go.Proofs.Ythlpcmgeelkncaa.Pl

def isDig (c : UInt8) : Bool := decide (48 ≤ c.toNat) && decide (c.toNat ≤ 57)
def isLet (c : UInt8) : Bool := decide (97 ≤ c.toNat) && decide (c.toNat ≤ 122)
def isNB (c : UInt8) : Bool := isLet c || isDig c || (c.toNat == 45)
def isVB (c : UInt8) : Bool := decide (32 ≤ c.toNat) && decide (c.toNat ≤ 126) && !(c.toNat == 34)
def headLet : List UInt8 → Bool
  | [] => false
  | c :: _ => isLet c
def isName (l : List UInt8) : Bool := decide (1 ≤ l.length) && decide (l.length ≤ 12) && headLet l && l.all isNB
def isValue (l : List UInt8) : Bool := decide (l.length ≤ 16) && l.all isVB
def rise : List (List UInt8) → Bool
  | a :: b :: r => Op.bytesLess a b && rise (b :: r)
  | _ => true
/-- an element -/
structure Nd where
  up : Int
  tag : List UInt8
  id : List UInt8
  cls : List (List UInt8)
  ats : List (List UInt8 × List UInt8)
def names (most : Nat) (l : List (List UInt8)) : Bool := decide (l.length ≤ most) && l.all isName && rise l
def right (x : Nd) : Bool :=
  isName x.tag && (x.id.isEmpty || isName x.id) && names 6 x.cls && names 4 (x.ats.map (·.1)) && x.ats.all (fun a => isValue a.2)
end Go.Proofs.Ythlpcmgeelkncaa.Pl
