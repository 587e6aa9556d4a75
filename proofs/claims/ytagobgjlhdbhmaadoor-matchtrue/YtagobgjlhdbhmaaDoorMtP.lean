/-
  Matching in plain lists: tests, steps, links, paths, lists. No program is walked in this text.
-/
import Derived.Test.YtagobgjlhdbhmaaDoorRmD
import Derived.Test.YtagobgjlhdbhmaaDoorLvM
import Derived.Test.YtagobgjlhdbhmaaDoorHoM
namespace Go.Proofs.YtagobgjlhdbhmaaDoor

def tagAt (ns : List Pl.Nd) (n : Nat) : List UInt8 := match ns[n]? with | some x => x.tag | none => []
def idAt (ns : List Pl.Nd) (n : Nat) : List UInt8 := match ns[n]? with | some x => x.id | none => []
def clsAt (ns : List Pl.Nd) (n : Nat) : List (List UInt8) := match ns[n]? with | some x => x.cls | none => []
def atsAt (ns : List Pl.Nd) (n : Nat) : List (List UInt8 × List UInt8) := match ns[n]? with | some x => x.ats | none => []
/-- the kids of the one above; itself, if none is above -/
def famOf (ns : List Pl.Nd) (n : Nat) : List Int := if n = 0 then [0] else (Pl.kidsOf ns (Pl.upOf ns n)).map fun (k : Nat) => (k : Int)
section
variable {α : Type}
/-- a test, over what its list matches -/
def tstM (ns : List Pl.Nd) (g : List α → Nat → Bool) (t : Pl.Tst α) (n : Nat) : Bool :=
  if t.kind = 1 then (clsAt ns n).any (· == t.name)
  else if t.kind = 2 then idAt ns n == t.name
  else if 3 ≤ t.kind ∧ t.kind ≤ 8 then (match attr1 (atsAt ns n) t.name with | some v => Pl.valOk t.kind v t.value | none => false)
  else if t.kind = 9 then Nt.Pl.holds t.a t.b (plc (famOf ns n) n + 1)
  else if t.kind = 10 then Nt.Pl.holds t.a t.b ((famOf ns n).length - plc (famOf ns n) n)
  else if t.kind = 11 then (Pl.kidsOf ns n).length == 0
  else if t.kind = 12 then n == 0
  else if t.kind = 13 then !g t.list n
  else if t.kind = 14 then g t.list n
  else (List.range ns.length).any fun m => aboveB ns n m && g t.list m
def stpM (ns : List Pl.Nd) (g : List α → Nat → Bool) (s : Pl.Stp α) (n : Nat) : Bool := (s.tag.isEmpty || s.tag == tagAt ns n) && s.tests.all fun t => tstM ns g t n
/-- a link leads from m to n -/
def reach (ns : List Pl.Nd) (k : Int) (m n : Nat) : Bool :=
  if k = 1 then aboveB ns m n
  else if k = 2 then Pl.upOf ns n == (m : Int)
  else if k = 3 then decide (0 ≤ plc (famOf ns n) m) && (plc (famOf ns n) m + 1 == plc (famOf ns n) n)
  else decide (0 ≤ plc (famOf ns n) m) && decide (plc (famOf ns n) m < plc (famOf ns n) n)
def stpAt (p : Pl.Pth α) (k : Nat) : Pl.Stp α := (p.steps[k]?).getD ⟨[], []⟩
def lnkAt (p : Pl.Pth α) (k : Nat) : Int := (p.links[k]?).getD 0
/-- the path up to a step -/
def pthM (ns : List Pl.Nd) (g : List α → Nat → Bool) (p : Pl.Pth α) : Nat → Nat → Bool
  | 0, n => stpM ns g (stpAt p 0) n
  | k + 1, n => stpM ns g (stpAt p (k + 1)) n && (List.range n).any fun m => reach ns (lnkAt p k) m n && pthM ns g p k m
def lstM (ns : List Pl.Nd) (g : List α → Nat → Bool) (l : List (Pl.Pth α)) (n : Nat) : Bool := l.any fun p => pthM ns g p (p.steps.length - 1) n
end
def m0 (_ : List Pl.Nd) : List Unit → Nat → Bool := fun _ _ => false
def m1 (ns : List Pl.Nd) : List Pl.D1 → Nat → Bool := lstM ns (m0 ns)
def m2 (ns : List Pl.Nd) : List Pl.D2 → Nat → Bool := lstM ns (m1 ns)
def m3 (ns : List Pl.Nd) : List Pl.D3 → Nat → Bool := lstM ns (m2 ns)
end Go.Proofs.YtagobgjlhdbhmaaDoor
