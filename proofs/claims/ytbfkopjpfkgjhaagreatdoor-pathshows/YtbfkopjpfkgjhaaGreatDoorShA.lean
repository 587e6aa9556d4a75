/-
  How lists of paths are shown, in plain form: level by level.
-/
import Derived.Test.YtbfkopjpfkgjhaaGreatDoorFrmA
import Derived.Test.YtbfkopjpfkgjhaaGreatDoorNShow
namespace Go.Proofs.YtbfkopjpfkgjhaaGreatDoor
namespace Pl

/-- what stands between two steps -/
def lnk : Nat → List UInt8
  | 1 => [32] | 2 => [32, 62, 32] | 3 => [32, 43, 32] | 4 => [32, 126, 32]
  | _ => []
def tHead {α : Type} (t : Tst α) : List UInt8 := fBegin t.kind.toNat ++ t.name ++ fSign t.kind.toNat
def tValue {α : Type} (t : Tst α) : List UInt8 := if kValue t.kind = true then [34] ++ t.value ++ [34] else []
def tNth {α : Type} (t : Tst α) : List UInt8 := if kNth t.kind = true then Nt.Pl.shown t.a t.b else []
def showT {α : Type} (g : List α → List UInt8) (t : Tst α) : List UInt8 := tHead t ++ tValue t ++ tNth t ++ g t.list ++ fEnd t.kind.toNat
def showTag (s : List UInt8) : List UInt8 := if s.isEmpty = true then [42] else s
def showS {α : Type} (g : List α → List UInt8) (s : Stp α) : List UInt8 := showTag s.tag ++ s.tests.flatMap (showT g)
/-- the first k steps -/
def pTo {α : Type} (g : List α → List UInt8) (p : Pth α) : Nat → List UInt8
  | 0 => []
  | k + 1 => pTo g p k ++ (if k = 0 then [] else lnk (p.links.getD (k - 1) 0).toNat) ++ showS g (p.steps.getD k ⟨[], []⟩)
def showP {α : Type} (g : List α → List UInt8) (p : Pth α) : List UInt8 := pTo g p p.steps.length
/-- the first k paths -/
def lTo {α : Type} (g : List α → List UInt8) (l : List (Pth α)) : Nat → List UInt8
  | 0 => []
  | k + 1 => lTo g l k ++ (if k = 0 then [] else [44, 32]) ++ showP g (l.getD k ⟨[], []⟩)
def showL {α : Type} (g : List α → List UInt8) (l : List (Pth α)) : List UInt8 := lTo g l l.length
def sh0 : List Unit → List UInt8 := fun _ => []
def sh1 : List D1 → List UInt8 := showL sh0
def sh2 : List D2 → List UInt8 := showL sh1
def sh3 : List D3 → List UInt8 := showL sh2
theorem pTo_le {α : Type} (g : List α → List UInt8) (p : Pth α) {k n : Nat} (h : k ≤ n) : (pTo g p k).length ≤ (pTo g p n).length := by
  induction n with
  | zero => rw [Nat.le_zero.1 h]; exact Nat.le_refl _
  | succ n ih =>
    rcases Nat.lt_or_ge n k with h1 | h1
    · rw [show k = n + 1 by omega]; exact Nat.le_refl _
    · have := ih h1
      simp only [pTo, List.length_append]
      omega
theorem lTo_le {α : Type} (g : List α → List UInt8) (l : List (Pth α)) {k n : Nat} (h : k ≤ n) : (lTo g l k).length ≤ (lTo g l n).length := by
  induction n with
  | zero => rw [Nat.le_zero.1 h]; exact Nat.le_refl _
  | succ n ih =>
    rcases Nat.lt_or_ge n k with h1 | h1
    · rw [show k = n + 1 by omega]; exact Nat.le_refl _
    · have := ih h1
      simp only [lTo, List.length_append]
      omega
theorem pTo_next {α : Type} (g : List α → List UInt8) (p : Pth α) {k : Nat} (h : k < p.steps.length) : pTo g p (k + 1) = pTo g p k ++ (if k = 0 then [] else lnk (p.links.getD (k - 1) 0).toNat) ++ showS g p.steps[k] := by
  simp only [pTo]
  rw [List.getD_eq_getElem?_getD (l := p.steps), List.getElem?_eq_getElem h]
  rfl
theorem lTo_next {α : Type} (g : List α → List UInt8) (l : List (Pth α)) {k : Nat} (h : k < l.length) : lTo g l (k + 1) = lTo g l k ++ (if k = 0 then [] else [44, 32]) ++ showP g l[k] := by
  simp only [lTo]
  rw [List.getD_eq_getElem?_getD, List.getElem?_eq_getElem h]
  rfl
theorem flat_next {β : Type} (f : β → List UInt8) {l : List β} {k : Nat} (h : k < l.length) : (l.take (k + 1)).flatMap f = (l.take k).flatMap f ++ f l[k] := by
  rw [List.take_succ_eq_append_getElem h, List.flatMap_append]
  simp
theorem flat_le {β : Type} (f : β → List UInt8) (l : List β) (k : Nat) : ((l.take k).flatMap f).length ≤ (l.flatMap f).length := by
  conv => rhs; rw [← List.take_append_drop k l]
  rw [List.flatMap_append, List.length_append]
  omega
end Pl
end Go.Proofs.YtbfkopjpfkgjhaaGreatDoor
