/-
  Matching in plain lists: tests, steps, links, paths, lists. No program is walked in this text.
-/
import Derived.Test.YtephhllfodlfbaaGreatDoorRmD
import Derived.Test.YtephhllfodlfbaaGreatDoorLvM
import Derived.Test.YtephhllfodlfbaaGreatDoorHoM
import Derived.Deep.RegionHeld3
import Derived.Test.YtephhllfodlfbaaGreatDoorRefN
namespace Go.Proofs.YtephhllfodlfbaaGreatDoor

def tagAt (ns : List Pl.Nd) (n : Nat) : List UInt8 := match ns[n]? with | some x => x.tag | none => []
def idAt (ns : List Pl.Nd) (n : Nat) : List UInt8 := match ns[n]? with | some x => x.id | none => []
def clsAt (ns : List Pl.Nd) (n : Nat) : List (List UInt8) := match ns[n]? with | some x => x.cls | none => []
def atsAt (ns : List Pl.Nd) (n : Nat) : List (List UInt8 × List UInt8) := match ns[n]? with | some x => x.ats | none => []
/-- the kids of the one above; itself, if none is above -/
def famOf (ns : List Pl.Nd) (n : Nat) : List Int := if n = 0 then [0] else (Pl.kidsOf ns (Pl.upOf ns n)).map fun (k : Nat) => (k : Int)
section
variable {α : Type}
/-- a test, over what its list matches -/
def tstM (ns : List Pl.Nd) (g : List α → Nat → Bool) (t : Pl.Tst α) (n : Nat) : Bool :=
  if t.kind = 1 then (clsAt ns n).any (· == t.name)
  else if t.kind = 2 then idAt ns n == t.name
  else if 3 ≤ t.kind ∧ t.kind ≤ 8 then (match attr1 (atsAt ns n) t.name with | some v => Pl.valOk t.kind v t.value | none => false)
  else if t.kind = 9 then Nt.Pl.holds t.a t.b (plc (famOf ns n) n + 1)
  else if t.kind = 10 then Nt.Pl.holds t.a t.b ((famOf ns n).length - plc (famOf ns n) n)
  else if t.kind = 11 then (Pl.kidsOf ns n).length == 0
  else if t.kind = 12 then n == 0
  else if t.kind = 13 then !g t.list n
  else if t.kind = 14 then g t.list n
  else (List.range ns.length).any fun m => aboveB ns n m && g t.list m
def stpM (ns : List Pl.Nd) (g : List α → Nat → Bool) (s : Pl.Stp α) (n : Nat) : Bool := (s.tag.isEmpty || s.tag == tagAt ns n) && s.tests.all fun t => tstM ns g t n
/-- a link leads from m to n -/
def reach (ns : List Pl.Nd) (k : Int) (m n : Nat) : Bool :=
  if k = 1 then aboveB ns m n
  else if k = 2 then Pl.upOf ns n == (m : Int)
  else if k = 3 then decide (0 ≤ plc (famOf ns n) m) && (plc (famOf ns n) m + 1 == plc (famOf ns n) n)
  else decide (0 ≤ plc (famOf ns n) m) && decide (plc (famOf ns n) m < plc (famOf ns n) n)
def stpAt (p : Pl.Pth α) (k : Nat) : Pl.Stp α := (p.steps[k]?).getD ⟨[], []⟩
def lnkAt (p : Pl.Pth α) (k : Nat) : Int := (p.links[k]?).getD 0
/-- the path up to a step -/
def pthM (ns : List Pl.Nd) (g : List α → Nat → Bool) (p : Pl.Pth α) : Nat → Nat → Bool
  | 0, n => stpM ns g (stpAt p 0) n
  | k + 1, n => stpM ns g (stpAt p (k + 1)) n && (List.range n).any fun m => reach ns (lnkAt p k) m n && pthM ns g p k m
def lstM (ns : List Pl.Nd) (g : List α → Nat → Bool) (l : List (Pl.Pth α)) (n : Nat) : Bool := l.any fun p => pthM ns g p (p.steps.length - 1) n
end
def m0 (_ : List Pl.Nd) : List Unit → Nat → Bool := fun _ _ => false
def m1 (ns : List Pl.Nd) : List Pl.D1 → Nat → Bool := lstM ns (m0 ns)
def m2 (ns : List Pl.Nd) : List Pl.D2 → Nat → Bool := lstM ns (m1 ns)
def m3 (ns : List Pl.Nd) : List Pl.D3 → Nat → Bool := lstM ns (m2 ns)
end Go.Proofs.YtephhllfodlfbaaGreatDoor
/-
  What the document says of families and links.
-/
namespace Go.Proofs.YtephhllfodlfbaaGreatDoor
open Go.RowKit

/-- a right document in memory -/
structure RD (w : World) (b o : Nat) (ns : List Pl.Nd) : Prop where
  at_ : ∀ i (h : i < ns.length), NdAt w b (o + i * 5) ns[i]
  n64 : ns.length ≤ 64
  low : Pl.Low ns ns.length
  rt : ∀ x ∈ ns, Pl.right x = true
theorem RD.on {w w' : World} {b o : Nat} {ns : List Pl.Nd} (h : RD w b o ns) (hb : Below w.heap.size w w') : RD w' b o ns := ⟨fun i hi => (h.at_ i hi).on hb, h.n64, h.low, h.rt⟩
theorem famOf_len (ns : List Pl.Nd) (n : Nat) (h : ns.length ≤ 64) : (famOf ns n).length ≤ 64 := by
  unfold famOf
  split
  · simp
  · have := Pl.kidsTo_len ns (Pl.upOf ns n) ns.length
    simp only [List.length_map]
    exact Nat.le_trans this h
theorem plc_low (ks : List Int) (n : Int) : -1 ≤ plc ks n ∧ plc ks n < ks.length := by
  unfold plc
  split
  · rename_i i h
    rw [List.find?_range_eq_some] at h
    have := h.2.1
    simp at this
    omega
  · omega
end Go.Proofs.YtephhllfodlfbaaGreatDoor
/-
  The document's own check of a list of paths: what is too much.
-/
namespace Go.Proofs.YtephhllfodlfbaaGreatDoor
open Go.RowKit

theorem all_next {β : Type} {l : List β} {p : β → Bool} {i : Nat} (h : i < l.length) (ht : (l.take i).all p = true) (hp : p l[i] = true) : (l.take (i + 1)).all p = true := by
  rw [List.take_succ_eq_append_getElem h, List.all_append, ht]
  simp [hp]
theorem all_done {β : Type} {l : List β} {p : β → Bool} {i : Nat} (h : ¬ i < l.length) (ht : (l.take i).all p = true) : l.all p = true := by
  rwa [List.take_of_length_le (by omega)] at ht
theorem all_bad {β : Type} {l : List β} {p : β → Bool} {i : Nat} (h : i < l.length) (hp : p l[i] = false) : l.all p = false := by
  rw [List.all_eq_false]
  exact ⟨l[i], List.getElem_mem h, by simp [hp]⟩
theorem Blk2p.new (w : World) (u v : Value) : (w.alloc (.cells #[u, v] 64)).cell? ⟨w.heap.size, 0, none⟩ = some u ∧ (w.alloc (.cells #[u, v] 64)).cell? ⟨w.heap.size, 1, none⟩ = some v := by
  constructor <;> simp [go_sem]
theorem Blk6p.new (w : World) (u0 u1 u2 u3 u4 u5 : Value) : (w.alloc (.cells #[u0, u1, u2, u3, u4, u5] 71)).cell? ⟨w.heap.size, 0, none⟩ = some u0 ∧ (w.alloc (.cells #[u0, u1, u2, u3, u4, u5] 71)).cell? ⟨w.heap.size, 5, none⟩ = some u5 := by
  constructor <;> simp [go_sem]
/-- what fits, in the order in which it is asked -/
def fitT {α : Type} (f : List α → Bool) (t : Pl.Tst α) : Bool := !Pl.kList t.kind || f t.list
def fitS {α : Type} (f : List α → Bool) (s : Pl.Stp α) : Bool := decide (s.tests.length ≤ 6) && s.tests.all (fitT f)
def fitP {α : Type} (f : List α → Bool) (p : Pl.Pth α) : Bool := decide (1 ≤ p.steps.length ∧ p.steps.length ≤ 5 ∧ p.links.length + 1 = p.steps.length) && p.steps.all (fitS f)
theorem fit_eq {α : Type} (f : List α → Bool) (l : List (Pl.Pth α)) : Pl.fitUp f l = (decide (1 ≤ l.length ∧ l.length ≤ 5) && l.all (fitP f)) := by
  have e : (fun p => Pl.pFits p && Pl.inner f p) = fitP f := by
    funext p
    unfold Pl.pFits Pl.inner fitP Pl.Pth.tests
    rw [List.all_flatMap, Bool.and_assoc]
    congr 1
    rw [Bool.eq_iff_iff]
    simp only [Bool.and_eq_true, List.all_eq_true]
    constructor
    · rintro ⟨h1, h2⟩ s hs
      unfold fitS
      rw [h1 s hs, Bool.true_and, List.all_eq_true]
      exact h2 s hs
    · intro h
      refine ⟨fun s hs => ?_, fun s hs t ht => ?_⟩
      · have := h s hs
        unfold fitS at this
        rw [Bool.and_eq_true] at this
        exact this.1
      · have := h s hs
        unfold fitS at this
        rw [Bool.and_eq_true, List.all_eq_true] at this
        exact this.2 t ht
  unfold Pl.fitUp
  rw [e]
end Go.Proofs.YtephhllfodlfbaaGreatDoor
/-
  The document's own check of a list of paths: its kinds.
-/
namespace Go.Proofs.YtephhllfodlfbaaGreatDoor
open Go.RowKit

/-- f of all tests, step by step -/
theorem tests_all {α : Type} (p : Pl.Pth α) (f : Pl.Tst α → Bool) : p.tests.all f = p.steps.all fun s => s.tests.all f := by
  unfold Pl.Pth.tests
  rw [List.all_flatMap]
theorem all_and {β : Type} (l : List β) (f g : β → Bool) : (l.all f && l.all g) = l.all fun x => f x && g x := by
  rw [Bool.eq_iff_iff]
  simp only [Bool.and_eq_true, List.all_eq_true]
  exact ⟨fun h x hx => ⟨h.1 x hx, h.2 x hx⟩, fun h => ⟨fun x hx => (h x hx).1, fun x hx => (h x hx).2⟩⟩
/-- of every list within -/
def Inner {α : Type} (ok : List α → Prop) (l : List (Pl.Pth α)) : Prop := ∀ p ∈ l, ∀ s ∈ p.steps, ∀ t ∈ s.tests, Pl.kList t.kind = true → ok t.list
end Go.Proofs.YtephhllfodlfbaaGreatDoor
