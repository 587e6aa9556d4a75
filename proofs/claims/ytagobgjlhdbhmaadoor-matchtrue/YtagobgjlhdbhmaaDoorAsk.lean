/-
  Part: the elements under one, copied.
-/
import Derived.Test.YtagobgjlhdbhmaaDoorDocA
namespace Go.Proofs.YtagobgjlhdbhmaaDoor
open Go.RowKit

theorem three_on {W w' : World} {p0 p1 p2 : Addr} {v0 v1 v2 : Value} (h : W.cell? p0 = some v0 ∧ W.cell? p1 = some v1 ∧ W.cell? p2 = some v2) (hb : Below W.heap.size W w') : w'.cell? p0 = some v0 ∧ w'.cell? p1 = some v1 ∧ w'.cell? p2 = some v2 :=
  ⟨cell_on hb h.1, cell_on hb h.2.1, cell_on hb h.2.2⟩

end Go.Proofs.YtagobgjlhdbhmaaDoor
/-
  Remove: what is under an element left out.
-/
namespace Go.Proofs.YtagobgjlhdbhmaaDoor
open Go.RowKit

/-- what Remove tells -/
def remErr (ns : List Pl.Nd) (n : Int) : Int := if checkAtOf ns n = 0 then (if n = 0 then 3 else 0) else checkAtOf ns n
def remOf (ns : List Pl.Nd) (n : Int) : List Pl.Nd :=
  if remErr ns n = 0 then (ns.take n.toNat).map (Pl.mvd id) ++ (ns.drop (Pl.behind ns n.toNat)).map (Pl.mvd (Pl.mvRem n ((Pl.behind ns n.toNat : Int) - n))) else []
theorem NdsAt.head {w : World} {b o : Nat} {ns : List Pl.Nd} (h : ∀ i (h : i < ns.length), NdAt w b (o + i * 5) ns[i]) (m cap' : Nat) (hm : m ≤ ns.length) : NdsAt w (.slice (some ⟨b, o, none⟩) m cap') (ns.take m) := by
  have := NdsAt.part h 0 m cap' (by omega)
  simpa using this
theorem NdsAt.void {w : World} {ns : List Pl.Nd} (a : Option Addr) (lo c : Nat) (h : lo = ns.length) : NdsAt w (.slice a (ns.length - lo) c) (ns.drop lo) := by
  subst h
  exact ⟨a, c, by rw [List.drop_length, Nat.sub_self]; rfl, Or.inl (by simp)⟩
theorem NdsAt.tail {w : World} {b o : Nat} {ns : List Pl.Nd} (h : ∀ i (h : i < ns.length), NdAt w b (o + i * 5) ns[i]) (lo cap' : Nat) (hm : lo ≤ ns.length) : NdsAt w (.slice (some ⟨b, o + lo * 5, none⟩) (ns.length - lo) cap') (ns.drop lo) := by
  have := NdsAt.part h lo (ns.length - lo) cap' (by omega)
  rwa [List.take_of_length_le (by simp)] at this

end Go.Proofs.YtagobgjlhdbhmaaDoor
/-
  insert: elements laid in among others.
-/
namespace Go.Proofs.YtagobgjlhdbhmaaDoor
open Go.RowKit

/-- the elements with others laid in ahead of place, below up -/
def insRow (ns : List Pl.Nd) (up : Int) (place : Nat) (es : List Pl.Nd) : List Pl.Nd :=
  (ns.take place).map (Pl.mvd id) ++ es.map (Pl.mvd (Pl.mvIn up place)) ++ (ns.drop place).map (Pl.mvd (Pl.mvOut place es.length))
theorem two_cells (w : World) (o1 o2 o3 : Obj) : Below w.heap.size w (((w.alloc o1).alloc o2).alloc o3) := ((Below.refl w.heap.size w).alloc (Nat.le_refl _) o1).alloc (by simp) o2 |>.alloc (by simp; omega) o3

end Go.Proofs.YtagobgjlhdbhmaaDoor
/-
  Insert: a document laid in below an element.
-/
namespace Go.Proofs.YtagobgjlhdbhmaaDoor
open Go.RowKit

/-- the number that the first of what is laid in gets -/
def placeOf (ns : List Pl.Nd) (up at_ : Int) : Nat := if at_ < ((Pl.kidsOf ns up).length : Int) then (Pl.kidsOf ns up).getD at_.toNat 0 else Pl.behind ns up.toNat
def insErr (ns : List Pl.Nd) (up at_ : Int) (es : List Pl.Nd) : Int :=
  if Pl.checkDoc ns = 0 then if Pl.checkDoc es = 0 then if hasB ns.length up = true then if at_ < 0 ∨ ((Pl.kidsOf ns up).length : Int) < at_ then 3 else if 64 < ns.length + es.length then 2 else 0 else 5 else Pl.checkDoc es else Pl.checkDoc ns
def insOf (ns : List Pl.Nd) (up at_ : Int) (es : List Pl.Nd) : List Pl.Nd := if insErr ns up at_ es = 0 then insRow ns up (placeOf ns up at_) es else []
theorem kids_lt {ns : List Pl.Nd} {n : Int} {i : Nat} (h : i ∈ Pl.kidsOf ns n) : i < ns.length := by
  unfold Pl.kidsOf Pl.kidsTo at h
  have := (List.mem_filter.1 h).1
  simpa using this
theorem insRow_len (ns : List Pl.Nd) (up : Int) (place : Nat) (es : List Pl.Nd) : (insRow ns up place es).length = ns.length + es.length := by
  unfold insRow
  simp
  omega
theorem insRow_short {ns es : List Pl.Nd} (h1 : ∀ x ∈ ns, x.cls.length ≤ 6 ∧ x.ats.length ≤ 4) (h2 : ∀ x ∈ es, x.cls.length ≤ 6 ∧ x.ats.length ≤ 4) (up : Int) (place : Nat) : ∀ x ∈ insRow ns up place es, x.cls.length ≤ 6 ∧ x.ats.length ≤ 4 := by
  intro x hx
  unfold insRow at hx
  rcases List.mem_append.1 hx with hx | hx
  · rcases List.mem_append.1 hx with hx | hx
    · exact mvd_short (fun x hx => h1 x (List.mem_of_mem_take hx)) x hx
    · exact mvd_short h2 x hx
  · exact mvd_short (fun x hx => h1 x (List.mem_of_mem_drop hx)) x hx

end Go.Proofs.YtagobgjlhdbhmaaDoor
/-
  Kids and Under.
-/
namespace Go.Proofs.YtagobgjlhdbhmaaDoor
open Go.RowKit

def kidsAns (ns : List Pl.Nd) (n : Int) : List Nat := if checkAtOf ns n = 0 then Pl.kidsOf ns n else []
def underAns (ns : List Pl.Nd) (n : Int) : Int := if checkAtOf ns n = 0 then (Pl.behind ns n.toNat : Int) - n - 1 else 0

end Go.Proofs.YtagobgjlhdbhmaaDoor
