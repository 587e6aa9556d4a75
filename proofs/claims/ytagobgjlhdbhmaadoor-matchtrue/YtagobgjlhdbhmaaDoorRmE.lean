/-
  What the document says of families and links.
-/
import Derived.Test.YtagobgjlhdbhmaaDoorMtP
import Derived.Deep.RegionHeld3
namespace Go.Proofs.YtagobgjlhdbhmaaDoor
open Go.RowKit

/-- a right document in memory -/
structure RD (w : World) (b o : Nat) (ns : List Pl.Nd) : Prop where
  at_ : ∀ i (h : i < ns.length), NdAt w b (o + i * 5) ns[i]
  n64 : ns.length ≤ 64
  low : Pl.Low ns ns.length
  rt : ∀ x ∈ ns, Pl.right x = true
theorem RD.on {w w' : World} {b o : Nat} {ns : List Pl.Nd} (h : RD w b o ns) (hb : Below w.heap.size w w') : RD w' b o ns := ⟨fun i hi => (h.at_ i hi).on hb, h.n64, h.low, h.rt⟩
theorem famOf_len (ns : List Pl.Nd) (n : Nat) (h : ns.length ≤ 64) : (famOf ns n).length ≤ 64 := by
  unfold famOf
  split
  · simp
  · have := Pl.kidsTo_len ns (Pl.upOf ns n) ns.length
    simp only [List.length_map]
    exact Nat.le_trans this h
theorem plc_low (ks : List Int) (n : Int) : -1 ≤ plc ks n ∧ plc ks n < ks.length := by
  unfold plc
  split
  · rename_i i h
    rw [List.find?_range_eq_some] at h
    have := h.2.1
    simp at this
    omega
  · omega
theorem two_on {W W' : World} {p q : Addr} {u v : Value} (h : W.cell? p = some u ∧ W.cell? q = some v) (hb : Below W.heap.size W W') : W'.cell? p = some u ∧ W'.cell? q = some v := ⟨cell_on hb h.1, cell_on hb h.2⟩
end Go.Proofs.YtagobgjlhdbhmaaDoor
