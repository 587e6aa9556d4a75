/-
  What the document says of attributes, of places in lists, of those above.
-/
import Derived.Test.YtagobgjlhdbhmaaDoorRmB
import Derived.Test.YtagobgjlhdbhmaaDoorRefK
import Derived.RangeFuncBox
namespace Go.Proofs.YtagobgjlhdbhmaaDoor
open Go.RowKit

/-- the value of the first attribute of a name -/
def attr1 (ats : List (List UInt8 × List UInt8)) (name : List UInt8) : Option (List UInt8) := (ats.find? fun a => a.1 == name).map (·.2)
theorem attr1_hit {ats : List (List UInt8 × List UInt8)} {name : List UInt8} {k : Nat} (hk : k < ats.length) (h : ∀ j (hj : j < ats.length), j < k → (ats[j].1 == name) = false) (he : (ats[k].1 == name) = true) : attr1 ats name = some ats[k].2 := by
  unfold attr1
  have : ats.find? (fun a => a.1 == name) = some ats[k] := by
    rw [List.find?_eq_some_iff_getElem]
    exact ⟨he, k, hk, rfl, fun j hj => by rw [h j (by omega) hj]; rfl⟩
  rw [this]
  rfl
theorem attr1_miss {ats : List (List UInt8 × List UInt8)} {name : List UInt8} (h : ∀ j (hj : j < ats.length), (ats[j].1 == name) = false) : attr1 ats name = none := by
  unfold attr1
  have : ats.find? (fun a => a.1 == name) = none := by
    rw [List.find?_eq_none]
    intro x hx
    obtain ⟨j, hj, rfl⟩ := List.getElem_of_mem hx
    rw [h j hj]
    simp
  rw [this]
  rfl
theorem blk5_cells {W : World} {N : Nat} {T : TypeId} {u0 u1 u2 u3 u4 : Value} (h : W.heap[N]? = some (.cells #[u0, u1, u2, u3, u4] T)) : W.cell? ⟨N, 0, none⟩ = some u0 ∧ W.cell? ⟨N, 1, none⟩ = some u1 ∧ W.cell? ⟨N, 2, none⟩ = some u2 ∧ W.cell? ⟨N, 3, none⟩ = some u3 ∧ W.cell? ⟨N, 4, none⟩ = some u4 := by
  refine ⟨?_, ?_, ?_, ?_, ?_⟩ <;> simp [World.cell?, h]
/-- the first place of a number in a list -/
def plc (ks : List Int) (n : Int) : Int := match (List.range ks.length).find? fun i => ks[i]? == some n with
  | some i => i
  | none => -1
theorem plc_hit {ks : List Int} {n : Int} {k : Nat} (hk : k < ks.length) (h : ∀ j, j < k → ¬ ks[j]? = some n) (he : ks[k]? = some n) : plc ks n = k := by
  unfold plc
  have : (List.range ks.length).find? (fun i => ks[i]? == some n) = some k := by
    rw [List.find?_range_eq_some]
    exact ⟨by simpa using he, by simpa using hk, fun j hj => by simpa using h j hj⟩
  rw [this]
theorem plc_miss {ks : List Int} {n : Int} (h : ∀ j, j < ks.length → ¬ ks[j]? = some n) : plc ks n = -1 := by
  unfold plc
  have : (List.range ks.length).find? (fun i => ks[i]? == some n) = none := by
    rw [List.find?_eq_none]
    intro x hx
    simpa using h x (by simpa using hx)
  rw [this]
end Go.Proofs.YtagobgjlhdbhmaaDoor
