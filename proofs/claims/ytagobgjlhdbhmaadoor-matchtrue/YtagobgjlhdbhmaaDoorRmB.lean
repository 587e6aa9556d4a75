/-
  What the document says of words in a value.
-/
import Derived.Test.YtagobgjlhdbhmaaDoorRmA
namespace Go.Proofs.YtagobgjlhdbhmaaDoor
open Go.RowKit

theorem byte_yes {l : List UInt8} {k : Nat} (h : k < l.length) (hc : l[k]? = some 32) : ((((⟨l.toArray⟩ : ByteArray)[k]'h).toNat : Int) == 32) = true := by
  have e : l[k] = 32 := by
    rw [List.getElem?_eq_getElem h] at hc
    exact Option.some.inj hc
  show (((l[k]).toNat : Int) == 32) = true
  rw [e]
  rfl
theorem byte_no {l : List UInt8} {k : Nat} (h : k < l.length) (hc : ¬ l[k]? = some 32) : ((((⟨l.toArray⟩ : ByteArray)[k]'h).toNat : Int) == 32) = false := by
  rw [Bool.eq_false_iff]
  intro e
  apply hc
  rw [List.getElem?_eq_getElem h]
  congr 1
  have e2 : ((l[k]).toNat : Int) = ((32 : UInt8).toNat : Int) := by
    have : (((l[k]).toNat : Int) == 32) = true := e
    simpa using this
  exact UInt8.toNat_inj.1 (Int.ofNat.inj e2)
theorem word_no {s t : List UInt8} {k : Nat} (hk : ∀ j, j < k → Pl.wordAt s t j = false) (h : Pl.wordAt s t k = false) : ∀ j, j < k + 1 → Pl.wordAt s t j = false := by
  intro j hj
  by_cases e : j = k
  · subst e
    exact h
  · exact hk j (by omega)
theorem any_none {n : Nat} {p : Nat → Bool} (h : ∀ j, j < n → p j = false) : (List.range n).any p = false := by
  rw [Bool.eq_false_iff]
  intro e
  rw [List.any_eq_true] at e
  obtain ⟨x, hx, hp⟩ := e
  rw [h x (by simpa using hx)] at hp
  cases hp
theorem any_some {n k : Nat} {p : Nat → Bool} (hk : k < n) (h : p k = true) : (List.range n).any p = true := by
  rw [List.any_eq_true]
  exact ⟨k, by simpa using hk, h⟩
end Go.Proofs.YtagobgjlhdbhmaaDoor
