/-
  A right element, as the document's own answer tells it.
-/
import Derived.Test.YtagobgjlhdbhmaaDoorIsR
import Derived.Test.YtagobgjlhdbhmaaDoorRefN
import Derived.BigQuiet
import Derived.Deep.QuietTactic
namespace Go.Proofs.YtagobgjlhdbhmaaDoor
open Go.RowKit

theorem rise_iff : ∀ (ss : List (List UInt8)), Pl.rise ss = true ↔ ∀ j (h : j + 1 < ss.length), Op.bytesLess ss[j] ss[j + 1] = true
  | [] => by simp [Pl.rise]
  | [a] => by simp [Pl.rise]
  | a :: b :: r => by
    rw [Pl.rise, Bool.and_eq_true, rise_iff (b :: r)]
    constructor
    · rintro ⟨h1, h2⟩ j hj
      cases j with
      | zero => exact h1
      | succ j => exact h2 j (by simpa using hj)
    · intro h
      exact ⟨h 0 (by simp), fun j hj => h (j + 1) (by simpa using hj)⟩
/-- the first k are names and rise -/
def NamesTo (ss : List (List UInt8)) (k : Nat) : Prop := ∀ j (h : j < ss.length), j < k → Pl.isName ss[j] = true ∧ (∀ (i : Nat) (hi : i + 1 = j), Op.bytesLess (ss[i]'(by omega)) ss[j] = true)
theorem namesTo_all {ss : List (List UInt8)} {m : Nat} (hm : ss.length ≤ m) (h : NamesTo ss ss.length) : Pl.names m ss = true := by
  unfold Pl.names
  have h2 : ss.all Pl.isName = true := by
    rw [List.all_eq_true]
    intro x hx
    obtain ⟨i, hi, rfl⟩ := List.mem_iff_getElem.mp hx
    exact (h i hi hi).1
  have h3 : Pl.rise ss = true := (rise_iff ss).mpr fun j hj => (h (j + 1) hj hj).2 j rfl
  simp [hm, h2, h3]
theorem names_not1 {ss : List (List UInt8)} {m k : Nat} (hk : k < ss.length) (h : Pl.isName ss[k] = false) : Pl.names m ss = false := by
  unfold Pl.names
  rw [allN_not ss k hk h]; simp
theorem names_not2 {ss : List (List UInt8)} {m k : Nat} (hk : k + 1 < ss.length) (h : Op.bytesLess ss[k] ss[k + 1] = false) : Pl.names m ss = false := by
  unfold Pl.names
  have : Pl.rise ss = false := by
    cases hr : Pl.rise ss with
    | false => rfl
    | true => rw [rise_iff] at hr; rw [hr k hk] at h; cases h
  rw [this]; simp
theorem namesTo_next0 {ss : List (List UInt8)} (hk : 0 < ss.length) (h1 : Pl.isName ss[0] = true) : NamesTo ss 1 := by
  intro j hj hlt
  have : j = 0 := by omega
  subst this
  exact ⟨h1, fun i hi => by omega⟩
theorem namesTo_next {ss : List (List UInt8)} {k : Nat} (hk : k + 1 < ss.length) (h : NamesTo ss (k + 1)) (h1 : Pl.isName ss[k + 1] = true) (h2 : Op.bytesLess ss[k] ss[k + 1] = true) : NamesTo ss (k + 2) := by
  intro j hj hlt
  by_cases hjk : j < k + 1
  · exact h j hj hjk
  · have : j = k + 1 := by omega
    subst this
    refine ⟨h1, fun i hi => ?_⟩
    have : i = k := by omega
    subst this
    exact h2
end Go.Proofs.YtagobgjlhdbhmaaDoor
