/-
  A right document, as the document's own answer tells it.
-/
import Derived.Test.YtagobgjlhdbhmaaDoorRefF
import Derived.Test.YtagobgjlhdbhmaaDoorKids
namespace Go.Proofs.YtagobgjlhdbhmaaDoor
open Go.RowKit

theorem within_has (len : Nat) (n : Int) : within n 0 ((len : Int) - 1) = hasB len n := by
  unfold within hasB
  congr 1
  rw [decide_eq_decide]; omega
end Go.Proofs.YtagobgjlhdbhmaaDoor
