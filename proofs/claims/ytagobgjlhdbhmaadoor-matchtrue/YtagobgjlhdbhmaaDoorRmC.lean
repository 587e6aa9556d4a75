/-
  What the document says of values, of attributes, of places in lists, of those above.
-/
import Derived.Test.YtagobgjlhdbhmaaDoorRmB
import Derived.Test.YtagobgjlhdbhmaaDoorRefK
import Derived.RangeFuncBox
namespace Go.Proofs.YtagobgjlhdbhmaaDoor
open Go.RowKit

end Go.Proofs.YtagobgjlhdbhmaaDoor
