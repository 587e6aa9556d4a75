/-
  MarkBack, for every document and every text: what is shown is read as it was, and nothing else is read. No condition.
-/
import Derived.Test.YthlpcmgeelkncaaRows
import Derived.Test.YthlpcmgeelkncaaMFrm
import Derived.Test.YthlpcmgeelkncaaMBeg
namespace Go.Proofs.Ythlpcmgeelkncaa
theorem markBack_holds : Rows.MarkBackSaid := markBack_of markBegun_any
end Go.Proofs.Ythlpcmgeelkncaa
