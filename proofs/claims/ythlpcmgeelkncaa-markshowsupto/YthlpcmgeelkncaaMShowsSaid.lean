/-
  MarkShows, for every document and every text of bulk at most 1048576 together: Show and Read answer just what the document says, errors too.
-/
import Derived.Test.YthlpcmgeelkncaaRows
import Derived.Test.YthlpcmgeelkncaaSFrm
import Derived.Test.YthlpcmgeelkncaaMBeg
namespace Go.Proofs.Ythlpcmgeelkncaa
theorem markShows_holds : Rows.MarkShowsUptoSaid := markShows_of markBegun_any
end Go.Proofs.Ythlpcmgeelkncaa
