/-
  DERIVED. GIVEN WITH THE SEED: THE CARDS: each row of YtbfkopjpfkgjhaaGreatDoorRows.lean that lists a variable, with what it lists TIED to the program's text (the seventh form; the later family's looks); each row that meets fmt, with fmt's text TOLD by the authors' own Lean function (tested against real Go, not proved from fmt's source: count such statements apart). THE CARD IS WHAT COUNTS. Prove the row's statement (the work); the ties are given (YtbfkopjpfkgjhaaGreatDoorTie.lean); close each card by the builder's one call (the guide's Derived/Test/ToyasCard.lean, 'card_holds'). Laid BY PROGRAM, IN A SANDBOX (cutbox-door.mjs). By AI agents, Wed Nov 11 2026. No macro, syntax, notation, axiom, sorry.
-/
import Derived.Test.YtbfkopjpfkgjhaaGreatDoorRows
import GoSem.ClaimSeven
namespace Go.Proofs.YtbfkopjpfkgjhaaGreatDoor
namespace Rows

/-- THE TIED CARD OF 'pathfinderylaw.PathShows'. -/
def pathShowsCard : Claim7 := { stood := { row := pathShowsRow, standIns := [], harness := (true, "420d5ce38956a31b2792eee734dc1a28f5f082682bfca1fa2032862f091f4f60"), looks := false }, kinds := [], alts := [], laidByText := true, laidKinds := [.data, .data, .data, .data, .data], laidTests := true, laidLooks := .later }
def PathShowsCardSaid : Prop := Claim7.holds Tryz.pinned (.plain (OpenSpec.ofChange pathShowsSpec)) pathShowsCard

/-- THE TIED CARD OF 'pathfinderylaw.PathWeighs'. -/
def pathWeighsCard : Claim7 := { stood := { row := pathWeighsRow, standIns := [], harness := (true, "420d5ce38956a31b2792eee734dc1a28f5f082682bfca1fa2032862f091f4f60"), looks := false }, kinds := [], alts := [], laidByText := true, laidKinds := [.data, .data, .data, .data, .data], laidTests := true, laidLooks := .later }
def PathWeighsCardSaid : Prop := Claim7.holds Tryz.pinned (.plain (OpenSpec.ofChange pathWeighsSpec)) pathWeighsCard

/-- THE TIED CARD OF 'pathfinderylaw.PathBack'. -/
def pathBackCard : Claim7 := { stood := { row := pathBackRow, standIns := [], harness := (true, "420d5ce38956a31b2792eee734dc1a28f5f082682bfca1fa2032862f091f4f60"), looks := false }, kinds := [], alts := [], laidByText := true, laidKinds := [.data, .data, .data, .data, .data], laidTests := true, laidLooks := .later }
def PathBackCardSaid : Prop := Claim7.holds Tryz.pinned (.plain (OpenSpec.ofChange pathBackSpec)) pathBackCard

/-- THE SECOND FORM's CARD OF 'pathfinderylaw.PathShows'. -/
def pathShowsUptoCard : Claim7 := { stood := { row := pathShowsUptoRow, standIns := [], harness := (true, "420d5ce38956a31b2792eee734dc1a28f5f082682bfca1fa2032862f091f4f60"), looks := false }, kinds := [], alts := [], laidByText := true, laidKinds := [.data, .data, .data, .data, .data], laidTests := true, laidLooks := .later }
def PathShowsUptoCardSaid : Prop := Claim7.holds Tryz.pinned (.plain (OpenSpec.upto pathShowsSpec)) pathShowsUptoCard

/-- THE SECOND FORM's CARD OF 'pathfinderylaw.PathWeighs'. -/
def pathWeighsUptoCard : Claim7 := { stood := { row := pathWeighsUptoRow, standIns := [], harness := (true, "420d5ce38956a31b2792eee734dc1a28f5f082682bfca1fa2032862f091f4f60"), looks := false }, kinds := [], alts := [], laidByText := true, laidKinds := [.data, .data, .data, .data, .data], laidTests := true, laidLooks := .later }
def PathWeighsUptoCardSaid : Prop := Claim7.holds Tryz.pinned (.plain (OpenSpec.upto pathWeighsSpec)) pathWeighsUptoCard

/-- THE SECOND FORM's CARD OF 'pathfinderylaw.PathBack'. -/
def pathBackUptoCard : Claim7 := { stood := { row := pathBackUptoRow, standIns := [], harness := (true, "420d5ce38956a31b2792eee734dc1a28f5f082682bfca1fa2032862f091f4f60"), looks := false }, kinds := [], alts := [], laidByText := true, laidKinds := [.data, .data, .data, .data, .data], laidTests := true, laidLooks := .later }
def PathBackUptoCardSaid : Prop := Claim7.holds Tryz.pinned (.plain (OpenSpec.upto pathBackSpec)) pathBackUptoCard
end Rows
end Go.Proofs.YtbfkopjpfkgjhaaGreatDoor
