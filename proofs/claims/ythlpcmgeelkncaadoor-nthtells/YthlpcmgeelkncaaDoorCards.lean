/-
  DERIVED. GIVEN WITH THE SEED: THE CARDS: each row of YthlpcmgeelkncaaDoorRows.lean that lists a variable, with what it lists TIED to the program's text (the seventh form; the later family's looks); each row that meets fmt, with fmt's text TOLD by the authors' own Lean function (tested against real Go, not proved from fmt's source: count such statements apart). THE CARD IS WHAT COUNTS. Prove the row's statement (the work); the ties are given (YthlpcmgeelkncaaDoorTie.lean); close each card by the builder's one call (the guide's Derived/Test/ToyasCard.lean, 'card_holds'). Laid BY PROGRAM, IN A SANDBOX (cutbox-door.mjs). By AI agents, Wed Nov 11 2026. No macro, syntax, notation, axiom, sorry.
-/
import Derived.Test.YthlpcmgeelkncaaDoorRows
import GoSem.ClaimSeven
namespace Go.Proofs.YthlpcmgeelkncaaDoor
namespace Rows

/-- THE TIED CARD OF 'pathfinderylaw.NthTells'. -/
def nthTellsCard : Claim7 := { stood := { row := nthTellsRow, standIns := [], harness := (true, "d97fb9e37aff05306f46232e57eeb782924c67796e68f5471088b63689222121"), looks := false }, kinds := [], alts := [], laidByText := true, laidKinds := [.data, .data, .data], laidTests := true, laidLooks := .later }
def NthTellsCardSaid : Prop := Claim7.holds Tryd.pinned (.plain (OpenSpec.ofChange nthTellsSpec)) nthTellsCard

/-- THE TIED CARD OF 'pathfinderylaw.NthTrue'. -/
def nthTrueCard : Claim7 := { stood := { row := nthTrueRow, standIns := [], harness := (true, "d97fb9e37aff05306f46232e57eeb782924c67796e68f5471088b63689222121"), looks := false }, kinds := [], alts := [], laidByText := true, laidKinds := [.data, .data, .data], laidTests := true, laidLooks := .later }
def NthTrueCardSaid : Prop := Claim7.holds Tryd.pinned (.plain (OpenSpec.ofChange nthTrueSpec)) nthTrueCard

/-- THE SECOND FORM's CARD OF 'pathfinderylaw.NthTells'. -/
def nthTellsUptoCard : Claim7 := { stood := { row := nthTellsUptoRow, standIns := [], harness := (true, "d97fb9e37aff05306f46232e57eeb782924c67796e68f5471088b63689222121"), looks := false }, kinds := [], alts := [], laidByText := true, laidKinds := [.data, .data, .data], laidTests := true, laidLooks := .later }
def NthTellsUptoCardSaid : Prop := Claim7.holds Tryd.pinned (.plain (OpenSpec.upto nthTellsSpec)) nthTellsUptoCard

/-- THE SECOND FORM's CARD OF 'pathfinderylaw.NthTrue'. -/
def nthTrueUptoCard : Claim7 := { stood := { row := nthTrueUptoRow, standIns := [], harness := (true, "d97fb9e37aff05306f46232e57eeb782924c67796e68f5471088b63689222121"), looks := false }, kinds := [], alts := [], laidByText := true, laidKinds := [.data, .data, .data], laidTests := true, laidLooks := .later }
def NthTrueUptoCardSaid : Prop := Claim7.holds Tryd.pinned (.plain (OpenSpec.upto nthTrueSpec)) nthTrueUptoCard
end Rows
end Go.Proofs.YthlpcmgeelkncaaDoor
