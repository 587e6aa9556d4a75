/-
  DERIVED. GIVEN WITH THE SEED: THE CARDS: each row of YtephhllfodlfbaaGreatDoorRows.lean that lists a variable, with what it lists TIED to the program's text (the seventh form; the later family's looks); each row that meets fmt, with fmt's text TOLD by the authors' own Lean function (tested against real Go, not proved from fmt's source: count such statements apart). THE CARD IS WHAT COUNTS. Prove the row's statement (the work); the ties are given (YtephhllfodlfbaaGreatDoorTie.lean); close each card by the builder's one call (the guide's Derived/Test/ToyasCard.lean, 'card_holds'). Laid BY PROGRAM, IN A SANDBOX (cutbox-door.mjs). By AI agents, Wed Nov 11 2026. No macro, syntax, notation, axiom, sorry.
-/
import Derived.Test.YtephhllfodlfbaaGreatDoorRows
import GoSem.ClaimSeven
namespace Go.Proofs.YtephhllfodlfbaaGreatDoor
namespace Rows

/-- THE TIED CARD OF 'pathfinderylaw.LiveTrue'. -/
def liveTrueCard : Claim7 := { stood := { row := liveTrueRow, standIns := [], harness := (true, "c8ab5e2943302db1f1315355558e964e4cd161d2b417f22e6c5a46583eeb2580"), looks := false }, kinds := [], alts := [], laidByText := true, laidKinds := [.data, .data, .pinned], laidTests := true, laidLooks := .later }
def LiveTrueCardSaid : Prop := Claim7.holds Tryz.pinned (.plain (OpenSpec.ofChange liveTrueSpec)) liveTrueCard

/-- THE TIED CARD OF 'pathfinderylaw.PlainSame'. -/
def plainSameCard : Claim7 := { stood := { row := plainSameRow, standIns := [], harness := (true, "c8ab5e2943302db1f1315355558e964e4cd161d2b417f22e6c5a46583eeb2580"), looks := false }, kinds := [], alts := [], laidByText := true, laidKinds := [.data, .data, .pinned], laidTests := true, laidLooks := .later }
def PlainSameCardSaid : Prop := Claim7.holds Tryz.pinned (.plain (OpenSpec.ofChange plainSameSpec)) plainSameCard

/-- THE TIED CARD OF 'pathfinderylaw.RestPages'. -/
def restPagesCard : Claim7 := { stood := { row := restPagesRow, standIns := [], harness := (true, "c8ab5e2943302db1f1315355558e964e4cd161d2b417f22e6c5a46583eeb2580"), looks := false }, kinds := [], alts := [], laidByText := true, laidKinds := [.data], laidTests := true, laidLooks := .later }
def RestPagesCardSaid : Prop := Claim7.holds Tryz.pinned (.plain (OpenSpec.ofChange restPagesSpec)) restPagesCard

/-- THE SECOND FORM's CARD OF 'pathfinderylaw.LiveTrue'. -/
def liveTrueUptoCard : Claim7 := { stood := { row := liveTrueUptoRow, standIns := [], harness := (true, "c8ab5e2943302db1f1315355558e964e4cd161d2b417f22e6c5a46583eeb2580"), looks := false }, kinds := [], alts := [], laidByText := true, laidKinds := [.data, .data, .pinned], laidTests := true, laidLooks := .later }
def LiveTrueUptoCardSaid : Prop := Claim7.holds Tryz.pinned (.plain (OpenSpec.upto liveTrueSpec)) liveTrueUptoCard

/-- THE SECOND FORM's CARD OF 'pathfinderylaw.PlainSame'. -/
def plainSameUptoCard : Claim7 := { stood := { row := plainSameUptoRow, standIns := [], harness := (true, "c8ab5e2943302db1f1315355558e964e4cd161d2b417f22e6c5a46583eeb2580"), looks := false }, kinds := [], alts := [], laidByText := true, laidKinds := [.data, .data, .pinned], laidTests := true, laidLooks := .later }
def PlainSameUptoCardSaid : Prop := Claim7.holds Tryz.pinned (.plain (OpenSpec.upto plainSameSpec)) plainSameUptoCard

/-- THE SECOND FORM's CARD OF 'pathfinderylaw.RestPages'. -/
def restPagesUptoCard : Claim7 := { stood := { row := restPagesUptoRow, standIns := [], harness := (true, "c8ab5e2943302db1f1315355558e964e4cd161d2b417f22e6c5a46583eeb2580"), looks := false }, kinds := [], alts := [], laidByText := true, laidKinds := [.data], laidTests := true, laidLooks := .later }
def RestPagesUptoCardSaid : Prop := Claim7.holds Tryz.pinned (.plain (OpenSpec.upto restPagesSpec)) restPagesUptoCard
end Rows
end Go.Proofs.YtephhllfodlfbaaGreatDoor
