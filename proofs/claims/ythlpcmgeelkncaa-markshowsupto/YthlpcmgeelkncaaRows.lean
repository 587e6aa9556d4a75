/-
  No cell of these rows narrows 'for every input' (looked for: loops, veiled, ifaces, maps, wideKeys, modest, calm, conditions, laid).
  DERIVED. THE GIVEN ROWS OF THIS SEAT. 6 by the template 'for every input the law returns true; each argument reads behind the call as it read before'; 0 by the template 'total and deterministic' (their statements: YthlpcmgeelkncaaTotals.lean).
  GIVEN WITH THE SEED: the statements are not yours to turn. If you find one false, say at which input.
  Laid BY PROGRAM, IN A SANDBOX (cutbox-rows.mjs): the forced cells as the released guide's own fill.sh prints them over the translation 596c2e102a11d11a… (all of the seat's roots in one cut). By AI agents, Wed Nov 11 2026. No macro, syntax, notation, axiom, sorry.
-/
import Derived.Test.YthlpcmgeelkncaaChecked
import GoSem.Claim
import GoSem.ClaimJoined
import GoSem.ClaimMapViews
import Derived.JoinedTies
import Derived.KernelRfl
namespace Go.Proofs.Ythlpcmgeelkncaa
/- THE CELL 'sum', in the pinned program and in every row, IS THE sha256 OF THE DUMP (.gsa) THAT YthlpcmgeelkncaaProg.lean LOADS. Nothing in Lean hashes anything: it is a label: what it is worth is what the hold of that sum in a sandbox is worth. -/
noncomputable def Try.pinned : Pinned := { name := "ythlpcmgeelkncaa", sum := "596c2e102a11d11affc81a6574ab921b9631905a8f10b01d9339ac601b59dcae", checked := Try.checked }
namespace Rows
def none {H : Type} : Left H := { results := [], args := [] }

/-- 'pathfinderylaw.DocTells': WHATEVER THE INPUT: true; the input reads as it did. -/
def docTellsSpec : ChangeSpec := { name := "docTells", fn := fun _ => fun
  | [d1, d2] => { results := [.lit (.bool true)], args := [d1, d2] }
  | _ => none }
def docTellsRow : OpenClaim := { program := "ythlpcmgeelkncaa", sum := "596c2e102a11d11affc81a6574ab921b9631905a8f10b01d9339ac601b59dcae", func := "pathfindery/pathfinderylaw.DocTells", spec := "docTells", unfollowed := true, recurses := true, apart := false }
def DocTellsSaid : Prop := docTellsRow.holds Try.pinned (OpenSpec.ofChange docTellsSpec)

/-- ITS FALSE NEIGHBOUR: 'it returns false'. Refute it at one input. -/
def docTellsWrong : ChangeSpec := { name := "docTells", fn := fun _ => fun
  | [d1, d2] => { results := [.lit (.bool false)], args := [d1, d2] }
  | _ => none }
def DocTellsWrongFalsely : Prop := docTellsRow.holds Try.pinned (OpenSpec.ofChange docTellsWrong)

/-- 'pathfinderylaw.DocInserts': WHATEVER THE INPUT: true; the input reads as it did. -/
def docInsertsSpec : ChangeSpec := { name := "docInserts", fn := fun _ => fun
  | [d1, d2, d3, d4] => { results := [.lit (.bool true)], args := [d1, d2, d3, d4] }
  | _ => none }
def docInsertsRow : OpenClaim := { program := "ythlpcmgeelkncaa", sum := "596c2e102a11d11affc81a6574ab921b9631905a8f10b01d9339ac601b59dcae", func := "pathfindery/pathfinderylaw.DocInserts", spec := "docInserts", unfollowed := true, recurses := true, apart := false }
def DocInsertsSaid : Prop := docInsertsRow.holds Try.pinned (OpenSpec.ofChange docInsertsSpec)

/-- ITS FALSE NEIGHBOUR: 'it returns false'. Refute it at one input. -/
def docInsertsWrong : ChangeSpec := { name := "docInserts", fn := fun _ => fun
  | [d1, d2, d3, d4] => { results := [.lit (.bool false)], args := [d1, d2, d3, d4] }
  | _ => none }
def DocInsertsWrongFalsely : Prop := docInsertsRow.holds Try.pinned (OpenSpec.ofChange docInsertsWrong)

/-- 'pathfinderylaw.DocChanges': WHATEVER THE INPUT: true; the input reads as it did. -/
def docChangesSpec : ChangeSpec := { name := "docChanges", fn := fun _ => fun
  | [d1, d2, d3] => { results := [.lit (.bool true)], args := [d1, d2, d3] }
  | _ => none }
def docChangesRow : OpenClaim := { program := "ythlpcmgeelkncaa", sum := "596c2e102a11d11affc81a6574ab921b9631905a8f10b01d9339ac601b59dcae", func := "pathfindery/pathfinderylaw.DocChanges", spec := "docChanges", unfollowed := true, recurses := true, apart := false }
def DocChangesSaid : Prop := docChangesRow.holds Try.pinned (OpenSpec.ofChange docChangesSpec)

/-- ITS FALSE NEIGHBOUR: 'it returns false'. Refute it at one input. -/
def docChangesWrong : ChangeSpec := { name := "docChanges", fn := fun _ => fun
  | [d1, d2, d3] => { results := [.lit (.bool false)], args := [d1, d2, d3] }
  | _ => none }
def DocChangesWrongFalsely : Prop := docChangesRow.holds Try.pinned (OpenSpec.ofChange docChangesWrong)

/-- 'pathfinderylaw.DocBack': WHATEVER THE INPUT: true; the input reads as it did. -/
def docBackSpec : ChangeSpec := { name := "docBack", fn := fun _ => fun
  | [d1, d2, d3, d4, d5] => { results := [.lit (.bool true)], args := [d1, d2, d3, d4, d5] }
  | _ => none }
def docBackRow : OpenClaim := { program := "ythlpcmgeelkncaa", sum := "596c2e102a11d11affc81a6574ab921b9631905a8f10b01d9339ac601b59dcae", func := "pathfindery/pathfinderylaw.DocBack", spec := "docBack", unfollowed := true, recurses := true, apart := false }
def DocBackSaid : Prop := docBackRow.holds Try.pinned (OpenSpec.ofChange docBackSpec)

/-- ITS FALSE NEIGHBOUR: 'it returns false'. Refute it at one input. -/
def docBackWrong : ChangeSpec := { name := "docBack", fn := fun _ => fun
  | [d1, d2, d3, d4, d5] => { results := [.lit (.bool false)], args := [d1, d2, d3, d4, d5] }
  | _ => none }
def DocBackWrongFalsely : Prop := docBackRow.holds Try.pinned (OpenSpec.ofChange docBackWrong)

/-- 'pathfinderylaw.MarkShows': WHATEVER THE INPUT: true; the input reads as it did. -/
def markShowsSpec : ChangeSpec := { name := "markShows", fn := fun _ => fun
  | [d1, d2] => { results := [.lit (.bool true)], args := [d1, d2] }
  | _ => none }
def markShowsRow : OpenClaim := { program := "ythlpcmgeelkncaa", sum := "596c2e102a11d11affc81a6574ab921b9631905a8f10b01d9339ac601b59dcae", func := "pathfindery/pathfinderylaw.MarkShows", spec := "markShows", inPlace := ["internal/abi.NoEscape"], unfollowed := true, recurses := true, apart := false }
def MarkShowsSaid : Prop := markShowsRow.holds Try.pinned (OpenSpec.ofChange markShowsSpec)

/-- ITS FALSE NEIGHBOUR: 'it returns false'. Refute it at one input. -/
def markShowsWrong : ChangeSpec := { name := "markShows", fn := fun _ => fun
  | [d1, d2] => { results := [.lit (.bool false)], args := [d1, d2] }
  | _ => none }
def MarkShowsWrongFalsely : Prop := markShowsRow.holds Try.pinned (OpenSpec.ofChange markShowsWrong)

/-- 'pathfinderylaw.MarkBack': WHATEVER THE INPUT: true; the input reads as it did. -/
def markBackSpec : ChangeSpec := { name := "markBack", fn := fun _ => fun
  | [d1, d2] => { results := [.lit (.bool true)], args := [d1, d2] }
  | _ => none }
def markBackRow : OpenClaim := { program := "ythlpcmgeelkncaa", sum := "596c2e102a11d11affc81a6574ab921b9631905a8f10b01d9339ac601b59dcae", func := "pathfindery/pathfinderylaw.MarkBack", spec := "markBack", inPlace := ["internal/abi.NoEscape"], unfollowed := true, recurses := true, apart := false }
def MarkBackSaid : Prop := markBackRow.holds Try.pinned (OpenSpec.ofChange markBackSpec)

/-- ITS FALSE NEIGHBOUR: 'it returns false'. Refute it at one input. -/
def markBackWrong : ChangeSpec := { name := "markBack", fn := fun _ => fun
  | [d1, d2] => { results := [.lit (.bool false)], args := [d1, d2] }
  | _ => none }
def MarkBackWrongFalsely : Prop := markBackRow.holds Try.pinned (OpenSpec.ofChange markBackWrong)

/- THE SECOND FORM. 'bulk': how many values and letters a reading holds, each counted each time it is reached (what is shared counts as often as it is met; a slice's spare places count too). A statement '..UptoSaid' is the law's where the arguments, and the package variables that the reading takes, are together of bulk at most 1048576: NARROWER than '..Said'. Prove '..Said' where nothing that the law and all that it calls make is longer than what came in: it says more and counts as full. Else prove '..UptoSaid'. A law counts once. -/
mutual
def uptoBulk {H : Type} : DataW H → Nat
  | .lit (.string bytes) => bytes.length + 1
  | .lit _ => 1
  | .nil => 1
  | .ptr d => uptoBulk d + 1
  | .slice elems spare => uptoBulkAll elems + uptoBulkAll spare + 1
  | .agg parts => uptoBulkAll parts + 1
  | .iface _ d => uptoBulk d + 1
  | .map entries => uptoBulkEntries entries + 1
  | .held _ => 1
def uptoBulkAll {H : Type} : List (DataW H) → Nat
  | [] => 0
  | d :: r => uptoBulk d + uptoBulkAll r
def uptoBulkEntries {H : Type} : List (Lit × DataW H) → Nat
  | [] => 0
  | x :: r => uptoBulkEntry x + uptoBulkEntries r
def uptoBulkEntry {H : Type} : Lit × DataW H → Nat
  | (.string bytes, d) => bytes.length + uptoBulk d + 1
  | (_, d) => uptoBulk d + 1
 end
def uptoSmall : (H : Type) → List (DataW H) → Bool := fun _ ds => decide (uptoBulkAll ds ≤ 1048576)
def OpenSpec.upto (s : _root_.Go.ChangeSpec) : _root_.Go.OpenSpec := { _root_.Go.OpenSpec.ofChange s with cond := some uptoSmall }

/-- 'pathfinderylaw.DocTells', WHERE WHAT IT READS IS OF BULK AT MOST 1048576: true; the input reads as it did. -/
def docTellsUptoRow : OpenClaim := { program := "ythlpcmgeelkncaa", sum := "596c2e102a11d11affc81a6574ab921b9631905a8f10b01d9339ac601b59dcae", func := "pathfindery/pathfinderylaw.DocTells", spec := "docTells", unfollowed := true, recurses := true, apart := false, narrowed := true }
def DocTellsUptoSaid : Prop := docTellsUptoRow.holds Try.pinned (OpenSpec.upto docTellsSpec)

/-- 'pathfinderylaw.DocInserts', WHERE WHAT IT READS IS OF BULK AT MOST 1048576: true; the input reads as it did. -/
def docInsertsUptoRow : OpenClaim := { program := "ythlpcmgeelkncaa", sum := "596c2e102a11d11affc81a6574ab921b9631905a8f10b01d9339ac601b59dcae", func := "pathfindery/pathfinderylaw.DocInserts", spec := "docInserts", unfollowed := true, recurses := true, apart := false, narrowed := true }
def DocInsertsUptoSaid : Prop := docInsertsUptoRow.holds Try.pinned (OpenSpec.upto docInsertsSpec)

/-- 'pathfinderylaw.DocChanges', WHERE WHAT IT READS IS OF BULK AT MOST 1048576: true; the input reads as it did. -/
def docChangesUptoRow : OpenClaim := { program := "ythlpcmgeelkncaa", sum := "596c2e102a11d11affc81a6574ab921b9631905a8f10b01d9339ac601b59dcae", func := "pathfindery/pathfinderylaw.DocChanges", spec := "docChanges", unfollowed := true, recurses := true, apart := false, narrowed := true }
def DocChangesUptoSaid : Prop := docChangesUptoRow.holds Try.pinned (OpenSpec.upto docChangesSpec)

/-- 'pathfinderylaw.DocBack', WHERE WHAT IT READS IS OF BULK AT MOST 1048576: true; the input reads as it did. -/
def docBackUptoRow : OpenClaim := { program := "ythlpcmgeelkncaa", sum := "596c2e102a11d11affc81a6574ab921b9631905a8f10b01d9339ac601b59dcae", func := "pathfindery/pathfinderylaw.DocBack", spec := "docBack", unfollowed := true, recurses := true, apart := false, narrowed := true }
def DocBackUptoSaid : Prop := docBackUptoRow.holds Try.pinned (OpenSpec.upto docBackSpec)

/-- 'pathfinderylaw.MarkShows', WHERE WHAT IT READS IS OF BULK AT MOST 1048576: true; the input reads as it did. -/
def markShowsUptoRow : OpenClaim := { program := "ythlpcmgeelkncaa", sum := "596c2e102a11d11affc81a6574ab921b9631905a8f10b01d9339ac601b59dcae", func := "pathfindery/pathfinderylaw.MarkShows", spec := "markShows", inPlace := ["internal/abi.NoEscape"], unfollowed := true, recurses := true, apart := false, narrowed := true }
def MarkShowsUptoSaid : Prop := markShowsUptoRow.holds Try.pinned (OpenSpec.upto markShowsSpec)

/-- 'pathfinderylaw.MarkBack', WHERE WHAT IT READS IS OF BULK AT MOST 1048576: true; the input reads as it did. -/
def markBackUptoRow : OpenClaim := { program := "ythlpcmgeelkncaa", sum := "596c2e102a11d11affc81a6574ab921b9631905a8f10b01d9339ac601b59dcae", func := "pathfindery/pathfinderylaw.MarkBack", spec := "markBack", inPlace := ["internal/abi.NoEscape"], unfollowed := true, recurses := true, apart := false, narrowed := true }
def MarkBackUptoSaid : Prop := markBackUptoRow.holds Try.pinned (OpenSpec.upto markBackSpec)

end Rows
end Go.Proofs.Ythlpcmgeelkncaa
