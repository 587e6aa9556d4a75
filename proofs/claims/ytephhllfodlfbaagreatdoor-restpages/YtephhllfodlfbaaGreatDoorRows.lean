/-
  NARROWER THAN 'FOR EVERY INPUT', by the rows' own cells (each row's printed sentence says how): LiveTrue: loops, laid · PlainSame: loops, laid · RestPages: loops, laid.
  DERIVED. THE GIVEN ROWS OF THIS SEAT. 3 by the template 'for every input the law returns true; each argument reads behind the call as it read before'; 0 by the template 'total and deterministic' (their statements: YtephhllfodlfbaaGreatDoorTotals.lean).
  GIVEN WITH THE SEED: the statements are not yours to turn. If you find one false, say at which input.
  Laid BY PROGRAM, IN A SANDBOX (cutbox-rows.mjs): the forced cells as the released guide's own fill.sh prints them over the translation 076c27eadaa7b45a… (all of the seat's roots in one cut). By AI agents, Wed Nov 11 2026. No macro, syntax, notation, axiom, sorry.
-/
import Derived.Test.YtephhllfodlfbaaGreatDoorChecked
import GoSem.PinnedTables
import GoSem.Claim
import GoSem.ClaimJoined
import GoSem.ClaimMapViews
import Derived.JoinedTies
import Derived.KernelRfl
namespace Go.Proofs.YtephhllfodlfbaaGreatDoor
/- THE CELL 'sum', in the pinned program and in every row, IS THE sha256 OF THE DUMP (.gsa) THAT YtephhllfodlfbaaGreatDoorProg.lean LOADS. Nothing in Lean hashes anything: it is a label: what it is worth is what the hold of that sum in a sandbox is worth. -/
noncomputable def Tryz.pinned : Pinned := { name := "ytephhllfodlfbaagreatdoor", sum := "076c27eadaa7b45a2e7d9db785a954b168e8c1b650da2e43e462352db6296914", checked := Tryz.checked }
namespace Rows
def none {H : Type} : Left H := { results := [], args := [] }

/- WHAT THE LISTED PACKAGE-LEVEL VARIABLES READ AS WHEN THE CALL BEGINS. Each datum BY PROGRAM (the guide's laid-datum.mjs) off the statement by which the dump's own 'gosem.cut.vars' lays the variable. In a bare row this is a premise. The card (YtephhllfodlfbaaGreatDoorCards.lean) ties it to the program's text. -/
def laid_unicode_utf8_acceptRanges {H : Type} : DataW H := .agg [.agg [.lit (.int .u8 128), .lit (.int .u8 191)], .agg [.lit (.int .u8 160), .lit (.int .u8 191)], .agg [.lit (.int .u8 128), .lit (.int .u8 159)], .agg [.lit (.int .u8 144), .lit (.int .u8 191)], .agg [.lit (.int .u8 128), .lit (.int .u8 143)], .agg [.lit (.int .u8 0), .lit (.int .u8 0)], .agg [.lit (.int .u8 0), .lit (.int .u8 0)], .agg [.lit (.int .u8 0), .lit (.int .u8 0)], .agg [.lit (.int .u8 0), .lit (.int .u8 0)], .agg [.lit (.int .u8 0), .lit (.int .u8 0)], .agg [.lit (.int .u8 0), .lit (.int .u8 0)], .agg [.lit (.int .u8 0), .lit (.int .u8 0)], .agg [.lit (.int .u8 0), .lit (.int .u8 0)], .agg [.lit (.int .u8 0), .lit (.int .u8 0)], .agg [.lit (.int .u8 0), .lit (.int .u8 0)], .agg [.lit (.int .u8 0), .lit (.int .u8 0)]]
def laid_pathfindery_path_forms {H : Type} : DataW H := .agg [.agg [.lit (.bool false), .lit (.bool false), .lit (.bool false), .lit (.bool false), .lit (.string []), .lit (.string []), .lit (.string [])], .agg [.lit (.bool true), .lit (.bool false), .lit (.bool false), .lit (.bool false), .lit (.string [46]), .lit (.string []), .lit (.string [])], .agg [.lit (.bool true), .lit (.bool false), .lit (.bool false), .lit (.bool false), .lit (.string [35]), .lit (.string []), .lit (.string [])], .agg [.lit (.bool true), .lit (.bool false), .lit (.bool false), .lit (.bool false), .lit (.string [91]), .lit (.string [93]), .lit (.string [])], .agg [.lit (.bool true), .lit (.bool true), .lit (.bool false), .lit (.bool false), .lit (.string [91]), .lit (.string [61]), .lit (.string [93])], .agg [.lit (.bool true), .lit (.bool true), .lit (.bool false), .lit (.bool false), .lit (.string [91]), .lit (.string [94, 61]), .lit (.string [93])], .agg [.lit (.bool true), .lit (.bool true), .lit (.bool false), .lit (.bool false), .lit (.string [91]), .lit (.string [36, 61]), .lit (.string [93])], .agg [.lit (.bool true), .lit (.bool true), .lit (.bool false), .lit (.bool false), .lit (.string [91]), .lit (.string [42, 61]), .lit (.string [93])], .agg [.lit (.bool true), .lit (.bool true), .lit (.bool false), .lit (.bool false), .lit (.string [91]), .lit (.string [126, 61]), .lit (.string [93])], .agg [.lit (.bool false), .lit (.bool false), .lit (.bool true), .lit (.bool false), .lit (.string [58, 110, 116, 104, 40]), .lit (.string []), .lit (.string [41])], .agg [.lit (.bool false), .lit (.bool false), .lit (.bool true), .lit (.bool false), .lit (.string [58, 108, 97, 115, 116, 40]), .lit (.string []), .lit (.string [41])], .agg [.lit (.bool false), .lit (.bool false), .lit (.bool false), .lit (.bool false), .lit (.string [58, 101, 109, 112, 116, 121]), .lit (.string []), .lit (.string [])], .agg [.lit (.bool false), .lit (.bool false), .lit (.bool false), .lit (.bool false), .lit (.string [58, 114, 111, 111, 116]), .lit (.string []), .lit (.string [])], .agg [.lit (.bool false), .lit (.bool false), .lit (.bool false), .lit (.bool true), .lit (.string [58, 110, 111, 116, 40]), .lit (.string []), .lit (.string [41])], .agg [.lit (.bool false), .lit (.bool false), .lit (.bool false), .lit (.bool true), .lit (.string [58, 105, 115, 40]), .lit (.string []), .lit (.string [41])], .agg [.lit (.bool false), .lit (.bool false), .lit (.bool false), .lit (.bool true), .lit (.string [58, 104, 97, 115, 40]), .lit (.string []), .lit (.string [41])]]
/-- One of Go's own tables, pinned by name: the form's constant. -/
def laid_unicode_utf8_first : DataW Unit := Go.Pinned.utf8First

/-- 'pathfinderylaw.LiveTrue': WHATEVER THE INPUT: true; the input reads as it did. -/
def liveTrueSpec : ChangeSpec := { name := "liveTrue", fn := fun _ => fun
  | [d1, d2, d3, d4, d5, d6, d7, d8] => { results := [.lit (.bool true)], args := [d1, d2, d3, d4, d5, d6, d7, d8] }
  | _ => none }
def liveTrueRow : OpenClaim := { program := "ytephhllfodlfbaagreatdoor", sum := "076c27eadaa7b45a2e7d9db785a954b168e8c1b650da2e43e462352db6296914", func := "pathfindery/pathfinderylaw.LiveTrue", spec := "liveTrue", inPlace := ["internal/bytealg.IndexByteString", "internal/bytealg.IndexString"], unfollowed := true, recurses := true, named := ["pathfindery/path.forms", "internal/bytealg.MaxLen", "unicode/utf8.first", "unicode/utf8.acceptRanges"], loops := true, plainKeys := false, apart := false, laid := [("unicode/utf8.acceptRanges", laid_unicode_utf8_acceptRanges), ("pathfindery/path.forms", laid_pathfindery_path_forms), ("unicode/utf8.first", laid_unicode_utf8_first)] }
def LiveTrueSaid : Prop := liveTrueRow.holds Tryz.pinned (OpenSpec.ofChange liveTrueSpec)

/-- ITS FALSE NEIGHBOUR: 'it returns false'. Refute it at one input. -/
def liveTrueWrong : ChangeSpec := { name := "liveTrue", fn := fun _ => fun
  | [d1, d2, d3, d4, d5, d6, d7, d8] => { results := [.lit (.bool false)], args := [d1, d2, d3, d4, d5, d6, d7, d8] }
  | _ => none }
def LiveTrueWrongFalsely : Prop := liveTrueRow.holds Tryz.pinned (OpenSpec.ofChange liveTrueWrong)

/-- 'pathfinderylaw.PlainSame': WHATEVER THE INPUT: true; the input reads as it did. -/
def plainSameSpec : ChangeSpec := { name := "plainSame", fn := fun _ => fun
  | [d1, d2] => { results := [.lit (.bool true)], args := [d1, d2] }
  | _ => none }
def plainSameRow : OpenClaim := { program := "ytephhllfodlfbaagreatdoor", sum := "076c27eadaa7b45a2e7d9db785a954b168e8c1b650da2e43e462352db6296914", func := "pathfindery/pathfinderylaw.PlainSame", spec := "plainSame", inPlace := ["internal/bytealg.IndexByteString", "internal/bytealg.IndexString"], unfollowed := true, recurses := true, named := ["pathfindery/path.forms", "internal/bytealg.MaxLen", "unicode/utf8.first", "unicode/utf8.acceptRanges"], loops := true, plainKeys := false, apart := false, laid := [("unicode/utf8.acceptRanges", laid_unicode_utf8_acceptRanges), ("pathfindery/path.forms", laid_pathfindery_path_forms), ("unicode/utf8.first", laid_unicode_utf8_first)] }
def PlainSameSaid : Prop := plainSameRow.holds Tryz.pinned (OpenSpec.ofChange plainSameSpec)

/-- ITS FALSE NEIGHBOUR: 'it returns false'. Refute it at one input. -/
def plainSameWrong : ChangeSpec := { name := "plainSame", fn := fun _ => fun
  | [d1, d2] => { results := [.lit (.bool false)], args := [d1, d2] }
  | _ => none }
def PlainSameWrongFalsely : Prop := plainSameRow.holds Tryz.pinned (OpenSpec.ofChange plainSameWrong)

/-- 'pathfinderylaw.RestPages': WHATEVER THE INPUT: true; the input reads as it did. -/
def restPagesSpec : ChangeSpec := { name := "restPages", fn := fun _ => fun
  | [d1, d2, d3, d4, d5] => { results := [.lit (.bool true)], args := [d1, d2, d3, d4, d5] }
  | _ => none }
def restPagesRow : OpenClaim := { program := "ytephhllfodlfbaagreatdoor", sum := "076c27eadaa7b45a2e7d9db785a954b168e8c1b650da2e43e462352db6296914", func := "pathfindery/pathfinderylaw.RestPages", spec := "restPages", unfollowed := true, recurses := true, named := ["pathfindery/path.forms"], loops := true, plainKeys := false, apart := false, laid := [("pathfindery/path.forms", laid_pathfindery_path_forms)] }
def RestPagesSaid : Prop := restPagesRow.holds Tryz.pinned (OpenSpec.ofChange restPagesSpec)

/-- ITS FALSE NEIGHBOUR: 'it returns false'. Refute it at one input. -/
def restPagesWrong : ChangeSpec := { name := "restPages", fn := fun _ => fun
  | [d1, d2, d3, d4, d5] => { results := [.lit (.bool false)], args := [d1, d2, d3, d4, d5] }
  | _ => none }
def RestPagesWrongFalsely : Prop := restPagesRow.holds Tryz.pinned (OpenSpec.ofChange restPagesWrong)

/- THE SECOND FORM. 'bulk': how many values and letters a reading holds, each counted each time it is reached (what is shared counts as often as it is met; a slice's spare places count too). A statement '..UptoSaid' is the law's where the arguments, and the package variables that the reading takes, are together of bulk at most 1048576: NARROWER than '..Said'. Prove '..Said' where nothing that the law and all that it calls make is longer than what came in: it says more and counts as full. Else prove '..UptoSaid'. A law counts once. -/
mutual
def uptoBulk {H : Type} : DataW H → Nat
  | .lit (.string bytes) => bytes.length + 1
  | .lit _ => 1
  | .nil => 1
  | .ptr d => uptoBulk d + 1
  | .slice elems spare => uptoBulkAll elems + uptoBulkAll spare + 1
  | .agg parts => uptoBulkAll parts + 1
  | .iface _ d => uptoBulk d + 1
  | .map entries => uptoBulkEntries entries + 1
  | .held _ => 1
def uptoBulkAll {H : Type} : List (DataW H) → Nat
  | [] => 0
  | d :: r => uptoBulk d + uptoBulkAll r
def uptoBulkEntries {H : Type} : List (Lit × DataW H) → Nat
  | [] => 0
  | x :: r => uptoBulkEntry x + uptoBulkEntries r
def uptoBulkEntry {H : Type} : Lit × DataW H → Nat
  | (.string bytes, d) => bytes.length + uptoBulk d + 1
  | (_, d) => uptoBulk d + 1
 end
def uptoSmall : (H : Type) → List (DataW H) → Bool := fun _ ds => decide (uptoBulkAll ds ≤ 1048576)
def OpenSpec.upto (s : _root_.Go.ChangeSpec) : _root_.Go.OpenSpec := { _root_.Go.OpenSpec.ofChange s with cond := some uptoSmall }

/-- 'pathfinderylaw.LiveTrue', WHERE WHAT IT READS IS OF BULK AT MOST 1048576: true; the input reads as it did. -/
def liveTrueUptoRow : OpenClaim := { program := "ytephhllfodlfbaagreatdoor", sum := "076c27eadaa7b45a2e7d9db785a954b168e8c1b650da2e43e462352db6296914", func := "pathfindery/pathfinderylaw.LiveTrue", spec := "liveTrue", inPlace := ["internal/bytealg.IndexByteString", "internal/bytealg.IndexString"], unfollowed := true, recurses := true, named := ["pathfindery/path.forms", "internal/bytealg.MaxLen", "unicode/utf8.first", "unicode/utf8.acceptRanges"], loops := true, plainKeys := false, apart := false, laid := [("unicode/utf8.acceptRanges", laid_unicode_utf8_acceptRanges), ("pathfindery/path.forms", laid_pathfindery_path_forms), ("unicode/utf8.first", laid_unicode_utf8_first)], narrowed := true }
def LiveTrueUptoSaid : Prop := liveTrueUptoRow.holds Tryz.pinned (OpenSpec.upto liveTrueSpec)

/-- 'pathfinderylaw.PlainSame', WHERE WHAT IT READS IS OF BULK AT MOST 1048576: true; the input reads as it did. -/
def plainSameUptoRow : OpenClaim := { program := "ytephhllfodlfbaagreatdoor", sum := "076c27eadaa7b45a2e7d9db785a954b168e8c1b650da2e43e462352db6296914", func := "pathfindery/pathfinderylaw.PlainSame", spec := "plainSame", inPlace := ["internal/bytealg.IndexByteString", "internal/bytealg.IndexString"], unfollowed := true, recurses := true, named := ["pathfindery/path.forms", "internal/bytealg.MaxLen", "unicode/utf8.first", "unicode/utf8.acceptRanges"], loops := true, plainKeys := false, apart := false, laid := [("unicode/utf8.acceptRanges", laid_unicode_utf8_acceptRanges), ("pathfindery/path.forms", laid_pathfindery_path_forms), ("unicode/utf8.first", laid_unicode_utf8_first)], narrowed := true }
def PlainSameUptoSaid : Prop := plainSameUptoRow.holds Tryz.pinned (OpenSpec.upto plainSameSpec)

/-- 'pathfinderylaw.RestPages', WHERE WHAT IT READS IS OF BULK AT MOST 1048576: true; the input reads as it did. -/
def restPagesUptoRow : OpenClaim := { program := "ytephhllfodlfbaagreatdoor", sum := "076c27eadaa7b45a2e7d9db785a954b168e8c1b650da2e43e462352db6296914", func := "pathfindery/pathfinderylaw.RestPages", spec := "restPages", unfollowed := true, recurses := true, named := ["pathfindery/path.forms"], loops := true, plainKeys := false, apart := false, laid := [("pathfindery/path.forms", laid_pathfindery_path_forms)], narrowed := true }
def RestPagesUptoSaid : Prop := restPagesUptoRow.holds Tryz.pinned (OpenSpec.upto restPagesSpec)

end Rows
end Go.Proofs.YtephhllfodlfbaaGreatDoor
