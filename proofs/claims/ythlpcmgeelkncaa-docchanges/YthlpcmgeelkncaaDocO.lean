/-
  A document among the arguments of a law.
-/
import Derived.Test.YthlpcmgeelkncaaOpen
import Derived.ProofKit
import Derived.OpenShut
import Derived.Lib.SmallJoins
namespace Go.Proofs.Ythlpcmgeelkncaa
open Go.ChangeShapes Go.WideShapes Go.ChangeAt Go.RowKit Go.Joins

theorem ownTry : ownKnob Try.prog.godebug = none := by kernel_rfl
theorem laidOutTry : laidOutB Try.prog = true := by kernel_rfl
set_option maxRecDepth 100000 in
/-- a document among the arguments -/
theorem doc_open {H : Type} {enc : TypeId × Value → H} {W : World} {r : Reach} {b0 : Nat} {v : Value} {d : DataW H} {p : List MemPlace} (hv : Value.okWide Try.prog W r b0 24 v) (h : DataW.Trod enc Try.prog W 0 (fun _ => true) true 24 v d p) : ∃ s ns, v = .agg #[s] ∧ DocAt W s ns := by
  obtain ⟨cs, rfl, _⟩ := okWide_struct Try.underlying24 hv
  obtain ⟨fuel, hf⟩ := h
  obtain ⟨y0, n, _, hl, h0⟩ := trod_struct1 Try.underlying24 hf
  have hl1 : cs.toList.length = 1 := by
    have : Try.prog.cellsOf 24 = 1 := by kernel_rfl
    rw [this] at hl
    exact hl
  obtain ⟨s, hs⟩ : ∃ s, cs = #[s] := by
    obtain ⟨l⟩ := cs
    match l, hl1 with
    | [s], _ => exact ⟨s, rfl⟩
  subst hs
  have h1 : DataW.trod enc Try.prog W 0 (fun _ => true) true n 22 (([s].drop 0).take (Try.prog.cellsOf 22)) = some y0 := h0
  rw [cl22] at h1
  obtain ⟨v, ns, e, hd⟩ := nds_open h1
  injection e with e _
  subst e
  exact ⟨_, ns, rfl, hd⟩
end Go.Proofs.Ythlpcmgeelkncaa
