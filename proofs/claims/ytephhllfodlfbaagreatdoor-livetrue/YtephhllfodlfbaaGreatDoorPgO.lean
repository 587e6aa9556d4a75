/-
  A page among the arguments of a law; an element too.
-/
import Derived.Test.YtephhllfodlfbaaGreatDoorFdE
import Derived.Test.YtephhllfodlfbaaGreatDoorFor
namespace Go.Proofs.YtephhllfodlfbaaGreatDoor
open Go.RowKit

section
variable {H : Type} {enc : TypeId × Value → H} {W : World} {held : Bool} {fuel : Nat} {cs : List Value} {x : DataW H × List MemPlace}
instance : Inhabited Pl.Er := ⟨((0, []), [])⟩
end
end Go.Proofs.YtephhllfodlfbaaGreatDoor
namespace Go.Proofs.YtephhllfodlfbaaGreatDoor
open Go.ChangeShapes Go.WideShapes Go.ChangeAt Go.RowKit Go.Joins

set_option maxRecDepth 100000 in
/-- an element among the arguments -/
theorem nd_open {H : Type} {enc : TypeId × Value → H} {W : World} {r : Reach} {b0 : Nat} {v : Value} {d : DataW H} {p : List MemPlace} (hv : Value.okWide Tryz.prog W r b0 28 v) (h : DataW.Trod enc Tryz.prog W 0 (fun _ => true) true 28 v d p) : ∃ x, NdV W v x ∧ Fits x := by
  obtain ⟨cs, rfl, _⟩ := okWide_struct Tryz.underlying28 hv
  obtain ⟨fuel, hf0⟩ := h
  have hf1 : DataW.trod enc Tryz.prog W 0 (fun _ => true) true fuel 28 cs.toList = some (d, p) := hf0
  obtain ⟨l⟩ := cs
  obtain ⟨xs, m, _, _, hl, hlen, hf⟩ := DataW.trod_struct Tryz.underlying28 hf1
  rw [cl47] at hl
  obtain ⟨v0, v1, v2, v3, v4, rfl⟩ := list5 hl
  obtain ⟨y0, y1, y2, y3, y4, rfl⟩ := list5 hlen
  have f0 : DataW.trod enc Tryz.prog W 0 (fun _ => true) true m 3 (([v0, v1, v2, v3, v4].drop 0).take (Tryz.prog.cellsOf 3)) = some y0 := hf 0 _ rfl
  rw [cl3] at f0
  replace f0 : DataW.trod enc Tryz.prog W 0 (fun _ => true) true m 3 [v0] = some y0 := f0
  have f1 : DataW.trod enc Tryz.prog W 0 (fun _ => true) true m 9 (([v0, v1, v2, v3, v4].drop 1).take (Tryz.prog.cellsOf 9)) = some y1 := hf 1 _ rfl
  rw [cl9] at f1
  replace f1 : DataW.trod enc Tryz.prog W 0 (fun _ => true) true m 9 [v1] = some y1 := f1
  have f2 : DataW.trod enc Tryz.prog W 0 (fun _ => true) true m 9 (([v0, v1, v2, v3, v4].drop 2).take (Tryz.prog.cellsOf 9)) = some y2 := hf 2 _ rfl
  rw [cl9] at f2
  replace f2 : DataW.trod enc Tryz.prog W 0 (fun _ => true) true m 9 [v2] = some y2 := f2
  have f3 : DataW.trod enc Tryz.prog W 0 (fun _ => true) true m 25 (([v0, v1, v2, v3, v4].drop 3).take (Tryz.prog.cellsOf 25)) = some y3 := hf 3 _ rfl
  rw [cl44] at f3
  replace f3 : DataW.trod enc Tryz.prog W 0 (fun _ => true) true m 25 [v3] = some y3 := f3
  have f4 : DataW.trod enc Tryz.prog W 0 (fun _ => true) true m 26 (([v0, v1, v2, v3, v4].drop 4).take (Tryz.prog.cellsOf 26)) = some y4 := hf 4 _ rfl
  rw [cl45] at f4
  replace f4 : DataW.trod enc Tryz.prog W 0 (fun _ => true) true m 26 [v4] = some y4 := f4
  obtain ⟨k, e0, _, _⟩ := DataW.trod_int Tryz.underlying3 f0
  obtain ⟨s1, e1, _, _⟩ := DataW.trod_string Tryz.underlying9 f1
  obtain ⟨s2, e2, _, _⟩ := DataW.trod_string Tryz.underlying9 f2
  obtain ⟨w3, ss, e3, hs, ls⟩ := strs_open f3
  obtain ⟨w4, ts, e4, ha, la⟩ := ats_open f4
  injection e0 with e0 _
  injection e1 with e1 _
  injection e2 with e2 _
  injection e3 with e3 _
  injection e4 with e4 _
  subst e0 e1 e2 e3 e4
  exact ⟨⟨k, s1.data.toList, s2.data.toList, ss, ts⟩, ⟨v3, v4, rfl, hs, ha⟩, ls, la⟩

end Go.Proofs.YtephhllfodlfbaaGreatDoor
