/-
  What the row's list of laid variables gives; a world in which they hold what they are laid with.
-/
import Derived.Test.YtephhllfodlfbaaDoorFrmA
import Derived.Test.YtephhllfodlfbaaDoorRows
import Derived.WalkKit
import Derived.ProofKit
import Derived.OpenShut
namespace Go.Proofs.YtephhllfodlfbaaDoor
open Go.RowKit

theorem cl4 : Tryd.prog.cellsOf 4 = 1 := by kernel_rfl
theorem cl151 : Tryd.prog.cellsOf 71 = 7 := by kernel_rfl
theorem list7 {α : Type} {l : List α} (h : l.length = 7) : ∃ a b c d e f g, l = [a, b, c, d, e, f, g] := by
  match l, h with
  | [a, b, c, d, e, f, g], _ => exact ⟨a, b, c, d, e, f, g, rfl⟩
section
variable {H : Type} {enc : TypeId × Value → H} {W : World} {base : Nat} {sp : Nat → Bool} {held : Bool} {fuel : Nat} {cs : List Value} {p : List MemPlace}
theorem form_vals {a b c d : Bool} {e f g : List UInt8} (h : DataW.trod enc Tryd.prog W base sp held fuel 71 cs = some (.agg [.lit (.bool a), .lit (.bool b), .lit (.bool c), .lit (.bool d), .lit (.string e), .lit (.string f), .lit (.string g)], p)) :
    cs = [.bool a, .bool b, .bool c, .bool d, .string ⟨e.toArray⟩, .string ⟨f.toArray⟩, .string ⟨g.toArray⟩] := by
  obtain ⟨xs, m, _, hx, hl, hlen, hf⟩ := DataW.trod_struct Tryd.underlying71 h
  rw [cl151] at hl
  obtain ⟨v0, v1, v2, v3, v4, v5, v6, rfl⟩ := list7 hl
  obtain ⟨y0, y1, y2, y3, y4, y5, y6, rfl⟩ := list7 hlen
  have f0 : DataW.trod enc Tryd.prog W base sp held m 4 (([v0, v1, v2, v3, v4, v5, v6].drop 0).take (Tryd.prog.cellsOf 4)) = some y0 := hf 0 _ rfl
  rw [cl4] at f0
  replace f0 : DataW.trod enc Tryd.prog W base sp held m 4 [v0] = some y0 := f0
  have f1 : DataW.trod enc Tryd.prog W base sp held m 4 (([v0, v1, v2, v3, v4, v5, v6].drop 1).take (Tryd.prog.cellsOf 4)) = some y1 := hf 1 _ rfl
  rw [cl4] at f1
  replace f1 : DataW.trod enc Tryd.prog W base sp held m 4 [v1] = some y1 := f1
  have f2 : DataW.trod enc Tryd.prog W base sp held m 4 (([v0, v1, v2, v3, v4, v5, v6].drop 2).take (Tryd.prog.cellsOf 4)) = some y2 := hf 2 _ rfl
  rw [cl4] at f2
  replace f2 : DataW.trod enc Tryd.prog W base sp held m 4 [v2] = some y2 := f2
  have f3 : DataW.trod enc Tryd.prog W base sp held m 4 (([v0, v1, v2, v3, v4, v5, v6].drop 3).take (Tryd.prog.cellsOf 4)) = some y3 := hf 3 _ rfl
  rw [cl4] at f3
  replace f3 : DataW.trod enc Tryd.prog W base sp held m 4 [v3] = some y3 := f3
  have f4 : DataW.trod enc Tryd.prog W base sp held m 9 (([v0, v1, v2, v3, v4, v5, v6].drop 4).take (Tryd.prog.cellsOf 9)) = some y4 := hf 4 _ rfl
  rw [cl9] at f4
  replace f4 : DataW.trod enc Tryd.prog W base sp held m 9 [v4] = some y4 := f4
  have f5 : DataW.trod enc Tryd.prog W base sp held m 9 (([v0, v1, v2, v3, v4, v5, v6].drop 5).take (Tryd.prog.cellsOf 9)) = some y5 := hf 5 _ rfl
  rw [cl9] at f5
  replace f5 : DataW.trod enc Tryd.prog W base sp held m 9 [v5] = some y5 := f5
  have f6 : DataW.trod enc Tryd.prog W base sp held m 9 (([v0, v1, v2, v3, v4, v5, v6].drop 6).take (Tryd.prog.cellsOf 9)) = some y6 := hf 6 _ rfl
  rw [cl9] at f6
  replace f6 : DataW.trod enc Tryd.prog W base sp held m 9 [v6] = some y6 := f6
  obtain ⟨b0, e0, rfl⟩ := DataW.trod_bool Tryd.underlying4 f0
  obtain ⟨b1, e1, rfl⟩ := DataW.trod_bool Tryd.underlying4 f1
  obtain ⟨b2, e2, rfl⟩ := DataW.trod_bool Tryd.underlying4 f2
  obtain ⟨b3, e3, rfl⟩ := DataW.trod_bool Tryd.underlying4 f3
  obtain ⟨s4, e4, rfl, _⟩ := DataW.trod_string Tryd.underlying9 f4
  obtain ⟨s5, e5, rfl, _⟩ := DataW.trod_string Tryd.underlying9 f5
  obtain ⟨s6, e6, rfl, _⟩ := DataW.trod_string Tryd.underlying9 f6
  injection e0 with e0 _
  injection e1 with e1 _
  injection e2 with e2 _
  injection e3 with e3 _
  injection e4 with e4 _
  injection e5 with e5 _
  injection e6 with e6 _
  subst e0 e1 e2 e3 e4 e5 e6
  have hx1 := congrArg Prod.fst hx
  simp only [List.map_cons, List.map_nil, DataW.agg.injEq, List.cons.injEq, DataW.lit.injEq, Lit.bool.injEq, Lit.string.injEq, and_true] at hx1
  obtain ⟨rfl, rfl, rfl, rfl, rfl, rfl, rfl⟩ := hx1
  simp
end
def fD (k : Nat) : DataW Unit := .agg [.lit (.bool (Pl.kName k)), .lit (.bool (Pl.kValue k)), .lit (.bool (Pl.kNth k)), .lit (.bool (Pl.kList k)), .lit (.string (fBegin k)), .lit (.string (fSign k)), .lit (.string (fEnd k))]
theorem forms_data : (Rows.laid_pathfindery_path_forms : DataW Unit) = .agg ((List.range 16).map fD) := by kernel_rfl
theorem gForms : Tryd.prog.globalNamed "pathfindery/path.forms" = some 0 := by kernel_rfl
theorem tForms : (Tryd.prog.globals[0]?).map (·.type) = some 72 := by kernel_rfl
theorem at_k {xs : List (DataW Unit × List MemPlace)} {n : Nat} {g : Nat → DataW Unit} (h : xs.map (·.1) = (List.range n).map g) {k : Nat} (hk : k < n) : ∃ p, xs[k]? = some (g k, p) := by
  have : (xs.map (·.1))[k]? = some (g k) := by rw [h]; simp [hk]
  rw [List.getElem?_map, Option.map_eq_some_iff] at this
  obtain ⟨⟨y, p⟩, h1, h2⟩ := this
  exact ⟨p, by rw [h1]; simp only at h2; rw [h2]⟩
theorem forms_of {W : World} {r : List (String × DataW Unit)} (h : laidMet Tryd.prog (("pathfindery/path.forms", Rows.laid_pathfindery_path_forms) :: r) W) : FormsAt W := by
  rw [forms_data] at h
  obtain ⟨ps, ⟨g, t, cs, fuel, p, q, hg, ht, hvar, hd, _, _⟩, _⟩ := h
  obtain rfl := Option.some.inj (gForms.symm.trans hg)
  obtain rfl := Option.some.inj (tForms.symm.trans ht)
  obtain ⟨xs, m, _, hx, hl, hlen, hf⟩ := DataW.trod_array Tryd.underlying72 hd
  have hx1 := congrArg Prod.fst hx
  simp only [DataW.agg.injEq] at hx1
  intro k hk
  obtain ⟨p', hk'⟩ := at_k hx1.symm (k := k) (by omega)
  have hf' := hf k (by omega)
  rw [hk', cl151] at hf'
  have hv := form_vals hf'
  have hget : ∀ (j : Nat), j < 7 → W.cell? ⟨0, k * 7 + j, none⟩ = ((cs.toList.drop (k * 7)).take 7)[j]? := by
    intro j hj
    rw [World.var?_cell gForms hvar, List.getElem?_take_of_lt hj, List.getElem?_drop, Array.getElem?_toList]
  rw [hv] at hget
  exact ⟨hget 0 (by omega), hget 1 (by omega), hget 2 (by omega), hget 3 (by omega), hget 4 (by omega), hget 5 (by omega), hget 6 (by omega)⟩
theorem ownTryd : ownKnob Tryd.prog.godebug = none := by kernel_rfl
theorem laidOutTryd : laidOutB Tryd.prog = true := by kernel_rfl
def filled (vs : List Value) : Obj → Obj
  | .cells _ t frozen => .cells vs.toArray t frozen
  | o => o
def formsV : List Value := (List.range 16).flatMap fun (k : Nat) => [.bool (Pl.kName k), .bool (Pl.kValue k), .bool (Pl.kNth k), .bool (Pl.kList k), .string ⟨(fBegin k).toArray⟩, .string ⟨(fSign k).toArray⟩, .string ⟨(fEnd k).toArray⟩]
def laidIn (w : World) : World := { w with heap := w.heap.modify 0 (filled formsV) }
end Go.Proofs.YtephhllfodlfbaaDoor
