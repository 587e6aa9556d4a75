/-
  Part and Remove once more: and what they answer lies in new memory.
-/
import Derived.Test.YtephhllfodlfbaaGreatDoorRmD
import Derived.Deep.DeepCutAuto
import Derived.Deep.SlicePairs
import Derived.SliceStrings
import Derived.ProofKit
import Derived.OpenShut
import Derived.Lib.SmallJoins
namespace Go.Proofs.YtephhllfodlfbaaGreatDoor
open Go.RowKit

/-- a slice in blocks from B on -/
def Far (B : Nat) (v : Value) : Prop := ∀ p l c, v = .slice (some p) l c → B ≤ p.block
theorem Far.nil (B : Nat) : Far B (.slice none 0 0) := fun p l c h => by cases h
theorem Far.mono {B B' : Nat} {v : Value} (h : Far B v) (hB : B' ≤ B) : Far B' v := fun p l c e => Nat.le_trans hB (h p l c e)
/-- a cell elsewhere, that holds a slice, is written -/
theorem DocAt.set {W : World} {v u old : Value} {ns : List Pl.Nd} {B M : Nat} (h : DocAt W v ns) (hf : Far B v) (hM : M < B) (ho : W.cell? ⟨M, 0, none⟩ = some old) (hs : ∀ s, old ≠ .string s) : DocAt (W.setCell ⟨M, 0, none⟩ u) v ns := by
  refine ⟨?_, h.2⟩
  obtain ⟨a, c, rfl, hc⟩ := h.1
  refine ⟨a, c, rfl, ?_⟩
  rcases hc with hc | ⟨b, o, rfl, hc⟩
  · exact Or.inl hc
  · refine Or.inr ⟨b, o, rfl, fun i hi => ?_⟩
    have hb : M ≠ b := by have := hf ⟨b, o, none⟩ _ _ rfl; simp at this; omega
    obtain ⟨vc, va, n0, n1, n2, n3, n4, nc, na⟩ := hc i hi
    refine ⟨vc, va, cell_set n0 hb, cell_set n1 hb, cell_set n2 hb, cell_set n3 hb, cell_set n4 hb, ?_, ?_⟩
    · obtain ⟨a, c, rfl, h⟩ := nc
      refine ⟨a, c, rfl, ?_⟩
      rcases h with h | ⟨b, o, ha, hc⟩
      · exact Or.inl h
      · exact Or.inr ⟨b, o, ha, fun i hi => cell_set_str (hc i hi) ho hs⟩
    · obtain ⟨a, c, rfl, h⟩ := na
      refine ⟨a, c, rfl, ?_⟩
      rcases h with h | ⟨b, o, ha, hc⟩
      · exact Or.inl h
      · exact Or.inr ⟨b, o, ha, fun i hi => ⟨cell_set_str (hc i hi).1 ho hs, cell_set_str (hc i hi).2 ho hs⟩⟩

end Go.Proofs.YtephhllfodlfbaaGreatDoor
/-
  Documents in boxes, and what stays of a few cells.
-/
namespace Go.Proofs.YtephhllfodlfbaaGreatDoor
open Go.RowKit

theorem DocAt.form {W : World} {v : Value} {ns : List Pl.Nd} (h : DocAt W v ns) : ∃ a c, v = .slice a ns.length c := by
  obtain ⟨a, c, h1, _⟩ := h.1
  exact ⟨a, c, h1⟩

end Go.Proofs.YtephhllfodlfbaaGreatDoor
/-
  A document that is handed in, opened.
-/
namespace Go.Proofs.YtephhllfodlfbaaGreatDoor
open Go.RowKit

theorem d_cl9 : Tryz.prog.cellsOf 9 = 1 := by kernel_rfl
theorem d_cl3 : Tryz.prog.cellsOf 3 = 1 := by kernel_rfl
theorem cl44 : Tryz.prog.cellsOf 25 = 1 := by kernel_rfl
theorem cl45 : Tryz.prog.cellsOf 26 = 1 := by kernel_rfl
theorem d_cl22 : Tryz.prog.cellsOf 22 = 1 := by kernel_rfl
theorem cl95 : Tryz.prog.cellsOf 59 = 2 := by kernel_rfl
theorem cl47 : Tryz.prog.cellsOf 28 = 5 := by kernel_rfl
theorem addr_of {W : World} {a : Addr} {v : Value} (h : W.cell? a = some v) : a = ⟨a.block, a.off, none⟩ := by
  obtain ⟨b, o, s⟩ := a
  cases s with
  | none => rfl
  | some s =>
    exfalso
    unfold World.cell? at h
    split at h
    · simp at h
    · cases h
theorem add_zero (a : Addr) : a.add 0 = a := by unfold Addr.add; simp
def bytesOf : Value → List UInt8
  | .string s => s.data.toList
  | _ => []
theorem d_list5 {α : Type} {l : List α} (h : l.length = 5) : ∃ a b c d e, l = [a, b, c, d, e] := by
  rcases l with _ | ⟨a, _ | ⟨b, _ | ⟨c, _ | ⟨d, _ | ⟨e, _ | ⟨f, r⟩⟩⟩⟩⟩⟩
  all_goals first | exact ⟨_, _, _, _, _, rfl⟩ | (simp at h; done) | (simp at h; omega)
section
variable {H : Type} {enc : TypeId × Value → H} {W : World} {held : Bool} {fuel : Nat} {cs : List Value} {x : DataW H × List MemPlace}
theorem strs_open (h : DataW.trod enc Tryz.prog W 0 (fun _ => true) held fuel 25 cs = some x) : ∃ v ss, cs = [v] ∧ StrsAt W v ss ∧ ss.length ≤ maxLen := by
  rcases ChangeShapes.open_strings Tryz.underlying25 Tryz.underlying9 d_cl9 h with ⟨rfl, _⟩ | ⟨a, len, cap, ss, rfl, _, hl, hm, hlen, _, hc, _⟩
  · exact ⟨_, [], rfl, ⟨none, 0, rfl, Or.inl rfl⟩, by simp⟩
  · simp at hlen
    have hL : ((ss.take len).map fun s => s.data.toList).length = len := by simp; omega
    refine ⟨_, (ss.take len).map fun s => s.data.toList, rfl, ⟨some a, cap, by rw [hL], ?_⟩, by omega⟩
    rcases Nat.eq_zero_or_pos len with h0 | h0
    · left; subst h0; simp
    · right
      have ha := addr_of (by have := hc 0 (by omega); rwa [add_zero] at this)
      refine ⟨a.block, a.off, by rw [← ha], fun i hi => ?_⟩
      rw [hL] at hi
      have := hc i (by omega)
      rw [ha, Addr.add_lit] at this
      rw [this]
      simp [List.getD, List.getElem?_eq_getElem (show i < ss.length by omega)]
theorem ats_open (h : DataW.trod enc Tryz.prog W 0 (fun _ => true) held fuel 26 cs = some x) : ∃ v ss, cs = [v] ∧ AtsAt W v ss ∧ ss.length ≤ maxLen := by
  rcases Deep.open_slice_pairs Tryz.underlying26 Tryz.underlying59 cl95 rfl rfl d_cl9 d_cl9 h with ⟨rfl, _⟩ | ⟨a, len, cap, m, n, V0, V1, D0, D1, P0, P1, rfl, _, hl, hm, hmm, _, hc⟩
  · exact ⟨_, [], rfl, ⟨none, 0, rfl, Or.inl rfl⟩, by simp⟩
  · simp at hmm
    have hL : ((List.range len).map fun i => (bytesOf (V0 i), bytesOf (V1 i))).length = len := by simp
    refine ⟨_, (List.range len).map fun i => (bytesOf (V0 i), bytesOf (V1 i)), rfl, ⟨some a, cap, by rw [hL], ?_⟩, by omega⟩
    rcases Nat.eq_zero_or_pos len with h0 | h0
    · left; subst h0; simp
    · right
      have ha := addr_of (by have := (hc 0 (by omega)).1; rw [Nat.zero_mul, add_zero] at this; exact this)
      refine ⟨a.block, a.off, by rw [← ha], fun i hi => ?_⟩
      rw [hL] at hi
      obtain ⟨q0, q1, t0, t1⟩ := hc i (by omega)
      obtain ⟨s0, e0, _, _⟩ := DataW.trod_string Tryz.underlying9 t0
      obtain ⟨s1, e1, _, _⟩ := DataW.trod_string Tryz.underlying9 t1
      injection e0 with e0 _
      injection e1 with e1 _
      rw [ha, Addr.add_lit] at q0 q1
      rw [← Nat.add_assoc] at q1
      simp only [List.getElem_map, List.getElem_range]
      rw [q0, q1, e0, e1]
      exact ⟨rfl, rfl⟩
theorem elem_open {b o n : Nat} {cs' : List Value} {y : DataW H × List MemPlace} (hb : ∀ i, i < 5 → W.cell? ⟨b, o + i, none⟩ = cs'[i]?) (h : DataW.trod enc Tryz.prog W 0 (fun _ => true) held n 28 cs' = some y) : ∃ x, NdAt W b o x ∧ Fits x := by
  obtain ⟨xs, m, _, _, hl, hlen, hf⟩ := DataW.trod_struct Tryz.underlying28 h
  rw [cl47] at hl
  obtain ⟨v0, v1, v2, v3, v4, rfl⟩ := d_list5 hl
  obtain ⟨y0, y1, y2, y3, y4, rfl⟩ := d_list5 hlen
  have f0 : DataW.trod enc Tryz.prog W 0 (fun _ => true) held m 3 (([v0, v1, v2, v3, v4].drop 0).take (Tryz.prog.cellsOf 3)) = some y0 := hf 0 _ rfl
  rw [d_cl3] at f0
  replace f0 : DataW.trod enc Tryz.prog W 0 (fun _ => true) held m 3 [v0] = some y0 := f0
  have f1 : DataW.trod enc Tryz.prog W 0 (fun _ => true) held m 9 (([v0, v1, v2, v3, v4].drop 1).take (Tryz.prog.cellsOf 9)) = some y1 := hf 1 _ rfl
  rw [d_cl9] at f1
  replace f1 : DataW.trod enc Tryz.prog W 0 (fun _ => true) held m 9 [v1] = some y1 := f1
  have f2 : DataW.trod enc Tryz.prog W 0 (fun _ => true) held m 9 (([v0, v1, v2, v3, v4].drop 2).take (Tryz.prog.cellsOf 9)) = some y2 := hf 2 _ rfl
  rw [d_cl9] at f2
  replace f2 : DataW.trod enc Tryz.prog W 0 (fun _ => true) held m 9 [v2] = some y2 := f2
  have f3 : DataW.trod enc Tryz.prog W 0 (fun _ => true) held m 25 (([v0, v1, v2, v3, v4].drop 3).take (Tryz.prog.cellsOf 25)) = some y3 := hf 3 _ rfl
  rw [cl44] at f3
  replace f3 : DataW.trod enc Tryz.prog W 0 (fun _ => true) held m 25 [v3] = some y3 := f3
  have f4 : DataW.trod enc Tryz.prog W 0 (fun _ => true) held m 26 (([v0, v1, v2, v3, v4].drop 4).take (Tryz.prog.cellsOf 26)) = some y4 := hf 4 _ rfl
  rw [cl45] at f4
  replace f4 : DataW.trod enc Tryz.prog W 0 (fun _ => true) held m 26 [v4] = some y4 := f4
  obtain ⟨k, e0, _, _⟩ := DataW.trod_int Tryz.underlying3 f0
  obtain ⟨s1, e1, _, _⟩ := DataW.trod_string Tryz.underlying9 f1
  obtain ⟨s2, e2, _, _⟩ := DataW.trod_string Tryz.underlying9 f2
  obtain ⟨w3, ss, e3, hs, ls⟩ := strs_open f3
  obtain ⟨w4, ts, e4, ha, la⟩ := ats_open f4
  injection e0 with e0 _
  injection e1 with e1 _
  injection e2 with e2 _
  injection e3 with e3 _
  injection e4 with e4 _
  subst e0 e1 e2 e3 e4
  exact ⟨⟨k, s1.data.toList, s2.data.toList, ss, ts⟩, ⟨v3, v4, hb 0 (by omega), hb 1 (by omega), hb 2 (by omega), hb 3 (by omega), hb 4 (by omega), hs, ha⟩, ls, la⟩
instance : Inhabited Pl.Nd := ⟨⟨0, [], [], [], []⟩⟩
theorem nds_open (h : DataW.trod enc Tryz.prog W 0 (fun _ => true) held fuel 22 cs = some x) : ∃ v ns, cs = [v] ∧ DocAt W v ns := by
  rcases Deep.open_slice Tryz.underlying22 h with ⟨rfl, _⟩ | ⟨a, len, cap, m, n, D, Pl, rfl, _, hl, hm, hmm, _, hc⟩
  · exact ⟨_, [], rfl, DocAt.nil W⟩
  · simp at hmm
    rcases Nat.eq_zero_or_pos len with h0 | h0
    · subst h0
      exact ⟨_, [], rfl, ⟨some a, cap, rfl, Or.inl rfl⟩, ⟨_, _, _, rfl, hl, hm⟩, by simp, fun i h => by simp at h⟩
    have hcell : ∀ i, i < len → ∃ cs' : List Value, (∀ j, j < 5 → W.cell? ((a.add (i * 5)).add j) = cs'[j]?) ∧ ∃ y, DataW.trod enc Tryz.prog W 0 (fun _ => true) held n 28 cs' = some y := by
      intro i hi
      obtain ⟨cs', h1, h2⟩ := hc i (by omega)
      rw [cl47] at h1
      obtain ⟨_, h4, h3⟩ := World.cells?_some h1
      exact ⟨cs', fun j hj => h3 j hj, _, h2⟩
    have ha : a = ⟨a.block, a.off, none⟩ := by
      obtain ⟨cs', h1, y, h2⟩ := hcell 0 h0
      obtain ⟨_, _, _, _, hl5, _⟩ := DataW.trod_struct Tryz.underlying28 h2
      rw [cl47] at hl5
      have h3 := h1 0 (by omega)
      rw [Nat.zero_mul, add_zero, add_zero, List.getElem?_eq_getElem (by omega)] at h3
      exact addr_of h3
    have hex : ∀ i, i < len → ∃ x, NdAt W a.block (a.off + i * 5) x ∧ Fits x := by
      intro i hi
      obtain ⟨cs', h1, y, h2⟩ := hcell i hi
      refine elem_open (fun j hj => ?_) h2
      have := h1 j hj
      rw [ha, Addr.add_lit, Addr.add_lit] at this
      exact this
    obtain ⟨f, hf⟩ := Deep.choose_lt hex
    have hL : ((List.range len).map f).length = len := by simp
    refine ⟨_, (List.range len).map f, rfl, ⟨some a, cap, by rw [hL], Or.inr ⟨a.block, a.off, by rw [← ha], fun i hi => ?_⟩⟩, ⟨_, _, _, rfl, hl, hm⟩, by omega, fun i hi => ?_⟩
    · rw [hL] at hi
      simp only [List.getElem_map, List.getElem_range]
      exact (hf i hi).1
    · rw [hL] at hi
      simp only [List.getElem_map, List.getElem_range]
      exact (hf i hi).2
end
end Go.Proofs.YtephhllfodlfbaaGreatDoor
/-
  A document among the arguments of a law.
-/
namespace Go.Proofs.YtephhllfodlfbaaGreatDoor
open Go.ChangeShapes Go.WideShapes Go.ChangeAt Go.RowKit Go.Joins

theorem ownTryz : ownKnob Tryz.prog.godebug = none := by kernel_rfl
theorem laidOutTryz : laidOutB Tryz.prog = true := by kernel_rfl
set_option maxRecDepth 100000 in
/-- a document among the arguments -/
theorem doc_open {H : Type} {enc : TypeId × Value → H} {W : World} {r : Reach} {b0 : Nat} {v : Value} {d : DataW H} {p : List MemPlace} (hv : Value.okWide Tryz.prog W r b0 24 v) (h : DataW.Trod enc Tryz.prog W 0 (fun _ => true) true 24 v d p) : ∃ s ns, v = .agg #[s] ∧ DocAt W s ns := by
  obtain ⟨cs, rfl, _⟩ := okWide_struct Tryz.underlying24 hv
  obtain ⟨fuel, hf⟩ := h
  obtain ⟨y0, n, _, hl, h0⟩ := trod_struct1 Tryz.underlying24 hf
  have hl1 : cs.toList.length = 1 := by
    have : Tryz.prog.cellsOf 24 = 1 := by kernel_rfl
    rw [this] at hl
    exact hl
  obtain ⟨s, hs⟩ : ∃ s, cs = #[s] := by
    obtain ⟨l⟩ := cs
    match l, hl1 with
    | [s], _ => exact ⟨s, rfl⟩
  subst hs
  have h1 : DataW.trod enc Tryz.prog W 0 (fun _ => true) true n 22 (([s].drop 0).take (Tryz.prog.cellsOf 22)) = some y0 := h0
  rw [d_cl22] at h1
  obtain ⟨v, ns, e, hd⟩ := nds_open h1
  injection e with e _
  subst e
  exact ⟨_, ns, rfl, hd⟩
end Go.Proofs.YtephhllfodlfbaaGreatDoor
