/-
  Put: an element in another's place.
-/
import Derived.Test.YtagobgjlhdbhmaaGreatDoorMbD
import Derived.Test.YtagobgjlhdbhmaaGreatDoorBui
import Derived.Test.YtagobgjlhdbhmaaGreatDoorRmD
import Derived.Test.YtagobgjlhdbhmaaGreatDoorIdxM
namespace Go.Proofs.YtagobgjlhdbhmaaGreatDoor
open Go.RowKit

/-- the world with an element written into a row -/
def wput (W : World) (g k : Nat) (u0 u1 u2 u3 u4 : Value) : World := ((((W.setCell ⟨g, k * 5, none⟩ u0).setCell ⟨g, k * 5 + 1, none⟩ u1).setCell ⟨g, k * 5 + 2, none⟩ u2).setCell ⟨g, k * 5 + 3, none⟩ u3).setCell ⟨g, k * 5 + 4, none⟩ u4
theorem wput_out {W : World} {g k : Nat} {u0 u1 u2 u3 u4 : Value} {p : Addr} {v : Value} (hne : p.block ≠ g ∨ p.off < k * 5 ∨ k * 5 + 5 ≤ p.off) (h : W.cell? p = some v) : (wput W g k u0 u1 u2 u3 u4).cell? p = some v := by
  have hn : ∀ i, i < 5 → (⟨g, k * 5 + i, none⟩ : Addr) ≠ p := by
    intro i hi e
    subst e
    simp at hne
    omega
  unfold wput
  rw [World.cell?_setCell_other _ _ _ _ (hn 4 (by omega)), World.cell?_setCell_other _ _ _ _ (hn 3 (by omega)), World.cell?_setCell_other _ _ _ _ (hn 2 (by omega)), World.cell?_setCell_other _ _ _ _ (hn 1 (by omega)), World.cell?_setCell_other _ _ _ _ (show (⟨g, k * 5, none⟩ : Addr) ≠ p from hn 0 (by omega))]
  exact h
theorem wput_in {W : World} {g k : Nat} {u0 u1 u2 u3 u4 c0 c1 c2 c3 c4 : Value} (h0 : W.cell? ⟨g, k * 5, none⟩ = some c0) (h1 : W.cell? ⟨g, k * 5 + 1, none⟩ = some c1) (h2 : W.cell? ⟨g, k * 5 + 2, none⟩ = some c2) (h3 : W.cell? ⟨g, k * 5 + 3, none⟩ = some c3) (h4 : W.cell? ⟨g, k * 5 + 4, none⟩ = some c4) :
    (wput W g k u0 u1 u2 u3 u4).cell? ⟨g, k * 5, none⟩ = some u0 ∧ (wput W g k u0 u1 u2 u3 u4).cell? ⟨g, k * 5 + 1, none⟩ = some u1 ∧ (wput W g k u0 u1 u2 u3 u4).cell? ⟨g, k * 5 + 2, none⟩ = some u2 ∧ (wput W g k u0 u1 u2 u3 u4).cell? ⟨g, k * 5 + 3, none⟩ = some u3 ∧ (wput W g k u0 u1 u2 u3 u4).cell? ⟨g, k * 5 + 4, none⟩ = some u4 := by
  have hn : ∀ i j, i < 5 → j < 5 → i ≠ j → (⟨g, k * 5 + i, none⟩ : Addr) ≠ ⟨g, k * 5 + j, none⟩ := by
    intro i j _ _ h e
    injection e with e1 e2
    omega
  have hn0 : ∀ j, 0 < j → j < 5 → (⟨g, k * 5 + j, none⟩ : Addr) ≠ ⟨g, k * 5, none⟩ := by
    intro j _ _ e
    injection e with e1 e2
    omega
  have hn1 : ∀ j, 0 < j → j < 5 → (⟨g, k * 5, none⟩ : Addr) ≠ ⟨g, k * 5 + j, none⟩ := by
    intro j _ _ e
    injection e with e1 e2
    omega
  unfold wput
  refine ⟨?_, ?_, ?_, ?_, ?_⟩
  · rw [World.cell?_setCell_other _ _ _ _ (hn0 4 (by omega) (by omega)), World.cell?_setCell_other _ _ _ _ (hn0 3 (by omega) (by omega)), World.cell?_setCell_other _ _ _ _ (hn0 2 (by omega) (by omega)), World.cell?_setCell_other _ _ _ _ (hn0 1 (by omega) (by omega))]
    exact World.cell?_setCell_same _ _ _ h0
  · rw [World.cell?_setCell_other _ _ _ _ (hn 4 1 (by omega) (by omega) (by omega)), World.cell?_setCell_other _ _ _ _ (hn 3 1 (by omega) (by omega) (by omega)), World.cell?_setCell_other _ _ _ _ (hn 2 1 (by omega) (by omega) (by omega))]
    refine World.cell?_setCell_same _ _ _ (u := c1) ?_
    rw [World.cell?_setCell_other _ _ _ _ (hn1 1 (by omega) (by omega))]; exact h1
  · rw [World.cell?_setCell_other _ _ _ _ (hn 4 2 (by omega) (by omega) (by omega)), World.cell?_setCell_other _ _ _ _ (hn 3 2 (by omega) (by omega) (by omega))]
    refine World.cell?_setCell_same _ _ _ (u := c2) ?_
    rw [World.cell?_setCell_other _ _ _ _ (hn 1 2 (by omega) (by omega) (by omega)), World.cell?_setCell_other _ _ _ _ (hn1 2 (by omega) (by omega))]; exact h2
  · rw [World.cell?_setCell_other _ _ _ _ (hn 4 3 (by omega) (by omega) (by omega))]
    refine World.cell?_setCell_same _ _ _ (u := c3) ?_
    rw [World.cell?_setCell_other _ _ _ _ (hn 2 3 (by omega) (by omega) (by omega)), World.cell?_setCell_other _ _ _ _ (hn 1 3 (by omega) (by omega) (by omega)), World.cell?_setCell_other _ _ _ _ (hn1 3 (by omega) (by omega))]; exact h3
  · refine World.cell?_setCell_same _ _ _ (u := c4) ?_
    rw [World.cell?_setCell_other _ _ _ _ (hn 3 4 (by omega) (by omega) (by omega)), World.cell?_setCell_other _ _ _ _ (hn 2 4 (by omega) (by omega) (by omega)), World.cell?_setCell_other _ _ _ _ (hn 1 4 (by omega) (by omega) (by omega)), World.cell?_setCell_other _ _ _ _ (hn1 4 (by omega) (by omega))]; exact h4
/-- the elements behind the writing -/
theorem Row.put {B : Nat} {w W : World} {g cap k M : Nat} {ns : List Pl.Nd} {x : Pl.Nd} {vc va u old : Value} (h : Row B w (.slice (some ⟨g, 0, none⟩) ns.length cap) ns) (hW : Below w.heap.size w W) (hk : k < ns.length) (hvc : StrsFrom w.heap.size W vc x.cls) (hva : AtsFrom w.heap.size W va x.ats)
    (hM : M ≠ g) (ho : W.cell? ⟨M, 0, none⟩ = some old) (hs : ∀ s, old ≠ .string s) :
    NdsAt ((wput W g k (.int .i64 x.up) (.string ⟨x.tag.toArray⟩) (.string ⟨x.id.toArray⟩) vc va).setCell ⟨M, 0, none⟩ u) (.slice (some ⟨g, 0, none⟩) ns.length cap) (ns.set k x) := by
  have hR := h.on hW
  obtain ⟨xs, hown, hc⟩ := id hR
  have hgw : g < w.heap.size := by
    obtain ⟨ys, h2, _⟩ := h
    exact (World.ownsRow.lt h2 g rfl).2
  have ho2 : (wput W g k (.int .i64 x.up) (.string ⟨x.tag.toArray⟩) (.string ⟨x.id.toArray⟩) vc va).cell? ⟨M, 0, none⟩ = some old := wput_out (Or.inl hM) ho
  have hcells : ∀ i (hi : i < ns.length), ∃ vc va, W.cell? ⟨g, i * 5, none⟩ = some (.int .i64 ns[i].up) ∧ W.cell? ⟨g, i * 5 + 1, none⟩ = some (.string ⟨ns[i].tag.toArray⟩) ∧ W.cell? ⟨g, i * 5 + 2, none⟩ = some (.string ⟨ns[i].id.toArray⟩) ∧ W.cell? ⟨g, i * 5 + 3, none⟩ = some vc ∧ W.cell? ⟨g, i * 5 + 4, none⟩ = some va ∧ StrsNe (some g) W vc ns[i].cls ∧ AtsNe (some g) W va ns[i].ats := by
    intro i hi
    obtain ⟨vc, va, h0, h1, h2, h3, h4, hcc, haa⟩ := CellsOf.get xs ns hc i hi
    have k0 := World.ownsRow.cells hown rfl _ _ h0
    have k1 := World.ownsRow.cells hown rfl _ _ h1
    have k2 := World.ownsRow.cells hown rfl _ _ h2
    have k3 := World.ownsRow.cells hown rfl _ _ h3
    have k4 := World.ownsRow.cells hown rfl _ _ h4
    simp only [Addr.add_lit, Nat.zero_add] at k0 k1 k2 k3 k4
    exact ⟨vc, va, k0, k1, k2, k3, k4, hcc, haa⟩
  have far : ∀ {p : Addr} {v : Value}, p.block = g → (wput W g k (.int .i64 x.up) (.string ⟨x.tag.toArray⟩) (.string ⟨x.id.toArray⟩) vc va).cell? p = some v → ((wput W g k (.int .i64 x.up) (.string ⟨x.tag.toArray⟩) (.string ⟨x.id.toArray⟩) vc va).setCell ⟨M, 0, none⟩ u).cell? p = some v := by
    intro p v hp hc
    rw [World.cell?_setCell_other _ _ _ _ (by intro e; rw [← e] at hp; exact hM hp)]; exact hc
  have str : ∀ {b o : Nat} {s : List UInt8}, b ≠ g → W.cell? ⟨b, o, none⟩ = some (.string ⟨s.toArray⟩) → ((wput W g k (.int .i64 x.up) (.string ⟨x.tag.toArray⟩) (.string ⟨x.id.toArray⟩) vc va).setCell ⟨M, 0, none⟩ u).cell? ⟨b, o, none⟩ = some (.string ⟨s.toArray⟩) := by
    intro b o s hb hc
    exact cell_set_str (wput_out (Or.inl hb) hc) ho2 hs
  have strs : ∀ {v : Value} {ss : List (List UInt8)}, StrsNe (some g) W v ss → StrsAt ((wput W g k (.int .i64 x.up) (.string ⟨x.tag.toArray⟩) (.string ⟨x.id.toArray⟩) vc va).setCell ⟨M, 0, none⟩ u) v ss := by
    rintro v ss ⟨a, c, rfl, h⟩
    refine ⟨a, c, rfl, ?_⟩
    rcases h with h | ⟨b, o, ha, hne, hc⟩
    · exact Or.inl h
    · exact Or.inr ⟨b, o, ha, fun i hi => str (fun e => hne (by rw [e])) (hc i hi)⟩
  have atss : ∀ {v : Value} {ss : List (List UInt8 × List UInt8)}, AtsNe (some g) W v ss → AtsAt ((wput W g k (.int .i64 x.up) (.string ⟨x.tag.toArray⟩) (.string ⟨x.id.toArray⟩) vc va).setCell ⟨M, 0, none⟩ u) v ss := by
    rintro v ss ⟨a, c, rfl, h⟩
    refine ⟨a, c, rfl, ?_⟩
    rcases h with h | ⟨b, o, ha, hne, hc⟩
    · exact Or.inl h
    · exact Or.inr ⟨b, o, ha, fun i hi => ⟨str (fun e => hne (by rw [e])) (hc i hi).1, str (fun e => hne (by rw [e])) (hc i hi).2⟩⟩
  refine ⟨_, cap, by rw [List.length_set], Or.inr ⟨g, 0, rfl, fun i hi => ?_⟩⟩
  rw [List.length_set] at hi
  rw [Nat.zero_add]
  by_cases hik : i = k
  · subst hik
    rw [List.getElem_set_self]
    obtain ⟨vc', va', k0, k1, k2, k3, k4, _, _⟩ := hcells i hk
    obtain ⟨q0, q1, q2, q3, q4⟩ := wput_in (u0 := .int .i64 x.up) (u1 := .string ⟨x.tag.toArray⟩) (u2 := .string ⟨x.id.toArray⟩) (u3 := vc) (u4 := va) k0 k1 k2 k3 k4
    exact ⟨vc, va, far rfl q0, far rfl q1, far rfl q2, far rfl q3, far rfl q4, strs (hvc.ne (fun j hj => by injection hj; omega)), atss (hva.ne (fun j hj => by injection hj; omega))⟩
  · rw [List.getElem_set_ne (Ne.symm hik)]
    obtain ⟨vc', va', k0, k1, k2, k3, k4, hcc, haa⟩ := hcells i hi
    have hoff : ∀ j, j < 5 → i * 5 + j < k * 5 ∨ k * 5 + 5 ≤ i * 5 + j := by intro j hj; omega
    exact ⟨vc', va', far rfl (wput_out (Or.inr (hoff 0 (by omega))) k0), far rfl (wput_out (Or.inr (hoff 1 (by omega))) k1), far rfl (wput_out (Or.inr (hoff 2 (by omega))) k2), far rfl (wput_out (Or.inr (hoff 3 (by omega))) k3), far rfl (wput_out (Or.inr (hoff 4 (by omega))) k4), strs hcc, atss haa⟩
end Go.Proofs.YtagobgjlhdbhmaaGreatDoor
/-
  Pages: a document and its index; what is answered of them, in plain lists and in memory.
-/
namespace Go.Proofs.YtagobgjlhdbhmaaGreatDoor
open Go.RowKit

/-- what a page made of a document is, or the error -/
def pgErr (err : Int) (ns : List Pl.Nd) : Int := if err = 0 then Pl.checkDoc ns else err
def pgDoc (err : Int) (ns : List Pl.Nd) : List Pl.Nd := if err = 0 then (if Pl.checkDoc ns = 0 then ns else []) else []
def pgIdx (err : Int) (ns : List Pl.Nd) : List Pl.Er := if err = 0 then Pl.idxAns ns else []
/-- the errors of a page -/
def pageErr (ns : List Pl.Nd) (l : List Pl.Er) : Int := if Pl.checkDoc ns = 0 then (if l = Pl.idxAns ns then 0 else 1) else Pl.checkDoc ns
theorem idx_small (ns : List Pl.Nd) : (Pl.idxAns ns).length ≤ 512 ∧ ∀ e ∈ Pl.idxAns ns, e.2.length ≤ 512 := by
  unfold Pl.idxAns
  split
  · rename_i h
    obtain ⟨_, h64, _⟩ := check_zero h
    have := Pl.idx_fit (fun x hx => (check_short h x hx).1) ns.length
    refine ⟨by have := this.1; simp; omega, fun e he => ?_⟩
    obtain ⟨f, hf, rfl⟩ := List.mem_map.1 he
    have := this.2 f hf
    simp [Pl.erOf]
    omega
  · simp
/-- a small block of slices -/
structure Sm (W : World) (N : Nat) : Prop where
  ex : ∃ cs t, W.heap[N]? = some (.cells cs t (0, 0)) ∧ cs.size ≤ 2 ∧ ∀ c ∈ cs.toList, ∃ a l k, c = .slice a l k
theorem Sm.cell {W : World} {N j : Nat} {v : Value} (h : Sm W N) (hc : W.cell? ⟨N, j, none⟩ = some v) : j < 2 ∧ ∃ a l k, v = .slice a l k := by
  obtain ⟨cs, t, h1, h2, h3⟩ := h.ex
  rw [cell_of_row W N j cs t (0, 0) h1] at hc
  have hj : j < cs.size := by
    rcases Nat.lt_or_ge j cs.size with h4 | h4
    · exact h4
    · rw [Array.getElem?_eq_none h4] at hc; cases hc
  refine ⟨by omega, h3 v ?_⟩
  rw [Array.getElem?_eq_getElem hj] at hc
  injection hc with hc
  rw [← hc]
  simp
theorem sm_str {W : World} {N j b o : Nat} {u : Value} {s : ByteArray} (h : Sm W N) (hc : W.cell? ⟨b, o, none⟩ = some (.string s)) : (W.setCell ⟨N, j, none⟩ u).cell? ⟨b, o, none⟩ = some (.string s) := by
  rw [World.cell?_setCell_other _ _ _ _ (by
    intro e
    injection e with e1 _ _
    subst e1
    obtain ⟨_, _, _, _, e⟩ := h.cell hc
    cases e)]
  exact hc
theorem sm_int {W : World} {N j b o : Nat} {u : Value} {k : IntKind} {z : Int} (h : Sm W N) (hc : W.cell? ⟨b, o, none⟩ = some (.int k z)) : (W.setCell ⟨N, j, none⟩ u).cell? ⟨b, o, none⟩ = some (.int k z) := by
  rw [World.cell?_setCell_other _ _ _ _ (by
    intro e
    injection e with e1 _ _
    subst e1
    obtain ⟨_, _, _, _, e⟩ := h.cell hc
    cases e)]
  exact hc
theorem DocAt.sm {W : World} {v u : Value} {ns : List Pl.Nd} {N j : Nat} (h : DocAt W v ns) (hS : Sm W N) : DocAt (W.setCell ⟨N, j, none⟩ u) v ns := by
  refine ⟨?_, h.2⟩
  obtain ⟨a, c, rfl, hc⟩ := h.1
  refine ⟨a, c, rfl, ?_⟩
  rcases hc with hc | ⟨b, o, rfl, hc⟩
  · exact Or.inl hc
  · refine Or.inr ⟨b, o, rfl, fun i hi => ?_⟩
    obtain ⟨vc, va, n0, n1, n2, n3, n4, nc, na⟩ := hc i hi
    have hb : N ≠ b := by
      intro e
      subst e
      have := (hS.cell n4).1
      omega
    refine ⟨vc, va, cell_set n0 hb, cell_set n1 hb, cell_set n2 hb, cell_set n3 hb, cell_set n4 hb, ?_, ?_⟩
    · obtain ⟨a, c, rfl, h⟩ := nc
      refine ⟨a, c, rfl, ?_⟩
      rcases h with h | ⟨b, o, ha, hc⟩
      · exact Or.inl h
      · exact Or.inr ⟨b, o, ha, fun i hi => sm_str hS (hc i hi)⟩
    · obtain ⟨a, c, rfl, h⟩ := na
      refine ⟨a, c, rfl, ?_⟩
      rcases h with h | ⟨b, o, ha, hc⟩
      · exact Or.inl h
      · exact Or.inr ⟨b, o, ha, fun i hi => ⟨sm_str hS (hc i hi).1, sm_str hS (hc i hi).2⟩⟩
theorem EnsAt.sm {W : World} {v u : Value} {l : List Pl.Er} {N j : Nat} (h : EnsAt W v l) (hS : Sm W N) : EnsAt (W.setCell ⟨N, j, none⟩ u) v l := by
  obtain ⟨a, c, rfl, hc⟩ := h
  refine ⟨a, c, rfl, ?_⟩
  rcases hc with hc | ⟨b, o, rfl, hc⟩
  · exact Or.inl hc
  · refine Or.inr ⟨b, o, rfl, fun i hi => ?_⟩
    obtain ⟨vi, n0, n1, n2, n3⟩ := hc i hi
    have hb : N ≠ b := by
      intro e
      subst e
      have := (hS.cell n2).1
      omega
    refine ⟨vi, cell_set n0 hb, cell_set n1 hb, cell_set n2 hb, ?_⟩
    obtain ⟨a, c, rfl, h⟩ := n3
    refine ⟨a, c, rfl, ?_⟩
    rcases h with h | ⟨b, o, ha, hc⟩
    · exact Or.inl h
    · exact Or.inr ⟨b, o, ha, fun i hi => sm_int hS (hc i hi)⟩
/-- a block of two cells: a page's box -/
def Blk2 (w : World) (N : Nat) (c0 c1 : Value) : Prop := w.heap[N]? = some (.cells #[c0, c1] 59)
theorem Blk2.facts {w : World} {N : Nat} {c0 c1 : Value} (h : Blk2 w N c0 c1) : (w.cell? ⟨N, 0, none⟩ = some c0 ∧ w.cell? ⟨N, 1, none⟩ = some c1) ∧ ∀ i, w.frozen? ⟨N, i, none⟩ = false := by
  unfold Blk2 at h
  refine ⟨⟨?_, ?_⟩, fun i => ?_⟩
  all_goals simp [World.cell?, World.frozen?, h]
theorem Blk2.lt {w : World} {N : Nat} {c0 c1 : Value} (h : Blk2 w N c0 c1) : N < w.heap.size := (Array.getElem?_eq_some_iff.1 h).1
theorem Blk2.on {w w' : World} {N : Nat} {c0 c1 : Value} (h : Blk2 w N c0 c1) (hb : Below w.heap.size w w') : Blk2 w' N c0 c1 := by
  unfold Blk2; rw [hb.block N h.lt]; exact h
theorem Blk2.new (w : World) (c0 c1 : Value) : Blk2 (w.alloc (.cells #[c0, c1] 59)) w.heap.size c0 c1 := heap_alloc_new w _
theorem Blk2.set0 {w : World} {N : Nat} {c0 c1 : Value} (h : Blk2 w N c0 c1) (v : Value) : Blk2 (w.setCell ⟨N, 0, none⟩ v) N v c1 := by
  unfold Blk2 at *
  simp [World.setCell, Array.getElem?_modify, h]
theorem Blk2.set1 {w : World} {N : Nat} {c0 c1 : Value} (h : Blk2 w N c0 c1) (v : Value) : Blk2 (w.setCell ⟨N, 1, none⟩ v) N c0 v := by
  unfold Blk2 at *
  simp [World.setCell, Array.getElem?_modify, h]
theorem Blk2.sm {w : World} {N : Nat} {a0 a1 : Option Addr} {l0 l1 k0 k1 : Nat} (h : Blk2 w N (.slice a0 l0 k0) (.slice a1 l1 k1)) : Sm w N := ⟨_, _, h, by simp, fun c hc => by
  simp only [List.mem_cons, List.not_mem_nil, or_false] at hc
  rcases hc with rfl | rfl
  · exact ⟨_, _, _, rfl⟩
  · exact ⟨_, _, _, rfl⟩⟩
theorem Blk1.sm {w : World} {N : Nat} {a0 : Option Addr} {l0 k0 : Nat} (h : Blk1 w N (.slice a0 l0 k0)) : Sm w N := ⟨_, _, h, by simp, fun c hc => by
  simp only [List.mem_cons, List.not_mem_nil, or_false] at hc
  subst hc
  exact ⟨_, _, _, rfl⟩⟩
theorem EnsAt.form {w : World} {v : Value} {l : List Pl.Er} (h : EnsAt w v l) : ∃ a c, v = .slice a l.length c := by
  obtain ⟨a, c, e, _⟩ := h
  exact ⟨a, c, e⟩
/-- a page -/
def PgAt (w : World) (v : Value) (ns : List Pl.Nd) (l : List Pl.Er) : Prop := ∃ a c a2 c2, v = .agg #[.slice a ns.length c, .slice a2 l.length c2] ∧ DocAt w (.slice a ns.length c) ns ∧ EnsAt w (.slice a2 l.length c2) l
theorem PgAt.on {w w' : World} {v : Value} {ns : List Pl.Nd} {l : List Pl.Er} (h : PgAt w v ns l) (hb : Below w.heap.size w w') : PgAt w' v ns l := by
  obtain ⟨a, c, a2, c2, e, h1, h2⟩ := h
  exact ⟨a, c, a2, c2, e, h1.on hb, h2.on hb⟩
theorem PgAt.nil (w : World) : PgAt w (.agg #[.slice none 0 0, .slice none 0 0]) [] [] := ⟨none, 0, none, 0, rfl, DocAt.nil w, EnsAt.nil w⟩
/-- a page laid into its box -/
theorem PgAt.box {w : World} {N : Nat} {ns : List Pl.Nd} {l : List Pl.Er} {a a2 a3 a4 : Option Addr} {c c2 l3 c3 l4 c4 : Nat} (h1 : DocAt w (.slice a ns.length c) ns) (h2 : EnsAt w (.slice a2 l.length c2) l) (hb : Blk2 w N (.slice a3 l3 c3) (.slice a4 l4 c4)) :
    PgAt ((w.setCell ⟨N, 0, none⟩ (.slice a ns.length c)).setCell ⟨N, 1, none⟩ (.slice a2 l.length c2)) (.agg #[.slice a ns.length c, .slice a2 l.length c2]) ns l ∧
      Blk2 ((w.setCell ⟨N, 0, none⟩ (.slice a ns.length c)).setCell ⟨N, 1, none⟩ (.slice a2 l.length c2)) N (.slice a ns.length c) (.slice a2 l.length c2) := by
  have hb1 := hb.set0 (.slice a ns.length c)
  exact ⟨⟨a, c, a2, c2, rfl, (h1.sm hb.sm).sm hb1.sm, (h2.sm hb.sm).sm hb1.sm⟩, hb1.set1 _⟩
end Go.Proofs.YtagobgjlhdbhmaaGreatDoor
