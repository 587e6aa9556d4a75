/-
  Put: an element in another's place.
-/
import Derived.Test.YthlpcmgeelkncaaSmall
namespace Go.Proofs.Ythlpcmgeelkncaa
open Go.RowKit

theorem seven_on {W w' : World} {p0 p1 p2 p3 p4 p5 p6 : Addr} {v0 v1 v2 v3 v4 v5 v6 : Value} (h : W.cell? p0 = some v0 ∧ W.cell? p1 = some v1 ∧ W.cell? p2 = some v2 ∧ W.cell? p3 = some v3 ∧ W.cell? p4 = some v4 ∧ W.cell? p5 = some v5 ∧ W.cell? p6 = some v6) (hb : Below W.heap.size W w') : w'.cell? p0 = some v0 ∧ w'.cell? p1 = some v1 ∧ w'.cell? p2 = some v2 ∧ w'.cell? p3 = some v3 ∧ w'.cell? p4 = some v4 ∧ w'.cell? p5 = some v5 ∧ w'.cell? p6 = some v6 :=
  ⟨cell_on hb h.1, cell_on hb h.2.1, cell_on hb h.2.2.1, cell_on hb h.2.2.2.1, cell_on hb h.2.2.2.2.1, cell_on hb h.2.2.2.2.2.1, cell_on hb h.2.2.2.2.2.2⟩
/-- the world with an element written into a row -/
def wput (W : World) (g k : Nat) (u0 u1 u2 u3 u4 : Value) : World := ((((W.setCell ⟨g, k * 5, none⟩ u0).setCell ⟨g, k * 5 + 1, none⟩ u1).setCell ⟨g, k * 5 + 2, none⟩ u2).setCell ⟨g, k * 5 + 3, none⟩ u3).setCell ⟨g, k * 5 + 4, none⟩ u4
theorem wput_out {W : World} {g k : Nat} {u0 u1 u2 u3 u4 : Value} {p : Addr} {v : Value} (hne : p.block ≠ g ∨ p.off < k * 5 ∨ k * 5 + 5 ≤ p.off) (h : W.cell? p = some v) : (wput W g k u0 u1 u2 u3 u4).cell? p = some v := by
  have hn : ∀ i, i < 5 → (⟨g, k * 5 + i, none⟩ : Addr) ≠ p := by
    intro i hi e
    subst e
    simp at hne
    omega
  unfold wput
  rw [World.cell?_setCell_other _ _ _ _ (hn 4 (by omega)), World.cell?_setCell_other _ _ _ _ (hn 3 (by omega)), World.cell?_setCell_other _ _ _ _ (hn 2 (by omega)), World.cell?_setCell_other _ _ _ _ (hn 1 (by omega)), World.cell?_setCell_other _ _ _ _ (show (⟨g, k * 5, none⟩ : Addr) ≠ p from hn 0 (by omega))]
  exact h
theorem wput_in {W : World} {g k : Nat} {u0 u1 u2 u3 u4 c0 c1 c2 c3 c4 : Value} (h0 : W.cell? ⟨g, k * 5, none⟩ = some c0) (h1 : W.cell? ⟨g, k * 5 + 1, none⟩ = some c1) (h2 : W.cell? ⟨g, k * 5 + 2, none⟩ = some c2) (h3 : W.cell? ⟨g, k * 5 + 3, none⟩ = some c3) (h4 : W.cell? ⟨g, k * 5 + 4, none⟩ = some c4) :
    (wput W g k u0 u1 u2 u3 u4).cell? ⟨g, k * 5, none⟩ = some u0 ∧ (wput W g k u0 u1 u2 u3 u4).cell? ⟨g, k * 5 + 1, none⟩ = some u1 ∧ (wput W g k u0 u1 u2 u3 u4).cell? ⟨g, k * 5 + 2, none⟩ = some u2 ∧ (wput W g k u0 u1 u2 u3 u4).cell? ⟨g, k * 5 + 3, none⟩ = some u3 ∧ (wput W g k u0 u1 u2 u3 u4).cell? ⟨g, k * 5 + 4, none⟩ = some u4 := by
  have hn : ∀ i j, i < 5 → j < 5 → i ≠ j → (⟨g, k * 5 + i, none⟩ : Addr) ≠ ⟨g, k * 5 + j, none⟩ := by
    intro i j _ _ h e
    injection e with e1 e2
    omega
  have hn0 : ∀ j, 0 < j → j < 5 → (⟨g, k * 5 + j, none⟩ : Addr) ≠ ⟨g, k * 5, none⟩ := by
    intro j _ _ e
    injection e with e1 e2
    omega
  have hn1 : ∀ j, 0 < j → j < 5 → (⟨g, k * 5, none⟩ : Addr) ≠ ⟨g, k * 5 + j, none⟩ := by
    intro j _ _ e
    injection e with e1 e2
    omega
  unfold wput
  refine ⟨?_, ?_, ?_, ?_, ?_⟩
  · rw [World.cell?_setCell_other _ _ _ _ (hn0 4 (by omega) (by omega)), World.cell?_setCell_other _ _ _ _ (hn0 3 (by omega) (by omega)), World.cell?_setCell_other _ _ _ _ (hn0 2 (by omega) (by omega)), World.cell?_setCell_other _ _ _ _ (hn0 1 (by omega) (by omega))]
    exact World.cell?_setCell_same _ _ _ h0
  · rw [World.cell?_setCell_other _ _ _ _ (hn 4 1 (by omega) (by omega) (by omega)), World.cell?_setCell_other _ _ _ _ (hn 3 1 (by omega) (by omega) (by omega)), World.cell?_setCell_other _ _ _ _ (hn 2 1 (by omega) (by omega) (by omega))]
    refine World.cell?_setCell_same _ _ _ (u := c1) ?_
    rw [World.cell?_setCell_other _ _ _ _ (hn1 1 (by omega) (by omega))]; exact h1
  · rw [World.cell?_setCell_other _ _ _ _ (hn 4 2 (by omega) (by omega) (by omega)), World.cell?_setCell_other _ _ _ _ (hn 3 2 (by omega) (by omega) (by omega))]
    refine World.cell?_setCell_same _ _ _ (u := c2) ?_
    rw [World.cell?_setCell_other _ _ _ _ (hn 1 2 (by omega) (by omega) (by omega)), World.cell?_setCell_other _ _ _ _ (hn1 2 (by omega) (by omega))]; exact h2
  · rw [World.cell?_setCell_other _ _ _ _ (hn 4 3 (by omega) (by omega) (by omega))]
    refine World.cell?_setCell_same _ _ _ (u := c3) ?_
    rw [World.cell?_setCell_other _ _ _ _ (hn 2 3 (by omega) (by omega) (by omega)), World.cell?_setCell_other _ _ _ _ (hn 1 3 (by omega) (by omega) (by omega)), World.cell?_setCell_other _ _ _ _ (hn1 3 (by omega) (by omega))]; exact h3
  · refine World.cell?_setCell_same _ _ _ (u := c4) ?_
    rw [World.cell?_setCell_other _ _ _ _ (hn 3 4 (by omega) (by omega) (by omega)), World.cell?_setCell_other _ _ _ _ (hn 2 4 (by omega) (by omega) (by omega)), World.cell?_setCell_other _ _ _ _ (hn 1 4 (by omega) (by omega) (by omega)), World.cell?_setCell_other _ _ _ _ (hn1 4 (by omega) (by omega))]; exact h4
theorem seven_put {W : World} {g k : Nat} {u0 u1 u2 u3 u4 : Value} {p0 p1 p2 p3 p4 p5 p6 : Addr} {v0 v1 v2 v3 v4 v5 v6 : Value} (h : W.cell? p0 = some v0 ∧ W.cell? p1 = some v1 ∧ W.cell? p2 = some v2 ∧ W.cell? p3 = some v3 ∧ W.cell? p4 = some v4 ∧ W.cell? p5 = some v5 ∧ W.cell? p6 = some v6) (hg : p0.block ≠ g ∧ p1.block ≠ g ∧ p2.block ≠ g ∧ p3.block ≠ g ∧ p4.block ≠ g ∧ p5.block ≠ g ∧ p6.block ≠ g) : (wput W g k u0 u1 u2 u3 u4).cell? p0 = some v0 ∧ (wput W g k u0 u1 u2 u3 u4).cell? p1 = some v1 ∧ (wput W g k u0 u1 u2 u3 u4).cell? p2 = some v2 ∧ (wput W g k u0 u1 u2 u3 u4).cell? p3 = some v3 ∧ (wput W g k u0 u1 u2 u3 u4).cell? p4 = some v4 ∧ (wput W g k u0 u1 u2 u3 u4).cell? p5 = some v5 ∧ (wput W g k u0 u1 u2 u3 u4).cell? p6 = some v6 :=
  ⟨wput_out (Or.inl hg.1) h.1, wput_out (Or.inl hg.2.1) h.2.1, wput_out (Or.inl hg.2.2.1) h.2.2.1, wput_out (Or.inl hg.2.2.2.1) h.2.2.2.1, wput_out (Or.inl hg.2.2.2.2.1) h.2.2.2.2.1, wput_out (Or.inl hg.2.2.2.2.2.1) h.2.2.2.2.2.1, wput_out (Or.inl hg.2.2.2.2.2.2) h.2.2.2.2.2.2⟩
/-- the elements behind the writing -/
theorem Row.put {B : Nat} {w W : World} {g cap k M : Nat} {ns : List Pl.Nd} {x : Pl.Nd} {vc va u old : Value} (h : Row B w (.slice (some ⟨g, 0, none⟩) ns.length cap) ns) (hW : Below w.heap.size w W) (hk : k < ns.length) (hvc : StrsFrom w.heap.size W vc x.cls) (hva : AtsFrom w.heap.size W va x.ats)
    (hM : M ≠ g) (ho : W.cell? ⟨M, 0, none⟩ = some old) (hs : ∀ s, old ≠ .string s) :
    NdsAt ((wput W g k (.int .i64 x.up) (.string ⟨x.tag.toArray⟩) (.string ⟨x.id.toArray⟩) vc va).setCell ⟨M, 0, none⟩ u) (.slice (some ⟨g, 0, none⟩) ns.length cap) (ns.set k x) := by
  have hR := h.on hW
  obtain ⟨xs, hown, hc⟩ := id hR
  have hgw : g < w.heap.size := by
    obtain ⟨ys, h2, _⟩ := h
    exact (World.ownsRow.lt h2 g rfl).2
  have ho2 : (wput W g k (.int .i64 x.up) (.string ⟨x.tag.toArray⟩) (.string ⟨x.id.toArray⟩) vc va).cell? ⟨M, 0, none⟩ = some old := wput_out (Or.inl hM) ho
  have hcells : ∀ i (hi : i < ns.length), ∃ vc va, W.cell? ⟨g, i * 5, none⟩ = some (.int .i64 ns[i].up) ∧ W.cell? ⟨g, i * 5 + 1, none⟩ = some (.string ⟨ns[i].tag.toArray⟩) ∧ W.cell? ⟨g, i * 5 + 2, none⟩ = some (.string ⟨ns[i].id.toArray⟩) ∧ W.cell? ⟨g, i * 5 + 3, none⟩ = some vc ∧ W.cell? ⟨g, i * 5 + 4, none⟩ = some va ∧ StrsNe (some g) W vc ns[i].cls ∧ AtsNe (some g) W va ns[i].ats := by
    intro i hi
    obtain ⟨vc, va, h0, h1, h2, h3, h4, hcc, haa⟩ := CellsOf.get xs ns hc i hi
    have k0 := World.ownsRow.cells hown rfl _ _ h0
    have k1 := World.ownsRow.cells hown rfl _ _ h1
    have k2 := World.ownsRow.cells hown rfl _ _ h2
    have k3 := World.ownsRow.cells hown rfl _ _ h3
    have k4 := World.ownsRow.cells hown rfl _ _ h4
    simp only [Addr.add_lit, Nat.zero_add] at k0 k1 k2 k3 k4
    exact ⟨vc, va, k0, k1, k2, k3, k4, hcc, haa⟩
  have far : ∀ {p : Addr} {v : Value}, p.block = g → (wput W g k (.int .i64 x.up) (.string ⟨x.tag.toArray⟩) (.string ⟨x.id.toArray⟩) vc va).cell? p = some v → ((wput W g k (.int .i64 x.up) (.string ⟨x.tag.toArray⟩) (.string ⟨x.id.toArray⟩) vc va).setCell ⟨M, 0, none⟩ u).cell? p = some v := by
    intro p v hp hc
    rw [World.cell?_setCell_other _ _ _ _ (by intro e; rw [← e] at hp; exact hM hp)]; exact hc
  have str : ∀ {b o : Nat} {s : List UInt8}, b ≠ g → W.cell? ⟨b, o, none⟩ = some (.string ⟨s.toArray⟩) → ((wput W g k (.int .i64 x.up) (.string ⟨x.tag.toArray⟩) (.string ⟨x.id.toArray⟩) vc va).setCell ⟨M, 0, none⟩ u).cell? ⟨b, o, none⟩ = some (.string ⟨s.toArray⟩) := by
    intro b o s hb hc
    exact cell_set_str (wput_out (Or.inl hb) hc) ho2 hs
  have strs : ∀ {v : Value} {ss : List (List UInt8)}, StrsNe (some g) W v ss → StrsAt ((wput W g k (.int .i64 x.up) (.string ⟨x.tag.toArray⟩) (.string ⟨x.id.toArray⟩) vc va).setCell ⟨M, 0, none⟩ u) v ss := by
    rintro v ss ⟨a, c, rfl, h⟩
    refine ⟨a, c, rfl, ?_⟩
    rcases h with h | ⟨b, o, ha, hne, hc⟩
    · exact Or.inl h
    · exact Or.inr ⟨b, o, ha, fun i hi => str (fun e => hne (by rw [e])) (hc i hi)⟩
  have atss : ∀ {v : Value} {ss : List (List UInt8 × List UInt8)}, AtsNe (some g) W v ss → AtsAt ((wput W g k (.int .i64 x.up) (.string ⟨x.tag.toArray⟩) (.string ⟨x.id.toArray⟩) vc va).setCell ⟨M, 0, none⟩ u) v ss := by
    rintro v ss ⟨a, c, rfl, h⟩
    refine ⟨a, c, rfl, ?_⟩
    rcases h with h | ⟨b, o, ha, hne, hc⟩
    · exact Or.inl h
    · exact Or.inr ⟨b, o, ha, fun i hi => ⟨str (fun e => hne (by rw [e])) (hc i hi).1, str (fun e => hne (by rw [e])) (hc i hi).2⟩⟩
  refine ⟨_, cap, by rw [List.length_set], Or.inr ⟨g, 0, rfl, fun i hi => ?_⟩⟩
  rw [List.length_set] at hi
  rw [Nat.zero_add]
  by_cases hik : i = k
  · subst hik
    rw [List.getElem_set_self]
    obtain ⟨vc', va', k0, k1, k2, k3, k4, _, _⟩ := hcells i hk
    obtain ⟨q0, q1, q2, q3, q4⟩ := wput_in (u0 := .int .i64 x.up) (u1 := .string ⟨x.tag.toArray⟩) (u2 := .string ⟨x.id.toArray⟩) (u3 := vc) (u4 := va) k0 k1 k2 k3 k4
    exact ⟨vc, va, far rfl q0, far rfl q1, far rfl q2, far rfl q3, far rfl q4, strs (hvc.ne (fun j hj => by injection hj; omega)), atss (hva.ne (fun j hj => by injection hj; omega))⟩
  · rw [List.getElem_set_ne (Ne.symm hik)]
    obtain ⟨vc', va', k0, k1, k2, k3, k4, hcc, haa⟩ := hcells i hi
    have hoff : ∀ j, j < 5 → i * 5 + j < k * 5 ∨ k * 5 + 5 ≤ i * 5 + j := by intro j hj; omega
    exact ⟨vc', va', far rfl (wput_out (Or.inr (hoff 0 (by omega))) k0), far rfl (wput_out (Or.inr (hoff 1 (by omega))) k1), far rfl (wput_out (Or.inr (hoff 2 (by omega))) k2), far rfl (wput_out (Or.inr (hoff 3 (by omega))) k3), far rfl (wput_out (Or.inr (hoff 4 (by omega))) k4), strs hcc, atss haa⟩
end Go.Proofs.Ythlpcmgeelkncaa
