/-
  The small document.
-/
import Derived.Test.YtbpgcfabepioiaaGreatSamd
namespace Go.Proofs.YtbpgcfabepioiaaGreat
open Go.RowKit

def smallNs : List Pl.Nd :=
  [⟨-1, [108, 105, 115, 116], [116, 111, 112], [], []⟩, ⟨0, [105, 116, 101, 109], [], [[97]], []⟩, ⟨0, [105, 116, 101, 109], [], [[98]], []⟩, ⟨2, [108, 105, 110, 107], [], [], [([116, 111], [111, 110, 101, 32, 116, 119, 111])]⟩, ⟨0, [105, 116, 101, 109], [], [[97]], []⟩]

theorem strs_nil (w : World) : StrsAt w (.slice none 0 0) [] := ⟨none, 0, rfl, Or.inl rfl⟩
theorem ats_nil (w : World) : AtsAt w (.slice none 0 0) [] := ⟨none, 0, rfl, Or.inl rfl⟩
theorem strs_one {w : World} {b c : Nat} {s : List UInt8} (h : w.cell? ⟨b, 0, none⟩ = some (.string ⟨s.toArray⟩)) : StrsAt w (.slice (some ⟨b, 0, none⟩) 1 c) [s] := by
  refine ⟨_, c, rfl, Or.inr ⟨b, 0, rfl, fun i hi => ?_⟩⟩
  match i, hi with
  | 0, _ => exact h
theorem ats_one {w : World} {b c : Nat} {s t : List UInt8} (h : w.cell? ⟨b, 0, none⟩ = some (.string ⟨s.toArray⟩)) (h2 : w.cell? ⟨b, 1, none⟩ = some (.string ⟨t.toArray⟩)) : AtsAt w (.slice (some ⟨b, 0, none⟩) 1 c) [(s, t)] := by
  refine ⟨_, c, rfl, Or.inr ⟨b, 0, rfl, fun i hi => ?_⟩⟩
  match i, hi with
  | 0, _ => exact ⟨h, h2⟩

set_option maxRecDepth 100000 in
set_option maxHeartbeats 4000000 in
theorem small_any (w : World) : Calls Tryz.prog 60 #[] w fun e w' => ∃ v, e = .returned (.agg #[v]) ∧ DocAt w' v smallNs ∧ Below w.heap.size w w' := by
  go_enter Tryz.func60, Tryz.ntmps60
  go_wp2
  refine bodyPost_ret (v := .agg #[.slice (some ⟨w.heap.size + 1 + 1 + 1 + 1 + 1, 0, none⟩) 5 5]) (by simp [results, Tryz.results60, go_sem]) rfl
    ⟨_, rfl, ⟨⟨_, 5, rfl, Or.inr ⟨_, 0, rfl, fun i hi => ?_⟩⟩, ⟨_, _, _, rfl, Nat.le_refl _, by decide⟩, by decide, fun i hi => ?_⟩, ?_⟩
  · match i, hi with
    | 0, _ => exact ⟨_, _, by simp [go_sem, smallNs], by simp [go_sem, smallNs], by simp [go_sem, smallNs], by simp [go_sem], by simp [go_sem], strs_nil _, ats_nil _⟩
    | 1, _ => exact ⟨.slice (some ⟨w.heap.size + 1, 0, none⟩) 1 1, .slice none 0 0, by simp [go_sem, smallNs], by simp [go_sem, smallNs], by simp [go_sem, smallNs], by simp [go_sem], by simp [go_sem], strs_one (by simp [go_sem]), ats_nil _⟩
    | 2, _ => exact ⟨.slice (some ⟨w.heap.size + 1 + 1, 0, none⟩) 1 1, .slice none 0 0, by simp [go_sem, smallNs], by simp [go_sem, smallNs], by simp [go_sem, smallNs], by simp [go_sem], by simp [go_sem], strs_one (by simp [go_sem]), ats_nil _⟩
    | 3, _ => exact ⟨.slice none 0 0, .slice (some ⟨w.heap.size + 1 + 1 + 1, 0, none⟩) 1 1, by simp [go_sem, smallNs], by simp [go_sem, smallNs], by simp [go_sem, smallNs], by simp [go_sem], by simp [go_sem], strs_nil _, ats_one (by simp [go_sem]) (by simp [go_sem])⟩
    | 4, _ => exact ⟨.slice (some ⟨w.heap.size + 1 + 1 + 1 + 1, 0, none⟩) 1 1, .slice none 0 0, by simp [go_sem, smallNs], by simp [go_sem, smallNs], by simp [go_sem, smallNs], by simp [go_sem], by simp [go_sem], strs_one (by simp [go_sem]), ats_nil _⟩
  · have h : ∀ x ∈ smallNs, x.cls.length ≤ 6 ∧ x.ats.length ≤ 4 := by decide
    have := h _ (List.getElem_mem hi)
    exact ⟨by unfold maxLen; omega, by unfold maxLen; omega⟩
  · exact below_trans (two_cells w _ _ _) (two_cells _ _ _ _)
end Go.Proofs.YtbpgcfabepioiaaGreat
/-
  Put: an element in another's place.
-/
namespace Go.Proofs.YtbpgcfabepioiaaGreat
open Go.RowKit

theorem seven_on {W w' : World} {p0 p1 p2 p3 p4 p5 p6 : Addr} {v0 v1 v2 v3 v4 v5 v6 : Value} (h : W.cell? p0 = some v0 ∧ W.cell? p1 = some v1 ∧ W.cell? p2 = some v2 ∧ W.cell? p3 = some v3 ∧ W.cell? p4 = some v4 ∧ W.cell? p5 = some v5 ∧ W.cell? p6 = some v6) (hb : Below W.heap.size W w') : w'.cell? p0 = some v0 ∧ w'.cell? p1 = some v1 ∧ w'.cell? p2 = some v2 ∧ w'.cell? p3 = some v3 ∧ w'.cell? p4 = some v4 ∧ w'.cell? p5 = some v5 ∧ w'.cell? p6 = some v6 :=
  ⟨cell_on hb h.1, cell_on hb h.2.1, cell_on hb h.2.2.1, cell_on hb h.2.2.2.1, cell_on hb h.2.2.2.2.1, cell_on hb h.2.2.2.2.2.1, cell_on hb h.2.2.2.2.2.2⟩
/-- the world with an element written into a row -/
def wput (W : World) (g k : Nat) (u0 u1 u2 u3 u4 : Value) : World := ((((W.setCell ⟨g, k * 5, none⟩ u0).setCell ⟨g, k * 5 + 1, none⟩ u1).setCell ⟨g, k * 5 + 2, none⟩ u2).setCell ⟨g, k * 5 + 3, none⟩ u3).setCell ⟨g, k * 5 + 4, none⟩ u4
theorem wput_out {W : World} {g k : Nat} {u0 u1 u2 u3 u4 : Value} {p : Addr} {v : Value} (hne : p.block ≠ g ∨ p.off < k * 5 ∨ k * 5 + 5 ≤ p.off) (h : W.cell? p = some v) : (wput W g k u0 u1 u2 u3 u4).cell? p = some v := by
  have hn : ∀ i, i < 5 → (⟨g, k * 5 + i, none⟩ : Addr) ≠ p := by
    intro i hi e
    subst e
    simp at hne
    omega
  unfold wput
  rw [World.cell?_setCell_other _ _ _ _ (hn 4 (by omega)), World.cell?_setCell_other _ _ _ _ (hn 3 (by omega)), World.cell?_setCell_other _ _ _ _ (hn 2 (by omega)), World.cell?_setCell_other _ _ _ _ (hn 1 (by omega)), World.cell?_setCell_other _ _ _ _ (show (⟨g, k * 5, none⟩ : Addr) ≠ p from hn 0 (by omega))]
  exact h
theorem wput_in {W : World} {g k : Nat} {u0 u1 u2 u3 u4 c0 c1 c2 c3 c4 : Value} (h0 : W.cell? ⟨g, k * 5, none⟩ = some c0) (h1 : W.cell? ⟨g, k * 5 + 1, none⟩ = some c1) (h2 : W.cell? ⟨g, k * 5 + 2, none⟩ = some c2) (h3 : W.cell? ⟨g, k * 5 + 3, none⟩ = some c3) (h4 : W.cell? ⟨g, k * 5 + 4, none⟩ = some c4) :
    (wput W g k u0 u1 u2 u3 u4).cell? ⟨g, k * 5, none⟩ = some u0 ∧ (wput W g k u0 u1 u2 u3 u4).cell? ⟨g, k * 5 + 1, none⟩ = some u1 ∧ (wput W g k u0 u1 u2 u3 u4).cell? ⟨g, k * 5 + 2, none⟩ = some u2 ∧ (wput W g k u0 u1 u2 u3 u4).cell? ⟨g, k * 5 + 3, none⟩ = some u3 ∧ (wput W g k u0 u1 u2 u3 u4).cell? ⟨g, k * 5 + 4, none⟩ = some u4 := by
  have hn : ∀ i j, i < 5 → j < 5 → i ≠ j → (⟨g, k * 5 + i, none⟩ : Addr) ≠ ⟨g, k * 5 + j, none⟩ := by
    intro i j _ _ h e
    injection e with e1 e2
    omega
  have hn0 : ∀ j, 0 < j → j < 5 → (⟨g, k * 5 + j, none⟩ : Addr) ≠ ⟨g, k * 5, none⟩ := by
    intro j _ _ e
    injection e with e1 e2
    omega
  have hn1 : ∀ j, 0 < j → j < 5 → (⟨g, k * 5, none⟩ : Addr) ≠ ⟨g, k * 5 + j, none⟩ := by
    intro j _ _ e
    injection e with e1 e2
    omega
  unfold wput
  refine ⟨?_, ?_, ?_, ?_, ?_⟩
  · rw [World.cell?_setCell_other _ _ _ _ (hn0 4 (by omega) (by omega)), World.cell?_setCell_other _ _ _ _ (hn0 3 (by omega) (by omega)), World.cell?_setCell_other _ _ _ _ (hn0 2 (by omega) (by omega)), World.cell?_setCell_other _ _ _ _ (hn0 1 (by omega) (by omega))]
    exact World.cell?_setCell_same _ _ _ h0
  · rw [World.cell?_setCell_other _ _ _ _ (hn 4 1 (by omega) (by omega) (by omega)), World.cell?_setCell_other _ _ _ _ (hn 3 1 (by omega) (by omega) (by omega)), World.cell?_setCell_other _ _ _ _ (hn 2 1 (by omega) (by omega) (by omega))]
    refine World.cell?_setCell_same _ _ _ (u := c1) ?_
    rw [World.cell?_setCell_other _ _ _ _ (hn1 1 (by omega) (by omega))]; exact h1
  · rw [World.cell?_setCell_other _ _ _ _ (hn 4 2 (by omega) (by omega) (by omega)), World.cell?_setCell_other _ _ _ _ (hn 3 2 (by omega) (by omega) (by omega))]
    refine World.cell?_setCell_same _ _ _ (u := c2) ?_
    rw [World.cell?_setCell_other _ _ _ _ (hn 1 2 (by omega) (by omega) (by omega)), World.cell?_setCell_other _ _ _ _ (hn1 2 (by omega) (by omega))]; exact h2
  · rw [World.cell?_setCell_other _ _ _ _ (hn 4 3 (by omega) (by omega) (by omega))]
    refine World.cell?_setCell_same _ _ _ (u := c3) ?_
    rw [World.cell?_setCell_other _ _ _ _ (hn 2 3 (by omega) (by omega) (by omega)), World.cell?_setCell_other _ _ _ _ (hn 1 3 (by omega) (by omega) (by omega)), World.cell?_setCell_other _ _ _ _ (hn1 3 (by omega) (by omega))]; exact h3
  · refine World.cell?_setCell_same _ _ _ (u := c4) ?_
    rw [World.cell?_setCell_other _ _ _ _ (hn 3 4 (by omega) (by omega) (by omega)), World.cell?_setCell_other _ _ _ _ (hn 2 4 (by omega) (by omega) (by omega)), World.cell?_setCell_other _ _ _ _ (hn 1 4 (by omega) (by omega) (by omega)), World.cell?_setCell_other _ _ _ _ (hn1 4 (by omega) (by omega))]; exact h4
theorem seven_put {W : World} {g k : Nat} {u0 u1 u2 u3 u4 : Value} {p0 p1 p2 p3 p4 p5 p6 : Addr} {v0 v1 v2 v3 v4 v5 v6 : Value} (h : W.cell? p0 = some v0 ∧ W.cell? p1 = some v1 ∧ W.cell? p2 = some v2 ∧ W.cell? p3 = some v3 ∧ W.cell? p4 = some v4 ∧ W.cell? p5 = some v5 ∧ W.cell? p6 = some v6) (hg : p0.block ≠ g ∧ p1.block ≠ g ∧ p2.block ≠ g ∧ p3.block ≠ g ∧ p4.block ≠ g ∧ p5.block ≠ g ∧ p6.block ≠ g) : (wput W g k u0 u1 u2 u3 u4).cell? p0 = some v0 ∧ (wput W g k u0 u1 u2 u3 u4).cell? p1 = some v1 ∧ (wput W g k u0 u1 u2 u3 u4).cell? p2 = some v2 ∧ (wput W g k u0 u1 u2 u3 u4).cell? p3 = some v3 ∧ (wput W g k u0 u1 u2 u3 u4).cell? p4 = some v4 ∧ (wput W g k u0 u1 u2 u3 u4).cell? p5 = some v5 ∧ (wput W g k u0 u1 u2 u3 u4).cell? p6 = some v6 :=
  ⟨wput_out (Or.inl hg.1) h.1, wput_out (Or.inl hg.2.1) h.2.1, wput_out (Or.inl hg.2.2.1) h.2.2.1, wput_out (Or.inl hg.2.2.2.1) h.2.2.2.1, wput_out (Or.inl hg.2.2.2.2.1) h.2.2.2.2.1, wput_out (Or.inl hg.2.2.2.2.2.1) h.2.2.2.2.2.1, wput_out (Or.inl hg.2.2.2.2.2.2) h.2.2.2.2.2.2⟩
/-- the elements behind the writing -/
theorem Row.put {B : Nat} {w W : World} {g cap k M : Nat} {ns : List Pl.Nd} {x : Pl.Nd} {vc va u old : Value} (h : Row B w (.slice (some ⟨g, 0, none⟩) ns.length cap) ns) (hW : Below w.heap.size w W) (hk : k < ns.length) (hvc : StrsFrom w.heap.size W vc x.cls) (hva : AtsFrom w.heap.size W va x.ats)
    (hM : M ≠ g) (ho : W.cell? ⟨M, 0, none⟩ = some old) (hs : ∀ s, old ≠ .string s) :
    NdsAt ((wput W g k (.int .i64 x.up) (.string ⟨x.tag.toArray⟩) (.string ⟨x.id.toArray⟩) vc va).setCell ⟨M, 0, none⟩ u) (.slice (some ⟨g, 0, none⟩) ns.length cap) (ns.set k x) := by
  have hR := h.on hW
  obtain ⟨xs, hown, hc⟩ := id hR
  have hgw : g < w.heap.size := by
    obtain ⟨ys, h2, _⟩ := h
    exact (World.ownsRow.lt h2 g rfl).2
  have ho2 : (wput W g k (.int .i64 x.up) (.string ⟨x.tag.toArray⟩) (.string ⟨x.id.toArray⟩) vc va).cell? ⟨M, 0, none⟩ = some old := wput_out (Or.inl hM) ho
  have hcells : ∀ i (hi : i < ns.length), ∃ vc va, W.cell? ⟨g, i * 5, none⟩ = some (.int .i64 ns[i].up) ∧ W.cell? ⟨g, i * 5 + 1, none⟩ = some (.string ⟨ns[i].tag.toArray⟩) ∧ W.cell? ⟨g, i * 5 + 2, none⟩ = some (.string ⟨ns[i].id.toArray⟩) ∧ W.cell? ⟨g, i * 5 + 3, none⟩ = some vc ∧ W.cell? ⟨g, i * 5 + 4, none⟩ = some va ∧ StrsNe (some g) W vc ns[i].cls ∧ AtsNe (some g) W va ns[i].ats := by
    intro i hi
    obtain ⟨vc, va, h0, h1, h2, h3, h4, hcc, haa⟩ := CellsOf.get xs ns hc i hi
    have k0 := World.ownsRow.cells hown rfl _ _ h0
    have k1 := World.ownsRow.cells hown rfl _ _ h1
    have k2 := World.ownsRow.cells hown rfl _ _ h2
    have k3 := World.ownsRow.cells hown rfl _ _ h3
    have k4 := World.ownsRow.cells hown rfl _ _ h4
    simp only [Addr.add_lit, Nat.zero_add] at k0 k1 k2 k3 k4
    exact ⟨vc, va, k0, k1, k2, k3, k4, hcc, haa⟩
  have far : ∀ {p : Addr} {v : Value}, p.block = g → (wput W g k (.int .i64 x.up) (.string ⟨x.tag.toArray⟩) (.string ⟨x.id.toArray⟩) vc va).cell? p = some v → ((wput W g k (.int .i64 x.up) (.string ⟨x.tag.toArray⟩) (.string ⟨x.id.toArray⟩) vc va).setCell ⟨M, 0, none⟩ u).cell? p = some v := by
    intro p v hp hc
    rw [World.cell?_setCell_other _ _ _ _ (by intro e; rw [← e] at hp; exact hM hp)]; exact hc
  have str : ∀ {b o : Nat} {s : List UInt8}, b ≠ g → W.cell? ⟨b, o, none⟩ = some (.string ⟨s.toArray⟩) → ((wput W g k (.int .i64 x.up) (.string ⟨x.tag.toArray⟩) (.string ⟨x.id.toArray⟩) vc va).setCell ⟨M, 0, none⟩ u).cell? ⟨b, o, none⟩ = some (.string ⟨s.toArray⟩) := by
    intro b o s hb hc
    exact cell_set_str (wput_out (Or.inl hb) hc) ho2 hs
  have strs : ∀ {v : Value} {ss : List (List UInt8)}, StrsNe (some g) W v ss → StrsAt ((wput W g k (.int .i64 x.up) (.string ⟨x.tag.toArray⟩) (.string ⟨x.id.toArray⟩) vc va).setCell ⟨M, 0, none⟩ u) v ss := by
    rintro v ss ⟨a, c, rfl, h⟩
    refine ⟨a, c, rfl, ?_⟩
    rcases h with h | ⟨b, o, ha, hne, hc⟩
    · exact Or.inl h
    · exact Or.inr ⟨b, o, ha, fun i hi => str (fun e => hne (by rw [e])) (hc i hi)⟩
  have atss : ∀ {v : Value} {ss : List (List UInt8 × List UInt8)}, AtsNe (some g) W v ss → AtsAt ((wput W g k (.int .i64 x.up) (.string ⟨x.tag.toArray⟩) (.string ⟨x.id.toArray⟩) vc va).setCell ⟨M, 0, none⟩ u) v ss := by
    rintro v ss ⟨a, c, rfl, h⟩
    refine ⟨a, c, rfl, ?_⟩
    rcases h with h | ⟨b, o, ha, hne, hc⟩
    · exact Or.inl h
    · exact Or.inr ⟨b, o, ha, fun i hi => ⟨str (fun e => hne (by rw [e])) (hc i hi).1, str (fun e => hne (by rw [e])) (hc i hi).2⟩⟩
  refine ⟨_, cap, by rw [List.length_set], Or.inr ⟨g, 0, rfl, fun i hi => ?_⟩⟩
  rw [List.length_set] at hi
  rw [Nat.zero_add]
  by_cases hik : i = k
  · subst hik
    rw [List.getElem_set_self]
    obtain ⟨vc', va', k0, k1, k2, k3, k4, _, _⟩ := hcells i hk
    obtain ⟨q0, q1, q2, q3, q4⟩ := wput_in (u0 := .int .i64 x.up) (u1 := .string ⟨x.tag.toArray⟩) (u2 := .string ⟨x.id.toArray⟩) (u3 := vc) (u4 := va) k0 k1 k2 k3 k4
    exact ⟨vc, va, far rfl q0, far rfl q1, far rfl q2, far rfl q3, far rfl q4, strs (hvc.ne (fun j hj => by injection hj; omega)), atss (hva.ne (fun j hj => by injection hj; omega))⟩
  · rw [List.getElem_set_ne (Ne.symm hik)]
    obtain ⟨vc', va', k0, k1, k2, k3, k4, hcc, haa⟩ := hcells i hi
    have hoff : ∀ j, j < 5 → i * 5 + j < k * 5 ∨ k * 5 + 5 ≤ i * 5 + j := by intro j hj; omega
    exact ⟨vc', va', far rfl (wput_out (Or.inr (hoff 0 (by omega))) k0), far rfl (wput_out (Or.inr (hoff 1 (by omega))) k1), far rfl (wput_out (Or.inr (hoff 2 (by omega))) k2), far rfl (wput_out (Or.inr (hoff 3 (by omega))) k3), far rfl (wput_out (Or.inr (hoff 4 (by omega))) k4), strs hcc, atss haa⟩
end Go.Proofs.YtbpgcfabepioiaaGreat
/-
  Put: the call.
-/
namespace Go.Proofs.YtbpgcfabepioiaaGreat
open Go.RowKit

def putErr (ns : List Pl.Nd) (n : Int) (x : Pl.Nd) : Int := if checkAtOf ns n = 0 then (if Pl.right x = true then 0 else 1) else checkAtOf ns n
def putOf (ns : List Pl.Nd) (n : Int) (x : Pl.Nd) : List Pl.Nd := if putErr ns n x = 0 then (ns.map (Pl.mvd id)).set n.toNat { x with up := Pl.upOf ns n.toNat } else []

/-- a row's cells are there -/
theorem put_cells {B : Nat} {w W : World} {g n cap k : Nat} {ns : List Pl.Nd} (h : Row B w (.slice (some ⟨g, 0, none⟩) n cap) ns) (hW : Below w.heap.size w W) (hk : k < ns.length) :
    (∃ c, W.cell? ⟨g, k * 5, none⟩ = some c) ∧ (∃ c, W.cell? ⟨g, k * 5 + 1, none⟩ = some c) ∧ (∃ c, W.cell? ⟨g, k * 5 + 2, none⟩ = some c) ∧ (∃ c, W.cell? ⟨g, k * 5 + 3, none⟩ = some c) ∧ ∃ c, W.cell? ⟨g, k * 5 + 4, none⟩ = some c := by
  obtain ⟨xs, hown, hc⟩ := h.on hW
  obtain ⟨vc, va, h0, h1, h2, h3, h4, _, _⟩ := CellsOf.get xs ns hc k hk
  have k0 := World.ownsRow.cells hown rfl _ _ h0
  have k1 := World.ownsRow.cells hown rfl _ _ h1
  have k2 := World.ownsRow.cells hown rfl _ _ h2
  have k3 := World.ownsRow.cells hown rfl _ _ h3
  have k4 := World.ownsRow.cells hown rfl _ _ h4
  simp only [Addr.add_lit, Nat.zero_add] at k0 k1 k2 k3 k4
  exact ⟨⟨_, k0⟩, ⟨_, k1⟩, ⟨_, k2⟩, ⟨_, k3⟩, ⟨_, k4⟩⟩

set_option maxRecDepth 100000 in
set_option maxHeartbeats 8000000 in
theorem put_any (v xv : Value) (ns : List Pl.Nd) (n : Int) (x : Pl.Nd) (w : World) (hd : DocAt w v ns) (hx : NdV w xv x) (hfx : Fits x) :
    Calls Tryz.prog 24 #[.agg #[v], .int .i64 n, xv] w fun e w' => ∃ v', e = .returned (.tuple #[.agg #[v'], .int .i64 (putErr ns n x)]) ∧ DocAt w' v' (putOf ns n x) ∧ Below w.heap.size w w' := by
  obtain ⟨hv, hcap, hf⟩ := hd
  obtain ⟨a, cap, rfl, hc⟩ := id hv
  have HV : Hid _ := hv
  obtain ⟨_, _, _, e0, hc1, hc2⟩ := hcap
  injection e0 with e1 e2 e3
  subst e1 e2 e3
  obtain ⟨vc, va, rfl, xc, xa⟩ := id hx
  obtain ⟨ac, cc, rfl, _⟩ := id xc
  obtain ⟨aa, ca, rfl, _⟩ := id xa
  have HX : Hid _ := hx
  clear hv hx xc xa
  have HC : Hid _ := hc
  clear hc
  obtain ⟨up, tag, idn, cls, ats⟩ := x
  dsimp only at *
  have hB0 := two_cells w (.cells #[.slice a ns.length cap] 24) (.cells #[.int .i64 up, .string ⟨tag.toArray⟩, .string ⟨idn.toArray⟩, .slice ac cls.length cc, .slice aa ats.length ca] 31) (.cells #[.slice none 0 0] 24)
  go_enter Tryz.func24, Tryz.ntmps24
  go_wp2_with fail
  refine (checkAt_any _ ns _ _ hf (NdsAt.on HV.out hB0)).mono ?_
  rintro e w1 ⟨rfl, h1⟩
  have hB : Below w.heap.size w w1 := below_trans hB0 h1
  have c0 := cell_on (p := ⟨w.heap.size, 0, none⟩) (v := .slice a ns.length cap) h1 (by simp [go_sem])
  have x0 := cell_on (p := ⟨w.heap.size + 1, 0, none⟩) (v := .int .i64 up) h1 (by simp [go_sem])
  have x1 := cell_on (p := ⟨w.heap.size + 1, 1, none⟩) (v := .string ⟨tag.toArray⟩) h1 (by simp [go_sem])
  have x2 := cell_on (p := ⟨w.heap.size + 1, 2, none⟩) (v := .string ⟨idn.toArray⟩) h1 (by simp [go_sem])
  have x3 := cell_on (p := ⟨w.heap.size + 1, 3, none⟩) (v := .slice ac cls.length cc) h1 (by simp [go_sem])
  have x4 := cell_on (p := ⟨w.heap.size + 1, 4, none⟩) (v := .slice aa ats.length ca) h1 (by simp [go_sem])
  have c2 := cell_on (p := ⟨w.heap.size + 1 + 1, 0, none⟩) (v := .slice none 0 0) h1 (by simp [go_sem])
  have f2 : w1.frozen? ⟨w.heap.size + 1 + 1, 0, none⟩ = false := by rw [h1.frozen (by simp)]; simp [go_sem]
  have hsz : w.heap.size + 3 ≤ w1.heap.size := by have := h1.size; simp at this; omega
  clear h1 hB0
  cases hz : (checkAtOf ns n != 0) with
  | true =>
    have hz1 : ¬ checkAtOf ns n = 0 := by simpa using hz
    have HE : Hid (putErr ns n ⟨up, tag, idn, cls, ats⟩ = checkAtOf ns n) := by unfold Hid putErr; rw [if_neg hz1]
    have HP : Hid (putOf ns n ⟨up, tag, idn, cls, ats⟩ = []) := by unfold Hid putOf; rw [if_neg (by rw [HE.out]; exact hz1)]
    clear hz1
    generalize hE : checkAtOf ns n = E at *
    go_wp2
    have q := World.cell?_setCell_same w1 ⟨w.heap.size + 1 + 1, 0, none⟩ (.slice none 0 0) c2
    exact bodyPost_ret (v := .tuple #[.agg #[.slice none 0 0], .int .i64 E]) (by simp [results, Tryz.results24, go_sem, q]) rfl
      ⟨_, by rw [HE.out], by rw [HP.out]; exact DocAt.nil _, hB.setCell (p := ⟨w.heap.size + 1 + 1, 0, none⟩) (by simp; omega) _⟩
  | false =>
  have hz0 : checkAtOf ns n = 0 := by simpa using hz
  clear hz
  rw [hz0]
  go_wp2_with fail
  refine (isRight_any _ ⟨up, tag, idn, cls, ats⟩ _ hfx (NdV.on HX.out hB)).mono ?_
  rintro e w2 ⟨rfl, h1⟩
  replace c0 := cell_on h1 c0
  replace x0 := cell_on h1 x0
  replace x1 := cell_on h1 x1
  replace x2 := cell_on h1 x2
  replace x3 := cell_on h1 x3
  replace x4 := cell_on h1 x4
  replace c2 := cell_on h1 c2
  replace f2 : w2.frozen? ⟨w.heap.size + 1 + 1, 0, none⟩ = false := by rw [h1.frozen (by simp; omega)]; exact f2
  replace hB := below_trans hB h1
  replace hsz : w.heap.size + 3 ≤ w2.heap.size := Nat.le_trans hsz h1.size
  clear h1
  cases hr : Pl.right ⟨up, tag, idn, cls, ats⟩ with
  | false =>
    have HE : Hid (putErr ns n ⟨up, tag, idn, cls, ats⟩ = 1) := by unfold Hid putErr; rw [if_pos hz0, if_neg (by rw [hr]; simp)]
    have HP : Hid (putOf ns n ⟨up, tag, idn, cls, ats⟩ = []) := by unfold Hid putOf; rw [if_neg (by rw [HE.out]; omega)]
    go_wp2
    have q := World.cell?_setCell_same w2 ⟨w.heap.size + 1 + 1, 0, none⟩ (.slice none 0 0) c2
    exact bodyPost_ret (v := .tuple #[.agg #[.slice none 0 0], .int .i64 1]) (by simp [results, Tryz.results24, go_sem, q]) rfl
      ⟨_, by rw [HE.out], by rw [HP.out]; exact DocAt.nil _, hB.setCell (p := ⟨w.heap.size + 1 + 1, 0, none⟩) (by simp; omega) _⟩
  | true =>
  have HE : Hid (putErr ns n ⟨up, tag, idn, cls, ats⟩ = 0) := by unfold Hid putErr; rw [if_pos hz0, if_pos hr]
  have HP : Hid (putOf ns n ⟨up, tag, idn, cls, ats⟩ = (ns.map (Pl.mvd id)).set n.toNat ⟨Pl.upOf ns n.toNat, tag, idn, cls, ats⟩) := by unfold Hid putOf; rw [if_pos HE.out]
  obtain ⟨L1, L2⟩ := right_short hr
  dsimp only at L1 L2
  obtain ⟨hk0, k, rfl, hk⟩ := checkAt_zero hz0
  obtain ⟨hl1, hl64, _⟩ := check_zero hk0
  have HS : Hid _ := check_short hk0
  rcases HC.out with hc | ⟨b, o, rfl, hc⟩
  · subst hc; simp at hl1
  clear HC
  have HC : Hid _ := hc
  clear hc hk0 hr
  have HC2 : Hid (∀ W, Below w2.heap.size w2 W → ∀ i (h : i < ns.length), NdAt W b (o + i * 5) ns[i]) := fun W hW i hi => ((HC.out i hi).on hB).on hW
  go_wp2_with fail
  refine (add_any 51 #[] id w2.heap.size _ _ [] ns w2 (Nat.le_refl _) (Row.nil _ _) (by simp; omega) enter52 HS.out ⟨_, _, rfl, Or.inr ⟨_, _, rfl, HC2.out _ (Below.refl _ _)⟩⟩ (fun W hW => ⟨_, _, rfl, Or.inr ⟨_, _, rfl, HC2.out _ hW⟩⟩) (fun W u _ => stay_any u W)).mono ?_
  rintro e w3 ⟨v3, rfl, hrow, hb3⟩
  rw [List.nil_append] at hrow
  obtain ⟨g, cap3, rfl, hgB⟩ : ∃ g cap3, v3 = .slice (some ⟨g, 0, none⟩) ns.length cap3 ∧ w2.heap.size ≤ g := by
    obtain ⟨xs, ho, _⟩ := hrow
    obtain ⟨g, c, rfl, h1, _⟩ := ho.form (by simp; omega)
    exact ⟨g, c, by simp, h1⟩
  have fg : ∀ i, w3.frozen? ⟨g, i, none⟩ = false := by
    obtain ⟨xs, ho, _⟩ := hrow
    intro i
    rcases ho.2 with ⟨h0, _⟩ | ⟨g', c', cur, h0, _, hh, _⟩
    · cases h0
    · injection h0 with h0 _ _
      injection h0 with h0
      injection h0 with h0
      subst h0
      simp [World.frozen?, hh]
  have hglt : g < w3.heap.size := by
    obtain ⟨xs, ho, _⟩ := hrow
    exact (World.ownsRow.lt ho g rfl).2
  have hupc : w3.drew.cell? ⟨b, o + k * 5, none⟩ = some (.int .i64 (Pl.upOf ns k)) := up_cell (HC2.out _ hb3.drew) k hk
  replace c0 : w3.drew.cell? ⟨w.heap.size, 0, none⟩ = some (.slice (some ⟨b, o, none⟩) ns.length cap) := cell_on hb3.drew c0
  replace x0 : w3.drew.cell? ⟨w.heap.size + 1, 0, none⟩ = some (.int .i64 up) := cell_on hb3.drew x0
  replace x1 : w3.drew.cell? ⟨w.heap.size + 1, 1, none⟩ = some (.string ⟨tag.toArray⟩) := cell_on hb3.drew x1
  replace x2 : w3.drew.cell? ⟨w.heap.size + 1, 2, none⟩ = some (.string ⟨idn.toArray⟩) := cell_on hb3.drew x2
  replace x3 : w3.drew.cell? ⟨w.heap.size + 1, 3, none⟩ = some (.slice ac cls.length cc) := cell_on hb3.drew x3
  replace x4 : w3.drew.cell? ⟨w.heap.size + 1, 4, none⟩ = some (.slice aa ats.length ca) := cell_on hb3.drew x4
  replace c2 := cell_on hb3 c2
  replace f2 : w3.frozen? ⟨w.heap.size + 1 + 1, 0, none⟩ = false := by rw [hb3.frozen (by simp; omega)]; exact f2
  have hbg : b ≠ g := by have := cell_lt (up_cell (HC2.out _ (Below.refl _ _)) k hk); simp at this; omega
  have S0 := And.intro c0 (And.intro x0 (And.intro x1 (And.intro x2 (And.intro x3 (And.intro x4 hupc)))))
  have hne : w.heap.size ≠ g ∧ w.heap.size + 1 ≠ g ∧ w.heap.size + 1 ≠ g ∧ w.heap.size + 1 ≠ g ∧ w.heap.size + 1 ≠ g ∧ w.heap.size + 1 ≠ g ∧ b ≠ g := ⟨by omega, by omega, by omega, by omega, by omega, by omega, hbg⟩
  have HR : Hid (Row w2.heap.size w3.drew (.slice (some ⟨g, 0, none⟩) ns.length cap3) (ns.map (Pl.mvd id))) := hrow.on (Below.refl _ _).drew
  have HB3 : Hid (Below w.heap.size w w3.drew) := below_trans hB hb3.drew
  have NV : Hid (NdV w3.drew (.agg #[.int .i64 up, .string ⟨tag.toArray⟩, .string ⟨idn.toArray⟩, .slice ac cls.length cc, .slice aa ats.length ca]) ⟨up, tag, idn, cls, ats⟩) := NdV.on HX.out HB3.out
  have i1 : (0 : Int) ≤ (k : Int) := by omega
  have i2 : (k : Int) < (ns.length : Int) := by omega
  have FG : Hid (∀ i, w3.drew.frozen? ⟨g, i, none⟩ = false) := fg
  clear hrow hb3 hB fg x0 x1 x2 x3 x4 c0 hupc
  go_wp2
  go_region_held3 (fun w' => w'.cell? ⟨w.heap.size, 0, none⟩ = some (.slice (some ⟨b, o, none⟩) ns.length cap) ∧ w'.cell? ⟨w.heap.size + 1, 0, none⟩ = some (.int .i64 up) ∧ w'.cell? ⟨w.heap.size + 1, 1, none⟩ = some (.string ⟨tag.toArray⟩) ∧ w'.cell? ⟨w.heap.size + 1, 2, none⟩ = some (.string ⟨idn.toArray⟩) ∧ w'.cell? ⟨w.heap.size + 1, 3, none⟩ = some (.slice ac cls.length cc) ∧ w'.cell? ⟨w.heap.size + 1, 4, none⟩ = some (.slice aa ats.length ca) ∧ w'.cell? ⟨b, o + k * 5, none⟩ = some (.int .i64 (Pl.upOf ns k)))
    (first | with_reducible assumption | exact seven_on (by with_reducible assumption) (by with_reducible assumption) | (refine seven_put (W := w4) (g := g) (k := k) ?_ hne; with_reducible assumption))
    (first | (go_at_call 54; refine (fresh_any _ ⟨up, tag, idn, cls, ats⟩ _ _ L1 L2 NV.out).mono ?_; rintro e w4 ⟨nv, rfl, ⟨vc, va, rfl, hs, ha⟩, hb⟩; obtain ⟨a1, c1, rfl, _⟩ := id hs; obtain ⟨a2, c3, rfl, _⟩ := id ha; have fg4 : ∀ i, w4.frozen? ⟨g, i, none⟩ = false := fun i => (by rw [hb.frozen hglt]; exact FG.out i); obtain ⟨⟨k0, r0⟩, ⟨k1, r1⟩, ⟨k2, r2⟩, ⟨k3, r3⟩, ⟨k4, r4⟩⟩ := put_cells HR.out hb (by rw [List.length_map]; exact hk)))
  have e4 : w4.cell? ⟨w.heap.size + 1 + 1, 0, none⟩ = some (.slice none 0 0) := cell_on hb c2
  have f4 : w4.frozen? ⟨w.heap.size + 1 + 1, 0, none⟩ = false := by rw [hb.frozen (cell_lt c2)]; exact f2
  have HN : Hid (NdsAt ((wput w4 g k (.int .i64 (Pl.upOf ns k)) (.string ⟨tag.toArray⟩) (.string ⟨idn.toArray⟩) (.slice a1 cls.length c1) (.slice a2 ats.length c3)).setCell ⟨w.heap.size + 1 + 1, 0, none⟩ (.slice (some ⟨g, 0, none⟩) ns.length cap3)) (.slice (some ⟨g, 0, none⟩) ns.length cap3) ((ns.map (Pl.mvd id)).set k ⟨Pl.upOf ns k, tag, idn, cls, ats⟩)) := by
    have hR := HR.out
    have hl : ns.length = (ns.map (Pl.mvd id)).length := by simp
    rw [hl] at hR ⊢
    exact Row.put (x := ⟨Pl.upOf ns k, tag, idn, cls, ats⟩) hR hb (by simpa using hk) hs ha (by omega) e4 (by simp)
  have HB5 : Hid (Below w.heap.size w (wput w4 g k (.int .i64 (Pl.upOf ns k)) (.string ⟨tag.toArray⟩) (.string ⟨idn.toArray⟩) (.slice a1 cls.length c1) (.slice a2 ats.length c3))) := by
    have h0 := below_trans HB3.out hb
    unfold wput
    exact ((((h0.setCell (p := ⟨g, k * 5, none⟩) (by simp; omega) _).setCell (p := ⟨g, k * 5 + 1, none⟩) (by simp; omega) _).setCell (p := ⟨g, k * 5 + 2, none⟩) (by simp; omega) _).setCell (p := ⟨g, k * 5 + 3, none⟩) (by simp; omega) _).setCell (p := ⟨g, k * 5 + 4, none⟩) (by simp; omega) _
  have e5 := wput_out (g := g) (k := k) (u0 := .int .i64 (Pl.upOf ns k)) (u1 := .string ⟨tag.toArray⟩) (u2 := .string ⟨idn.toArray⟩) (u3 := .slice a1 cls.length c1) (u4 := .slice a2 ats.length c3) (p := ⟨w.heap.size + 1 + 1, 0, none⟩) (Or.inl (by simp; omega)) e4
  have f5 : (wput w4 g k (.int .i64 (Pl.upOf ns k)) (.string ⟨tag.toArray⟩) (.string ⟨idn.toArray⟩) (.slice a1 cls.length c1) (.slice a2 ats.length c3)).frozen? ⟨w.heap.size + 1 + 1, 0, none⟩ = false := by
    unfold wput
    simp [go_sem, f4]
  change Exit.then _ _ Exit.normal _ (wput w4 g k (.int .i64 (Pl.upOf ns k)) (.string ⟨tag.toArray⟩) (.string ⟨idn.toArray⟩) (.slice a1 cls.length c1) (.slice a2 ats.length c3))
  clear S0 NV hs ha hb fg4 r0 r1 r2 r3 r4 e4 f4 c2 f2
  rename_i hHeld
  clear hHeld
  generalize wput w4 g k (.int .i64 (Pl.upOf ns k)) (.string ⟨tag.toArray⟩) (.string ⟨idn.toArray⟩) (.slice a1 cls.length c1) (.slice a2 ats.length c3) = w5 at *
  go_wp2
  have q := World.cell?_setCell_same w5 ⟨w.heap.size + 1 + 1, 0, none⟩ (.slice (some ⟨g, 0, none⟩) ns.length cap3) e5
  refine bodyPost_ret (v := .tuple #[.agg #[.slice (some ⟨g, 0, none⟩) ns.length cap3], .int .i64 0]) (by simp [results, Tryz.results24, go_sem, q]) rfl
    ⟨_, by rw [HE.out], ?_, HB5.out.setCell (p := ⟨w.heap.size + 1 + 1, 0, none⟩) (by simp; omega) _⟩
  rw [HP.out]
  have hcp := Row.cap HR.out
  refine ⟨HN.out, hcp, by rw [List.length_set, List.length_map]; unfold maxLen; omega, fun i hi => ?_⟩
  have hmem : ∀ y ∈ (ns.map (Pl.mvd id)).set k ⟨Pl.upOf ns k, tag, idn, cls, ats⟩, y.cls.length ≤ 6 ∧ y.ats.length ≤ 4 := by
    intro y hy
    rcases List.mem_or_eq_of_mem_set hy with h | h
    · exact mvd_short HS.out y h
    · subst h; exact ⟨L1, L2⟩
  have := hmem _ (List.getElem_mem hi)
  exact ⟨by unfold maxLen; omega, by unfold maxLen; omega⟩
end Go.Proofs.YtbpgcfabepioiaaGreat
