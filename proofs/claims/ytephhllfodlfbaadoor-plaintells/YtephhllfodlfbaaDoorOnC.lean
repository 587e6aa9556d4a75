/-
  Rows that are changed in place: one cell of a row that is owned is stored.
-/
import Derived.Test.YtephhllfodlfbaaDoorOnA
namespace Go.Proofs.YtephhllfodlfbaaDoor
open Go.RowKit

theorem ownsRow_set {w : World} {B : Nat} {e : TypeId} {k : Nat} {n cap g : Nat} {xs : List Value} (h : w.ownsRow B e k (.slice (some ⟨g, 0, none⟩) n cap) n xs) {i : Nat} (hi : i < n * k) (u : Value) :
    (w.setCell ⟨g, i, none⟩ u).ownsRow B e k (.slice (some ⟨g, 0, none⟩) n cap) n (xs.set i u) ∧ w.frozen? ⟨g, i, none⟩ = false ∧ ∃ x, w.cell? ⟨g, i, none⟩ = some x := by
  obtain ⟨h1, h2⟩ := h
  rcases h2 with ⟨h2, -⟩ | ⟨g', cap', cur, e1, e2, e3, e4, e5, e6, e7⟩
  · cases h2
  · injection e1 with e1 _ e8
    injection e1 with e1
    injection e1 with e1 _ _
    subst e1 e8
    have hic : i < cur.size := by
      have : n * k ≤ cap * k := Nat.mul_le_mul_right k e4
      omega
    refine ⟨⟨by simpa using h1, Or.inr ⟨g, cap, cur.set i u, rfl, e2, ?_, e4, e5, by simpa using e6, ?_⟩⟩, ?_, cur[i], ?_⟩
    · simp [World.setCell, Array.getElem?_modify, e3, Array.setIfInBounds, hic]
    · rw [← e7, Array.toList_set, List.take_set]
    · simp [World.frozen?, e3]
    · simp [World.cell?, e3, hic]
theorem slice_other {xs : List Value} {k m i : Nat} {u : Value} (h : i < m * k ∨ m * k + k ≤ i) : ((xs.set i u).drop (m * k)).take k = (xs.drop (m * k)).take k := by
  apply List.ext_getElem?
  intro r
  rw [List.getElem?_take, List.getElem?_take, List.getElem?_drop, List.getElem?_drop]
  by_cases hr : r < k
  · rw [if_pos hr, if_pos hr, List.getElem?_set_ne (by omega)]
  · rw [if_neg hr, if_neg hr]
theorem slice_at {xs : List Value} {k m r : Nat} {u : Value} (hr : r < k) : ((xs.set (m * k + r) u).drop (m * k)).take k = ((xs.drop (m * k)).take k).set r u := by
  apply List.ext_getElem?
  intro q
  rw [List.getElem?_take, List.getElem?_drop, List.getElem?_set, List.getElem?_set, List.length_take, List.length_drop, List.getElem?_take, List.getElem?_drop]
  by_cases hq : q < k
  · rw [if_pos hq, if_pos hq]
    by_cases e : r = q
    · subst e
      rw [if_pos rfl, if_pos rfl]
      by_cases hl : m * k + r < xs.length
      · rw [if_pos hl, if_pos (by omega)]
      · rw [if_neg hl, if_neg (by omega)]
    · rw [if_neg (by omega), if_neg e]
  · rw [if_neg hq, if_neg hq, if_neg (by omega)]
theorem mask_off_set {P : Nat → Bool} {w : World} {g n cap i : Nat} {u : Value} : InclB (mask (Off P (.slice (some ⟨g, 0, none⟩) n cap)) w) (mask (Off P (.slice (some ⟨g, 0, none⟩) n cap)) (w.setCell ⟨g, i, none⟩ u)) := inclB_mask fun j hj _ => ⟨hj, Below.heap_setCell _ _ _ _ (by
  show j ≠ g
  rintro rfl
  unfold Off at hj
  simp [Value.ownBlock] at hj)⟩
/-- the list of one test is another now -/
theorem Grow.setList {α : Type} {A : MemL α} (hS : IsSub A) {P : Nat → Bool} {B g cap : Nat} {w : World} {ts : List (Pl.Tst α)} (h : Grow P B 45 6 (VT A) w (.slice (some ⟨g, 0, none⟩) ts.length cap) ts) {j : Nat} (hj : j < ts.length) {u : Value} {l : List α} (hu : A (mask (Off P (.slice (some ⟨g, 0, none⟩) ts.length cap)) w) u l) :
    Grow P B 45 6 (VT A) (w.setCell ⟨g, j * 6 + 5, none⟩ u) (.slice (some ⟨g, 0, none⟩) ts.length cap) (ts.set j { ts[j] with list := l }) := by
  obtain ⟨xs, hown, hPo, hv⟩ := h
  refine ⟨xs.set (j * 6 + 5) u, by rw [List.length_set]; exact (ownsRow_set hown (by omega) u).1, hPo, fun m hm => ?_⟩
  have hm' : m < ts.length := by simpa using hm
  by_cases e : j = m
  · subst e
    rw [slice_at (by omega), List.getElem_set_self]
    obtain ⟨v, hc, -⟩ := hv j hj
    rw [hc]
    exact ⟨u, rfl, hS.sub hu mask_off_set.cells⟩
  · rw [slice_other (by omega), List.getElem_set_ne e]
    exact (isV_t hS).sub (hv m hm') mask_off_set.cells
/-- out of a world that is looked at in part -/
theorem Grow.unmask {β : Type} {P Q : Nat → Bool} {B : Nat} {e : TypeId} {k : Nat} {V : World → List Value → β → Prop} (hV : IsVB k V) (he : e ≠ 0) {w : World} {v : Value} {l : List β} (h : Grow P B e k V (mask Q w) v l) : Grow (fun j => P j && Q j) B e k V w v l := by
  obtain ⟨xs, ⟨h1, h2⟩, hPo, hv⟩ := h
  refine ⟨xs, ⟨h1, ?_⟩, fun g hg => ?_, fun i hi => hV.sub (hv i hi) ?_⟩
  · rcases h2 with h2 | ⟨g, cap, cur, rfl, e2, e3, e4⟩
    · exact Or.inl h2
    · exact Or.inr ⟨g, cap, cur, rfl, e2, (mask_real e3 he).2, e4⟩
  · rcases h2 with ⟨rfl, -⟩ | ⟨g', cap, cur, rfl, e2, e3, e4⟩
    · simp [Value.ownBlock] at hg
    · have e0 : g' = g := by simpa [Value.ownBlock] using hg
      subst e0
      simp only [hPo g' rfl, (mask_real e3 he).1, Bool.and_self]
  · rw [mask_mask]
    refine inclB_mask fun j hj _ => ⟨?_, rfl⟩
    unfold Off at hj ⊢
    cases hp : P j <;> cases hq : Q j <;> simp_all
theorem GrowD.toI {β : Type} {P Q : Nat → Bool} {B : Nat} {e : TypeId} {k : Nat} {V : World → List Value → β → Prop} (hV : IsVB k V) (he : e ≠ 0) {w : World} {v : Value} {l : List β} (h : GrowD P B e k V (mask Q w) v l) :
    ∃ own : Nat → Nat, GrowI (fun j => P j && Q j) B e k (fun i W c => ∃ h : i < l.length, V (mask (fun j => own j == i) W) c l[i]) l.length w v := by
  obtain ⟨own, xs, ⟨h1, h2⟩, hPo, hv⟩ := h
  refine ⟨own, xs, ⟨h1, ?_⟩, fun g hg => ?_, fun i hi => ⟨hi, hV.sub (hv i hi) ?_⟩⟩
  · rcases h2 with h2 | ⟨g, cap, cur, rfl, e2, e3, e4⟩
    · exact Or.inl h2
    · exact Or.inr ⟨g, cap, cur, rfl, e2, (mask_real e3 he).2, e4⟩
  · rcases h2 with ⟨rfl, -⟩ | ⟨g', cap, cur, rfl, e2, e3, e4⟩
    · simp [Value.ownBlock] at hg
    · have e0 : g' = g := by simpa [Value.ownBlock] using hg
      subst e0
      simp only [hPo g' rfl, (mask_real e3 he).1, Bool.and_self]
  · rw [mask_mask, mask_mask]
    refine inclB_mask fun j hj _ => ⟨?_, rfl⟩
    unfold Off at hj ⊢
    cases hp : P j <;> cases hq : Q j <;> simp_all
section
variable {P P' : Nat → Bool} {B : Nat} {e : TypeId} {k : Nat} {V V' : Nat → World → List Value → Prop} {n : Nat} {w w' : World} {v : Value}
theorem GrowI.form (h : GrowI P B e k V n w v) : ∃ a c, v = .slice a n c := by
  obtain ⟨xs, h, _⟩ := h
  rcases h.2 with ⟨rfl, h0⟩ | ⟨g, cap, cur, rfl, _⟩
  · exact ⟨none, 0, by rw [h0]⟩
  · exact ⟨_, cap, rfl⟩
/-- an element: its cells, what is said of it -/
theorem GrowI.at (h : GrowI P B e k V n w v) {i : Nat} (hi : i < n) : ∃ g cap c, v = .slice (some ⟨g, 0, none⟩) n cap ∧ P g = true ∧ V i (mask (Off P v) w) c ∧ ∀ r x, r < k → c[r]? = some x → w.cell? ⟨g, i * k + r, none⟩ = some x := by
  obtain ⟨xs, hown, hPo, hv⟩ := h
  have hh := hown
  rcases hown.2 with ⟨-, h0⟩ | ⟨g, cap, cur, rfl, _⟩
  · omega
  · refine ⟨g, cap, _, rfl, hPo g rfl, hv i hi, fun r x hr hx => ?_⟩
    rw [List.getElem?_take, if_pos hr, List.getElem?_drop] at hx
    have h0 := World.ownsRow.cells hh rfl (i * k + r) x hx
    rw [Addr.add_lit] at h0
    simpa using h0
theorem GrowI.to (h : GrowI P B e k V n w v) (hs : ∀ g, v.ownBlock = some g → w'.heap[g]? = w.heap[g]? ∧ P' g = true) (hv : ∀ i c, i < n → V i (mask (Off P v) w) c → V' i (mask (Off P' v) w') c) : GrowI P' B e k V' n w' v := by
  obtain ⟨xs, ⟨h1, h2⟩, hPo, hvs⟩ := h
  refine ⟨xs, ⟨h1, ?_⟩, fun g hg => (hs g hg).2, fun i hi => hv i _ hi (hvs i hi)⟩
  rcases h2 with h2 | ⟨g, cap, cur, rfl, e2, e3, e4⟩
  · exact Or.inl h2
  · exact Or.inr ⟨g, cap, cur, rfl, e2, (hs g rfl).1.trans e3, e4⟩
/-- one element of two cells is another now -/
theorem GrowI.set2 {g cap : Nat} (h : GrowI P B e 2 V n w (.slice (some ⟨g, 0, none⟩) n cap)) {i : Nat} (hi : i < n) {c0 c1 : Value}
    (ho : ∀ m c, m < n → m ≠ i → V m (mask (Off P (.slice (some ⟨g, 0, none⟩) n cap)) w) c → V' m (mask (Off P (.slice (some ⟨g, 0, none⟩) n cap)) ((w.setCell ⟨g, i * 2, none⟩ c0).setCell ⟨g, i * 2 + 1, none⟩ c1)) c) (hn : V' i (mask (Off P (.slice (some ⟨g, 0, none⟩) n cap)) ((w.setCell ⟨g, i * 2, none⟩ c0).setCell ⟨g, i * 2 + 1, none⟩ c1)) [c0, c1]) :
    GrowI P B e 2 V' n ((w.setCell ⟨g, i * 2, none⟩ c0).setCell ⟨g, i * 2 + 1, none⟩ c1) (.slice (some ⟨g, 0, none⟩) n cap) := by
  obtain ⟨xs, hown, hPo, hvs⟩ := h
  have h1 := (ownsRow_set hown (i := i * 2) (by omega) c0).1
  have h2 := (ownsRow_set h1 (i := i * 2 + 1) (by omega) c1).1
  refine ⟨(xs.set (i * 2) c0).set (i * 2 + 1) c1, h2, hPo, fun m hm => ?_⟩
  by_cases e : m = i
  · subst e
    have e1 := slice_at (xs := xs.set (m * 2) c0) (k := 2) (m := m) (r := 1) (u := c1) (by omega)
    have e2 := slice_at (xs := xs) (k := 2) (m := m) (r := 0) (u := c0) (by omega)
    rw [Nat.add_zero] at e2
    rw [e1, e2]
    have hl : ((xs.drop (m * 2)).take 2).length = 2 := by
      rw [List.length_take, List.length_drop, hown.1]
      omega
    match (xs.drop (m * 2)).take 2, hl with
    | [x, y], _ => exact hn
  · rw [slice_other (by omega), slice_other (by omega)]
    exact ho m _ hm e (hvs m hm)
theorem GrowI.store {g cap : Nat} (h : GrowI P B e 2 V n w (.slice (some ⟨g, 0, none⟩) n cap)) {i : Nat} (hi : i < n) (c0 : Value) : (w.frozen? ⟨g, i * 2, none⟩ = false ∧ ∃ x, w.cell? ⟨g, i * 2, none⟩ = some x) ∧ (w.setCell ⟨g, i * 2, none⟩ c0).frozen? ⟨g, i * 2 + 1, none⟩ = false ∧ ∃ x, (w.setCell ⟨g, i * 2, none⟩ c0).cell? ⟨g, i * 2 + 1, none⟩ = some x := by
  obtain ⟨xs, hown, hPo, hvs⟩ := h
  have h1 := ownsRow_set hown (i := i * 2) (by omega) c0
  exact ⟨h1.2, (ownsRow_set h1.1 (i := i * 2 + 1) (by omega) c0).2⟩
end
theorem GrowI.grow {β : Type} {P : Nat → Bool} {B : Nat} {e : TypeId} {k : Nat} {V : Nat → World → List Value → Prop} {V0 : World → List Value → β → Prop} {w : World} {v : Value} {l : List β} (h : GrowI P B e k V l.length w v) (hv : ∀ i c (hi : i < l.length), V i (mask (Off P v) w) c → V0 (mask (Off P v) w) c l[i]) : Grow P B e k V0 w v l := by
  obtain ⟨xs, hown, hPo, hvs⟩ := h
  exact ⟨xs, hown, hPo, fun i hi => hv i _ hi (hvs i hi)⟩
end Go.Proofs.YtephhllfodlfbaaDoor
