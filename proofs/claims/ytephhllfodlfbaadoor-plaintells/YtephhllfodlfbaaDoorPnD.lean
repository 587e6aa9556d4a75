/-
  Several elements appended at once to a row that grows; the step that is being made.
-/
import Derived.Test.YtephhllfodlfbaaDoorPnO
namespace Go.Proofs.YtephhllfodlfbaaDoor
open Go.RowKit

/-- several more -/
theorem Grow.app {β : Type} {P : Nat → Bool} {B : Nat} {e : TypeId} {k : Nat} {V : World → List Value → β → Prop} {E : World → Nat → Nat → β → Prop} (hV : IsV k V E) {w w' : World} {v : Value} {l ms : List β} {xs news : List Value} {g cap : Nat} (hPo : ∀ g, v.ownBlock = some g → P g = true) (hPH : P w.heap.size = true)
    (hown : w.ownsRow B e k v l.length xs) (hold : ∀ i (h : i < l.length), V (mask (Off P v) w) ((xs.drop (i * k)).take k) l[i])
    (hrow : w'.ownsRow B e k (.slice (some ⟨g, 0, none⟩) (l.length + ms.length) cap) (l.length + ms.length) (xs ++ news)) (hg : w.grownBy w' v.ownBlock) (hat : v.ownBlock = some g ∨ g = w.heap.size) (hnew : ∀ i (h : i < ms.length), V (mask (Off P v) w) ((news.drop (i * k)).take k) ms[i]) : Grow P B e k V w' (.slice (some ⟨g, 0, none⟩) (l.length + ms.length) cap) (l ++ ms) := by
  have hxl : xs.length = l.length * k := hown.1
  have hin : ∀ {c : List Value} {x : β}, V (mask (Off P v) w) c x → V (mask (Off P (.slice (some ⟨g, 0, none⟩) (l.length + ms.length) cap)) w') c x := fun h => by
    refine hV.sub h (incl_mask fun j o y hj hy => ?_)
    have hjw : j < w.heap.size := cell_lt hy
    unfold Off at hj ⊢
    rw [Bool.and_eq_true] at hj ⊢
    refine ⟨⟨hj.1, ?_⟩, ?_⟩
    · rcases hat with h | h
      · rw [h] at hj
        simpa [Value.ownBlock] using hj.2
      · subst h
        simp [Value.ownBlock]
        omega
    · have hb := hg.block j hjw (by
        intro h
        rw [← h] at hj
        simp at hj)
      unfold World.cell? at hy ⊢
      dsimp only at hy ⊢
      rw [hb]
      exact hy
  have hlen1 : (l ++ ms).length = l.length + ms.length := by simp
  refine ⟨xs ++ news, by rw [hlen1]; exact hrow, fun g' hg' => ?_, fun i hi => hin ?_⟩
  · simp [Value.ownBlock] at hg'
    subst hg'
    rcases hat with h | h
    · exact hPo _ h
    · rw [h]
      exact hPH
  · rcases Nat.lt_or_ge i l.length with hlt | hge
    · have e1 : (l ++ ms)[i] = l[i] := List.getElem_append_left hlt
      rw [e1]
      have e2 : ((xs ++ news).drop (i * k)).take k = (xs.drop (i * k)).take k := by
        have : (i + 1) * k ≤ l.length * k := Nat.mul_le_mul_right k hlt
        rw [Nat.succ_mul] at this
        rw [List.drop_append_of_le_length (by omega), List.take_append_of_le_length (by simp; omega)]
      rw [e2]
      exact hold i hlt
    · have hi2 : i - l.length < ms.length := by rw [hlen1] at hi; omega
      have e1 : (l ++ ms)[i] = ms[i - l.length] := List.getElem_append_right hge
      rw [e1]
      have e2 : (xs ++ news).drop (i * k) = news.drop ((i - l.length) * k) := by
        have e3 : i * k = xs.length + (i - l.length) * k := by
          rw [hxl, ← Nat.add_mul]
          congr 1
          omega
        rw [e3, List.drop_append]
        simp
      rw [e2]
      exact hnew _ hi2
/-- the cells of a row of tests -/
theorem cellsT {α : Type} {A : MemL α} (hA : IsL A) {W : World} {b o : Nat} {ms : List (Pl.Tst α)} (hc : ∀ i (h : i < ms.length), TstAt A W b (o + i * 6) ms[i]) : ∃ news : List Value, news.length = ms.length * 6 ∧ (∀ (j : Nat) u, news[j]? = some u → W.cell? ⟨b, o + j, none⟩ = some u) ∧ (∀ u ∈ news, u.oneCell' = true) ∧ ∀ i (h : i < ms.length), VT A W ((news.drop (i * 6)).take 6) ms[i] := by
  have hcell : ∀ j, j < ms.length * 6 → ∃ u, W.cell? ⟨b, o + j, none⟩ = some u ∧ u.oneCell' = true := by
    intro j hj
    obtain ⟨q, r, rfl, h6⟩ : ∃ q r, j = q * 6 + r ∧ r < 6 := ⟨j / 6, j % 6, by omega, Nat.mod_lt _ (by decide)⟩
    obtain ⟨vv, n0, n1, n2, n3, n4, n5, hm⟩ := hc q (by omega)
    obtain ⟨ay, dy, rfl, -⟩ := hA.form hm
    rw [← Nat.add_assoc]
    match r, h6 with
    | 0, _ => exact ⟨_, n0, rfl⟩
    | 1, _ => exact ⟨_, n1, rfl⟩
    | 2, _ => exact ⟨_, n2, rfl⟩
    | 3, _ => exact ⟨_, n3, rfl⟩
    | 4, _ => exact ⟨_, n4, rfl⟩
    | 5, _ => exact ⟨_, n5, rfl⟩
  have hget : ∀ j, j < ms.length * 6 → ∀ u, W.cell? ⟨b, o + j, none⟩ = some u → ((List.range (ms.length * 6)).map fun j => (W.cell? ⟨b, o + j, none⟩).getD undef)[j]? = some u := by
    intro j hj u hu
    rw [List.getElem?_map, List.getElem?_range hj]
    simp [hu]
  refine ⟨(List.range (ms.length * 6)).map fun j => (W.cell? ⟨b, o + j, none⟩).getD undef, by simp, ?_, ?_, ?_⟩
  · intro j u hj
    have hlt : j < ms.length * 6 := by
      have := (List.getElem?_eq_some_iff.1 hj).1
      simpa using this
    obtain ⟨u', hu, -⟩ := hcell j hlt
    rw [hget j hlt u' hu] at hj
    cases hj
    exact hu
  · intro u hu
    obtain ⟨j, hj, rfl⟩ := List.mem_map.1 hu
    obtain ⟨u', hu', h1⟩ := hcell j (by simpa using hj)
    rw [hu']
    exact h1
  · intro i hi
    obtain ⟨vv, n0, n1, n2, n3, n4, n5, hm⟩ := hc i hi
    refine ⟨vv, ?_, hm⟩
    have g : ∀ r, r < 6 → ∀ u, W.cell? ⟨b, o + i * 6 + r, none⟩ = some u → (((List.range (ms.length * 6)).map fun j => (W.cell? ⟨b, o + j, none⟩).getD undef).drop (i * 6))[r]? = some u := by
      intro r hr u hu
      rw [List.getElem?_drop]
      refine hget _ (by omega) u ?_
      rw [← Nat.add_assoc]
      exact hu
    have q0 := g 0 (by omega) _ n0
    have q1 := g 1 (by omega) _ n1
    have q2 := g 2 (by omega) _ n2
    have q3 := g 3 (by omega) _ n3
    have q4 := g 4 (by omega) _ n4
    have q5 := g 5 (by omega) _ n5
    generalize ((List.range (ms.length * 6)).map fun j => (W.cell? ⟨b, o + j, none⟩).getD undef).drop (i * 6) = L at *
    match L, q0, q1, q2, q3, q4, q5 with
    | x0 :: x1 :: x2 :: x3 :: x4 :: x5 :: r, q0, q1, q2, q3, q4, q5 =>
      simp only [List.getElem?_cons_zero, List.getElem?_cons_succ, Option.some.injEq] at q0 q1 q2 q3 q4 q5
      subst q0 q1 q2 q3 q4 q5
      rfl
/-- what a call may change: one block, and what lies from a place on -/
structure FrA (B M : Nat) (w w' : World) : Prop where
  os : w'.os = w.os
  tape : w'.tape = w.tape
  output : w'.output = w.output
  size : w.heap.size ≤ w'.heap.size
  blk : ∀ k, k < B → k ≠ M → w'.heap[k]? = w.heap[k]?
theorem FrA.refl (B M : Nat) (w : World) : FrA B M w w := ⟨rfl, rfl, rfl, Nat.le_refl _, fun _ _ _ => rfl⟩
theorem FrA.trans {B M : Nat} {w w1 w2 : World} (h : FrA B M w w1) (h2 : FrA B M w1 w2) : FrA B M w w2 := ⟨h2.os.trans h.os, h2.tape.trans h.tape, h2.output.trans h.output, Nat.le_trans h.size h2.size, fun k hk hne => (h2.blk k hk hne).trans (h.blk k hk hne)⟩
theorem FrA.below {B M : Nat} {w w1 : World} (hb : Below w.heap.size w w1) (hB : B ≤ w.heap.size) : FrA B M w w1 := ⟨hb.os, hb.tape, hb.output, hb.size, fun k hk _ => hb.block k (by omega)⟩
theorem FrA.grown {B M : Nat} {w w1 : World} {r : Option Nat} (hg : w.grownBy w1 r) (hB : B ≤ w.heap.size) (hr : ∀ g, r = some g → B ≤ g) : FrA B M w w1 := ⟨hg.os, hg.tape, hg.output, hg.size, fun k hk _ => hg.block k (by omega) (fun e => by have := hr k e.symm; omega)⟩
theorem FrA.drew {B M : Nat} {w w1 : World} (h : FrA B M w w1) : FrA B M w w1.drew := ⟨h.os, h.tape, h.output, h.size, h.blk⟩
theorem FrA.set {B M : Nat} {w w1 : World} (h : FrA B M w w1) (i : Nat) (v : Value) : FrA B M w (w1.setCell ⟨M, i, none⟩ v) := ⟨h.os, h.tape, h.output, by simpa [World.setCell] using h.size, fun k hk hne => (Below.heap_setCell _ _ _ _ (by exact hne)).trans (h.blk k hk hne)⟩
/-- the step that is being made: its box, and its tests -/
structure Made {α : Type} (A : MemL α) (B M : Nat) (w : World) (to : Pl.Stp α) (u : Value) : Prop where
  box : w.heap[M]? = some (.cells #[.string ⟨to.tag.toArray⟩, u] 41)
  row : Grow (frm B) B 45 6 (VT A) w u to.tests
  lt : M < B
  sz : B ≤ w.heap.size
theorem Made.on {α : Type} {A : MemL α} (hS : IsSub A) {B M : Nat} {w w' : World} {to : Pl.Stp α} {u : Value} (h : Made A B M w to u) (hb : Below w.heap.size w w') : Made A B M w' to u :=
  ⟨hblk h.box hb, h.row.move (isV_t hS) fun j hj hjw => ⟨hj, hb.block j hjw⟩, h.lt, Nat.le_trans h.sz hb.size⟩
theorem Made.drew {α : Type} {A : MemL α} (hS : IsSub A) {B M : Nat} {w : World} {to : Pl.Stp α} {u : Value} (h : Made A B M w to u) : Made A B M w.drew to u :=
  ⟨h.box, h.row.move (isV_t hS) fun _ hj _ => ⟨hj, rfl⟩, h.lt, h.sz⟩
/-- the row stays where a small box below it is written -/
theorem Grow.apart {α : Type} {A : MemL α} (hS : IsSub A) {B M i : Nat} {w : World} {v x : Value} {l : List (Pl.Tst α)} (h : Grow (frm B) B 45 6 (VT A) w v l) (hM : M < B) : Grow (frm B) B 45 6 (VT A) (w.setCell ⟨M, i, none⟩ x) v l :=
  h.move (isV_t hS) fun j hj _ => ⟨hj, Below.heap_setCell _ _ _ _ (by
    have : B ≤ j := by simpa [frm] using hj
    show j ≠ M
    omega)⟩
theorem set41_1 {W : World} {M : Nat} {v0 v1 : Value} (h : W.heap[M]? = some (.cells #[v0, v1] 41)) (u : Value) : (W.setCell ⟨M, 1, none⟩ u).heap[M]? = some (.cells #[v0, u] 41) := by
  simp [World.setCell, Array.getElem?_modify, h]
theorem set41_0 {W : World} {M : Nat} {v0 v1 : Value} (h : W.heap[M]? = some (.cells #[v0, v1] 41)) (u : Value) : (W.setCell ⟨M, 0, none⟩ u).heap[M]? = some (.cells #[u, v1] 41) := by
  simp [World.setCell, Array.getElem?_modify, h]
end Go.Proofs.YtephhllfodlfbaaDoor
