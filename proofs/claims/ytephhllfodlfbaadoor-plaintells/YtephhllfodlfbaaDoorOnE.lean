/-
  What the document's own OnceOf needs: plain facts, what stays in a world.
-/
import Derived.Test.YtephhllfodlfbaaDoorOnC
namespace Go.Proofs.YtephhllfodlfbaaDoor
open Go.RowKit
namespace Pl
section
variable {α : Type} [DecidableEq α] {L : Lev α}
omit [DecidableEq α] in
theorem addTo_map (f : List α → List α) (only : List α → Option (Stp α)) (s : Stp α) : ∀ k, addTo id only ⟨s.tag, s.tests.map (plT f)⟩ k = addTo f only s k
  | 0 => rfl
  | k + 1 => by
    unfold addTo
    rw [addTo_map f only s k]
    simp only [List.getElem?_map, List.length_map]
    cases s.tests[k]? with
    | none => rfl
    | some t => rfl
theorem plS_map (f : List α → List α) (only : List α → Option (Stp α)) (s : Stp α) : plS id only ⟨s.tag, s.tests.map (plT f)⟩ = plS f only s := by
  unfold plS
  rw [addTo_map, List.length_map]
/-- the first tests' lists made plainer, the others not yet -/
def mix (f : List α → List α) (ts : List (Tst α)) (j : Nat) : List (Tst α) := (ts.take j).map (plT f) ++ ts.drop j
omit [DecidableEq α] in
theorem mix_len (f : List α → List α) (ts : List (Tst α)) (j : Nat) : (mix f ts j).length = ts.length := by
  unfold mix
  rw [List.length_append, List.length_map, List.length_take, List.length_drop]
  omega
omit [DecidableEq α] in
theorem mix_zero (f : List α → List α) (ts : List (Tst α)) : mix f ts 0 = ts := by simp [mix]
omit [DecidableEq α] in
theorem mix_all (f : List α → List α) (ts : List (Tst α)) : mix f ts ts.length = ts.map (plT f) := by simp [mix]
omit [DecidableEq α] in
theorem mix_get (f : List α → List α) (ts : List (Tst α)) {j : Nat} (h : j < ts.length) : (mix f ts j)[j]'(by rw [mix_len]; exact h) = ts[j] := by
  unfold mix
  rw [List.getElem_append_right (by simp; omega)]
  simp only [List.length_map, List.length_take, List.getElem_drop]
  congr 1
  omega
omit [DecidableEq α] in
theorem mix_next (f : List α → List α) (ts : List (Tst α)) {j : Nat} (h : j < ts.length) : mix f ts (j + 1) = (mix f ts j).set j { ts[j] with list := f ts[j].list } := by
  unfold mix
  rw [List.take_succ_eq_append_getElem h, List.map_append, List.append_assoc, List.set_append_right _ _ (by simp; omega)]
  congr 1
  rw [List.drop_eq_getElem_cons h]
  have e : j - (List.map (plT f) (List.take j ts)).length = 0 := by simp; omega
  rw [e]
  rfl
theorem plL_ok (hL : IsLev L) {l : List (Pth α)} (h : okL L.W l) : okL L.W (plL L.f L.only l) := by
  obtain ⟨h1, h2⟩ := h
  refine ⟨?_, fun p hp => ?_⟩
  · have := firsts_len (l.map (plP L.f L.only))
    unfold plL
    rw [List.length_map] at this
    omega
  · obtain ⟨q, hq, rfl⟩ := List.mem_map.1 (firsts_mem.1 hp)
    exact (plP_sz hL (h2 q hq)).2
end
end Pl
/-- some blocks lie as they lay -/
structure Kp (keep : Nat → Bool) (w w' : World) : Prop where
  os : w'.os = w.os
  tape : w'.tape = w.tape
  output : w'.output = w.output
  size : w.heap.size ≤ w'.heap.size
  blk : ∀ j, j < w.heap.size → keep j = true → w'.heap[j]? = w.heap[j]?
section
variable {keep keep' : Nat → Bool} {w w1 w2 : World}
theorem Kp.refl (keep : Nat → Bool) (w : World) : Kp keep w w := ⟨rfl, rfl, rfl, Nat.le_refl _, fun _ _ _ => rfl⟩
theorem Kp.below (h : Kp keep w w1) (hb : Below w1.heap.size w1 w2) : Kp keep w w2 := ⟨hb.os.trans h.os, hb.tape.trans h.tape, hb.output.trans h.output, Nat.le_trans h.size hb.size, fun j hj hk => (hb.block j (by have := h.size; omega)).trans (h.blk j hj hk)⟩
theorem Kp.set (h : Kp keep w w1) {g i : Nat} (v : Value) (hg : g < w.heap.size → keep g = false) : Kp keep w (w1.setCell ⟨g, i, none⟩ v) := ⟨h.os, h.tape, h.output, by simpa [World.setCell] using h.size, fun j hj hk => (Below.heap_setCell _ _ _ _ (by
  show j ≠ g
  rintro rfl
  rw [hg hj] at hk
  cases hk)).trans (h.blk j hj hk)⟩
theorem Kp.trans (h : Kp keep w w1) (h2 : Kp keep' w1 w2) (hk : ∀ j, j < w.heap.size → keep j = true → keep' j = true) : Kp keep w w2 := ⟨h2.os.trans h.os, h2.tape.trans h.tape, h2.output.trans h.output, Nat.le_trans h.size h2.size, fun j hj hq => (h2.blk j (by have := h.size; omega) (hk j hj hq)).trans (h.blk j hj hq)⟩
theorem Kp.mono (h : Kp keep w w1) (hk : ∀ j, j < w.heap.size → keep' j = true → keep j = true) : Kp keep' w w1 := ⟨h.os, h.tape, h.output, h.size, fun j hj hq => h.blk j hj (hk j hj hq)⟩
theorem Kp.cell (h : Kp keep w w1) {j o : Nat} {x : Value} (hc : w.cell? ⟨j, o, none⟩ = some x) (hk : keep j = true) : w1.cell? ⟨j, o, none⟩ = some x := by
  have hb := h.blk j (cell_lt hc) hk
  unfold World.cell? at hc ⊢
  dsimp only at hc ⊢
  rw [hb]
  exact hc
theorem Kp.grown (h : Kp keep w w1) {r : Option Nat} (hg : w1.grownBy w2 r) (hr : ∀ g, r = some g → g < w.heap.size → keep g = false) : Kp keep w w2 := ⟨hg.os.trans h.os, hg.tape.trans h.tape, hg.output.trans h.output, Nat.le_trans h.size hg.size, fun j hj hk => (hg.block j (by have := h.size; omega) (fun e => by rw [hr j e.symm hj] at hk; cases hk)).trans (h.blk j hj hk)⟩
theorem Kp.belowB (h : Kp keep w1 w2) {n : Nat} (h0 : Below n w w1) (hn : n ≤ w1.heap.size) (hk : ∀ j, j < n → keep j = true) : Below n w w2 := ⟨h.os.trans h0.os, h.tape.trans h0.tape, h.output.trans h0.output, Nat.le_trans h0.size h.size, fun j hj => by
  exact (h.blk j (by omega) (hk j hj)).trans (h0.block j hj)⟩
end
theorem GrowI.own {P : Nat → Bool} {B : Nat} {e : TypeId} {k : Nat} {V : Nat → World → List Value → Prop} {n : Nat} {w : World} {v : Value} (h : GrowI P B e k V n w v) : ∀ g, v.ownBlock = some g → P g = true ∧ B ≤ g ∧ g < w.heap.size := by
  obtain ⟨xs, hown, hPo, _⟩ := h
  intro g hg
  exact ⟨hPo g hg, (World.ownsRow.lt hown g hg).1, (World.ownsRow.lt hown g hg).2⟩
theorem GrowD.toI' {β : Type} {P : Nat → Bool} {B : Nat} {e : TypeId} {k : Nat} {V : World → List Value → β → Prop} (hV : IsVB k V) {w : World} {v : Value} {l : List β} (h : GrowD P B e k V w v l) :
    ∃ own : Nat → Nat, GrowI P B e k (fun i W c => ∃ h : i < l.length, V (mask (fun j => own j == i) W) c l[i]) l.length w v := by
  obtain ⟨own, xs, h1, hPo, hv⟩ := h
  refine ⟨own, xs, h1, hPo, fun i hi => ⟨hi, hV.sub (hv i hi) ?_⟩⟩
  rw [mask_mask]
  refine inclB_mask fun j hj _ => ⟨?_, rfl⟩
  rw [Bool.and_eq_true] at hj ⊢
  exact ⟨hj.2, hj.1⟩
end Go.Proofs.YtephhllfodlfbaaDoor
