/-
  A function that goes over an iterator in a loop: what it leaves behind, mark by mark.
-/
import Derived.Test.YtagobgjlhdbhmaaDoorPkC
namespace Go.Proofs.YtagobgjlhdbhmaaDoor
open Go.RowKit Go.Shelf

/-- the marks among the deferred calls: each its own block, from B on, with no call in it -/
def Marks (B : Nat) (W : World) (ds : List Deferred) : Prop := ∃ Ds : List Nat, ds = Ds.map (fun D => { target := .collected D, args := #[] }) ∧ Ds.Nodup ∧ ∀ D ∈ Ds, B ≤ D ∧ W.heap[D]? = some (.deferred (some []))
theorem Marks.nil (B : Nat) (W : World) : Marks B W [] := ⟨[], rfl, List.nodup_nil, fun D h => by cases h⟩
/-- they stand wherever what is no cells lies as it lay -/
theorem Marks.keeps {B : Nat} {W W' : World} {ds : List Deferred} (h : Marks B W ds) (hk : KeepsOthers W W') : Marks B W' ds := by
  obtain ⟨Ds, h1, h2, h3⟩ := h
  exact ⟨Ds, h1, h2, fun D hD => ⟨(h3 D hD).1, hk.same D _ (h3 D hD).2 rfl⟩⟩
theorem Marks.cons {B D : Nat} {W : World} {ds : List Deferred} (h : Marks B W ds) (hB : B ≤ D) (hD : W.heap[D]? = some (.deferred (some []))) (hn : ∀ D' , ({ target := .collected D', args := #[] } : Deferred) ∈ ds → D' ≠ D) : Marks B W ({ target := .collected D, args := #[] } :: ds) := by
  obtain ⟨Ds, rfl, h2, h3⟩ := h
  refine ⟨D :: Ds, rfl, List.nodup_cons.2 ⟨fun hm => hn D (List.mem_map.2 ⟨D, hm, rfl⟩) rfl, h2⟩, fun E hE => ?_⟩
  rcases List.mem_cons.1 hE with rfl | hE
  · exact ⟨hB, hD⟩
  · exact h3 E hE
theorem Marks.lt {B : Nat} {W : World} {ds : List Deferred} (h : Marks B W ds) : ∀ D', ({ target := .collected D', args := #[] } : Deferred) ∈ ds → D' < W.heap.size := by
  obtain ⟨Ds, rfl, _, h3⟩ := h
  intro D' hD
  obtain ⟨E, hE, he⟩ := List.mem_map.1 hD
  simp only [Deferred.mk.injEq, Target.collected.injEq, and_true] at he
  subst he
  exact (Array.getElem?_eq_some_iff.1 (h3 _ hE).2).1
/-- the way out over all marks -/
theorem leaves_marks {F : Fence} {n : Nat} {P : Program} {fn : Func} {tmps : Array Value} {R : Ending → World → Prop} {B n₀ : Nat} (hn : n₀ ≤ B) : ∀ (Ds : List Nat) (W : World), Ds.Nodup → (∀ D ∈ Ds, B ≤ D ∧ W.heap[D]? = some (.deferred (some []))) →
    (∀ W', Below n₀ W W' → (∀ (a : Addr) v, W.cell? a = some v → W'.cell? a = some v) → LeavesIn F n P fn tmps R [] .returning W') → LeavesInM F n P fn tmps R (Ds.map fun D => { target := .collected D, args := #[] }) .returning W := by
  intro Ds
  induction Ds with
  | nil => exact fun W _ _ h => h W (Below.refl _ _) (fun _ _ h => h)
  | cons D Ds ih =>
    intro W hnd hD h
    obtain ⟨hB, hK⟩ := hD D (by simp)
    obtain ⟨hnot, hnd2⟩ := List.nodup_cons.1 hnd
    refine ⟨by simp, .inl ⟨D, _, rfl, run_takeDeferred hK, ih _ hnd2 (fun E hE => ⟨(hD E (by simp [hE])).1, ?_⟩) fun W' hb hc => h W' ?_ ?_⟩⟩
    · have hne : E ≠ D := fun e => hnot (e ▸ hE)
      have := (grownBy_putObj' W D (.deferred none)).block E (Array.getElem?_eq_some_iff.1 (hD E (by simp [hE])).2).1 (by intro e; exact hne (by injection e))
      exact this.trans (hD E (by simp [hE])).2
    · exact ((Below.refl n₀ W).grown (grownBy_putObj' W D (.deferred none)) (by have := (Array.getElem?_eq_some_iff.1 hK).1; omega) (fun k e => by cases e; omega)).trans hb
    · intro a v hv
      exact hc a v (cell_kept hv (grownBy_putObj' W D (.deferred none)) (fun r e => by cases e; exact ⟨_, hK, rfl⟩))
end Go.Proofs.YtagobgjlhdbhmaaDoor
