/-
  The small document.
-/
import Derived.Test.YthlpcmgeelkncaaSamd
namespace Go.Proofs.Ythlpcmgeelkncaa
open Go.RowKit

def smallNs : List Pl.Nd :=
  [⟨-1, [108, 105, 115, 116], [116, 111, 112], [], []⟩, ⟨0, [105, 116, 101, 109], [], [[97]], []⟩, ⟨0, [105, 116, 101, 109], [], [[98]], []⟩, ⟨2, [108, 105, 110, 107], [], [], [([116, 111], [111, 110, 101, 32, 116, 119, 111])]⟩, ⟨0, [105, 116, 101, 109], [], [[97]], []⟩]

theorem strs_nil (w : World) : StrsAt w (.slice none 0 0) [] := ⟨none, 0, rfl, Or.inl rfl⟩
theorem ats_nil (w : World) : AtsAt w (.slice none 0 0) [] := ⟨none, 0, rfl, Or.inl rfl⟩
theorem strs_one {w : World} {b c : Nat} {s : List UInt8} (h : w.cell? ⟨b, 0, none⟩ = some (.string ⟨s.toArray⟩)) : StrsAt w (.slice (some ⟨b, 0, none⟩) 1 c) [s] := by
  refine ⟨_, c, rfl, Or.inr ⟨b, 0, rfl, fun i hi => ?_⟩⟩
  match i, hi with
  | 0, _ => exact h
theorem ats_one {w : World} {b c : Nat} {s t : List UInt8} (h : w.cell? ⟨b, 0, none⟩ = some (.string ⟨s.toArray⟩)) (h2 : w.cell? ⟨b, 1, none⟩ = some (.string ⟨t.toArray⟩)) : AtsAt w (.slice (some ⟨b, 0, none⟩) 1 c) [(s, t)] := by
  refine ⟨_, c, rfl, Or.inr ⟨b, 0, rfl, fun i hi => ?_⟩⟩
  match i, hi with
  | 0, _ => exact ⟨h, h2⟩

set_option maxRecDepth 100000 in
set_option maxHeartbeats 4000000 in
theorem small_any (w : World) : Calls Try.prog 41 #[] w fun e w' => ∃ v, e = .returned (.agg #[v]) ∧ DocAt w' v smallNs ∧ Below w.heap.size w w' := by
  go_enter Try.func41, Try.ntmps41
  go_wp2
  refine bodyPost_ret (v := .agg #[.slice (some ⟨w.heap.size + 1 + 1 + 1 + 1 + 1, 0, none⟩) 5 5]) (by simp [results, Try.results41, go_sem]) rfl
    ⟨_, rfl, ⟨⟨_, 5, rfl, Or.inr ⟨_, 0, rfl, fun i hi => ?_⟩⟩, ⟨_, _, _, rfl, Nat.le_refl _, by decide⟩, by decide, fun i hi => ?_⟩, ?_⟩
  · match i, hi with
    | 0, _ => exact ⟨_, _, by simp [go_sem, smallNs], by simp [go_sem, smallNs], by simp [go_sem, smallNs], by simp [go_sem], by simp [go_sem], strs_nil _, ats_nil _⟩
    | 1, _ => exact ⟨.slice (some ⟨w.heap.size + 1, 0, none⟩) 1 1, .slice none 0 0, by simp [go_sem, smallNs], by simp [go_sem, smallNs], by simp [go_sem, smallNs], by simp [go_sem], by simp [go_sem], strs_one (by simp [go_sem]), ats_nil _⟩
    | 2, _ => exact ⟨.slice (some ⟨w.heap.size + 1 + 1, 0, none⟩) 1 1, .slice none 0 0, by simp [go_sem, smallNs], by simp [go_sem, smallNs], by simp [go_sem, smallNs], by simp [go_sem], by simp [go_sem], strs_one (by simp [go_sem]), ats_nil _⟩
    | 3, _ => exact ⟨.slice none 0 0, .slice (some ⟨w.heap.size + 1 + 1 + 1, 0, none⟩) 1 1, by simp [go_sem, smallNs], by simp [go_sem, smallNs], by simp [go_sem, smallNs], by simp [go_sem], by simp [go_sem], strs_nil _, ats_one (by simp [go_sem]) (by simp [go_sem])⟩
    | 4, _ => exact ⟨.slice (some ⟨w.heap.size + 1 + 1 + 1 + 1, 0, none⟩) 1 1, .slice none 0 0, by simp [go_sem, smallNs], by simp [go_sem, smallNs], by simp [go_sem, smallNs], by simp [go_sem], by simp [go_sem], strs_one (by simp [go_sem]), ats_nil _⟩
  · have h : ∀ x ∈ smallNs, x.cls.length ≤ 6 ∧ x.ats.length ≤ 4 := by decide
    have := h _ (List.getElem_mem hi)
    exact ⟨by unfold maxLen; omega, by unfold maxLen; omega⟩
  · exact below_trans (two_cells w _ _ _) (two_cells _ _ _ _)
end Go.Proofs.Ythlpcmgeelkncaa
