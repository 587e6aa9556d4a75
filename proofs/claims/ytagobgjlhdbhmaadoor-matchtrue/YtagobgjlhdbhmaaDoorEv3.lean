/-
  path's every, at the three levels.
-/
import Derived.Test.YtagobgjlhdbhmaaDoorEvr
import Derived.Test.YtagobgjlhdbhmaaDoorFi3
import Derived.Test.YtagobgjlhdbhmaaDoorPkB
import Derived.Test.YtagobgjlhdbhmaaDoorRcE
namespace Go.Proofs.YtagobgjlhdbhmaaDoor
open Go.RowKit Go.Shelf

theorem mem_tests {α : Type} {p : Pl.Pth α} {t : Pl.Tst α} (h : t ∈ p.tests) : ∃ s ∈ p.steps, t ∈ s.tests := by
  unfold Pl.Pth.tests at h
  exact List.mem_flatMap.1 h
theorem tests_mem {α : Type} {ok : List α → Prop} {l : List (Pl.Pth α)} (h : Inner ok l) : ∀ p ∈ l, ∀ t ∈ p.tests, Pl.kList t.kind = true → ok t.list := fun p hp t ht hk => by
  obtain ⟨s, hs, hts⟩ := mem_tests ht
  exact h p hp s hs t hts hk
theorem kinds_path {α : Type} {g : List α → Bool} {l : List (Pl.Pth α)} (h : Pl.evUp Pl.pKinds g l = true) : ∀ p ∈ l, ∀ t ∈ p.tests, Pl.isKind t.kind = true := fun p hp t ht => by
  unfold Pl.evUp at h
  rw [List.all_eq_true] at h
  have h1 := h p hp
  rw [Bool.and_eq_true] at h1
  have h2 := h1.1
  unfold Pl.pKinds at h2
  rw [Bool.and_eq_true, List.all_eq_true, List.all_eq_true] at h2
  exact h2.2 t ht
theorem kinds_inner {α : Type} {g : List α → Bool} {l : List (Pl.Pth α)} (h : Pl.evUp Pl.pKinds g l = true) : ∀ p ∈ l, ∀ t ∈ p.tests, Pl.kList t.kind = true → g t.list = true := fun p hp t ht hk => by
  unfold Pl.evUp at h
  rw [List.all_eq_true] at h
  have h1 := h p hp
  rw [Bool.and_eq_true] at h1
  have h2 := h1.2
  unfold Pl.inner at h2
  rw [List.all_eq_true] at h2
  have h3 := h2 t ht
  rw [hk] at h3
  exact h3
abbrev P1 : List Pl.D1 → Prop := fun l => Pl.fitUp (fun _ => false) l = true
abbrev P2 : List Pl.D2 → Prop := fun l => Pl.fitUp (Pl.fitUp fun _ => false) l = true
abbrev Q1 : List Pl.D1 → Prop := fun l => P1 l ∧ Pl.evUp Pl.pKinds (fun _ => true) l = true
abbrev Q2 : List Pl.D2 → Prop := fun l => P2 l ∧ Pl.evUp Pl.pKinds (Pl.evUp Pl.pKinds fun _ => true) l = true
theorem evKinds_3 (w : World) (v : Value) (l : List Pl.D3) (h : A3 w v l) (hF : FormsAt w) (hf : Pl.fit3 l = true) : Calls Tryd.prog 26 #[v, .func (.func 27) #[] #[]] w fun e w' => e = .returned (.bool (Pl.kind3 l)) ∧ Below w.heap.size w w' :=
  every30_up isL_2 Pl.pKinds (fun _ => True) P2 _ (fun W v u p hs hu _ _ => hasKinds_any isL_2 v u p W hs hu)
    (fun w v l h hF hl => every30_up isL_1 Pl.pKinds (fun _ => True) P1 _ (fun W v u p hs hu _ _ => hasKinds_any isL_1 v u p W hs hu)
      (fun w v l h hF hl => every30_up isL_z Pl.pKinds (fun _ => True) (fun _ => False) (fun _ => true) (fun W v u p hs hu _ _ => hasKinds_any isL_z v u p W hs hu) (fun _ _ _ _ _ hx => hx.elim) w v l h hF (fun _ _ => trivial) (tests_mem (ok := fun _ => False) (inner_fit hl fun _ hx => by cases hx)))
      w v l h hF (fun _ _ => trivial) (tests_mem (inner_fit hl fun _ hx => hx)))
    w v l h hF (fun _ _ => trivial) (tests_mem (inner_fit hf fun _ hx => hx))
theorem evForms_3 (w : World) (v : Value) (l : List Pl.D3) (h : A3 w v l) (hF : FormsAt w) (hf : Pl.fit3 l = true) (hk : Pl.kind3 l = true) : Calls Tryd.prog 26 #[v, .func (.func 28) #[] #[]] w fun e w' => e = .returned (.bool (Pl.form3 l)) ∧ Below w.heap.size w w' :=
  every31_up isL_2 _ (fun p => ∀ t ∈ p.tests, Pl.isKind t.kind = true) Q2 _ (fun W v u p hs hu hF hp => hasForm_any isL_2 v u p W hs hu hF hp)
    (fun w v l h hF hl => every31_up isL_1 _ (fun p => ∀ t ∈ p.tests, Pl.isKind t.kind = true) Q1 _ (fun W v u p hs hu hF hp => hasForm_any isL_1 v u p W hs hu hF hp)
      (fun w v l h hF hl => every31_up isL_z _ (fun p => ∀ t ∈ p.tests, Pl.isKind t.kind = true) (fun _ => False) (fun _ => true) (fun W v u p hs hu hF hp => hasForm_any isL_z v u p W hs hu hF hp) (fun _ _ _ _ _ hx => hx.elim) w v l h hF (kinds_path hl.2) (tests_mem (ok := fun _ => False) (inner_fit hl.1 fun _ hx => by cases hx)))
      w v l h hF (kinds_path hl.2) (fun p hp t ht hkl => ⟨tests_mem (inner_fit hl.1 fun _ hx => hx) p hp t ht hkl, kinds_inner hl.2 p hp t ht hkl⟩))
    w v l h hF (kinds_path hk) (fun p hp t ht hkl => ⟨tests_mem (ok := P2) (inner_fit hf fun _ hx => hx) p hp t ht hkl, kinds_inner hk p hp t ht hkl⟩)
def cnt3 : List Pl.D3 → Bool := Pl.evUp (Pl.pCounts nB) (Pl.evUp (Pl.pCounts nB) (Pl.evUp (Pl.pCounts nB) fun _ => true))
theorem evCounts_3 (w : World) (v : Value) (l : List Pl.D3) (h : A3 w v l) (hF : FormsAt w) (hf : Pl.fit3 l = true) (hk : Pl.kind3 l = true) : Calls Tryd.prog 26 #[v, .func (.func 29) #[] #[]] w fun e w' => e = .returned (.bool (cnt3 l)) ∧ Below w.heap.size w w' :=
  every32_up isL_2 _ (fun p => ∀ t ∈ p.tests, Pl.isKind t.kind = true) Q2 _ (fun W v u p hs hu hF hp => hasCounts_any isL_2 v u p W hs hu hF hp)
    (fun w v l h hF hl => every32_up isL_1 _ (fun p => ∀ t ∈ p.tests, Pl.isKind t.kind = true) Q1 _ (fun W v u p hs hu hF hp => hasCounts_any isL_1 v u p W hs hu hF hp)
      (fun w v l h hF hl => every32_up isL_z _ (fun p => ∀ t ∈ p.tests, Pl.isKind t.kind = true) (fun _ => False) (fun _ => true) (fun W v u p hs hu hF hp => hasCounts_any isL_z v u p W hs hu hF hp) (fun _ _ _ _ _ hx => hx.elim) w v l h hF (kinds_path hl.2) (tests_mem (ok := fun _ => False) (inner_fit hl.1 fun _ hx => by cases hx)))
      w v l h hF (kinds_path hl.2) (fun p hp t ht hkl => ⟨tests_mem (inner_fit hl.1 fun _ hx => hx) p hp t ht hkl, kinds_inner hl.2 p hp t ht hkl⟩))
    w v l h hF (kinds_path hk) (fun p hp t ht hkl => ⟨tests_mem (ok := P2) (inner_fit hf fun _ hx => hx) p hp t ht hkl, kinds_inner hk p hp t ht hkl⟩)
end Go.Proofs.YtagobgjlhdbhmaaDoor
