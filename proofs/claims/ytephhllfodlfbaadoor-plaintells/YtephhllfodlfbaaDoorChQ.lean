/-
  path's every, at the three levels.
-/
import Derived.Test.YtephhllfodlfbaaDoorEvr
import Derived.Test.YtephhllfodlfbaaDoorTfA
import Derived.Test.YtephhllfodlfbaaDoorPkB
import Derived.Test.YtephhllfodlfbaaDoorRcE
namespace Go.Proofs.YtephhllfodlfbaaDoor
open Go.RowKit Go.Shelf

theorem mem_tests {α : Type} {p : Pl.Pth α} {t : Pl.Tst α} (h : t ∈ p.tests) : ∃ s ∈ p.steps, t ∈ s.tests := by
  unfold Pl.Pth.tests at h
  exact List.mem_flatMap.1 h
theorem tests_mem {α : Type} {ok : List α → Prop} {l : List (Pl.Pth α)} (h : Inner ok l) : ∀ p ∈ l, ∀ t ∈ p.tests, Pl.kList t.kind = true → ok t.list := fun p hp t ht hk => by
  obtain ⟨s, hs, hts⟩ := mem_tests ht
  exact h p hp s hs t hts hk
theorem kinds_path {α : Type} {g : List α → Bool} {l : List (Pl.Pth α)} (h : Pl.evUp Pl.pKinds g l = true) : ∀ p ∈ l, ∀ t ∈ p.tests, Pl.isKind t.kind = true := fun p hp t ht => by
  unfold Pl.evUp at h
  rw [List.all_eq_true] at h
  have h1 := h p hp
  rw [Bool.and_eq_true] at h1
  have h2 := h1.1
  unfold Pl.pKinds at h2
  rw [Bool.and_eq_true, List.all_eq_true, List.all_eq_true] at h2
  exact h2.2 t ht
theorem kinds_inner {α : Type} {g : List α → Bool} {l : List (Pl.Pth α)} (h : Pl.evUp Pl.pKinds g l = true) : ∀ p ∈ l, ∀ t ∈ p.tests, Pl.kList t.kind = true → g t.list = true := fun p hp t ht hk => by
  unfold Pl.evUp at h
  rw [List.all_eq_true] at h
  have h1 := h p hp
  rw [Bool.and_eq_true] at h1
  have h2 := h1.2
  unfold Pl.inner at h2
  rw [List.all_eq_true] at h2
  have h3 := h2 t ht
  rw [hk] at h3
  exact h3
abbrev P1 : List Pl.D1 → Prop := fun l => Pl.fitUp (fun _ => false) l = true
abbrev P2 : List Pl.D2 → Prop := fun l => Pl.fitUp (Pl.fitUp fun _ => false) l = true
abbrev Q1 : List Pl.D1 → Prop := fun l => P1 l ∧ Pl.evUp Pl.pKinds (fun _ => true) l = true
abbrev Q2 : List Pl.D2 → Prop := fun l => P2 l ∧ Pl.evUp Pl.pKinds (Pl.evUp Pl.pKinds fun _ => true) l = true
theorem evKinds_3 (w : World) (v : Value) (l : List Pl.D3) (h : A3 w v l) (hF : FormsAt w) (hf : Pl.fit3 l = true) : Calls Tryd.prog 26 #[v, .func (.func 27) #[] #[]] w fun e w' => e = .returned (.bool (Pl.kind3 l)) ∧ Below w.heap.size w w' :=
  every30_up isL_2 Pl.pKinds (fun _ => True) P2 _ (fun W v u p hs hu _ _ => hasKinds_any isL_2 v u p W hs hu)
    (fun w v l h hF hl => every30_up isL_1 Pl.pKinds (fun _ => True) P1 _ (fun W v u p hs hu _ _ => hasKinds_any isL_1 v u p W hs hu)
      (fun w v l h hF hl => every30_up isL_z Pl.pKinds (fun _ => True) (fun _ => False) (fun _ => true) (fun W v u p hs hu _ _ => hasKinds_any isL_z v u p W hs hu) (fun _ _ _ _ _ hx => hx.elim) w v l h hF (fun _ _ => trivial) (tests_mem (ok := fun _ => False) (inner_fit hl fun _ hx => by cases hx)))
      w v l h hF (fun _ _ => trivial) (tests_mem (inner_fit hl fun _ hx => hx)))
    w v l h hF (fun _ _ => trivial) (tests_mem (inner_fit hf fun _ hx => hx))
theorem evForms_3 (w : World) (v : Value) (l : List Pl.D3) (h : A3 w v l) (hF : FormsAt w) (hf : Pl.fit3 l = true) (hk : Pl.kind3 l = true) : Calls Tryd.prog 26 #[v, .func (.func 28) #[] #[]] w fun e w' => e = .returned (.bool (Pl.form3 l)) ∧ Below w.heap.size w w' :=
  every31_up isL_2 _ (fun p => ∀ t ∈ p.tests, Pl.isKind t.kind = true) Q2 _ (fun W v u p hs hu hF hp => hasForm_any isL_2 v u p W hs hu hF hp)
    (fun w v l h hF hl => every31_up isL_1 _ (fun p => ∀ t ∈ p.tests, Pl.isKind t.kind = true) Q1 _ (fun W v u p hs hu hF hp => hasForm_any isL_1 v u p W hs hu hF hp)
      (fun w v l h hF hl => every31_up isL_z _ (fun p => ∀ t ∈ p.tests, Pl.isKind t.kind = true) (fun _ => False) (fun _ => true) (fun W v u p hs hu hF hp => hasForm_any isL_z v u p W hs hu hF hp) (fun _ _ _ _ _ hx => hx.elim) w v l h hF (kinds_path hl.2) (tests_mem (ok := fun _ => False) (inner_fit hl.1 fun _ hx => by cases hx)))
      w v l h hF (kinds_path hl.2) (fun p hp t ht hkl => ⟨tests_mem (inner_fit hl.1 fun _ hx => hx) p hp t ht hkl, kinds_inner hl.2 p hp t ht hkl⟩))
    w v l h hF (kinds_path hk) (fun p hp t ht hkl => ⟨tests_mem (ok := P2) (inner_fit hf fun _ hx => hx) p hp t ht hkl, kinds_inner hk p hp t ht hkl⟩)
def cnt3 : List Pl.D3 → Bool := Pl.evUp (Pl.pCounts nB) (Pl.evUp (Pl.pCounts nB) (Pl.evUp (Pl.pCounts nB) fun _ => true))
theorem evCounts_3 (w : World) (v : Value) (l : List Pl.D3) (h : A3 w v l) (hF : FormsAt w) (hf : Pl.fit3 l = true) (hk : Pl.kind3 l = true) : Calls Tryd.prog 26 #[v, .func (.func 29) #[] #[]] w fun e w' => e = .returned (.bool (cnt3 l)) ∧ Below w.heap.size w w' :=
  every32_up isL_2 _ (fun p => ∀ t ∈ p.tests, Pl.isKind t.kind = true) Q2 _ (fun W v u p hs hu hF hp => hasCounts_any isL_2 v u p W hs hu hF hp)
    (fun w v l h hF hl => every32_up isL_1 _ (fun p => ∀ t ∈ p.tests, Pl.isKind t.kind = true) Q1 _ (fun W v u p hs hu hF hp => hasCounts_any isL_1 v u p W hs hu hF hp)
      (fun w v l h hF hl => every32_up isL_z _ (fun p => ∀ t ∈ p.tests, Pl.isKind t.kind = true) (fun _ => False) (fun _ => true) (fun W v u p hs hu hF hp => hasCounts_any isL_z v u p W hs hu hF hp) (fun _ _ _ _ _ hx => hx.elim) w v l h hF (kinds_path hl.2) (tests_mem (ok := fun _ => False) (inner_fit hl.1 fun _ hx => by cases hx)))
      w v l h hF (kinds_path hl.2) (fun p hp t ht hkl => ⟨tests_mem (inner_fit hl.1 fun _ hx => hx) p hp t ht hkl, kinds_inner hl.2 p hp t ht hkl⟩))
    w v l h hF (kinds_path hk) (fun p hp t ht hkl => ⟨tests_mem (ok := P2) (inner_fit hf fun _ hx => hx) p hp t ht hkl, kinds_inner hk p hp t ht hkl⟩)
end Go.Proofs.YtephhllfodlfbaaDoor
/-
  path.Check, put together.
-/
namespace Go.Proofs.YtephhllfodlfbaaDoor
open Go.RowKit

def chkP (l : List Pl.D3) : Int := Pl.pick4 (Pl.fit3 l) (Pl.kind3 l) (Pl.form3 l) (cnt3 l)
set_option maxRecDepth 100000 in
set_option maxHeartbeats 2000000 in
theorem check_pick (w : World) (v : Value) (l : List Pl.D3) (h : A3 w v l) (hF : FormsAt w) : Calls Tryd.prog 13 #[v] w fun e w' => e = .returned (.int .i64 (chkP l)) ∧ Below w.heap.size w w' := by
  obtain ⟨a, c, rfl, -⟩ := isL_3.form h
  have HH : Hid (∀ W, Below w.heap.size w W → A3 W (.slice a l.length c) l) := fun W hW => isL_3.on h hW
  have HM := fun W hW => fits_3 W _ l (HH.out W hW) (hF.on hW)
  have HK := fun W hW => evKinds_3 W _ l (HH.out W hW) (hF.on hW)
  have HO := fun W hW => evForms_3 W _ l (HH.out W hW) (hF.on hW)
  have HN := fun W hW => evCounts_3 W _ l (HH.out W hW) (hF.on hW)
  have HC : Hid (chkP l = Pl.pick4 (Pl.fit3 l) (Pl.kind3 l) (Pl.form3 l) (cnt3 l)) := rfl
  generalize chkP l = E at *
  obtain ⟨bm, hbm⟩ : ∃ x, Pl.fit3 l = x := ⟨_, rfl⟩
  obtain ⟨bk, hbk⟩ : ∃ x, Pl.kind3 l = x := ⟨_, rfl⟩
  obtain ⟨bo, hbo⟩ : ∃ x, Pl.form3 l = x := ⟨_, rfl⟩
  obtain ⟨bn, hbn⟩ : ∃ x, cnt3 l = x := ⟨_, rfl⟩
  simp only [hbm, hbk, hbo, hbn] at HM HK HO HN HC
  have HM' : Hid _ := HM
  have HK' : Hid _ := HK
  have HO' : Hid _ := HO
  have HN' : Hid _ := HN
  clear HM HK HO HN h hF hbm hbk hbo hbn HH
  go_enter Tryd.func13, Tryd.ntmps13
  go_wp2_with fail
  refine (HM'.out _ (Below.refl _ _)).mono ?_
  rintro e w1 ⟨rfl, h1⟩
  have HB : Hid (Below w.heap.size w w1) := h1
  clear h1
  cases bm with
  | false =>
    have HE : Hid (E = 2) := HC.out
    go_wp2
    go_ret
    exact ⟨by rw [HE.out]; rfl, HB.out⟩
  | true =>
    go_wp2_with fail
    refine (HK'.out _ HB.out (by first | rfl | trivial)).mono ?_
    rintro e w2 ⟨rfl, h1⟩
    replace HB : Hid (Below w.heap.size w w2) := below_trans HB.out h1
    clear h1
    cases bk with
    | false =>
      have HE : Hid (E = 4) := HC.out
      go_wp2
      go_ret
      exact ⟨by rw [HE.out]; rfl, HB.out⟩
    | true =>
      go_wp2_with fail
      refine (HO'.out _ HB.out (by first | rfl | trivial) (by first | rfl | trivial)).mono ?_
      rintro e w3 ⟨rfl, h1⟩
      replace HB : Hid (Below w.heap.size w w3) := below_trans HB.out h1
      clear h1
      cases bo with
      | false =>
        have HE : Hid (E = 1) := HC.out
        go_wp2
        go_ret
        exact ⟨by rw [HE.out]; rfl, HB.out⟩
      | true =>
        go_wp2_with fail
        refine (HN'.out _ HB.out (by first | rfl | trivial) (by first | rfl | trivial)).mono ?_
        rintro e w4 ⟨rfl, h1⟩
        replace HB : Hid (Below w.heap.size w w4) := below_trans HB.out h1
        clear h1
        cases bn with
        | false =>
          have HE : Hid (E = 3) := HC.out
          go_wp2
          go_ret
          exact ⟨by rw [HE.out]; rfl, HB.out⟩
        | true =>
          have HE : Hid (E = 0) := HC.out
          go_wp2
          go_ret
          exact ⟨by rw [HE.out]; rfl, HB.out⟩
end Go.Proofs.YtephhllfodlfbaaDoor
/-
  path.Check answers just what the document says.
-/
namespace Go.Proofs.YtephhllfodlfbaaDoor
open Go.RowKit

theorem nB_zero : nB 0 0 = true := by decide
theorem cnt_test {α : Type} {c n : List α → Bool} (t : Pl.Tst α) (hf : tF t = true) (hc : Pl.kList t.kind = true → c t.list = n t.list) (h0 : n [] = true) : (cntT t && (!Pl.kList t.kind || c t.list)) = nthT n t := by
  unfold tF Pl.tForm at hf
  simp only [Bool.and_eq_true] at hf
  obtain ⟨⟨_, h3⟩, h4⟩ := hf
  unfold cntT nthT
  cases hl : Pl.kList t.kind with
  | true =>
    have hn : Pl.kNth t.kind = false := by
      simp [Pl.kList, Pl.kNth] at hl ⊢
      omega
    rw [hn] at h3 ⊢
    have hz : t.a = 0 ∧ t.b = 0 := by simpa using h3
    rw [hz.1, hz.2, nB_zero, hc hl]
    rfl
  | false =>
    rw [hl] at h4
    have hz : t.list.length = 0 := by simpa using h4
    rw [List.length_eq_zero_iff.1 hz, h0]
    cases hn : Pl.kNth t.kind with
    | true => simp
    | false =>
      rw [hn] at h3
      have hz : t.a = 0 ∧ t.b = 0 := by simpa using h3
      rw [hz.1, hz.2, nB_zero]
      rfl
theorem all_eq {β : Type} {l : List β} {f g : β → Bool} (h : ∀ x ∈ l, f x = g x) : l.all f = l.all g := by
  rw [Bool.eq_iff_iff, List.all_eq_true, List.all_eq_true]
  exact ⟨fun k x hx => by rw [← h x hx]; exact k x hx, fun k x hx => by rw [h x hx]; exact k x hx⟩
theorem forms_path {α : Type} {g : List α → Bool} {l : List (Pl.Pth α)} (h : Pl.evUp (Pl.pForm Pl.isName Pl.isValue) g l = true) : ∀ p ∈ l, ∀ t ∈ p.tests, tF t = true ∧ (Pl.kList t.kind = true → g t.list = true) := fun p hp t ht => by
  rw [form_eq, List.all_eq_true] at h
  have h1 := h p hp
  unfold formP at h1
  rw [List.all_eq_true] at h1
  obtain ⟨s, hs, hts⟩ := mem_tests ht
  have h2 := h1 s hs
  unfold formS at h2
  rw [Bool.and_eq_true, List.all_eq_true] at h2
  have h3 := h2.2 t hts
  unfold formT at h3
  rw [Bool.and_eq_true] at h3
  refine ⟨h3.1, fun hk => ?_⟩
  have := h3.2
  rw [hk] at this
  exact this
theorem cnt_level {α : Type} {g c n : List α → Bool} {l : List (Pl.Pth α)} (h : Pl.evUp (Pl.pForm Pl.isName Pl.isValue) g l = true) (hc : ∀ m, g m = true → c m = n m) (h0 : n [] = true) : Pl.evUp (Pl.pCounts nB) c l = nthL n l := by
  unfold Pl.evUp nthL
  refine all_eq fun p hp => ?_
  have e1 : (Pl.pCounts nB p && Pl.inner c p) = p.tests.all fun t => cntT t && (!Pl.kList t.kind || c t.list) := all_and _ _ _
  have e2 : nthP n p = p.tests.all (nthT n) := (tests_all p (nthT n)).symm
  rw [e1, e2]
  refine all_eq fun t ht => ?_
  obtain ⟨h1, h2⟩ := forms_path h p hp t ht
  exact cnt_test t h1 (fun hk => hc _ (h2 hk)) h0
theorem cnt3_eq {l : List Pl.D3} (h : Pl.form3 l = true) : cnt3 l = nth3 l := by
  refine cnt_level h (fun m hm => ?_) rfl
  refine cnt_level hm (fun m hm => ?_) rfl
  exact cnt_level hm (fun m _ => rfl) rfl
theorem chk_eq (l : List Pl.D3) : chkP l = chkList l := by
  unfold chkP chkList
  cases h : Pl.form3 l with
  | true => rw [cnt3_eq h]
  | false => unfold Pl.pick4; rfl
/-- path.Check and the document's own check answer the same -/
theorem pathCheck_any (w : World) (v : Value) (l : List Pl.D3) (h : A3 w v l) (hF : FormsAt w) : Calls Tryd.prog 13 #[v] w fun e w' => e = .returned (.int .i64 (chkList l)) ∧ Below w.heap.size w w' := by
  rw [← chk_eq]
  exact check_pick w v l h hF
end Go.Proofs.YtephhllfodlfbaaDoor
