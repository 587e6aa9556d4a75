/-
  Right lists of paths, in plain form; what is read was shown so.
-/
import Derived.Test.YtbfkopjpfkgjhaaGreatDoorShE
import Derived.Test.YtbfkopjpfkgjhaaGreatDoorRdB
namespace Go.Proofs.YtbfkopjpfkgjhaaGreatDoor

/-- right tests, steps, paths, lists: over what their lists must be -/
def RT {α : Type} (R : List α → Prop) (t : Pl.Tst α) : Prop := Pl.isKind t.kind = true ∧ tF t = true ∧ nB t.a t.b = true ∧ (Pl.kList t.kind = true → R t.list)
def RS {α : Type} (R : List α → Prop) (s : Pl.Stp α) : Prop := (s.tag.isEmpty || Pl.isName s.tag) = true ∧ s.tests.length ≤ 6 ∧ ∀ t ∈ s.tests, RT R t
def RP {α : Type} (R : List α → Prop) (p : Pl.Pth α) : Prop := (1 ≤ p.steps.length ∧ p.steps.length ≤ 5 ∧ p.links.length + 1 = p.steps.length) ∧ (∀ k ∈ p.links, Pl.isLink k = true) ∧ ∀ s ∈ p.steps, RS R s
def RL {α : Type} (R : List α → Prop) (l : List (Pl.Pth α)) : Prop := (1 ≤ l.length ∧ l.length ≤ 5) ∧ ∀ p ∈ l, RP R p
theorem list_of_form {α : Type} {t : Pl.Tst α} (h : tF t = true) (hk : Pl.kList t.kind = false) : t.list = [] := by
  unfold tF Pl.tForm at h
  simp only [Bool.and_eq_true] at h
  have := h.2
  rw [hk] at this
  have hz : t.list.length = 0 := by simpa using this
  exact List.length_eq_zero_iff.1 hz
theorem level_iff {α : Type} {f k fm n : List α → Bool} {R : List α → Prop} (hR : ∀ m, R m ↔ (f m = true ∧ k m = true ∧ fm m = true ∧ n m = true)) (h0 : n [] = true) (l : List (Pl.Pth α)) :
    RL R l ↔ (Pl.fitUp f l = true ∧ Pl.evUp Pl.pKinds k l = true ∧ Pl.evUp (Pl.pForm Pl.isName Pl.isValue) fm l = true ∧ nthL n l = true) := by
  rw [fit_eq, form_eq]
  unfold Pl.evUp nthL
  constructor
  · rintro ⟨h1, h2⟩
    refine ⟨?_, ?_, ?_, ?_⟩
    · rw [decide_eq_true h1, Bool.true_and, List.all_eq_true]
      intro p hp
      obtain ⟨a1, a2, a3⟩ := h2 p hp
      unfold fitP
      rw [decide_eq_true a1, Bool.true_and, List.all_eq_true]
      intro s hs
      obtain ⟨b1, b2, b3⟩ := a3 s hs
      unfold fitS
      rw [decide_eq_true b2, Bool.true_and, List.all_eq_true]
      intro t ht
      obtain ⟨c1, c2, c3, c4⟩ := b3 t ht
      unfold fitT
      cases hk : Pl.kList t.kind with
      | false => rfl
      | true => exact ((hR _).1 (c4 hk)).1
    · rw [List.all_eq_true]
      intro p hp
      obtain ⟨a1, a2, a3⟩ := h2 p hp
      unfold Pl.pKinds Pl.inner
      rw [Bool.and_eq_true, Bool.and_eq_true, List.all_eq_true, List.all_eq_true, List.all_eq_true]
      refine ⟨⟨a2, fun t ht => ?_⟩, fun t ht => ?_⟩
      · obtain ⟨s, hs, hts⟩ := mem_tests ht
        exact ((a3 s hs).2.2 t hts).1
      · obtain ⟨s, hs, hts⟩ := mem_tests ht
        obtain ⟨c1, c2, c3, c4⟩ := (a3 s hs).2.2 t hts
        cases hk : Pl.kList t.kind with
        | false => rfl
        | true => exact ((hR _).1 (c4 hk)).2.1
    · rw [List.all_eq_true]
      intro p hp
      obtain ⟨a1, a2, a3⟩ := h2 p hp
      unfold formP
      rw [List.all_eq_true]
      intro s hs
      obtain ⟨b1, b2, b3⟩ := a3 s hs
      unfold formS
      rw [Bool.and_eq_true, List.all_eq_true]
      refine ⟨b1, fun t ht => ?_⟩
      obtain ⟨c1, c2, c3, c4⟩ := b3 t ht
      unfold formT
      rw [c2]
      cases hk : Pl.kList t.kind with
      | false => rfl
      | true => exact ((hR _).1 (c4 hk)).2.2.1
    · rw [List.all_eq_true]
      intro p hp
      obtain ⟨a1, a2, a3⟩ := h2 p hp
      unfold nthP
      rw [List.all_eq_true]
      intro s hs
      unfold nthS
      rw [List.all_eq_true]
      intro t ht
      obtain ⟨c1, c2, c3, c4⟩ := (a3 s hs).2.2 t ht
      unfold nthT
      rw [c3, Bool.true_and]
      cases hk : Pl.kList t.kind with
      | false => rw [list_of_form c2 hk]; exact h0
      | true => exact ((hR _).1 (c4 hk)).2.2.2
  · rintro ⟨h1, h2, h3, h4⟩
    rw [Bool.and_eq_true, decide_eq_true_eq, List.all_eq_true] at h1
    rw [List.all_eq_true] at h2 h3 h4
    refine ⟨h1.1, fun p hp => ?_⟩
    have a1 := h1.2 p hp
    have a2 := h2 p hp
    have a3 := h3 p hp
    have a4 := h4 p hp
    unfold fitP at a1
    unfold Pl.pKinds Pl.inner at a2
    unfold formP at a3
    unfold nthP at a4
    rw [Bool.and_eq_true, decide_eq_true_eq, List.all_eq_true] at a1
    rw [Bool.and_eq_true, Bool.and_eq_true, List.all_eq_true, List.all_eq_true, List.all_eq_true] at a2
    rw [List.all_eq_true] at a3 a4
    refine ⟨a1.1, a2.1.1, fun s hs => ?_⟩
    have b1 := a1.2 s hs
    have b3 := a3 s hs
    have b4 := a4 s hs
    unfold fitS at b1
    unfold formS at b3
    unfold nthS at b4
    rw [Bool.and_eq_true, decide_eq_true_eq, List.all_eq_true] at b1
    rw [Bool.and_eq_true, List.all_eq_true] at b3
    rw [List.all_eq_true] at b4
    refine ⟨b3.1, b1.1, fun t ht => ?_⟩
    have hm : t ∈ p.tests := List.mem_flatMap.2 ⟨s, hs, ht⟩
    have c1 := b1.2 t ht
    have c3 := b3.2 t ht
    have c4 := b4 t ht
    unfold fitT at c1
    unfold formT at c3
    unfold nthT at c4
    rw [Bool.and_eq_true] at c3 c4
    refine ⟨a2.1.2 t hm, c3.1, c4.1, fun hk => (hR _).2 ?_⟩
    have c2 := a2.2 t hm
    rw [hk] at c1 c2
    have c5 := c3.2
    rw [hk] at c5
    exact ⟨c1, c2, c5, c4.2⟩
def R0 : List Unit → Prop := fun _ => False
def R1 : List Pl.D1 → Prop := RL R0
def R2 : List Pl.D2 → Prop := RL R1
def R3 : List Pl.D3 → Prop := RL R2
theorem R3_iff (l : List Pl.D3) : R3 l ↔ chkList l = 0 := by
  have h1 : ∀ m, R1 m ↔ _ := fun m => level_iff (f := fun _ => false) (k := fun _ => true) (fm := fun _ => true) (n := fun _ => true) (R := R0) (fun m => by simp [R0]) rfl m
  have h2 : ∀ m, R2 m ↔ _ := fun m => level_iff h1 rfl m
  have h3 : R3 l ↔ _ := level_iff h2 rfl l
  rw [h3]
  constructor
  · rintro ⟨a, b, c, d⟩
    show Pl.pick4 _ _ _ _ = 0
    rw [show Pl.fit3 l = true from a, show Pl.kind3 l = true from b, show Pl.form3 l = true from c, show nth3 l = true from d]
    rfl
  · intro h
    exact pick4_zero h
end Go.Proofs.YtbfkopjpfkgjhaaGreatDoor
/-
  What is read was shown so, and it is right: level by level, in plain form.
-/
namespace Go.Proofs.YtbfkopjpfkgjhaaGreatDoor

/-- steps behind the first, each behind its link -/
def shSteps {α : Type} (g : List α → List UInt8) : List (Pl.Stp α) → List Int → List UInt8
  | s :: ss, k :: ks => Pl.lnk k.toNat ++ Pl.showS g s ++ shSteps g ss ks
  | _, _ => []
theorem shSteps_snoc {α : Type} (g : List α → List UInt8) : ∀ (ss : List (Pl.Stp α)) (ks : List Int) (s : Pl.Stp α) (k : Int), ss.length = ks.length → shSteps g (ss ++ [s]) (ks ++ [k]) = shSteps g ss ks ++ Pl.lnk k.toNat ++ Pl.showS g s
  | [], [], s, k, _ => by simp [shSteps]
  | a :: ss, b :: ks, s, k, h => by
    have := shSteps_snoc g ss ks s k (by simpa using h)
    simp only [List.cons_append, shSteps, this, List.append_assoc]
  | [], _ :: _, _, _, h => by simp at h
  | _ :: _, [], _, _, h => by simp at h
theorem pTo_eq {α : Type} (g : List α → List UInt8) (s : Pl.Stp α) (ss : List (Pl.Stp α)) (ks : List Int) (h : ss.length = ks.length) : ∀ k, k ≤ ss.length → Pl.pTo g ⟨s :: ss, ks⟩ (k + 1) = Pl.showS g s ++ shSteps g (ss.take k) (ks.take k)
  | 0, _ => by
    rw [Pl.pTo_next g ⟨s :: ss, ks⟩ (by simp)]
    simp [Pl.pTo, shSteps]
  | k + 1, hk => by
    have ih := pTo_eq g s ss ks h k (by omega)
    have hks : k < ks.length := by omega
    have hkk : k < ss.length := by omega
    rw [Pl.pTo_next g ⟨s :: ss, ks⟩ (by simp; omega), ih, if_neg (by omega)]
    rw [List.take_succ_eq_append_getElem hkk, List.take_succ_eq_append_getElem hks, shSteps_snoc g _ _ _ _ (by simp; omega)]
    have e1 : ks.getD (k + 1 - 1) 0 = ks[k] := by
      rw [List.getD_eq_getElem?_getD, Nat.add_sub_cancel, List.getElem?_eq_getElem hks]
      rfl
    dsimp only
    rw [e1]
    simp
theorem showP_eq {α : Type} (g : List α → List UInt8) (s : Pl.Stp α) (ss : List (Pl.Stp α)) (ks : List Int) (h : ss.length = ks.length) : Pl.showP g ⟨s :: ss, ks⟩ = Pl.showS g s ++ shSteps g ss ks := by
  have := pTo_eq g s ss ks h ss.length (Nat.le_refl _)
  rw [List.take_of_length_le (Nat.le_refl _), List.take_of_length_le (by omega)] at this
  exact this
theorem lTo_eq {α : Type} (g : List α → List UInt8) (p : Pl.Pth α) (ps : List (Pl.Pth α)) : ∀ k, k ≤ ps.length → Pl.lTo g (p :: ps) (k + 1) = Pl.showP g p ++ (ps.take k).flatMap (fun q => [44, 32] ++ Pl.showP g q)
  | 0, _ => by
    rw [Pl.lTo_next g (p :: ps) (by simp)]
    simp [Pl.lTo]
  | k + 1, hk => by
    have ih := lTo_eq g p ps k (by omega)
    have hkk : k < ps.length := by omega
    rw [Pl.lTo_next g (p :: ps) (by simp; omega), ih, if_neg (by omega), Pl.flat_next _ hkk]
    simp
theorem showL_eq {α : Type} (g : List α → List UInt8) (p : Pl.Pth α) (ps : List (Pl.Pth α)) : Pl.showL g (p :: ps) = Pl.showP g p ++ ps.flatMap (fun q => [44, 32] ++ Pl.showP g q) := by
  have := lTo_eq g p ps ps.length (Nat.le_refl _)
  rw [List.take_of_length_le (Nat.le_refl _)] at this
  exact this
theorem link_sound : ∀ (f : Nat) (s : List UInt8) (k : Nat) (r : List UInt8), Pl.rdLinkFrom f s = some (k, r) → s = Pl.lnk k ++ r ∧ 1 ≤ k ∧ k ≤ f
  | 0, s, k, r, h => by simp [Pl.rdLinkFrom] at h
  | f + 1, s, k, r, h => by
    unfold Pl.rdLinkFrom at h
    split at h
    · rename_i r' e
      simp only [Option.some.injEq, Prod.mk.injEq] at h
      obtain ⟨rfl, rfl⟩ := h
      exact ⟨(Pl.tk_iff _ _ _).1 e, by omega, by omega⟩
    · obtain ⟨a, b, c⟩ := link_sound f s k r h
      exact ⟨a, b, by omega⟩
theorem begin_sound : ∀ (f : Nat) (s : List UInt8) (k : Nat) (r : List UInt8), f ≤ 15 → Pl.rdBeginFrom f s = some (k, r) → s = fBegin k ++ r ∧ 1 ≤ k ∧ k ≤ 15
  | 0, s, k, r, _, h => by simp [Pl.rdBeginFrom] at h
  | f + 1, s, k, r, hf, h => by
    unfold Pl.rdBeginFrom at h
    split at h
    · rename_i r' e
      simp only [Option.some.injEq, Prod.mk.injEq] at h
      obtain ⟨rfl, rfl⟩ := h
      exact ⟨(Pl.tk_iff _ _ _).1 e, by omega, by omega⟩
    · exact begin_sound f s k r (by omega) h
theorem sign_sound (k0 : Nat) : ∀ (f : Nat) (s : List UInt8) (k : Nat) (r : List UInt8), f ≤ 15 → Pl.rdSignFrom k0 f s = some (k, r) → s = fSign k ++ r ∧ fBegin k = fBegin k0 ∧ 1 ≤ k ∧ k ≤ 15
  | 0, s, k, r, _, h => by simp [Pl.rdSignFrom] at h
  | f + 1, s, k, r, hf, h => by
    unfold Pl.rdSignFrom at h
    split at h
    · rename_i hb
      split at h
      · rename_i r' e
        simp only [Option.some.injEq, Prod.mk.injEq] at h
        obtain ⟨rfl, rfl⟩ := h
        exact ⟨(Pl.tk_iff _ _ _).1 e, hb, by omega, by omega⟩
      · exact sign_sound k0 f s k r (by omega) h
    · cases h
theorem begin_name : ∀ k m : Fin 16, fBegin m.1 = fBegin k.1 → 1 ≤ k.1 → 1 ≤ m.1 → Pl.kName (m.1 : Int) = Pl.kName (k.1 : Int) := by decide
theorem nB_of {a b : Int} (ha : Nt.Pl.inB a) (hb : Nt.Pl.inB b) : nB a b = true := by
  obtain ⟨a1, a2⟩ := ha
  obtain ⟨b1, b2⟩ := hb
  simp [nB, within, a1, a2, b1, b2]
theorem inB_of {a b : Int} (h : nB a b = true) : Nt.Pl.inB a ∧ Nt.Pl.inB b := by
  simp [nB, within] at h
  exact ⟨⟨h.1.1, h.1.2⟩, ⟨h.2.1, h.2.2⟩⟩
/-- reading that is sound -/
def Sound {α : Type} (rl : List UInt8 → Option (List α × List UInt8)) (g : List α → List UInt8) (R : List α → Prop) : Prop := ∀ s l r, rl s = some (l, r) → s = g l ++ r ∧ R l
section
variable {α : Type} {rl : List UInt8 → Option (List α × List UInt8)} {g : List α → List UInt8} {R : List α → Prop}
theorem test_sound (hg0 : g [] = []) (h : Sound rl g R) {k : Nat} (hk : 1 ≤ k ∧ k ≤ 15) {s r : List UInt8} {t : Pl.Tst α} (hr : Pl.rdTest rl k s = some (t, r)) : fBegin k ++ s = Pl.showT g t ++ r ∧ RT R t := by
  unfold Pl.rdTest at hr
  split at hr
  · cases hr
  rename_i name l1 e1
  split at hr
  · cases hr
  rename_i m l2 e2
  split at hr
  · cases hr
  rename_i value l3 e3
  split at hr
  · cases hr
  rename_i x l4 e4
  split at hr
  · cases hr
  rename_i list l5 e5
  split at hr
  · cases hr
  rename_i l6 e6
  simp only [Option.some.injEq, Prod.mk.injEq] at hr
  obtain ⟨rfl, rfl⟩ := hr
  obtain ⟨s2, sb, m1, m15⟩ := sign_sound k _ _ _ _ (by omega) e2
  have hnm : Pl.kName (m : Int) = Pl.kName (k : Int) := begin_name ⟨k, by omega⟩ ⟨m, by omega⟩ sb hk.1 m1
  have s6 := (Pl.tk_iff _ _ _).1 e6
  have a1 : s = name ++ l1 ∧ Pl.asked (Pl.kName (m : Int)) (Pl.isName name) name.isEmpty = true := by
    unfold Pl.rdT1 at e1
    rw [hnm]
    split at e1
    · rename_i hn
      obtain ⟨b1, b2, b3⟩ := (Pl.rdName_iff _ _ _).1 e1
      exact ⟨b2, by unfold Pl.asked; rw [if_pos hn]; exact b1⟩
    · rename_i hn
      simp only [Option.some.injEq, Prod.mk.injEq] at e1
      obtain ⟨rfl, rfl⟩ := e1
      exact ⟨rfl, by unfold Pl.asked; rw [if_neg hn]; rfl⟩
  have a2 : l2 = Pl.tValue (⟨m, name, value, x.1, x.2, list⟩ : Pl.Tst α) ++ l3 ∧ Pl.asked (Pl.kValue (m : Int)) (Pl.isValue value) value.isEmpty = true := by
    unfold Pl.rdT2 at e3
    unfold Pl.tValue
    dsimp only
    split at e3
    · rename_i hn
      obtain ⟨b1, b2⟩ := (Pl.rdValue_iff _ _ _).1 e3
      rw [if_pos hn]
      exact ⟨by rw [b2]; simp, by unfold Pl.asked; rw [if_pos hn]; exact b1⟩
    · rename_i hn
      simp only [Option.some.injEq, Prod.mk.injEq] at e3
      obtain ⟨rfl, rfl⟩ := e3
      rw [if_neg hn]
      exact ⟨rfl, by unfold Pl.asked; rw [if_neg hn]; rfl⟩
  have a3 : l3 = Pl.tNth (⟨m, name, value, x.1, x.2, list⟩ : Pl.Tst α) ++ l4 ∧ (Pl.kNth (m : Int) || decide (x.1 = 0 ∧ x.2 = 0)) = true ∧ nB x.1 x.2 = true := by
    unfold Pl.rdT3 at e4
    unfold Pl.tNth
    dsimp only
    split at e4
    · rename_i hn
      rw [if_pos hn]
      unfold Pl.rdNth at e4
      split at e4
      · cases e4
      split at e4
      · rename_i y hy
        simp only [Option.some.injEq, Prod.mk.injEq] at e4
        obtain ⟨rfl, rfl⟩ := e4
        obtain ⟨y0, y1⟩ := y
        obtain ⟨b1, b2, b3⟩ := (Nt.Pl.read_iff _ _ _).1 hy
        refine ⟨?_, by rw [hn]; rfl, nB_of b1 b2⟩
        rw [← b3, List.takeWhile_append_dropWhile]
      · cases e4
    · rename_i hn
      simp only [Option.some.injEq, Prod.mk.injEq] at e4
      obtain ⟨rfl, rfl⟩ := e4
      rw [if_neg hn]
      exact ⟨rfl, by simp, by decide⟩
  have a4 : l4 = g list ++ l5 ∧ (Pl.kList (m : Int) || decide (list.length = 0)) = true ∧ (Pl.kList (m : Int) = true → R list) := by
    unfold Pl.rdT4 at e5
    split at e5
    · rename_i hn
      obtain ⟨b1, b2⟩ := h _ _ _ e5
      exact ⟨b1, by rw [hn]; rfl, fun _ => b2⟩
    · rename_i hn
      simp only [Option.some.injEq, Prod.mk.injEq] at e5
      obtain ⟨rfl, rfl⟩ := e5
      exact ⟨by rw [hg0]; rfl, by simp, fun hx => absurd hx hn⟩
  refine ⟨?_, ?_, ?_, a3.2.2, a4.2.2⟩
  · unfold Pl.showT Pl.tHead
    dsimp only
    rw [show ((m : Int)).toNat = m by simp, sb, a1.1, s2, a2.1, a3.1, a4.1, s6]
    simp only [List.append_assoc]
  · dsimp only
    simp [Pl.isKind]
    omega
  · unfold tF Pl.tForm
    dsimp only
    rw [a1.2, a2.2, a3.2.1, a4.2.1]
    rfl
theorem tests_sound (hg0 : g [] = []) (h : Sound rl g R) : ∀ (n : Nat) (s : List UInt8) (ts : List (Pl.Tst α)) (r : List UInt8), Pl.rdTests rl n s = some (ts, r) → s = ts.flatMap (Pl.showT g) ++ r ∧ ts.length ≤ n ∧ ∀ t ∈ ts, RT R t
  | 0, s, ts, r, hr => by
    simp only [Pl.rdTests, Option.some.injEq, Prod.mk.injEq] at hr
    obtain ⟨rfl, rfl⟩ := hr
    exact ⟨rfl, by simp, fun t ht => by cases ht⟩
  | n + 1, s, ts, r, hr => by
    unfold Pl.rdTests at hr
    split at hr
    · simp only [Option.some.injEq, Prod.mk.injEq] at hr
      obtain ⟨rfl, rfl⟩ := hr
      exact ⟨rfl, by simp, fun t ht => by cases ht⟩
    · rename_i k l1 e1
      split at hr
      · cases hr
      rename_i t l2 e2
      split at hr
      · cases hr
      rename_i ts' l3 e3
      simp only [Option.some.injEq, Prod.mk.injEq] at hr
      obtain ⟨rfl, rfl⟩ := hr
      obtain ⟨b1, b2, b3⟩ := begin_sound _ _ _ _ (by omega) e1
      obtain ⟨c1, c2⟩ := test_sound hg0 h ⟨b2, b3⟩ e2
      obtain ⟨d1, d2, d3⟩ := tests_sound hg0 h n _ _ _ e3
      refine ⟨?_, by simp; omega, fun t ht => ?_⟩
      · rw [b1, c1, d1]
        simp
      · rcases List.mem_cons.1 ht with rfl | ht
        · exact c2
        · exact d3 t ht
theorem step_sound (hg0 : g [] = []) (h : Sound rl g R) {s r : List UInt8} {st : Pl.Stp α} (hr : Pl.rdStep rl s = some (st, r)) : s = Pl.showS g st ++ r ∧ RS R st := by
  unfold Pl.rdStep at hr
  split at hr
  · cases hr
  rename_i tag l1 e1
  split at hr
  · cases hr
  rename_i ts l2 e2
  simp only [Option.some.injEq, Prod.mk.injEq] at hr
  obtain ⟨rfl, rfl⟩ := hr
  obtain ⟨d1, d2, d3⟩ := tests_sound hg0 h _ _ _ _ e2
  unfold Pl.rdTag at e1
  split at e1
  · rename_i e
    simp only [Option.some.injEq, Prod.mk.injEq] at e1
    obtain ⟨rfl, rfl⟩ := e1
    have a := (Pl.tk_iff _ _ _).1 e
    refine ⟨?_, rfl, d2, d3⟩
    unfold Pl.showS Pl.showTag
    rw [a, d1]
    simp
  · obtain ⟨b1, b2, b3⟩ := (Pl.rdName_iff _ _ _).1 e1
    have hne : tag.isEmpty = false := by
      cases tag with
      | nil => simp [Pl.isName] at b1
      | cons => rfl
    refine ⟨?_, by dsimp only; rw [b1]; simp, d2, d3⟩
    unfold Pl.showS Pl.showTag
    dsimp only
    rw [hne, b2, d1]
    simp
theorem steps_sound (hg0 : g [] = []) (h : Sound rl g R) : ∀ (n : Nat) (s : List UInt8) (ss : List (Pl.Stp α)) (ks : List Int) (r : List UInt8), n ≤ 4 → Pl.rdSteps rl n s = some (ss, ks, r) → s = shSteps g ss ks ++ r ∧ ss.length = ks.length ∧ ss.length ≤ n ∧ (∀ k ∈ ks, Pl.isLink k = true) ∧ ∀ x ∈ ss, RS R x
  | 0, s, ss, ks, r, _, hr => by
    simp only [Pl.rdSteps, Option.some.injEq, Prod.mk.injEq] at hr
    obtain ⟨rfl, rfl, rfl⟩ := hr
    exact ⟨rfl, rfl, by simp, fun t ht => (by cases ht), fun t ht => by cases ht⟩
  | n + 1, s, ss, ks, r, hn, hr => by
    unfold Pl.rdSteps at hr
    split at hr
    · simp only [Option.some.injEq, Prod.mk.injEq] at hr
      obtain ⟨rfl, rfl, rfl⟩ := hr
      exact ⟨rfl, rfl, by simp, fun t ht => (by cases ht), fun t ht => by cases ht⟩
    · rename_i k l1 e1
      split at hr
      · cases hr
      rename_i st l2 e2
      split at hr
      · cases hr
      rename_i ss' ks' l3 e3
      simp only [Option.some.injEq, Prod.mk.injEq] at hr
      obtain ⟨rfl, rfl, rfl⟩ := hr
      obtain ⟨b1, b2, b3⟩ := link_sound _ _ _ _ e1
      obtain ⟨c1, c2⟩ := step_sound hg0 h e2
      obtain ⟨d1, d2, d3, d4, d5⟩ := steps_sound hg0 h n _ _ _ _ (by omega) e3
      refine ⟨?_, by simp [d2], by simp; omega, fun x hx => ?_, fun x hx => ?_⟩
      · rw [b1, c1, d1]
        simp [shSteps]
      · rcases List.mem_cons.1 hx with rfl | hx
        · simp [Pl.isLink]
          omega
        · exact d4 x hx
      · rcases List.mem_cons.1 hx with rfl | hx
        · exact c2
        · exact d5 x hx
theorem path_sound (hg0 : g [] = []) (h : Sound rl g R) {s r : List UInt8} {p : Pl.Pth α} (hr : Pl.rdPath rl s = some (p, r)) : s = Pl.showP g p ++ r ∧ RP R p := by
  unfold Pl.rdPath at hr
  split at hr
  · cases hr
  rename_i st l1 e1
  split at hr
  · cases hr
  rename_i ss ks l2 e2
  simp only [Option.some.injEq, Prod.mk.injEq] at hr
  obtain ⟨rfl, rfl⟩ := hr
  obtain ⟨c1, c2⟩ := step_sound hg0 h e1
  obtain ⟨d1, d2, d3, d4, d5⟩ := steps_sound hg0 h _ _ _ _ _ (by omega) e2
  refine ⟨?_, ⟨by simp, by simp; omega, by simp [d2]⟩, d4, fun x hx => ?_⟩
  · rw [showP_eq g st ss ks d2, c1, d1]
    simp
  · rcases List.mem_cons.1 hx with rfl | hx
    · exact c2
    · exact d5 x hx
theorem paths_sound (hg0 : g [] = []) (h : Sound rl g R) : ∀ (n : Nat) (s : List UInt8) (ps : List (Pl.Pth α)) (r : List UInt8), Pl.rdPaths rl n s = some (ps, r) → s = ps.flatMap (fun q => [44, 32] ++ Pl.showP g q) ++ r ∧ ps.length ≤ n ∧ ∀ x ∈ ps, RP R x
  | 0, s, ps, r, hr => by
    simp only [Pl.rdPaths, Option.some.injEq, Prod.mk.injEq] at hr
    obtain ⟨rfl, rfl⟩ := hr
    exact ⟨rfl, by simp, fun t ht => by cases ht⟩
  | n + 1, s, ps, r, hr => by
    unfold Pl.rdPaths at hr
    split at hr
    · simp only [Option.some.injEq, Prod.mk.injEq] at hr
      obtain ⟨rfl, rfl⟩ := hr
      exact ⟨rfl, by simp, fun t ht => by cases ht⟩
    · rename_i l1 e1
      split at hr
      · cases hr
      rename_i p l2 e2
      split at hr
      · cases hr
      rename_i ps' l3 e3
      simp only [Option.some.injEq, Prod.mk.injEq] at hr
      obtain ⟨rfl, rfl⟩ := hr
      have b1 := (Pl.tk_iff _ _ _).1 e1
      obtain ⟨c1, c2⟩ := path_sound hg0 h e2
      obtain ⟨d1, d2, d3⟩ := paths_sound hg0 h n _ _ _ e3
      refine ⟨?_, by simp; omega, fun x hx => ?_⟩
      · rw [b1, c1, d1]
        simp
      · rcases List.mem_cons.1 hx with rfl | hx
        · exact c2
        · exact d3 x hx
theorem list_sound (hg0 : g [] = []) (h : Sound rl g R) : Sound (Pl.rdList rl) (Pl.showL g) (RL R) := by
  intro s l r hr
  unfold Pl.rdList at hr
  split at hr
  · cases hr
  rename_i p l1 e1
  split at hr
  · cases hr
  rename_i ps l2 e2
  simp only [Option.some.injEq, Prod.mk.injEq] at hr
  obtain ⟨rfl, rfl⟩ := hr
  obtain ⟨c1, c2⟩ := path_sound hg0 h e1
  obtain ⟨d1, d2, d3⟩ := paths_sound hg0 h _ _ _ _ e2
  refine ⟨?_, ⟨by simp, by simp; omega⟩, fun x hx => ?_⟩
  · rw [showL_eq, c1, d1]
    simp
  · rcases List.mem_cons.1 hx with rfl | hx
    · exact c2
    · exact d3 x hx
end
theorem showL_nil {α : Type} (g : List α → List UInt8) : Pl.showL g [] = [] := rfl
theorem sound_0 : Sound Pl.rd0 Pl.sh0 R0 := fun s l r h => by cases h
theorem sound_3 : Sound Pl.rd3 Pl.sh3 R3 := list_sound rfl (list_sound rfl (list_sound rfl sound_0))
/-- what is read is right, and is shown so -/
theorem all_sound {s : List UInt8} {l : List Pl.D3} (h : Pl.rdAll s = some l) : chkList l = 0 ∧ Pl.sh3 l = s := by
  unfold Pl.rdAll at h
  split at h
  · rename_i l' e
    simp only [Option.some.injEq] at h
    subst h
    obtain ⟨a, b⟩ := sound_3 _ _ _ e
    exact ⟨(R3_iff _).1 b, by rw [a, List.append_nil]⟩
  · cases h
end Go.Proofs.YtbfkopjpfkgjhaaGreatDoor
/-
  What is shown is read as it was: level by level, in plain form.
-/
namespace Go.Proofs.YtbfkopjpfkgjhaaGreatDoor

/-- the first kind that begins so -/
def kb (m : Nat) : Nat := if 3 ≤ m ∧ m ≤ 8 then 3 else m
theorem kinds15 {m : Nat} (h : 1 ≤ m ∧ m ≤ 15) : m = 1 ∨ m = 2 ∨ m = 3 ∨ m = 4 ∨ m = 5 ∨ m = 6 ∨ m = 7 ∨ m = 8 ∨ m = 9 ∨ m = 10 ∨ m = 11 ∨ m = 12 ∨ m = 13 ∨ m = 14 ∨ m = 15 := by omega
theorem begin_full {m : Nat} (h : 1 ≤ m ∧ m ≤ 15) (r : List UInt8) : Pl.rdBegin (fBegin m ++ r) = some (kb m, r) := by
  rcases kinds15 h with rfl | rfl | rfl | rfl | rfl | rfl | rfl | rfl | rfl | rfl | rfl | rfl | rfl | rfl | rfl <;> simp [Pl.rdBegin, Pl.rdBeginFrom, Pl.tk, fBegin, kb, List.isPrefixOf]
theorem sign_full {m : Nat} (h : 1 ≤ m ∧ m ≤ 15) (r : List UInt8) : Pl.rdSign (kb m) (fSign m ++ r) = some (m, r) := by
  rcases kinds15 h with rfl | rfl | rfl | rfl | rfl | rfl | rfl | rfl | rfl | rfl | rfl | rfl | rfl | rfl | rfl <;> simp [Pl.rdSign, Pl.rdSignFrom, Pl.tk, fBegin, fSign, kb, List.isPrefixOf]
theorem kb_name {m : Nat} (h : 1 ≤ m ∧ m ≤ 15) : Pl.kName ((kb m : Nat) : Int) = Pl.kName (m : Int) := by
  rcases kinds15 h with rfl | rfl | rfl | rfl | rfl | rfl | rfl | rfl | rfl | rfl | rfl | rfl | rfl | rfl | rfl <;> decide
theorem kb_range {m : Nat} (h : 1 ≤ m ∧ m ≤ 15) : 1 ≤ kb m ∧ kb m ≤ 15 := by
  unfold kb
  split <;> omega
theorem sign_shut {m : Nat} (h : 3 ≤ m ∧ m ≤ 8) (r : List UInt8) : Pl.Shut Pl.isNB (fSign m ++ r) := by
  have : m = 3 ∨ m = 4 ∨ m = 5 ∨ m = 6 ∨ m = 7 ∨ m = 8 := by omega
  rcases this with rfl | rfl | rfl | rfl | rfl | rfl <;> exact Pl.shut_cons (by decide) _
theorem dig_notE {c : UInt8} (h : Nt.Pl.isDig c = true) : Pl.notE c = true := by
  rw [Nt.Pl.dig_iff] at h
  unfold Pl.notE
  simp only [bne_iff_ne, ne_eq]
  intro e
  subst e
  simp at h
theorem itoa_notE (a : Int) : ∀ c ∈ Lib.itoa a, Pl.notE c = true := by
  intro c hc
  rcases Int.lt_or_le a 0 with h | h
  · rw [Nt.Pl.itoa_neg h] at hc
    rcases List.mem_cons.1 hc with rfl | hc
    · rfl
    · exact dig_notE (Nt.Pl.dec_dig _ _ hc)
  · rw [Nt.Pl.itoa_pos h] at hc
    exact dig_notE (Nt.Pl.dec_dig _ _ hc)
theorem shown_notE (a b : Int) : ∀ c ∈ Nt.Pl.shown a b, Pl.notE c = true := by
  intro c hc
  unfold Nt.Pl.shown at hc
  simp only [List.mem_append] at hc
  rcases hc with ((hc | hc) | hc) | hc
  · exact itoa_notE a c hc
  · simp at hc; subst hc; rfl
  · split at hc
    · simp at hc; subst hc; rfl
    · cases hc
  · exact itoa_notE b c hc
theorem nth_full {a b : Int} (h : nB a b = true) (r : List UInt8) : Pl.rdNth (Nt.Pl.shown a b ++ 41 :: r) = some ((a, b), 41 :: r) := by
  obtain ⟨ha, hb⟩ := inB_of h
  obtain ⟨h1, h2⟩ := Pl.run_app (Nt.Pl.shown a b) (41 :: r) (shown_notE a b) (Pl.shut_cons (by decide) _)
  unfold Pl.rdNth
  rw [h1, h2, (Nt.Pl.read_iff _ _ _).2 ⟨ha, hb, rfl⟩]
  rfl
/-- what may stand behind a list, a path, a step -/
def Fol (r : List UInt8) : Prop := r = [] ∨ ∃ t, r = 41 :: t
def FolP (r : List UInt8) : Prop := r = [] ∨ ∃ c t, r = c :: t ∧ (c = 41 ∨ c = 44)
def FolS (r : List UInt8) : Prop := r = [] ∨ ∃ c t, r = c :: t ∧ (c = 41 ∨ c = 44 ∨ c = 32)
theorem Fol.p {r : List UInt8} (h : Fol r) : FolP r := by
  rcases h with h | ⟨t, h⟩
  · exact Or.inl h
  · exact Or.inr ⟨41, t, h, Or.inl rfl⟩
theorem FolP.s {r : List UInt8} (h : FolP r) : FolS r := by
  rcases h with h | ⟨c, t, h, h2⟩
  · exact Or.inl h
  · exact Or.inr ⟨c, t, h, by rcases h2 with h2 | h2 <;> simp [h2]⟩
theorem FolS.shut {r : List UInt8} (h : FolS r) : Pl.Shut Pl.isNB r := by
  rcases h with rfl | ⟨c, t, rfl, h2⟩
  · exact Pl.shut_nil _
  · rcases h2 with rfl | rfl | rfl <;> exact Pl.shut_cons (by decide) _
theorem FolS.begin {r : List UInt8} (h : FolS r) : Pl.rdBegin r = none := by
  rcases h with rfl | ⟨c, t, rfl, h2⟩
  · simp [Pl.rdBegin, Pl.rdBeginFrom, Pl.tk, fBegin]
  · rcases h2 with rfl | rfl | rfl <;> simp [Pl.rdBegin, Pl.rdBeginFrom, Pl.tk, fBegin, List.isPrefixOf]
theorem FolP.link {r : List UInt8} (h : FolP r) : Pl.rdLink r = none := by
  rcases h with rfl | ⟨c, t, rfl, h2⟩
  · simp [Pl.rdLink, Pl.rdLinkFrom, Pl.tk, Pl.lnk]
  · rcases h2 with rfl | rfl <;> simp [Pl.rdLink, Pl.rdLinkFrom, Pl.tk, Pl.lnk, List.isPrefixOf]
theorem Fol.comma {r : List UInt8} (h : Fol r) : Pl.tk [44, 32] r = none := by
  rcases h with rfl | ⟨t, rfl⟩ <;> simp [Pl.tk, List.isPrefixOf]
/-- reading that is full -/
def Full {α : Type} (rl : List UInt8 → Option (List α × List UInt8)) (g : List α → List UInt8) (R : List α → Prop) : Prop := ∀ l r, R l → Fol r → rl (g l ++ r) = some (l, r)
theorem list_end {m : Nat} (h : Pl.kList (m : Int) = true) : fEnd m = [41] := by
  simp [Pl.kList] at h
  have : m = 13 ∨ m = 14 ∨ m = 15 := by omega
  rcases this with rfl | rfl | rfl <;> rfl
theorem nth_end2 {m : Nat} (h : Pl.kNth (m : Int) = true) : fEnd m = [41] := by
  simp [Pl.kNth] at h
  have : m = 9 ∨ m = 10 := by omega
  rcases this with rfl | rfl <;> rfl
section
variable {α : Type} {rl : List UInt8 → Option (List α × List UInt8)} {g : List α → List UInt8} {R : List α → Prop}
theorem test_full (hg0 : g [] = []) (h : Full rl g R) (t : Pl.Tst α) (ht : RT R t) (r : List UInt8) (hs : Pl.Shut Pl.isNB r) : ∃ k l1, Pl.rdBegin (Pl.showT g t ++ r) = some (k, l1) ∧ Pl.rdTest rl k l1 = some (t, r) := by
  obtain ⟨kd, name, value, a, b, list⟩ := t
  obtain ⟨h1, h2, h3, h4⟩ := ht
  dsimp only at h1 h2 h3 h4
  obtain ⟨m, rfl, m15, m1⟩ := kind_nat h1
  have hm : 1 ≤ m ∧ m ≤ 15 := ⟨m1, m15⟩
  have htn : ((m : Int)).toNat = m := by simp
  unfold tF Pl.tForm at h2
  simp only [Bool.and_eq_true] at h2
  obtain ⟨⟨⟨n1, n2⟩, n3⟩, n4⟩ := h2
  have hlist : Pl.kList (m : Int) = false → list = [] := fun hk => by
    rw [hk] at n4
    have hz : list.length = 0 := by simpa using n4
    exact List.length_eq_zero_iff.1 hz
  have hshow : Pl.showT g (⟨m, name, value, a, b, list⟩ : Pl.Tst α) ++ r = fBegin m ++ (name ++ (fSign m ++ (Pl.tValue (⟨m, name, value, a, b, list⟩ : Pl.Tst α) ++ (Pl.tNth (⟨m, name, value, a, b, list⟩ : Pl.Tst α) ++ (g list ++ (fEnd m ++ r)))))) := by
    unfold Pl.showT Pl.tHead
    dsimp only
    rw [htn]
    simp only [List.append_assoc]
  have hT4 : Pl.rdT4 rl m (g list ++ (fEnd m ++ r)) = some (list, fEnd m ++ r) := by
    unfold Pl.rdT4
    cases hk : Pl.kList (m : Int) with
    | true =>
      rw [if_pos rfl, list_end hk]
      exact h list _ (h4 hk) (Or.inr ⟨r, rfl⟩)
    | false =>
      rw [hlist hk, hg0]
      rfl
  have hT3 : Pl.rdT3 m (Pl.tNth (⟨m, name, value, a, b, list⟩ : Pl.Tst α) ++ (g list ++ (fEnd m ++ r))) = some ((a, b), g list ++ (fEnd m ++ r)) := by
    unfold Pl.rdT3 Pl.tNth
    dsimp only
    cases hk : Pl.kNth (m : Int) with
    | true =>
      have hkl : Pl.kList (m : Int) = false := by
        simp [Pl.kNth] at hk
        simp [Pl.kList]
        omega
      rw [if_pos rfl, if_pos rfl, hlist hkl, hg0, nth_end2 hk]
      exact nth_full h3 r
    | false =>
      rw [hk] at n3
      have hz : a = 0 ∧ b = 0 := by simpa using n3
      rw [hz.1, hz.2]
      rfl
  have hT2 : ∀ q, Pl.rdT2 m (Pl.tValue (⟨m, name, value, a, b, list⟩ : Pl.Tst α) ++ q) = some (value, q) := by
    intro q
    unfold Pl.rdT2 Pl.tValue
    dsimp only
    unfold Pl.asked at n2
    cases hk : Pl.kValue (m : Int) with
    | true =>
      rw [hk] at n2
      rw [if_pos rfl, if_pos rfl]
      exact (Pl.rdValue_iff _ _ _).2 ⟨n2, by simp⟩
    | false =>
      rw [hk] at n2
      have : value = [] := by simpa using n2
      rw [this]
      rfl
  have hT1 : Pl.rdT1 (kb m) (name ++ (fSign m ++ (Pl.tValue (⟨m, name, value, a, b, list⟩ : Pl.Tst α) ++ (Pl.tNth (⟨m, name, value, a, b, list⟩ : Pl.Tst α) ++ (g list ++ (fEnd m ++ r)))))) = some (name, fSign m ++ (Pl.tValue (⟨m, name, value, a, b, list⟩ : Pl.Tst α) ++ (Pl.tNth (⟨m, name, value, a, b, list⟩ : Pl.Tst α) ++ (g list ++ (fEnd m ++ r))))) := by
    unfold Pl.rdT1
    rw [kb_name hm]
    unfold Pl.asked at n1
    cases hk : Pl.kName (m : Int) with
    | true =>
      rw [hk] at n1
      rw [if_pos rfl]
      refine (Pl.rdName_iff _ _ _).2 ⟨n1, rfl, ?_⟩
      by_cases h38 : 3 ≤ m ∧ m ≤ 8
      · exact sign_shut h38 _
      · have hm2 : m = 1 ∨ m = 2 := by
          simp [Pl.kName] at hk
          omega
        have hkl : Pl.kList (m : Int) = false := by
          simp [Pl.kList]
          omega
        have e1 : Pl.tValue (⟨m, name, value, a, b, list⟩ : Pl.Tst α) = [] := by
          unfold Pl.tValue
          rw [if_neg (by simp [Pl.kValue]; omega)]
        have e2 : Pl.tNth (⟨m, name, value, a, b, list⟩ : Pl.Tst α) = [] := by
          unfold Pl.tNth
          rw [if_neg (by simp [Pl.kNth]; omega)]
        rw [e1, e2, hlist hkl, hg0]
        rcases hm2 with rfl | rfl <;> exact hs
    | false =>
      rw [hk] at n1
      have : name = [] := by simpa using n1
      rw [this]
      rfl
  refine ⟨kb m, _, by rw [hshow]; exact begin_full hm _, ?_⟩
  unfold Pl.rdTest
  rw [hT1]
  dsimp only
  rw [sign_full hm]
  dsimp only
  rw [hT2]
  dsimp only
  rw [hT3]
  dsimp only
  rw [hT4]
  dsimp only
  rw [Pl.tk_app]
theorem showT_shut (t : Pl.Tst α) (h : Pl.isKind t.kind = true) (r : List UInt8) : Pl.Shut Pl.isNB (Pl.showT g t ++ r) := by
  obtain ⟨m, hm, m15, m1⟩ := kind_nat h
  unfold Pl.showT Pl.tHead
  rw [hm, show ((m : Int)).toNat = m by simp]
  rcases kinds15 ⟨m1, m15⟩ with rfl | rfl | rfl | rfl | rfl | rfl | rfl | rfl | rfl | rfl | rfl | rfl | rfl | rfl | rfl <;> exact Pl.shut_cons (by decide) _
theorem tests_shut (ts : List (Pl.Tst α)) (h : ∀ t ∈ ts, RT R t) (r : List UInt8) (hr : Pl.Shut Pl.isNB r) : Pl.Shut Pl.isNB (ts.flatMap (Pl.showT g) ++ r) := by
  cases ts with
  | nil => exact hr
  | cons t ts =>
    rw [List.flatMap_cons, List.append_assoc]
    exact showT_shut t (h t (by simp)).1 _
theorem tests_full (hg0 : g [] = []) (h : Full rl g R) : ∀ (ts : List (Pl.Tst α)) (n : Nat) (r : List UInt8), ts.length ≤ n → (∀ t ∈ ts, RT R t) → FolS r → Pl.rdTests rl n (ts.flatMap (Pl.showT g) ++ r) = some (ts, r)
  | [], n, r, _, _, hr => by
    cases n with
    | zero => rfl
    | succ n =>
      unfold Pl.rdTests
      simp only [List.flatMap_nil, List.nil_append]
      rw [hr.begin]
  | t :: ts, 0, r, hn, _, _ => by simp at hn
  | t :: ts, n + 1, r, hn, hts, hr => by
    have ih := tests_full hg0 h ts n r (by simpa using hn) (fun x hx => hts x (by simp [hx])) hr
    obtain ⟨k, l1, e1, e2⟩ := test_full hg0 h t (hts t (by simp)) (ts.flatMap (Pl.showT g) ++ r) (tests_shut ts (fun x hx => hts x (by simp [hx])) r hr.shut)
    rw [List.flatMap_cons, List.append_assoc]
    unfold Pl.rdTests
    rw [e1]
    dsimp only
    rw [e2]
    dsimp only
    rw [ih]
theorem step_full (hg0 : g [] = []) (h : Full rl g R) (s : Pl.Stp α) (hs : RS R s) (r : List UInt8) (hr : FolS r) : Pl.rdStep rl (Pl.showS g s ++ r) = some (s, r) := by
  obtain ⟨tag, ts⟩ := s
  obtain ⟨h1, h2, h3⟩ := hs
  dsimp only at h1 h2 h3
  have ih := tests_full hg0 h ts 6 r h2 h3 hr
  have hsh := tests_shut (g := g) ts h3 r hr.shut
  unfold Pl.showS Pl.showTag
  dsimp only
  rw [List.append_assoc]
  unfold Pl.rdStep Pl.rdTag
  cases ht : tag.isEmpty with
  | true =>
    have : tag = [] := by simpa using ht
    subst this
    rw [if_pos rfl, Pl.tk_app]
    dsimp only
    rw [ih]
  | false =>
    rw [ht] at h1
    have hn : Pl.isName tag = true := by simpa using h1
    have htk : Pl.tk [42] (tag ++ (ts.flatMap (Pl.showT g) ++ r)) = none := by
      cases tag with
      | nil => simp at ht
      | cons c tl =>
        have hc := (Pl.name_all hn).1 c (by simp)
        have hne : ¬ (42 = c) := by
          intro e
          subst e
          revert hc
          decide
        simp [Pl.tk, List.isPrefixOf, hne]
    rw [if_neg (by simp), htk]
    dsimp only
    rw [(Pl.rdName_iff _ _ _).2 ⟨hn, rfl, hsh⟩]
    dsimp only
    rw [ih]
theorem head_step (s : Pl.Stp α) (hs : RS R s) (r : List UInt8) : ∃ c t, Pl.showS g s ++ r = c :: t ∧ c ≠ 32 ∧ c ≠ 62 ∧ c ≠ 43 ∧ c ≠ 126 := by
  obtain ⟨tag, ts⟩ := s
  obtain ⟨h1, h2, h3⟩ := hs
  dsimp only at h1
  unfold Pl.showS Pl.showTag
  dsimp only
  cases ht : tag.isEmpty with
  | true => exact ⟨42, _, rfl, by decide, by decide, by decide, by decide⟩
  | false =>
    rw [ht] at h1
    have hn : Pl.isName tag = true := by simpa using h1
    cases tag with
    | nil => simp at ht
    | cons c tl =>
      have hc := (Pl.name_all hn).1 c (by simp)
      refine ⟨c, _, rfl, ?_, ?_, ?_, ?_⟩
      all_goals
        intro e
        subst e
        revert hc
        decide
theorem link_full (k : Int) (hk : Pl.isLink k = true) (s : Pl.Stp α) (hs : RS R s) (r : List UInt8) : Pl.rdLink (Pl.lnk k.toNat ++ (Pl.showS g s ++ r)) = some (k.toNat, Pl.showS g s ++ r) := by
  obtain ⟨n, rfl, n4, n1⟩ := link_nat hk
  obtain ⟨c, t, e, c1, c2, c3, c4⟩ := head_step (g := g) s hs r
  rw [e]
  have : n = 1 ∨ n = 2 ∨ n = 3 ∨ n = 4 := by omega
  rcases this with rfl | rfl | rfl | rfl
  all_goals simp [Pl.rdLink, Pl.rdLinkFrom, Pl.tk, Pl.lnk, List.isPrefixOf, Ne.symm c2, Ne.symm c3, Ne.symm c4]
theorem steps_full (hg0 : g [] = []) (h : Full rl g R) : ∀ (ss : List (Pl.Stp α)) (ks : List Int) (n : Nat) (r : List UInt8), ss.length = ks.length → ss.length ≤ n → (∀ k ∈ ks, Pl.isLink k = true) → (∀ s ∈ ss, RS R s) → FolP r → Pl.rdSteps rl n (shSteps g ss ks ++ r) = some (ss, ks, r)
  | [], [], n, r, _, _, _, _, hr => by
    cases n with
    | zero => rfl
    | succ n =>
      unfold Pl.rdSteps
      simp only [shSteps, List.nil_append]
      rw [hr.link]
  | [], _ :: _, _, _, hl, _, _, _, _ => by simp at hl
  | _ :: _, [], _, _, hl, _, _, _, _ => by simp at hl
  | s :: ss, k :: ks, 0, r, _, hn, _, _, _ => by simp at hn
  | s :: ss, k :: ks, n + 1, r, hl, hn, hk, hs, hr => by
    have ih := steps_full hg0 h ss ks n r (by simpa using hl) (by simpa using hn) (fun x hx => hk x (by simp [hx])) (fun x hx => hs x (by simp [hx])) hr
    have hkk := hk k (by simp)
    have hss := hs s (by simp)
    have hfs : FolS (shSteps g ss ks ++ r) := by
      cases ss with
      | nil =>
        cases ks with
        | nil => exact hr.s
        | cons => simp at hl
      | cons s2 ss2 =>
        cases ks with
        | nil => simp at hl
        | cons k2 ks2 =>
          obtain ⟨m, hm, m4, m1⟩ := link_nat (hk k2 (by simp))
          simp only [shSteps, hm, List.append_assoc]
          have : m = 1 ∨ m = 2 ∨ m = 3 ∨ m = 4 := by omega
          rcases this with rfl | rfl | rfl | rfl <;> exact Or.inr ⟨32, _, rfl, Or.inr (Or.inr rfl)⟩
    simp only [shSteps, List.append_assoc]
    unfold Pl.rdSteps
    rw [link_full k hkk s hss]
    dsimp only
    rw [step_full hg0 h s hss _ hfs]
    dsimp only
    rw [ih]
    dsimp only
    obtain ⟨m, rfl, _, _⟩ := link_nat hkk
    simp
theorem path_full (hg0 : g [] = []) (h : Full rl g R) (p : Pl.Pth α) (hp : RP R p) (r : List UInt8) (hr : FolP r) : Pl.rdPath rl (Pl.showP g p ++ r) = some (p, r) := by
  obtain ⟨steps, links⟩ := p
  obtain ⟨⟨h1, h2, h3⟩, h4, h5⟩ := hp
  dsimp only at h1 h2 h3 h4 h5
  cases steps with
  | nil => simp at h1
  | cons s ss =>
    have hl : ss.length = links.length := by simp at h3; omega
    rw [showP_eq g s ss links hl, List.append_assoc]
    have hfs : FolS (shSteps g ss links ++ r) := by
      cases ss with
      | nil =>
        cases links with
        | nil => exact hr.s
        | cons => simp at hl
      | cons s2 ss2 =>
        cases links with
        | nil => simp at hl
        | cons k2 ks2 =>
          obtain ⟨m, hm, m4, m1⟩ := link_nat (h4 k2 (by simp))
          simp only [shSteps, hm, List.append_assoc]
          have : m = 1 ∨ m = 2 ∨ m = 3 ∨ m = 4 := by omega
          rcases this with rfl | rfl | rfl | rfl <;> exact Or.inr ⟨32, _, rfl, Or.inr (Or.inr rfl)⟩
    unfold Pl.rdPath
    rw [step_full hg0 h s (h5 s (by simp)) _ hfs]
    dsimp only
    rw [steps_full hg0 h ss links 4 r hl (by simp at h2; omega) h4 (fun x hx => h5 x (by simp [hx])) hr]
theorem paths_full (hg0 : g [] = []) (h : Full rl g R) : ∀ (ps : List (Pl.Pth α)) (n : Nat) (r : List UInt8), ps.length ≤ n → (∀ p ∈ ps, RP R p) → Fol r → Pl.rdPaths rl n (ps.flatMap (fun q => [44, 32] ++ Pl.showP g q) ++ r) = some (ps, r)
  | [], n, r, _, _, hr => by
    cases n with
    | zero => rfl
    | succ n =>
      unfold Pl.rdPaths
      simp only [List.flatMap_nil, List.nil_append]
      rw [hr.comma]
  | p :: ps, 0, r, hn, _, _ => by simp at hn
  | p :: ps, n + 1, r, hn, hps, hr => by
    have ih := paths_full hg0 h ps n r (by simpa using hn) (fun x hx => hps x (by simp [hx])) hr
    have hf : FolP (ps.flatMap (fun q => [44, 32] ++ Pl.showP g q) ++ r) := by
      cases ps with
      | nil => exact hr.p
      | cons q qs => exact Or.inr ⟨44, _, rfl, Or.inr rfl⟩
    rw [List.flatMap_cons, List.append_assoc, List.append_assoc]
    unfold Pl.rdPaths
    rw [Pl.tk_app]
    dsimp only
    rw [path_full hg0 h p (hps p (by simp)) _ hf]
    dsimp only
    rw [ih]
theorem list_full (hg0 : g [] = []) (h : Full rl g R) : Full (Pl.rdList rl) (Pl.showL g) (RL R) := by
  intro l r hl hr
  obtain ⟨⟨h1, h2⟩, h3⟩ := hl
  cases l with
  | nil => simp at h1
  | cons p ps =>
    have hf : FolP (ps.flatMap (fun q => [44, 32] ++ Pl.showP g q) ++ r) := by
      cases ps with
      | nil => exact hr.p
      | cons q qs => exact Or.inr ⟨44, _, rfl, Or.inr rfl⟩
    rw [showL_eq, List.append_assoc]
    unfold Pl.rdList
    rw [path_full hg0 h p (h3 p (by simp)) _ hf]
    dsimp only
    rw [paths_full hg0 h ps 4 r (by simp at h2; omega) (fun x hx => h3 x (by simp [hx])) hr]
end
theorem full_0 : Full Pl.rd0 Pl.sh0 R0 := fun _ _ h => h.elim
theorem full_3 : Full Pl.rd3 Pl.sh3 R3 := list_full rfl (list_full rfl (list_full rfl full_0))
/-- what is shown is read as it was -/
theorem all_full {l : List Pl.D3} (h : chkList l = 0) : Pl.rdAll (Pl.sh3 l) = some l := by
  have := full_3 l [] ((R3_iff l).2 h) (Or.inl rfl)
  rw [List.append_nil] at this
  unfold Pl.rdAll
  rw [this]
theorem all_iff (s : List UInt8) (l : List Pl.D3) : Pl.rdAll s = some l ↔ chkList l = 0 ∧ Pl.sh3 l = s :=
  ⟨all_sound, fun ⟨h1, h2⟩ => by rw [← h2]; exact all_full h1⟩
end Go.Proofs.YtbfkopjpfkgjhaaGreatDoor
