/-
  A right list that is made plainer stays right. No program in this text.
-/
import Derived.Test.YtephhllfodlfbaaGreatDoorPnT
namespace Go.Proofs.YtephhllfodlfbaaGreatDoor
namespace Pl
section
variable {α : Type}
/-- what is right, level by level -/
def rT (R : List α → Prop) (t : Tst α) : Prop := isKind t.kind = true ∧ (asked (kName t.kind) (isName t.name) t.name.isEmpty = true ∧ asked (kValue t.kind) (isValue t.value) t.value.isEmpty = true ∧ (kNth t.kind = true ∨ (t.a = 0 ∧ t.b = 0))) ∧ nB t.a t.b = true ∧ (kList t.kind = true → R t.list) ∧ (kList t.kind = false → t.list = [])
def rS (R : List α → Prop) (s : Stp α) : Prop := (s.tag.isEmpty = true ∨ isName s.tag = true) ∧ ∀ t ∈ s.tests, rT R t
def rP (R : List α → Prop) (p : Pth α) : Prop := (1 ≤ p.steps.length ∧ p.steps.length ≤ 5 ∧ p.links.length + 1 = p.steps.length) ∧ (∀ k ∈ p.links, isLink k = true) ∧ ∀ s ∈ p.steps, s.tests.length ≤ 6 ∧ rS R s
def rL (R : List α → Prop) (l : List (Pth α)) : Prop := (1 ≤ l.length ∧ l.length ≤ 5) ∧ ∀ p ∈ l, rP R p
theorem mem_tsts {p : Pth α} {t : Tst α} : t ∈ p.tests ↔ ∃ s ∈ p.steps, t ∈ s.tests := by unfold Pth.tests; exact List.mem_flatMap
theorem level_eq {R : List α → Prop} {f k m n : List α → Bool} (h0 : n [] = true) (hR : ∀ l, R l ↔ (f l = true ∧ k l = true ∧ m l = true ∧ n l = true)) (l : List (Pth α)) :
    rL R l ↔ (fitUp f l = true ∧ evUp pKinds k l = true ∧ evUp (pForm isName isValue) m l = true ∧ nthL n l = true) := by
  simp only [fit_eq, fitP, fitS, fitT, evUp, pKinds, pForm, inner, nthL, nthP, nthS, nthT, Bool.and_eq_true, List.all_eq_true, decide_eq_true_eq, tForm, Bool.or_eq_true, Bool.not_eq_true']
  constructor
  · rintro ⟨h1, h2⟩
    have hT : ∀ p ∈ l, ∀ t ∈ p.tests, rT R t := fun p hp t ht => by
      obtain ⟨s, hs, hst⟩ := mem_tsts.1 ht
      exact ((h2 p hp).2.2 s hs).2.2 t hst
    have hK : ∀ t, rT R t → (kList t.kind = false ∨ R t.list) := fun t h => by
      cases hk : kList t.kind with
      | true => exact Or.inr (h.2.2.2.1 hk)
      | false => exact Or.inl rfl
    refine ⟨⟨h1, fun p hp => ⟨(h2 p hp).1, fun s hs => ⟨((h2 p hp).2.2 s hs).1, fun t ht => ?_⟩⟩⟩, fun p hp => ⟨⟨(h2 p hp).2.1, fun t ht => (hT p hp t ht).1⟩, fun t ht => ?_⟩, fun p hp => ⟨⟨fun s hs => ((h2 p hp).2.2 s hs).2.1, fun t ht => ?_⟩, fun t ht => ?_⟩, fun p hp s hs t ht => ?_⟩
    · exact (hK t (((h2 p hp).2.2 s hs).2.2 t ht)).imp_right fun h => ((hR _).1 h).1
    · exact (hK t (hT p hp t ht)).imp_right fun h => ((hR _).1 h).2.1
    · obtain ⟨_, ⟨a, b, c⟩, _, d, e⟩ := hT p hp t ht
      refine ⟨⟨⟨a, b⟩, c⟩, ?_⟩
      cases hk : kList t.kind with
      | true => exact Or.inl rfl
      | false => exact Or.inr (by rw [e hk]; rfl)
    · exact (hK t (hT p hp t ht)).imp_right fun h => ((hR _).1 h).2.2.1
    · obtain ⟨_, _, a, d, e⟩ := ((h2 p hp).2.2 s hs).2.2 t ht
      refine ⟨a, ?_⟩
      cases hk : kList t.kind with
      | true => exact ((hR _).1 (d hk)).2.2.2
      | false => rw [e hk]; exact h0
  · rintro ⟨⟨h1, h2⟩, h3, h4, h5⟩
    refine ⟨h1, fun p hp => ⟨(h2 p hp).1, (h3 p hp).1.1, fun s hs => ⟨((h2 p hp).2 s hs).1, (h4 p hp).1.1 s hs, fun t ht => ?_⟩⟩⟩
    have hm : t ∈ p.tests := mem_tsts.2 ⟨s, hs, ht⟩
    obtain ⟨⟨⟨a, b⟩, c⟩, d⟩ := (h4 p hp).1.2 t hm
    refine ⟨(h3 p hp).1.2 t hm, ⟨a, b, c⟩, (h5 p hp s hs t ht).1, fun hk => (hR _).2 ⟨?_, ?_, ?_, (h5 p hp s hs t ht).2⟩, fun hk => ?_⟩
    · exact (((h2 p hp).2 s hs).2 t ht).resolve_left (by rw [hk]; simp)
    · exact ((h3 p hp).2 t hm).resolve_left (by rw [hk]; simp)
    · exact ((h4 p hp).2 t hm).resolve_left (by rw [hk]; simp)
    · exact List.length_eq_zero_iff.1 (d.resolve_left (by rw [hk]; simp))
def r3 : List D3 → Prop := rL (rL (rL fun _ => False))
theorem r3_iff (l : List D3) : r3 l ↔ chkList l = 0 := by
  have e1 : ∀ l : List D1, rL (fun _ => False) l ↔ (fitUp (fun _ => false) l = true ∧ evUp pKinds (fun _ => true) l = true ∧ evUp (pForm isName isValue) (fun _ => true) l = true ∧ nthL (fun _ => true) l = true) := fun l => level_eq rfl (fun l => by simp) l
  have e2 := fun l : List D2 => level_eq (R := rL fun _ => False) rfl e1 l
  have e3 := fun l : List D3 => level_eq (R := rL (rL fun _ => False)) rfl e2 l
  refine (e3 l).trans ?_
  show (fit3 l = true ∧ kind3 l = true ∧ form3 l = true ∧ nth3 l = true) ↔ _
  unfold chkList pick4
  cases fit3 l <;> cases kind3 l <;> cases form3 l <;> cases nth3 l <;> simp
/-- what keeps a level's lists right -/
structure KeepR (R : List α → Prop) (L : Lev α) : Prop where
  f : ∀ {l}, R l → R (L.f l)
  nil : L.f [] = []
  one : ∀ {l s}, (R l ∨ l = []) → L.only l = some s → rS R s
theorem rT_list {R : List α → Prop} {t : Tst α} (h : rT R t) : R t.list ∨ t.list = [] := by
  cases hk : kList t.kind with
  | true => exact Or.inl (h.2.2.2.1 hk)
  | false => exact Or.inr (h.2.2.2.2 hk)
theorem rT_pl {R : List α → Prop} {L : Lev α} (hK : KeepR R L) {t : Tst α} (h : rT R t) : rT R (plT L.f t) := by
  obtain ⟨a, b, c, d, e⟩ := h
  exact ⟨a, b, c, fun hk => hK.f (d hk), fun hk => by show L.f t.list = []; rw [e hk]; exact hK.nil⟩
theorem rS_add {R : List α → Prop} {L : Lev α} (hK : KeepR R L) {to : Stp α} {t : Tst α} {n : Nat} (hto : rS R to) (ht : rT R t) : rS R (addT L.only to t n) := by
  have plain : rS R ⟨to.tag, to.tests ++ [t]⟩ := ⟨hto.1, fun y hy => by
    rcases List.mem_append.1 hy with h | h
    · exact hto.2 y h
    · rw [List.mem_singleton.1 h]; exact ht⟩
  unfold addT
  cases ho : L.only t.list with
  | none => exact plain
  | some s =>
    have hs := hK.one (rT_list ht) ho
    dsimp only
    cases hn : (if t.kind = 13 then notOf s else none) with
    | some l =>
      have h3 : notOf s = some l := by
        split at hn
        · exact hn
        · cases hn
      unfold notOf at h3
      split at h3
      · rename_i t1 ht1
        split at h3
        · rename_i hc
          injection h3 with h3
          have h1 := hs.2 t1 (by rw [ht1]; exact List.mem_singleton.2 rfl)
          refine ⟨hto.1, fun y hy => ?_⟩
          rcases List.mem_append.1 hy with h | h
          · exact hto.2 y h
          · rw [List.mem_singleton.1 h]
            refine ⟨show isKind 14 = true by decide, ⟨rfl, rfl, Or.inr ⟨rfl, rfl⟩⟩, show nB 0 0 = true by decide, fun _ => ?_, fun hk => absurd (show kList 14 = false from hk) (by decide)⟩
            have := h1.2.2.2.1 (by rw [hc.2]; decide)
            rw [h3] at this
            exact this
        · cases h3
      · cases h3
    | none =>
      dsimp only
      split
      · refine ⟨?_, fun y hy => ?_⟩
        · show (if to.tag = [] then s.tag else to.tag).isEmpty = true ∨ isName (if to.tag = [] then s.tag else to.tag) = true
          split
          · exact hs.1
          · exact hto.1
        · rcases List.mem_append.1 hy with h | h
          · exact hto.2 y h
          · exact hs.2 y h
      · exact plain
theorem rS_to {R : List α → Prop} {L : Lev α} (hK : KeepR R L) {s : Stp α} (h : rS R s) : ∀ k, k ≤ s.tests.length → rS R (addTo L.f L.only s k)
  | 0, _ => ⟨h.1, fun t ht => by simp [addTo] at ht⟩
  | k + 1, hk => by
    rw [addTo_next (show k < s.tests.length by omega)]
    exact rS_add hK (rS_to hK h k (by omega)) (rT_pl hK (h.2 _ (List.getElem_mem _)))
theorem rS_pl [DecidableEq α] {R : List α → Prop} {L : Lev α} (hK : KeepR R L) {s : Stp α} (h : rS R s) : rS R (plS L.f L.only s) :=
  ⟨(rS_to hK h _ (Nat.le_refl _)).1, fun t ht => (rS_to hK h _ (Nat.le_refl _)).2 t (firsts_mem.1 ht)⟩
theorem rP_pl [DecidableEq α] {R : List α → Prop} {L : Lev α} (hL : IsLev L) (hK : KeepR R L) {p : Pth α} (hW : okP L.W p) (h : rP R p) : rP R (plP L.f L.only p) := by
  obtain ⟨h1, h2, h3⟩ := h
  refine ⟨by simpa [plP] using h1, h2, fun s hs => ?_⟩
  obtain ⟨s0, hs0, rfl⟩ := List.mem_map.1 hs
  exact ⟨(plS_sz hL (hW.2.2.2 s0 hs0)).2.1, rS_pl hK (h3 s0 hs0).2⟩
theorem firsts_ne {β : Type} [DecidableEq β] {l : List β} (h : 1 ≤ l.length) : 1 ≤ (firsts l).length := by
  cases l with
  | nil => simp at h
  | cons x r =>
    have : x ∈ firsts (x :: r) := firsts_mem.2 List.mem_cons_self
    exact List.length_pos_of_mem this
theorem rT_lift {R : List α → Prop} {lift : List α → List (Pth α)} (h0 : lift [] = []) (hl : ∀ l, R l → rL R (lift l)) {t : Tst α} (h : rT R t) : rT (rL R) (trT lift t) := by
  obtain ⟨a, b, c, d, e⟩ := h
  exact ⟨a, b, c, fun hk => hl _ (d hk), fun hk => by show lift t.list = []; rw [e hk]; exact h0⟩
theorem rS_lift {R : List α → Prop} {lift : List α → List (Pth α)} (h0 : lift [] = []) (hl : ∀ l, R l → rL R (lift l)) {s : Stp α} (h : rS R s) : rS (rL R) (trS lift s) := ⟨h.1, fun t ht => by
  obtain ⟨t0, ht0, rfl⟩ := List.mem_map.1 ht
  exact rT_lift h0 hl (h.2 t0 ht0)⟩
theorem rL_lift {R : List α → Prop} {lift : List α → List (Pth α)} (h0 : lift [] = []) (hl : ∀ l, R l → rL R (lift l)) (l : List (Pth α)) (h : rL R l) : rL (rL R) (trL lift l) := by
  obtain ⟨h1, h2⟩ := h
  refine ⟨by simpa [trL] using h1, fun p hp => ?_⟩
  obtain ⟨q, hq, rfl⟩ := List.mem_map.1 hp
  obtain ⟨a, b, c⟩ := h2 q hq
  refine ⟨by simpa [trP] using a, b, fun s hs => ?_⟩
  obtain ⟨s0, hs0, rfl⟩ := List.mem_map.1 hs
  exact ⟨by simpa [trS] using (c s0 hs0).1, rS_lift h0 hl (c s0 hs0).2⟩
/-- one level higher; what is right is also small -/
theorem keepR_up [DecidableEq α] {R : List α → Prop} {L : Lev α} (hL : IsLev L) (hK : KeepR R L) {lift : List α → List (Pth α)} (h0 : lift [] = []) (hl : ∀ l, R l → rL R (lift l)) (hW : ∀ l, rL R l → okL L.W l) : KeepR (rL R) (L.up lift) where
  f {l} h := by
    show rL R (plL L.f L.only l)
    have hw := hW l h
    obtain ⟨h1, h2⟩ := h
    have hfl := firsts_len (l.map (plP L.f L.only))
    rw [List.length_map] at hfl
    refine ⟨⟨firsts_ne (by rw [List.length_map]; exact h1.1), by unfold plL; omega⟩, fun p hp => ?_⟩
    obtain ⟨q, hq, rfl⟩ := List.mem_map.1 (firsts_mem.1 hp)
    exact rP_pl hL hK (hw.2 q hq) (h2 q hq)
  nil := rfl
  one {l s} h ho := by
    have ho' : onlyUp lift l = some s := ho
    unfold onlyUp at ho'
    split at ho'
    · rename_i p
      split at ho'
      · rename_i s0 hs0
        injection ho' with e
        subst e
        rcases h with h | h
        · have := (h.2 p (List.mem_singleton.2 rfl)).2.2 s0 (by rw [hs0]; exact List.mem_singleton.2 rfl)
          exact rS_lift h0 hl this.2
        · cases h
      · cases ho'
    · cases ho'
theorem okL_r {R : List α → Prop} {W : List α → Prop} (h0 : W []) (hR : ∀ l, R l → W l) (l : List (Pth α)) (h : rL R l) : okL W l := by
  obtain ⟨h1, h2⟩ := h
  refine ⟨h1.2, fun p hp => ?_⟩
  obtain ⟨a, b, c⟩ := h2 p hp
  refine ⟨a.1, a.2.1, by omega, fun s hs => ⟨(c s hs).1, fun t ht => ?_⟩⟩
  rcases rT_list ((c s hs).2.2 t ht) with h | h
  · exact hR _ h
  · rw [h]; exact h0
end
theorem keepR_0 : KeepR (fun _ => False) L0 := ⟨fun h => h.elim, rfl, fun _ h => by cases h⟩
theorem nilW {α : Type} (W : List α → Prop) : okL W [] := ⟨by simp, fun p hp => by simp at hp⟩
theorem keepR_1 : KeepR (rL fun _ => False) L1 := keepR_up isLev_0 keepR_0 rfl (fun _ h => h.elim) (okL_r rfl fun _ h => h.elim)
theorem keepR_2 : KeepR (rL (rL fun _ => False)) L2 := keepR_up isLev_1 keepR_1 rfl (rL_lift rfl fun _ h => h.elim) (okL_r (nilW _) (okL_r rfl fun _ h => h.elim))
theorem keepR_3 : KeepR r3 L3 := keepR_up isLev_2 keepR_2 rfl (rL_lift rfl (rL_lift rfl fun _ h => h.elim)) (okL_r (nilW _) (okL_r (nilW _) (okL_r rfl fun _ h => h.elim)))
theorem once_right {l : List D3} (h : chkList l = 0) : chkList (once3 l) = 0 := (r3_iff _).1 (keepR_3.f ((r3_iff _).2 h))
theorem plN_right : ∀ (n : Nat) (l : List D3), chkList l = 0 → chkList (plN n l) = 0
  | 0, _, h => h
  | n + 1, l, h => by
    unfold plN
    split
    · exact h
    · exact plN_right n _ (once_right h)
theorem plain_right {l : List D3} (h : chkList l = 0) : chkList (plain3 l) = 0 := plN_right _ l h
end Pl
end Go.Proofs.YtephhllfodlfbaaGreatDoor
