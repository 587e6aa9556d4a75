/-
  The three levels of plainer lists; again and again till nothing changes. No program in this text.
-/
import Derived.Test.YtephhllfodlfbaaGreatDoorPnA
import Derived.Test.YtephhllfodlfbaaGreatDoorRcB
namespace Go.Proofs.YtephhllfodlfbaaGreatDoor
namespace Pl

def lift0 (_ : List Unit) : List D1 := []
def lift1 : List D1 → List D2 := trL lift0
def lift2 : List D2 → List D3 := trL lift1
def L1 : Lev D1 := L0.up lift0
def L2 : Lev D2 := L1.up lift1
def L3 : Lev D3 := L2.up lift2
theorem isLift_0 : IsLift L0 (L0.up lift0) lift0 := ⟨fun _ => ⟨by simp [lift0], fun p hp => by simp [lift0] at hp⟩, fun _ => rfl⟩
section
variable {α : Type} [DecidableEq α] {L : Lev α} {lift : List α → List (Pth α)}
theorem map_sum {β γ : Type} {f : β → γ} {g : γ → Nat} {h : β → Nat} {l : List β} (e : ∀ x ∈ l, g (f x) = h x) : ((l.map f).map g).sum = (l.map h).sum := by
  rw [List.map_map]
  exact congrArg List.sum (List.map_congr_left e)
theorem isLift_up (hl : IsLift L (L.up lift) lift) : IsLift (L.up lift) ((L.up lift).up (trL lift)) (trL lift) where
  ok {l} h := by
    have h' : okL L.W l := h
    refine ⟨by simpa [trL] using h'.1, fun p hp => ?_⟩
    obtain ⟨q, hq, rfl⟩ := List.mem_map.1 hp
    obtain ⟨q1, q2, q3, q4⟩ := h'.2 q hq
    refine ⟨by simpa [trP] using q1, by simpa [trP] using q2, q3, fun s hs => ?_⟩
    obtain ⟨s0, hs0, rfl⟩ := List.mem_map.1 hs
    obtain ⟨s1, s2⟩ := q4 s0 hs0
    refine ⟨by simpa [trS] using s1, fun t ht => ?_⟩
    obtain ⟨t0, ht0, rfl⟩ := List.mem_map.1 ht
    exact hl.ok (s2 t0 ht0)
  sz {l} h := by
    have h' : okL L.W l := h
    refine map_sum fun p hp => map_sum fun s hs => ?_
    show 1 + _ = 1 + _
    refine congrArg (1 + ·) (map_sum fun t ht => ?_)
    exact congrArg (1 + ·) (hl.sz (((h'.2 p hp).2.2.2 s hs).2 t ht))
end
theorem isLev_1 : IsLev L1 := isLev_up isLev_0 isLift_0
theorem isLift_1 : IsLift L1 (L1.up lift1) lift1 := isLift_up isLift_0
theorem isLev_2 : IsLev L2 := isLev_up isLev_1 isLift_1
theorem isLift_2 : IsLift L2 (L2.up lift2) lift2 := isLift_up isLift_1
theorem isLev_3 : IsLev L3 := isLev_up isLev_2 isLift_2
/-- once, and again and again -/
def once3 : List D3 → List D3 := L3.f
def plN : Nat → List D3 → List D3
  | 0, l => l
  | n + 1, l => if once3 l = l then l else plN n (once3 l)
def size3 : List D3 → Nat := L3.z
def W3 : List D3 → Prop := L3.W
def plain3 (l : List D3) : List D3 := plN (size3 l) l
theorem once_sz {l : List D3} (h : W3 l) : once3 l = l ∨ size3 (once3 l) < size3 l := isLev_3.sz h
theorem once_ok {l : List D3} (h : W3 l) : W3 (once3 l) := isLev_3.ok h
theorem plN_more : ∀ (n m : Nat) (l : List D3), W3 l → size3 l ≤ n → size3 l ≤ m → plN n l = plN m l
  | 0, 0, l, _, _, _ => rfl
  | 0, m + 1, l, hw, h1, _ => by
    unfold plN
    rcases once_sz hw with e | e
    · rw [if_pos e]
    · omega
  | n + 1, 0, l, hw, _, h2 => by
    unfold plN
    rcases once_sz hw with e | e
    · rw [if_pos e]
    · omega
  | n + 1, m + 1, l, hw, h1, h2 => by
    unfold plN
    by_cases e : once3 l = l
    · rw [if_pos e, if_pos e]
    · rw [if_neg e, if_neg e]
      have := (once_sz hw).resolve_left e
      exact plN_more n m _ (once_ok hw) (by omega) (by omega)
theorem plain_stays {l : List D3} (h : once3 l = l) : plain3 l = l := by
  unfold plain3
  cases size3 l with
  | zero => rfl
  | succ n => unfold plN; rw [if_pos h]
theorem plain_goes {l : List D3} (hw : W3 l) (h : once3 l ≠ l) : plain3 l = plain3 (once3 l) := by
  have hs := (once_sz hw).resolve_left h
  unfold plain3
  obtain ⟨n, hn⟩ : ∃ n, size3 l = n + 1 := ⟨size3 l - 1, by omega⟩
  rw [hn]
  show (if once3 l = l then l else plN n (once3 l)) = _
  rw [if_neg h]
  exact plN_more _ _ _ (once_ok hw) (by omega) (Nat.le_refl _)
theorem plain_fix (n : Nat) : ∀ l : List D3, W3 l → size3 l ≤ n → once3 (plain3 l) = plain3 l ∧ W3 (plain3 l) ∧ size3 (plain3 l) ≤ size3 l := by
  induction n with
  | zero =>
    intro l hw h
    have e : once3 l = l := by
      rcases once_sz hw with e | e
      · exact e
      · omega
    rw [plain_stays e]
    exact ⟨e, hw, Nat.le_refl _⟩
  | succ n ih =>
    intro l hw h
    by_cases e : once3 l = l
    · rw [plain_stays e]
      exact ⟨e, hw, Nat.le_refl _⟩
    · rw [plain_goes hw e]
      have hs := (once_sz hw).resolve_left e
      obtain ⟨i1, i2, i3⟩ := ih (once3 l) (once_ok hw) (by omega)
      exact ⟨i1, i2, by omega⟩
end Pl
end Go.Proofs.YtephhllfodlfbaaGreatDoor
/-
  What matched matches when a list is made plainer, and nothing else does. No program in this text.
-/
namespace Go.Proofs.YtephhllfodlfbaaGreatDoor
namespace Pl
section
variable {α β : Type}
theorem tstM_list (ns : List Nd) {g : List α → Nat → Bool} {g' : List β → Nat → Bool} (t : Tst α) (l' : List β) (h : ∀ m, g' l' m = g t.list m) (n : Nat) : tstM ns g' ⟨t.kind, t.name, t.value, t.a, t.b, l'⟩ n = tstM ns g t n := by
  unfold tstM
  simp only [h]
/-- what keeps a level's matching -/
structure Keeps (ns : List Nd) (g : List α → Nat → Bool) (L : Lev α) : Prop where
  f : ∀ {l} (n : Nat), L.W l → g (L.f l) n = g l n
  one : ∀ {l s} (n : Nat), L.W l → L.only l = some s → stpM ns g s n = g l n
theorem addT_m {ns : List Nd} {g : List α → Nat → Bool} {L : Lev α} (hK : Keeps ns g L) (to : Stp α) (t : Tst α) (b n : Nat) (ht : L.W t.list) : stpM ns g (addT L.only to t b) n = stpM ns g ⟨to.tag, to.tests ++ [t]⟩ n := by
  unfold addT
  cases ho : L.only t.list with
  | none => rfl
  | some s =>
    have h1 := hK.one n ht ho
    dsimp only
    cases hn : (if t.kind = 13 then notOf s else none) with
    | some l =>
      by_cases h13 : t.kind = 13
      · rw [if_pos h13] at hn
        unfold notOf at hn
        split at hn
        · rename_i t1 ht1
          split at hn
          · rename_i hc
            injection hn with hn
            have e1 : tstM ns g t n = !g t.list n := by unfold tstM; simp [h13]
            have e0 : tstM ns g t1 n = !g l n := by unfold tstM; simp [hc.2, hn]
            have e2 : g t.list n = !g l n := by
              rw [← h1]
              unfold stpM
              rw [ht1, hc.1]
              simp [e0]
            have e3 : tstM ns g ⟨14, [], [], 0, 0, l⟩ n = g l n := by unfold tstM; simp
            unfold stpM
            simp only [List.all_append, List.all_cons, List.all_nil, Bool.and_true, e1, e2, e3, Bool.not_not]
          · cases hn
        · cases hn
      · rw [if_neg h13] at hn
        cases hn
    | none =>
      dsimp only
      split
      · rename_i hc
        have e1 : tstM ns g t n = g t.list n := by unfold tstM; simp [hc.1]
        have htg := hc.2.1
        unfold together at htg
        unfold stpM at h1 ⊢
        simp only [List.all_append, List.all_cons, List.all_nil, Bool.and_true, e1, ← h1]
        generalize (to.tests.all fun t => tstM ns g t n) = u
        generalize (s.tests.all fun t => tstM ns g t n) = v
        by_cases a : to.tag = []
        · rw [if_pos a, a]
          cases (s.tag.isEmpty || s.tag == tagAt ns n) <;> cases u <;> simp
        · rw [if_neg a]
          have ae : to.tag.isEmpty = false := by
            cases hq : to.tag with
            | nil => exact absurd hq a
            | cons _ _ => rfl
          rw [ae, Bool.false_or] at htg
          cases hs : s.tag.isEmpty with
          | true => cases (to.tag.isEmpty || to.tag == tagAt ns n) <;> cases u <;> simp
          | false =>
            rw [hs, Bool.false_or] at htg
            have := eq_of_beq htg
            rw [← this, ae]
            cases (to.tag == tagAt ns n) <;> cases u <;> simp
      · rfl
theorem addTo_m {ns : List Nd} {g : List α → Nat → Bool} {L : Lev α} (hL : IsLev L) (hK : Keeps ns g L) {s : Stp α} (hs : okS L.W s) (n : Nat) : ∀ k, k ≤ s.tests.length → stpM ns g (addTo L.f L.only s k) n = stpM ns g ⟨s.tag, s.tests.take k⟩ n
  | 0, _ => by simp [addTo]
  | k + 1, hk => by
    have hlt : k < s.tests.length := by omega
    have hw := hs.2 _ (List.getElem_mem hlt)
    have ih := addTo_m hL hK hs n k (by omega)
    rw [addTo_next hlt, addT_m hK _ _ _ n (show L.W (plT L.f s.tests[k]).list from hL.ok hw), List.take_succ_eq_append_getElem hlt]
    have e : tstM ns g (plT L.f s.tests[k]) n = tstM ns g s.tests[k] n := tstM_list ns s.tests[k] (L.f s.tests[k].list) (fun m => hK.f m hw) n
    unfold stpM at ih ⊢
    simp only [List.all_append, List.all_cons, List.all_nil, Bool.and_true, e, ← Bool.and_assoc] at ih ⊢
    rw [ih]
theorem all_firsts [DecidableEq β] (l : List β) (p : β → Bool) : (firsts l).all p = l.all p := by
  rw [Bool.eq_iff_iff, List.all_eq_true, List.all_eq_true]
  exact ⟨fun h x hx => h x (firsts_mem.2 hx), fun h x hx => h x (firsts_mem.1 hx)⟩
theorem any_firsts [DecidableEq β] (l : List β) (p : β → Bool) : (firsts l).any p = l.any p := by
  rw [Bool.eq_iff_iff, List.any_eq_true, List.any_eq_true]
  exact ⟨fun ⟨x, hx, h⟩ => ⟨x, firsts_mem.1 hx, h⟩, fun ⟨x, hx, h⟩ => ⟨x, firsts_mem.2 hx, h⟩⟩
theorem plS_m [DecidableEq α] {ns : List Nd} {g : List α → Nat → Bool} {L : Lev α} (hL : IsLev L) (hK : Keeps ns g L) {s : Stp α} (hs : okS L.W s) (n : Nat) : stpM ns g (plS L.f L.only s) n = stpM ns g s n := by
  have h := addTo_m hL hK hs n s.tests.length (Nat.le_refl _)
  rw [List.take_length] at h
  unfold plS
  rw [← h]
  unfold stpM
  rw [all_firsts]
theorem stpAt_pl [DecidableEq α] {L : Lev α} (p : Pth α) (k : Nat) : stpAt (plP L.f L.only p) k = plS L.f L.only (stpAt p k) := by
  unfold stpAt plP
  dsimp only
  rw [List.getElem?_map]
  cases p.steps[k]? with
  | none => rfl
  | some s => rfl
theorem stpAt_ok {W : List α → Prop} {p : Pth α} (h : okP W p) (k : Nat) : okS W (stpAt p k) := by
  unfold stpAt
  cases hk : p.steps[k]? with
  | none => exact ⟨by simp, fun t ht => by simp at ht⟩
  | some s => exact h.2.2.2 s (List.mem_of_getElem? hk)
theorem pthM_pl [DecidableEq α] {ns : List Nd} {g : List α → Nat → Bool} {L : Lev α} (hL : IsLev L) (hK : Keeps ns g L) {p : Pth α} (hp : okP L.W p) : ∀ k n, pthM ns g (plP L.f L.only p) k n = pthM ns g p k n
  | 0, n => by
    unfold pthM
    rw [stpAt_pl, plS_m hL hK (stpAt_ok hp 0)]
  | k + 1, n => by
    unfold pthM
    rw [stpAt_pl, plS_m hL hK (stpAt_ok hp (k + 1))]
    have e : (fun m => reach ns (lnkAt (plP L.f L.only p) k) m n && pthM ns g (plP L.f L.only p) k m) = fun m => reach ns (lnkAt p k) m n && pthM ns g p k m := by
      funext m
      rw [pthM_pl hL hK hp k m]
      rfl
    rw [e]
/-- a list that is looked at one level higher matches the same -/
theorem stpM_tr {ns : List Nd} {g : List α → Nat → Bool} {g' : List β → Nat → Bool} {f : List α → List β} {W : List α → Prop} (hl : ∀ l m, W l → g' (f l) m = g l m) {s : Stp α} (hs : okS W s) (n : Nat) : stpM ns g' (trS f s) n = stpM ns g s n := by
  unfold stpM trS
  dsimp only
  rw [List.all_map]
  congr 1
  rw [Bool.eq_iff_iff, List.all_eq_true, List.all_eq_true]
  have e : ∀ t ∈ s.tests, ((fun t => tstM ns g' t n) ∘ trT f) t = tstM ns g t n := fun t ht => tstM_list ns t (f t.list) (fun m => hl _ m (hs.2 t ht)) n
  exact ⟨fun h t ht => by rw [← e t ht]; exact h t ht, fun h t ht => by rw [e t ht]; exact h t ht⟩
theorem stpAt_tr {f : List α → List β} (p : Pth α) (k : Nat) : stpAt (trP f p) k = trS f (stpAt p k) := by
  unfold stpAt trP
  dsimp only
  rw [List.getElem?_map]
  cases p.steps[k]? with
  | none => rfl
  | some s => rfl
theorem pthM_tr {ns : List Nd} {g : List α → Nat → Bool} {g' : List β → Nat → Bool} {f : List α → List β} {W : List α → Prop} (hl : ∀ l m, W l → g' (f l) m = g l m) {p : Pth α} (hp : okP W p) : ∀ k n, pthM ns g' (trP f p) k n = pthM ns g p k n
  | 0, n => by
    unfold pthM
    rw [stpAt_tr, stpM_tr hl (stpAt_ok hp 0)]
  | k + 1, n => by
    unfold pthM
    rw [stpAt_tr, stpM_tr hl (stpAt_ok hp (k + 1))]
    have e : (fun m => reach ns (lnkAt (trP f p) k) m n && pthM ns g' (trP f p) k m) = fun m => reach ns (lnkAt p k) m n && pthM ns g p k m := by
      funext m
      rw [pthM_tr hl hp k m]
      rfl
    rw [e]
theorem any_map_eq {γ : Type} {l : List α} {f : α → γ} {p : γ → Bool} {q : α → Bool} (h : ∀ x ∈ l, p (f x) = q x) : (l.map f).any p = l.any q := by
  rw [List.any_map, Bool.eq_iff_iff, List.any_eq_true, List.any_eq_true]
  exact ⟨fun ⟨x, hx, e⟩ => ⟨x, hx, by rw [← h x hx]; exact e⟩, fun ⟨x, hx, e⟩ => ⟨x, hx, by show p (f x) = true; rw [h x hx]; exact e⟩⟩
theorem lstM_tr {ns : List Nd} {g : List α → Nat → Bool} {g' : List β → Nat → Bool} {f : List α → List β} {W : List α → Prop} (hl : ∀ l m, W l → g' (f l) m = g l m) (l : List (Pth α)) (m : Nat) (h : okL W l) : lstM ns g' (trL f l) m = lstM ns g l m := by
  unfold lstM trL
  refine any_map_eq fun p hp => ?_
  rw [pthM_tr hl (h.2 p hp)]
  simp [trP]
theorem keeps_up [DecidableEq α] {ns : List Nd} {g : List α → Nat → Bool} {L : Lev α} (hL : IsLev L) (hK : Keeps ns g L) {lift : List α → List (Pth α)} (hl : ∀ l m, L.W l → lstM ns g (lift l) m = g l m) : Keeps ns (lstM ns g) (L.up lift) where
  f {l} n h := by
    have h' : okL L.W l := h
    show lstM ns g (plL L.f L.only l) n = _
    unfold lstM plL
    rw [any_firsts]
    refine any_map_eq fun p hp => ?_
    rw [pthM_pl hL hK (h'.2 p hp)]
    simp [plP]
  one {l s} n h ho := by
    have h' : okL L.W l := h
    have ho' : onlyUp lift l = some s := ho
    unfold onlyUp at ho'
    split at ho'
    · rename_i p
      split at ho'
      · rename_i s0 hs0
        injection ho' with e
        subst e
        have hp := h'.2 p (List.mem_singleton.2 rfl)
        have hs := hp.2.2.2 s0 (by rw [hs0]; exact List.mem_singleton.2 rfl)
        rw [stpM_tr hl hs n]
        unfold lstM
        simp only [List.any_cons, List.any_nil, Bool.or_false, hs0, List.length_singleton]
        show _ = pthM ns g p 0 n
        unfold pthM stpAt
        rw [hs0]
        rfl
      · cases ho'
    · cases ho'
end
theorem keeps_0 (ns : List Nd) : Keeps ns (m0 ns) L0 := ⟨fun _ _ => rfl, fun _ _ h => by cases h⟩
theorem keeps_1 (ns : List Nd) : Keeps ns (m1 ns) L1 := keeps_up isLev_0 (keeps_0 ns) (fun _ _ _ => rfl)
theorem keeps_2 (ns : List Nd) : Keeps ns (m2 ns) L2 := keeps_up isLev_1 (keeps_1 ns) (fun l m h => lstM_tr (W := L0.W) (fun _ _ _ => rfl) l m h)
theorem keeps_3 (ns : List Nd) : Keeps ns (m3 ns) L3 := keeps_up isLev_2 (keeps_2 ns) (fun l m h => lstM_tr (W := L1.W) (fun l m h => lstM_tr (W := L0.W) (fun _ _ _ => rfl) l m h) l m h)
theorem once_m {ns : List Nd} {l : List D3} (h : W3 l) (n : Nat) : m3 ns (once3 l) n = m3 ns l n := (keeps_3 ns).f n h
theorem plN_m {ns : List Nd} (n : Nat) : ∀ (k : Nat) (l : List D3), W3 l → m3 ns (plN k l) n = m3 ns l n
  | 0, _, _ => rfl
  | k + 1, l, h => by
    unfold plN
    split
    · rfl
    · rw [plN_m n k _ (once_ok h), once_m h]
theorem plain_m {ns : List Nd} {l : List D3} (h : W3 l) (n : Nat) : m3 ns (plain3 l) n = m3 ns l n := plN_m n _ l h
end Pl
end Go.Proofs.YtephhllfodlfbaaGreatDoor
