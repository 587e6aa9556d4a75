/-
  The tree without an element, laid down, is the document without it. No program is walked in this text.
-/
import Derived.Test.YtbpgcfabepioiaaGreatWiP
import Derived.Test.YtbpgcfabepioiaaGreatLayM
namespace Go.Proofs.YtbpgcfabepioiaaGreat.Pl

theorem mark_lay {ns : List Nd} : ∀ (f : Nat) (l : List Nat) (pos : Nat) (up : Int), layF (markedF ns f l) pos up = layF (forestOf ns f l) pos up ∧ (markedF ns f l).size = (forestOf ns f l).size := by
  intro f
  induction f with
  | zero => intro l pos up; exact ⟨rfl, rfl⟩
  | succ f ih =>
    intro l
    induction l with
    | nil => intro pos up; exact ⟨rfl, rfl⟩
    | cons a r ihr =>
      intro pos up
      have e1 : markedF ns (f + 1) (a :: r) = .cons (mark ns a) (markedF ns f (kidsOf ns a)) (markedF ns (f + 1) r) := rfl
      have e2 : forestOf ns (f + 1) (a :: r) = .cons (ndAt ns a) (forestOf ns f (kidsOf ns a)) (forestOf ns (f + 1) r) := rfl
      rw [e1, e2]
      obtain ⟨h1, h2⟩ := ih (kidsOf ns a) (pos + 1) pos
      refine ⟨?_, ?_⟩
      · rw [layF, layF, h1, h2, (ihr (pos + 1 + (forestOf ns f (kidsOf ns a)).size) up).1]
        rfl
      · simp only [F.size]
        rw [h2, (ihr pos up).2]
theorem mark_tree {ns : List Nd} (hg : GoodTo ns ns.length) (f n pos : Nat) (up : Int) (h : n < ns.length) (hf : ns.length ≤ n + f) :
    layT (mark ns n) (markedF ns f (kidsOf ns n)) pos up = seg ns n (behind ns n) (fun u => if u < n then up else u - n + pos) := by
  rw [← lay_tree hg f n pos up h hf]
  unfold layT
  rw [(mark_lay f (kidsOf ns n) (pos + 1) pos).1]
  rfl
section
variable {ns : List Nd} (hg : GoodTo ns ns.length)
include hg
theorem low_of (m : Nat) (hm : m < ns.length) : -1 ≤ upOf ns m ∧ upOf ns m < m := by
  rcases Nat.eq_zero_or_pos m with h | h
  · rw [(hg m hm).1 h]; omega
  · have := (hg m hm).2 h; omega
theorem kid_in {m k : Nat} (hm : m < ns.length) (hk : k ∈ kidsOf ns m) : k < ns.length ∧ m < k ∧ k < behind ns m ∧ behind ns k ≤ behind ns m := by
  obtain ⟨h1, h2⟩ := kidsOf_mem hk
  have h3 := low_of hg k h1
  have hmk : m < k := by omega
  have hkb : k < behind ns m := by
    rcases Nat.lt_or_ge k (behind ns m) with h | h
    · exact h
    · have := behind_out hg hm k h h1
      have := (behind_spec hm).1
      omega
  exact ⟨h1, hmk, hkb, (next_kid hg hm hmk hkb h2).2.1⟩
theorem no_mark {n : Nat} : ∀ (f : Nat) (l : List Nat), (∀ m ∈ l, m < ns.length ∧ (n < m ∨ behind ns m ≤ n)) → withoutF (markedF ns f l) n = markedF ns f l := by
  intro f
  induction f with
  | zero => intro l _; rfl
  | succ f ih =>
    intro l
    induction l with
    | nil => intro _; rfl
    | cons a r ihr =>
      intro h
      obtain ⟨h1, h2⟩ := h a (by simp)
      have hb := (behind_spec h1).1
      have e1 : markedF ns (f + 1) (a :: r) = .cons (mark ns a) (markedF ns f (kidsOf ns a)) (markedF ns (f + 1) r) := rfl
      have hne : ¬ (mark ns a).up = (n : Int) := by show ¬ (a : Int) = n; omega
      rw [e1, withoutF, if_neg hne, ihr (fun m hm => h m (by simp [hm])), ih (kidsOf ns a) (fun k hk => by
        obtain ⟨k1, k2, k3, k4⟩ := kid_in hg h1 hk
        exact ⟨k1, by omega⟩)]
/-- a tree in which n is not, laid down -/
theorem far_tree {n : Nat} (f m pos : Nat) (up : Int) (h : m < ns.length) (hf : ns.length ≤ m + f) (hn : n < m ∨ behind ns m ≤ n) :
    layT (mark ns m) (withoutF (markedF ns f (kidsOf ns m)) n) pos up = seg ns m (behind ns m) (fun u => if u < m then up else u - m + pos) := by
  rw [no_mark hg f _ (fun k hk => by
    obtain ⟨k1, k2, k3, k4⟩ := kid_in hg h hk
    exact ⟨k1, by omega⟩)]
  exact mark_tree hg f m pos up h hf
theorem rem_tree {n : Nat} (hn : n < ns.length) : ∀ (f m pos : Nat) (up : Int), m < n → n < behind ns m → ns.length ≤ m + f →
    layT (mark ns m) (withoutF (markedF ns f (kidsOf ns m)) n) pos up = seg ns m n (fun u => if u < m then up else u - m + pos) ++ seg ns (behind ns n) (behind ns m) (fun u => if u < n then u - m + pos else u - ((behind ns n : Int) - n) - m + pos) := by
  intro f
  obtain ⟨e1, e2, e3, e4⟩ := behind_spec hn
  induction f with
  | zero => intro m pos up h1 h2 h3; omega
  | succ f ih =>
    intro m pos up hmn hnb hf
    have hm : m < ns.length := by omega
    obtain ⟨a1, a2, a3, a4⟩ := behind_spec hm
    have hEm : behind ns n ≤ behind ns m := by
      rcases Nat.lt_or_ge (behind ns m) (behind ns n) with h | h
      · have := a4 (by omega)
        have := e3 (behind ns m) hnb h
        omega
      · exact h
    -- behind n
    have after : ∀ (d lo p : Nat), behind ns m - lo = d → behind ns n ≤ lo → lo ≤ behind ns m → (lo < behind ns m → upOf ns lo = m) → p + (behind ns n - n) + m = pos + lo →
        layF (withoutF (mtrees (fun k => markedF ns f (kidsOf ns k)) ns (kidsFrom ns m lo)) n) p pos = seg ns lo (behind ns m) (fun u => if u < n then u - m + pos else u - ((behind ns n : Int) - n) - m + pos) := by
      intro d
      induction d using Nat.strongRecOn with
      | ind d ihd =>
        intro lo p hd h1 h2 h3 hp
        rcases Nat.lt_or_ge lo (behind ns m) with h4 | h4
        · have hu := h3 h4
          obtain ⟨b1, b2, b3, b4⟩ := next_kid hg hm (by omega) h4 hu
          rw [from_cons b1 (by omega) hu b4]
          have hT := far_tree hg (n := n) f lo p pos (by omega) (by omega) (Or.inl (by omega))
          have hsz : (withoutF (markedF ns f (kidsOf ns lo)) n).size + 1 = behind ns lo - lo := by
            have := congrArg List.length hT
            rwa [layT_len, seg_len (by omega)] at this
          have hR := ihd (behind ns m - behind ns lo) (by omega) (behind ns lo) (p + (behind ns lo - lo)) rfl (by omega) b2 b3 (by omega)
          have hne : ¬ (mark ns lo).up = (n : Int) := by show ¬ (lo : Int) = n; omega
          show layF (withoutF (.cons (mark ns lo) (markedF ns f (kidsOf ns lo)) (mtrees (fun k => markedF ns f (kidsOf ns k)) ns (kidsFrom ns m (behind ns lo)))) n) p pos = _
          rw [withoutF, if_neg hne, layF, show p + 1 + (withoutF (markedF ns f (kidsOf ns lo)) n).size = p + (behind ns lo - lo) by omega, hR]
          rw [show ({ mark ns lo with up := (pos : Int) } :: layF (withoutF (markedF ns f (kidsOf ns lo)) n) (p + 1) p) = layT (mark ns lo) (withoutF (markedF ns f (kidsOf ns lo)) n) p pos from rfl, hT]
          rw [← seg_append (lo := lo) (mid := behind ns lo) (hi := behind ns m) (by omega) b2 a2]
          congr 1
          refine seg_congr (by omega) fun x h5 h6 => ?_
          by_cases hx : x = lo
          · subst hx
            rw [if_pos (by omega), if_pos (by omega), hu]
            omega
          · have h7 := (behind_spec (ns := ns) (n := lo) (by omega)).2.2.1 x (by omega) h6
            rw [if_neg (by omega), if_neg (by omega)]
            omega
        · have : lo = behind ns m := by omega
          subst this
          rw [from_nil]
          · unfold seg; simp [mtrees, withoutF, layF]
          · intro i h5 h6
            have := behind_out hg hm i h5 h6
            omega
    -- ahead of n
    have ahead : ∀ (d lo : Nat), n - lo = d → m < lo → lo ≤ n → upOf ns lo = m →
        layF (withoutF (mtrees (fun k => markedF ns f (kidsOf ns k)) ns (kidsFrom ns m lo)) n) (pos + (lo - m)) pos = seg ns lo n (fun u => u - m + pos) ++ seg ns (behind ns n) (behind ns m) (fun u => if u < n then u - m + pos else u - ((behind ns n : Int) - n) - m + pos) := by
      intro d
      induction d using Nat.strongRecOn with
      | ind d ihd =>
        intro lo hd h1 h2 hu
        obtain ⟨b1, b2, b3, b4⟩ := next_kid hg hm h1 (by omega) hu
        rw [from_cons b1 (by omega) hu b4]
        show layF (withoutF (.cons (mark ns lo) (markedF ns f (kidsOf ns lo)) (mtrees (fun k => markedF ns f (kidsOf ns k)) ns (kidsFrom ns m (behind ns lo)))) n) (pos + (lo - m)) pos = _
        by_cases hln : lo = n
        · subst hln
          rw [withoutF, if_pos (show (mark ns lo).up = (lo : Int) from rfl), after _ (behind ns lo) (pos + (lo - m)) rfl (Nat.le_refl _) b2 b3 (by omega)]
          have : seg ns lo lo (fun u => u - m + (pos : Int)) = [] := by unfold seg; simp
          rw [this]; rfl
        · have hne : ¬ (mark ns lo).up = (n : Int) := by show ¬ (lo : Int) = n; omega
          rw [withoutF, if_neg hne, layF]
          rw [show ({ mark ns lo with up := (pos : Int) } :: layF (withoutF (markedF ns f (kidsOf ns lo)) n) (pos + (lo - m) + 1) (pos + (lo - m) : Nat)) = layT (mark ns lo) (withoutF (markedF ns f (kidsOf ns lo)) n) (pos + (lo - m)) pos from rfl]
          rcases Nat.lt_or_ge n (behind ns lo) with h4 | h4
          · have hT := ih lo (pos + (lo - m)) pos (by omega) h4 (by omega)
            have hE2 : behind ns n ≤ behind ns lo := by
              obtain ⟨c1, c2, c3, c4⟩ := behind_spec (ns := ns) (n := lo) (by omega)
              rcases Nat.lt_or_ge (behind ns lo) (behind ns n) with h | h
              · have := c4 (by omega)
                have := e3 (behind ns lo) h4 h
                omega
              · exact h
            have hsz : (withoutF (markedF ns f (kidsOf ns lo)) n).size + 1 = (n - lo) + (behind ns lo - behind ns n) := by
              have := congrArg List.length hT
              rwa [layT_len, List.length_append, seg_len (by omega), seg_len (by omega)] at this
            rw [hT, after _ (behind ns lo) (pos + (lo - m) + 1 + (withoutF (markedF ns f (kidsOf ns lo)) n).size) rfl hE2 b2 b3 (by omega)]
            rw [← seg_append (lo := behind ns n) (mid := behind ns lo) (hi := behind ns m) hE2 b2 a2, ← List.append_assoc]
            congr 1
            congr 1
            · refine seg_congr (by omega) fun x h5 h6 => ?_
              by_cases hx : x = lo
              · subst hx
                rw [if_pos (by omega), hu]
                omega
              · have h7 := (behind_spec (ns := ns) (n := lo) (by omega)).2.2.1 x (by omega) (by omega)
                rw [if_neg (by omega)]
                omega
            · refine seg_congr (by omega) fun x h5 h6 => ?_
              have h7 := (behind_spec (ns := ns) (n := lo) (by omega)).2.2.1 x (by omega) (by omega)
              by_cases hx : upOf ns x < n
              · rw [if_pos hx, if_pos hx]; omega
              · rw [if_neg hx, if_neg hx]; omega
          · have hT := far_tree hg (n := n) f lo (pos + (lo - m)) pos (by omega) (by omega) (Or.inr h4)
            have hsz : (withoutF (markedF ns f (kidsOf ns lo)) n).size + 1 = behind ns lo - lo := by
              have := congrArg List.length hT
              rwa [layT_len, seg_len (by omega)] at this
            have hR := ihd (n - behind ns lo) (by omega) (behind ns lo) rfl (by omega) h4 (b3 (by omega))
            rw [hT, show pos + (lo - m) + 1 + (withoutF (markedF ns f (kidsOf ns lo)) n).size = pos + (behind ns lo - m) by omega, hR, ← seg_append (lo := lo) (mid := behind ns lo) (hi := n) (by omega) h4 (by omega), List.append_assoc]
            congr 1
            refine seg_congr (by omega) fun x h5 h6 => ?_
            by_cases hx : x = lo
            · subst hx
              rw [if_pos (by omega), hu]
              omega
            · have h7 := (behind_spec (ns := ns) (n := lo) (by omega)).2.2.1 x (by omega) h6
              rw [if_neg (by omega)]
              omega
    have hk : kidsOf ns m = kidsFrom ns m (m + 1) := kids_from (by omega) fun i hi => by have := low_of hg i (by omega); omega
    have h1 := ahead _ (m + 1) rfl (by omega) (by omega) (by
      have := a3 (m + 1) (by omega) (by omega)
      have := low_of hg (m + 1) (by omega)
      omega)
    rw [seg_cons (lo := m) (hi := n) (by omega) (by omega)]
    unfold layT
    show _ :: layF (withoutF (mtrees (fun k => markedF ns f (kidsOf ns k)) ns (kidsOf ns m)) n) (pos + 1) pos = _
    rw [hk, show pos + 1 = pos + (m + 1 - m) by omega, h1, List.cons_append]
    congr 1
    · rw [if_pos (low_of hg m hm).2]
      rfl
    · congr 1
      refine seg_congr (by omega) fun x h5 h6 => ?_
      have := a3 x (by omega) (by omega)
      rw [if_neg (by omega)]
end
end Go.Proofs.YtbpgcfabepioiaaGreat.Pl
