/-
  Kids, and the two ways back, in plain lists.
-/
import Derived.Test.YthlpcmgeelkncaaTrei
namespace Go.Proofs.Ythlpcmgeelkncaa
open Pl

theorem kidsTo_split (ns : List Pl.Nd) (n : Int) (a : Nat) : ∀ b, a ≤ b → ∃ r, kidsTo ns n b = kidsTo ns n a ++ r ∧ ∀ x ∈ r, a ≤ x
  | 0, h => ⟨[], by rw [show a = 0 by omega]; simp, fun x hx => by simp at hx⟩
  | b + 1, h => by
    by_cases hb : a = b + 1
    · subst hb; exact ⟨[], by simp, fun x hx => by simp at hx⟩
    · obtain ⟨r, h1, h2⟩ := kidsTo_split ns n a b (by omega)
      cases hh : (upOf ns b == n) with
      | true =>
        refine ⟨r ++ [b], by rw [kidsTo_hit ns n b hh, h1, List.append_assoc], fun x hx => ?_⟩
        rcases List.mem_append.1 hx with hx | hx
        · exact h2 x hx
        · simp at hx; omega
      | false => exact ⟨r, by rw [kidsTo_miss ns n b hh, h1], h2⟩
theorem kidsTo_congr {xs ys : List Pl.Nd} (n : Int) (a : Nat) (h : ∀ i, i < a → upOf xs i = upOf ys i) : kidsTo xs n a = kidsTo ys n a := by
  unfold kidsTo
  refine List.filter_congr fun i hi => ?_
  rw [h i (by simpa using hi)]
theorem kids_mem {ns : List Pl.Nd} {n : Int} {i : Nat} (h : i ∈ kidsOf ns n) : i < ns.length ∧ upOf ns i = n := by
  unfold kidsOf kidsTo at h
  obtain ⟨h1, h2⟩ := List.mem_filter.1 h
  exact ⟨by simpa using h1, by simpa using h2⟩
theorem kid_at {ns : List Pl.Nd} {n : Int} {P : Nat} (h : P < ns.length) (hu : upOf ns P = n) : (kidsOf ns n)[(kidsTo ns n P).length]? = some P := by
  obtain ⟨r, h1, _⟩ := kidsTo_split ns n (P + 1) ns.length (by omega)
  unfold kidsOf
  rw [h1, kidsTo_hit ns n P (by simpa using hu), List.append_assoc, List.getElem?_append_right (Nat.le_refl _)]
  simp
theorem kids_sorted (ns : List Pl.Nd) (n : Int) : (kidsOf ns n).Pairwise (· < ·) := by
  unfold kidsOf kidsTo
  exact List.Pairwise.filter _ List.pairwise_lt_range
theorem kid_index {ns : List Pl.Nd} {n : Int} {P j : Nat} (h : (kidsOf ns n)[j]? = some P) : (kidsTo ns n P).length = j := by
  obtain ⟨hj, hv⟩ := List.getElem?_eq_some_iff.1 h
  obtain ⟨h1, h2⟩ := kids_mem (List.getElem_mem hj)
  rw [hv] at h1 h2
  obtain ⟨hj2, hv2⟩ := List.getElem?_eq_some_iff.1 (kid_at h1 h2)
  have hs := List.pairwise_iff_getElem.1 (kids_sorted ns n)
  rcases Nat.lt_trichotomy (kidsTo ns n P).length j with hh | hh | hh
  · have := hs _ _ hj2 hj hh; omega
  · exact hh
  · have := hs _ _ hj hj2 hh; omega

theorem ins_zero {ns es : List Pl.Nd} {up at_ : Int} (h : insErr ns up at_ es = 0) : checkDoc ns = 0 ∧ checkDoc es = 0 ∧ (∃ k : Nat, up = k ∧ k < ns.length) ∧ (∃ j : Nat, at_ = j ∧ j ≤ (kidsOf ns up).length) ∧ ns.length + es.length ≤ 64 := by
  unfold insErr at h
  split at h
  · split at h
    · split at h
      · rename_i h1 h2 h3
        unfold hasB at h3
        simp only [Bool.and_eq_true, decide_eq_true_eq] at h3
        split at h
        · omega
        · split at h
          · omega
          · exact ⟨h1, h2, ⟨up.toNat, by omega, by omega⟩, ⟨at_.toNat, by omega, by omega⟩, by omega⟩
      · omega
    · omega
  · omega
theorem place_ok {ns : List Pl.Nd} {k j : Nat} (hg : GoodTo ns ns.length) (hk : k < ns.length) (hj : j ≤ (kidsOf ns k).length) : Place ns k (placeOf ns k j) ∧ (kidsTo ns k (placeOf ns k j)).length = j := by
  unfold placeOf
  by_cases hjl : j < (kidsOf ns k).length
  · rw [if_pos (by omega), show ((j : Int)).toNat = j by omega]
    have hv : (kidsOf ns k)[j]? = some ((kidsOf ns k).getD j 0) := by rw [List.getD, List.getElem?_eq_getElem hjl]; rfl
    generalize (kidsOf ns k).getD j 0 = P at *
    obtain ⟨hj2, hv2⟩ := List.getElem?_eq_some_iff.1 hv
    obtain ⟨h1, h2⟩ := kids_mem (List.getElem_mem hj2)
    rw [hv2] at h1 h2
    have hl := up_low hg h1
    refine ⟨⟨by omega, by omega, fun m h3 h4 => ?_, fun _ => by omega⟩, kid_index hv⟩
    have := ((hg P h1).2 (by omega)).2.2 m (by omega) h4
    omega
  · rw [if_neg (by omega), show ((k : Int)).toNat = k by omega]
    obtain ⟨a, b, c, d⟩ := behind_spec hk
    refine ⟨⟨by omega, b, c, fun h => by have := d h; omega⟩, ?_⟩
    obtain ⟨r, h1, h2⟩ := kidsTo_split ns k (behind ns k) ns.length b
    have hr : r = [] := by
      rcases r with _ | ⟨x, r⟩
      · rfl
      · have hx : x ∈ kidsOf ns k := by unfold kidsOf; rw [h1]; simp
        obtain ⟨m1, m2⟩ := kids_mem hx
        have := h2 x (by simp)
        rcases behind_out hg hk x this m1 with h | h <;> omega
    rw [hr, List.append_nil] at h1
    have : (kidsOf ns k).length = (kidsTo ns k (behind ns k)).length := by unfold kidsOf; rw [h1]
    omega
theorem checkAt_of {ns : List Pl.Nd} {k : Nat} (h : checkDoc ns = 0) (hk : k < ns.length) : checkAtOf ns k = 0 := by
  unfold checkAtOf hasB
  rw [if_pos h, if_pos (by simp; omega)]
/-- what was laid in is the part there, and taken out again it leaves all as it was -/
theorem ins_back {ns es : List Pl.Nd} {up at_ : Int} (h : insErr ns up at_ es = 0) : ∃ j P : Nat, at_ = j ∧ checkDoc (insOf ns up at_ es) = 0 ∧ checkAtOf (insOf ns up at_ es) up = 0 ∧ (kidsAns (insOf ns up at_ es) up)[j]? = some P ∧
    checkAtOf (insOf ns up at_ es) P = 0 ∧ partOf (insOf ns up at_ es) P = es ∧ remErr (insOf ns up at_ es) P = 0 ∧ remOf (insOf ns up at_ es) P = ns := by
  obtain ⟨c1, c2, ⟨k, rfl, hk⟩, ⟨j, rfl, hj⟩, h64⟩ := ins_zero h
  obtain ⟨l1, l2, r1, g1⟩ := (check_iff ns).1 c1
  obtain ⟨m1, m2, r2, g2⟩ := (check_iff es).1 c2
  obtain ⟨hp, hkl⟩ := place_ok g1 hk hj
  have hX : insOf ns k j es = insRow ns k (placeOf ns k j) es := by unfold insOf; rw [if_pos h]
  rw [hX]
  generalize placeOf ns k j = P at *
  have hc : checkDoc (insRow ns k P es) = 0 := (check_iff _).2 ⟨by rw [ins_len]; omega, by rw [ins_len]; omega, ins_rights r1 r2, ins_good g1 g2 m1 h64 hp⟩
  have hlP := hp.lt
  have hlP2 := hp.le
  have hcP : checkAtOf (insRow ns k P es) P = 0 := checkAt_of hc (by rw [ins_len]; omega)
  have hck : checkAtOf (insRow ns k P es) k = 0 := checkAt_of hc (by rw [ins_len]; omega)
  have hr : remErr (insRow ns k P es) P = 0 := by unfold remErr; rw [if_pos hcP, if_neg (by omega)]
  refine ⟨j, P, rfl, hc, hck, ?_, hcP, ins_part g1 g2 m1 h64 hp hcP, hr, ins_rem g1 g2 m1 h64 hp hr⟩
  unfold kidsAns
  rw [if_pos hck]
  have hu : upOf (insRow ns k P es) P = k := by
    rw [ins_up2 hlP2 (Nat.le_refl _) (by omega), Nat.sub_self, (g2 0 (by omega)).1 rfl, mvIn_neg _ (by omega)]
  have := kid_at (by rw [ins_len]; omega : P < (insRow ns k P es).length) hu
  rw [kidsTo_congr k P (fun i hi => ins_up1 hlP2 hi), hkl] at this
  exact this
end Go.Proofs.Ythlpcmgeelkncaa
