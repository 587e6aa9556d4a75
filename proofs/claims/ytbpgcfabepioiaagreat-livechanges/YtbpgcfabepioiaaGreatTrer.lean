/-
  What was laid in is there, and taken out again leaves all as it was: in plain lists.
-/
import Derived.Test.YtbpgcfabepioiaaGreatTree
namespace Go.Proofs.YtbpgcfabepioiaaGreat
open Pl

/-- a place below k -/
structure Place (ns : List Pl.Nd) (k P : Nat) : Prop where
  lt : k < P
  le : P ≤ ns.length
  ins : ∀ m : Nat, k < m → m < P → (k : Int) ≤ upOf ns m
  nxt : P < ns.length → upOf ns P ≤ k

theorem up_low {ns : List Pl.Nd} (hg : GoodTo ns ns.length) {i : Nat} (h : i < ns.length) : -1 ≤ upOf ns i ∧ upOf ns i < i ∧ (0 < i → 0 ≤ upOf ns i) := by
  obtain ⟨a, b⟩ := hg i h
  rcases Nat.eq_zero_or_pos i with h0 | h0
  · have := a h0; omega
  · have := b h0; omega

section
variable {ns es : List Pl.Nd} {k P : Nat}
theorem ins_len : (insRow ns k P es).length = ns.length + es.length := insRow_len _ _ _ _
theorem ins_up1 (hP : P ≤ ns.length) {i : Nat} (h : i < P) : upOf (insRow ns k P es) i = upOf ns i := by
  unfold insRow
  rw [upOf_left (by simp; omega), upOf_left (by simp; omega), map_mvd_id, upOf_take h]
theorem ins_up2 (hP : P ≤ ns.length) {i : Nat} (h : P ≤ i) (h2 : i < P + es.length) : upOf (insRow ns k P es) i = mvIn k P (upOf es (i - P)) := by
  unfold insRow
  have hl : ((ns.take P).map (mvd id)).length = P := by simp; omega
  rw [upOf_left (by simp; omega), upOf_right (by omega), hl, upOf_map (by omega)]
theorem ins_up3 (hP : P ≤ ns.length) {i : Nat} (h : P + es.length ≤ i) (h2 : i < ns.length + es.length) : upOf (insRow ns k P es) i = mvOut P es.length (upOf ns (i - es.length)) := by
  unfold insRow
  have hl : ((ns.take P).map (mvd id) ++ es.map (mvd (mvIn k P))).length = P + es.length := by simp; omega
  rw [upOf_right (by omega), hl, upOf_map (by simp; omega), upOf_drop]
  congr 2
  omega
theorem mvIn_neg (u : Int) (h : u < 0) : mvIn k P u = k := by unfold mvIn; rw [if_pos h]
theorem mvIn_pos (u : Int) (h : 0 ≤ u) (h2 : u < 1000) (hP : P ≤ 1000) : mvIn k P u = u + P := by unfold mvIn; rw [if_neg (by omega), wr_in (by omega) (by omega)]
theorem mvOut_lt (d : Nat) (u : Int) (h : u < P) : mvOut P d u = u := by unfold mvOut; rw [if_pos h]
theorem mvOut_ge (d : Nat) (u : Int) (h : (P : Int) ≤ u) (h2 : u < 1000) (hd : d ≤ 1000) : mvOut P d u = u + d := by unfold mvOut; rw [if_neg (by omega), wr_in (by omega) (by omega)]

theorem ins_good (hg : GoodTo ns ns.length) (he : GoodTo es es.length) (he1 : 1 ≤ es.length) (h64 : ns.length + es.length ≤ 64) (hp : Place ns k P) : GoodTo (insRow ns k P es) (insRow ns k P es).length := by
  rw [ins_len]
  obtain ⟨p1, p2, p3, p4⟩ := hp
  have hE : ∀ i : Nat, i < es.length → (i = 0 → upOf (insRow ns k P es) (P + i) = k) ∧ (0 < i → 0 ≤ upOf es i ∧ upOf es i < i ∧ upOf (insRow ns k P es) (P + i) = upOf es i + P) := by
    intro i hi
    have h1 := ins_up2 (k := k) (es := es) p2 (i := P + i) (by omega) (by omega)
    rw [show P + i - P = i by omega] at h1
    refine ⟨fun h0 => ?_, fun h0 => ?_⟩
    · rw [h1, (he i hi).1 h0, mvIn_neg _ (by omega)]
    · have := (he i hi).2 h0
      exact ⟨this.1, this.2.1, by rw [h1, mvIn_pos _ this.1 (by omega) (by omega)]⟩
  have hO : ∀ i : Nat, P ≤ i → i < ns.length → (upOf ns i < P → upOf (insRow ns k P es) (i + es.length) = upOf ns i) ∧ ((P : Int) ≤ upOf ns i → upOf (insRow ns k P es) (i + es.length) = upOf ns i + es.length) := by
    intro i h1 h2
    have h3 := ins_up3 (k := k) (es := es) p2 (i := i + es.length) (by omega) (by omega)
    rw [show i + es.length - es.length = i by omega] at h3
    have hl := up_low hg h2
    refine ⟨fun h => by rw [h3, mvOut_lt _ _ h], fun h => by rw [h3, mvOut_ge _ _ h (by omega) (by omega)]⟩
  have hI : ∀ i : Nat, i < P → upOf (insRow ns k P es) i = upOf ns i := fun i h => ins_up1 p2 h
  intro n hn
  by_cases c1 : n < P
  · rw [hI n c1]
    obtain ⟨a, b⟩ := hg n (by omega)
    refine ⟨a, fun h0 => ?_⟩
    obtain ⟨b1, b2, b3⟩ := b h0
    exact ⟨b1, b2, fun m h1 h2 => by rw [hI m (by omega)]; exact b3 m h1 h2⟩
  refine ⟨fun h0 => by omega, fun _ => ?_⟩
  by_cases c2 : n < P + es.length
  · obtain ⟨i, rfl⟩ : ∃ i, n = P + i := ⟨n - P, by omega⟩
    obtain ⟨e1, e2⟩ := hE i (by omega)
    rcases Nat.eq_zero_or_pos i with h0 | h0
    · rw [e1 h0]
      refine ⟨by omega, by omega, fun m h1 h2 => ?_⟩
      rw [hI m (by omega)]
      exact p3 m (by omega) (by omega)
    · obtain ⟨q1, q2, q3⟩ := e2 h0
      rw [q3]
      refine ⟨by omega, by omega, fun m h1 h2 => ?_⟩
      obtain ⟨j, rfl⟩ : ∃ j, m = P + j := ⟨m - P, by omega⟩
      obtain ⟨_, f2⟩ := hE j (by omega)
      obtain ⟨r1, r2, r3⟩ := f2 (by omega)
      rw [r3]
      have := ((he i (by omega)).2 h0).2.2 j (by omega) (by omega)
      omega
  · obtain ⟨i, rfl⟩ : ∃ i, n = i + es.length := ⟨n - es.length, by omega⟩
    have hi : i < ns.length := by omega
    obtain ⟨o1, o2⟩ := hO i (by omega) hi
    have hl := up_low hg hi
    have hgi := (hg i hi).2 (by omega)
    by_cases hu : upOf ns i < P
    · rw [o1 hu]
      refine ⟨hgi.1, by omega, fun m h1 h2 => ?_⟩
      by_cases m1 : m < P
      · rw [hI m m1]; exact hgi.2.2 m h1 (by omega)
      · by_cases m2 : m < P + es.length
        · obtain ⟨j, rfl⟩ : ∃ j, m = P + j := ⟨m - P, by omega⟩
          obtain ⟨e1, e2⟩ := hE j (by omega)
          rcases Nat.eq_zero_or_pos j with h0 | h0
          · rw [e1 h0]
            have h4 := p4 (by omega)
            by_cases hPi : P = i
            · subst hPi; exact h4
            · have := hgi.2.2 P hu (by omega)
              omega
          · have := e2 h0
            omega
        · obtain ⟨j, rfl⟩ : ∃ j, m = j + es.length := ⟨m - es.length, by omega⟩
          obtain ⟨s1, s2⟩ := hO j (by omega) (by omega)
          have := hgi.2.2 j (by omega) (by omega)
          by_cases hv : upOf ns j < P
          · rw [s1 hv]; exact this
          · rw [s2 (by omega)]; omega
    · rw [o2 (by omega)]
      refine ⟨by omega, by omega, fun m h1 h2 => ?_⟩
      obtain ⟨j, rfl⟩ : ∃ j, m = j + es.length := ⟨m - es.length, by omega⟩
      obtain ⟨s1, s2⟩ := hO j (by omega) (by omega)
      have := hgi.2.2 j (by omega) (by omega)
      rw [s2 (by omega)]
      omega
theorem ins_rights (h : Rights ns) (h2 : Rights es) : Rights (insRow ns k P es) := rights_append (rights_append (rights_mvd (rights_take h)) (rights_mvd h2)) (rights_mvd (rights_drop h))
/-- what was laid in ends where it ends -/
theorem ins_behind (hg : GoodTo ns ns.length) (he : GoodTo es es.length) (he1 : 1 ≤ es.length) (h64 : ns.length + es.length ≤ 64) (hp : Place ns k P) : behind (insRow ns k P es) P = P + es.length := by
  obtain ⟨p1, p2, p3, p4⟩ := hp
  refine behind_eq (by rw [ins_len]; omega) (by omega) (by rw [ins_len]; omega) (fun m h1 h2 => ?_) (fun h => ?_)
  · rw [ins_up2 p2 (by omega) h2]
    have := (he (m - P) (by omega)).2 (by omega)
    rw [mvIn_pos _ this.1 (by omega) (by omega)]
    omega
  · rw [ins_len] at h
    rw [ins_up3 p2 (Nat.le_refl _) h, show P + es.length - es.length = P by omega]
    have := up_low hg (i := P) (by omega)
    rw [mvOut_lt _ _ this.2.1]
    exact this.2.1
theorem ins_part (hg : GoodTo ns ns.length) (he : GoodTo es es.length) (he1 : 1 ≤ es.length) (h64 : ns.length + es.length ≤ 64) (hp : Place ns k P) (hc : checkAtOf (insRow ns k P es) P = 0) : partOf (insRow ns k P es) P = es := by
  unfold partOf
  rw [if_pos hc, show ((P : Int)).toNat = P by omega, ins_behind hg he he1 h64 hp, show P + es.length - P = es.length by omega]
  have hx : ((insRow ns k P es).drop P).take es.length = es.map (mvd (mvIn k P)) := by
    unfold insRow
    have hl : ((ns.take P).map (mvd id)).length = P := by have := hp.le; simp; omega
    rw [List.append_assoc, List.drop_append_of_le_length (by omega), List.drop_of_length_le (by omega), List.nil_append, List.take_append_of_le_length (by simp), List.take_of_length_le (by simp)]
  rw [hx]
  refine mvd_back fun i hi => ?_
  obtain ⟨a, b⟩ := he i hi
  rcases Nat.eq_zero_or_pos i with h0 | h0
  · rw [a h0, mvIn_neg _ (by omega)]
    unfold mvPart
    have := hp.lt
    rw [if_pos (by omega)]
  · have hb := b h0
    rw [mvIn_pos _ hb.1 (by omega) (by have := hp.le; omega)]
    unfold mvPart
    rw [if_neg (by omega), wr_in (by omega) (by omega)]
    omega
theorem ins_rem (hg : GoodTo ns ns.length) (he : GoodTo es es.length) (he1 : 1 ≤ es.length) (h64 : ns.length + es.length ≤ 64) (hp : Place ns k P) (hc : remErr (insRow ns k P es) P = 0) : remOf (insRow ns k P es) P = ns := by
  unfold remOf
  rw [if_pos hc, show ((P : Int)).toNat = P by omega, ins_behind hg he he1 h64 hp]
  have hl : ((ns.take P).map (mvd id)).length = P := by have := hp.le; simp; omega
  have h1 : (insRow ns k P es).take P = ns.take P := by
    unfold insRow
    rw [List.append_assoc, List.take_append_of_le_length (by omega), List.take_of_length_le (by omega), map_mvd_id]
  have h2 : (insRow ns k P es).drop (P + es.length) = (ns.drop P).map (mvd (mvOut P es.length)) := by
    unfold insRow
    have hl2 : ((ns.take P).map (mvd id) ++ es.map (mvd (mvIn k P))).length = P + es.length := by rw [List.length_append, hl, List.length_map]
    rw [List.drop_append_of_le_length (by omega), List.drop_of_length_le (by omega), List.nil_append]
  rw [h1, h2, map_mvd_id, mvd_back, List.take_append_drop]
  intro i hi
  rw [upOf_drop]
  have hi' : P + i < ns.length := by simp at hi; omega
  have hlw := up_low hg hi'
  by_cases hu : upOf ns (P + i) < P
  · rw [mvOut_lt _ _ hu]
    unfold mvRem
    rw [if_pos hu]
  · rw [mvOut_ge _ _ (by omega) (by omega) (by omega)]
    unfold mvRem
    rw [if_neg (by omega), wr_in (by omega) (by omega)]
    omega
end
end Go.Proofs.YtbpgcfabepioiaaGreat
/-
  Kids, and the two ways back, in plain lists.
-/
namespace Go.Proofs.YtbpgcfabepioiaaGreat
open Pl

theorem kidsTo_split (ns : List Pl.Nd) (n : Int) (a : Nat) : ∀ b, a ≤ b → ∃ r, kidsTo ns n b = kidsTo ns n a ++ r ∧ ∀ x ∈ r, a ≤ x
  | 0, h => ⟨[], by rw [show a = 0 by omega]; simp, fun x hx => by simp at hx⟩
  | b + 1, h => by
    by_cases hb : a = b + 1
    · subst hb; exact ⟨[], by simp, fun x hx => by simp at hx⟩
    · obtain ⟨r, h1, h2⟩ := kidsTo_split ns n a b (by omega)
      cases hh : (upOf ns b == n) with
      | true =>
        refine ⟨r ++ [b], by rw [kidsTo_hit ns n b hh, h1, List.append_assoc], fun x hx => ?_⟩
        rcases List.mem_append.1 hx with hx | hx
        · exact h2 x hx
        · simp at hx; omega
      | false => exact ⟨r, by rw [kidsTo_miss ns n b hh, h1], h2⟩
theorem kidsTo_congr {xs ys : List Pl.Nd} (n : Int) (a : Nat) (h : ∀ i, i < a → upOf xs i = upOf ys i) : kidsTo xs n a = kidsTo ys n a := by
  unfold kidsTo
  refine List.filter_congr fun i hi => ?_
  rw [h i (by simpa using hi)]
theorem kids_mem {ns : List Pl.Nd} {n : Int} {i : Nat} (h : i ∈ kidsOf ns n) : i < ns.length ∧ upOf ns i = n := by
  unfold kidsOf kidsTo at h
  obtain ⟨h1, h2⟩ := List.mem_filter.1 h
  exact ⟨by simpa using h1, by simpa using h2⟩
theorem kid_at {ns : List Pl.Nd} {n : Int} {P : Nat} (h : P < ns.length) (hu : upOf ns P = n) : (kidsOf ns n)[(kidsTo ns n P).length]? = some P := by
  obtain ⟨r, h1, _⟩ := kidsTo_split ns n (P + 1) ns.length (by omega)
  unfold kidsOf
  rw [h1, kidsTo_hit ns n P (by simpa using hu), List.append_assoc, List.getElem?_append_right (Nat.le_refl _)]
  simp
theorem kids_sorted (ns : List Pl.Nd) (n : Int) : (kidsOf ns n).Pairwise (· < ·) := by
  unfold kidsOf kidsTo
  exact List.Pairwise.filter _ List.pairwise_lt_range
theorem kid_index {ns : List Pl.Nd} {n : Int} {P j : Nat} (h : (kidsOf ns n)[j]? = some P) : (kidsTo ns n P).length = j := by
  obtain ⟨hj, hv⟩ := List.getElem?_eq_some_iff.1 h
  obtain ⟨h1, h2⟩ := kids_mem (List.getElem_mem hj)
  rw [hv] at h1 h2
  obtain ⟨hj2, hv2⟩ := List.getElem?_eq_some_iff.1 (kid_at h1 h2)
  have hs := List.pairwise_iff_getElem.1 (kids_sorted ns n)
  rcases Nat.lt_trichotomy (kidsTo ns n P).length j with hh | hh | hh
  · have := hs _ _ hj2 hj hh; omega
  · exact hh
  · have := hs _ _ hj hj2 hh; omega

theorem ins_zero {ns es : List Pl.Nd} {up at_ : Int} (h : insErr ns up at_ es = 0) : checkDoc ns = 0 ∧ checkDoc es = 0 ∧ (∃ k : Nat, up = k ∧ k < ns.length) ∧ (∃ j : Nat, at_ = j ∧ j ≤ (kidsOf ns up).length) ∧ ns.length + es.length ≤ 64 := by
  unfold insErr at h
  split at h
  · split at h
    · split at h
      · rename_i h1 h2 h3
        unfold hasB at h3
        simp only [Bool.and_eq_true, decide_eq_true_eq] at h3
        split at h
        · omega
        · split at h
          · omega
          · exact ⟨h1, h2, ⟨up.toNat, by omega, by omega⟩, ⟨at_.toNat, by omega, by omega⟩, by omega⟩
      · omega
    · omega
  · omega
theorem place_ok {ns : List Pl.Nd} {k j : Nat} (hg : GoodTo ns ns.length) (hk : k < ns.length) (hj : j ≤ (kidsOf ns k).length) : Place ns k (placeOf ns k j) ∧ (kidsTo ns k (placeOf ns k j)).length = j := by
  unfold placeOf
  by_cases hjl : j < (kidsOf ns k).length
  · rw [if_pos (by omega), show ((j : Int)).toNat = j by omega]
    have hv : (kidsOf ns k)[j]? = some ((kidsOf ns k).getD j 0) := by rw [List.getD, List.getElem?_eq_getElem hjl]; rfl
    generalize (kidsOf ns k).getD j 0 = P at *
    obtain ⟨hj2, hv2⟩ := List.getElem?_eq_some_iff.1 hv
    obtain ⟨h1, h2⟩ := kids_mem (List.getElem_mem hj2)
    rw [hv2] at h1 h2
    have hl := up_low hg h1
    refine ⟨⟨by omega, by omega, fun m h3 h4 => ?_, fun _ => by omega⟩, kid_index hv⟩
    have := ((hg P h1).2 (by omega)).2.2 m (by omega) h4
    omega
  · rw [if_neg (by omega), show ((k : Int)).toNat = k by omega]
    obtain ⟨a, b, c, d⟩ := behind_spec hk
    refine ⟨⟨by omega, b, c, fun h => by have := d h; omega⟩, ?_⟩
    obtain ⟨r, h1, h2⟩ := kidsTo_split ns k (behind ns k) ns.length b
    have hr : r = [] := by
      rcases r with _ | ⟨x, r⟩
      · rfl
      · have hx : x ∈ kidsOf ns k := by unfold kidsOf; rw [h1]; simp
        obtain ⟨m1, m2⟩ := kids_mem hx
        have := h2 x (by simp)
        rcases behind_out hg hk x this m1 with h | h <;> omega
    rw [hr, List.append_nil] at h1
    have : (kidsOf ns k).length = (kidsTo ns k (behind ns k)).length := by unfold kidsOf; rw [h1]
    omega
theorem checkAt_of {ns : List Pl.Nd} {k : Nat} (h : checkDoc ns = 0) (hk : k < ns.length) : checkAtOf ns k = 0 := by
  unfold checkAtOf hasB
  rw [if_pos h, if_pos (by simp; omega)]
/-- what was laid in is the part there, and taken out again it leaves all as it was -/
theorem ins_back {ns es : List Pl.Nd} {up at_ : Int} (h : insErr ns up at_ es = 0) : ∃ j P : Nat, at_ = j ∧ checkDoc (insOf ns up at_ es) = 0 ∧ checkAtOf (insOf ns up at_ es) up = 0 ∧ (kidsAns (insOf ns up at_ es) up)[j]? = some P ∧
    checkAtOf (insOf ns up at_ es) P = 0 ∧ partOf (insOf ns up at_ es) P = es ∧ remErr (insOf ns up at_ es) P = 0 ∧ remOf (insOf ns up at_ es) P = ns := by
  obtain ⟨c1, c2, ⟨k, rfl, hk⟩, ⟨j, rfl, hj⟩, h64⟩ := ins_zero h
  obtain ⟨l1, l2, r1, g1⟩ := (check_iff ns).1 c1
  obtain ⟨m1, m2, r2, g2⟩ := (check_iff es).1 c2
  obtain ⟨hp, hkl⟩ := place_ok g1 hk hj
  have hX : insOf ns k j es = insRow ns k (placeOf ns k j) es := by unfold insOf; rw [if_pos h]
  rw [hX]
  generalize placeOf ns k j = P at *
  have hc : checkDoc (insRow ns k P es) = 0 := (check_iff _).2 ⟨by rw [ins_len]; omega, by rw [ins_len]; omega, ins_rights r1 r2, ins_good g1 g2 m1 h64 hp⟩
  have hlP := hp.lt
  have hlP2 := hp.le
  have hcP : checkAtOf (insRow ns k P es) P = 0 := checkAt_of hc (by rw [ins_len]; omega)
  have hck : checkAtOf (insRow ns k P es) k = 0 := checkAt_of hc (by rw [ins_len]; omega)
  have hr : remErr (insRow ns k P es) P = 0 := by unfold remErr; rw [if_pos hcP, if_neg (by omega)]
  refine ⟨j, P, rfl, hc, hck, ?_, hcP, ins_part g1 g2 m1 h64 hp hcP, hr, ins_rem g1 g2 m1 h64 hp hr⟩
  unfold kidsAns
  rw [if_pos hck]
  have hu : upOf (insRow ns k P es) P = k := by
    rw [ins_up2 hlP2 (Nat.le_refl _) (by omega), Nat.sub_self, (g2 0 (by omega)).1 rfl, mvIn_neg _ (by omega)]
  have := kid_at (by rw [ins_len]; omega : P < (insRow ns k P es).length) hu
  rw [kidsTo_congr k P (fun i hi => ins_up1 hlP2 hi), hkl] at this
  exact this
end Go.Proofs.YtbpgcfabepioiaaGreat
/-
  What was taken out and laid in again leaves all as it was: in plain lists.
-/
namespace Go.Proofs.YtbpgcfabepioiaaGreat
open Pl

/-- the rest, and the part, of element N whose own end at e -/
def restRow (ns : List Pl.Nd) (N e : Nat) : List Pl.Nd := ns.take N ++ (ns.drop e).map (mvd (mvRem N ((e : Int) - N)))
def partRow (ns : List Pl.Nd) (N e : Nat) : List Pl.Nd := ((ns.drop N).take (e - N)).map (mvd (mvPart N))
section
variable {ns : List Pl.Nd} {N e : Nat}
theorem rest_len (h1 : N ≤ e) (h2 : e ≤ ns.length) : (restRow ns N e).length = ns.length - (e - N) := by unfold restRow; simp; omega
theorem part_len (h1 : N ≤ e) (h2 : e ≤ ns.length) : (partRow ns N e).length = e - N := by unfold partRow; simp; omega
theorem rest_up1 (h1 : N ≤ e) (h2 : e ≤ ns.length) {i : Nat} (h : i < N) : upOf (restRow ns N e) i = upOf ns i := by
  unfold restRow
  rw [upOf_left (by simp; omega), upOf_take h]
theorem rest_up2 (h1 : N ≤ e) (h2 : e ≤ ns.length) {i : Nat} (h : e ≤ i) (h3 : i < ns.length) : upOf (restRow ns N e) (i - (e - N)) = mvRem N ((e : Int) - N) (upOf ns i) := by
  unfold restRow
  have hl : (ns.take N).length = N := by simp; omega
  rw [upOf_right (by omega), hl, upOf_map (by simp; omega), upOf_drop]
  congr 2
  omega
theorem part_up (h2 : e ≤ ns.length) {i : Nat} (h : N ≤ i) (h3 : i < e) : upOf (partRow ns N e) (i - N) = mvPart N (upOf ns i) := by
  unfold partRow
  rw [upOf_map (by simp; omega), upOf_take (by omega), upOf_drop]
  congr 2
  omega
theorem mvRem_lt (d u : Int) (h : u < N) : mvRem N d u = u := by unfold mvRem; rw [if_pos h]
theorem mvRem_ge (d u : Int) (h : (N : Int) ≤ u) (h2 : u < 1000) (h3 : 0 ≤ d) (h4 : d ≤ 1000) : mvRem N d u = u - d := by unfold mvRem; rw [if_neg (by omega), wr_in (by omega) (by omega)]
theorem mvPart_lt (u : Int) (h : u < N) : mvPart N u = -1 := by unfold mvPart; rw [if_pos h]
theorem mvPart_ge (u : Int) (h : (N : Int) ≤ u) (h2 : u < 1000) : mvPart N u = u - N := by unfold mvPart; rw [if_neg (by omega), wr_in (by omega) (by omega)]

theorem part_good (hg : GoodTo ns ns.length) (h64 : ns.length ≤ 64) (hN : N < ns.length) (he : e = behind ns N) : GoodTo (partRow ns N e) (partRow ns N e).length := by
  obtain ⟨b1, b2, b3, b4⟩ := behind_spec hN
  rw [← he] at b1 b2 b3 b4
  rw [part_len (by omega) b2]
  have hU : ∀ i : Nat, 0 < i → i < e - N → (N : Int) ≤ upOf ns (N + i) ∧ upOf ns (N + i) < N + i ∧ upOf (partRow ns N e) i = upOf ns (N + i) - N := by
    intro i h1 h2
    have h3 := part_up (ns := ns) (N := N) b2 (i := N + i) (by omega) (by omega)
    rw [show N + i - N = i by omega] at h3
    have h4 := b3 (N + i) (by omega) (by omega)
    have hl := up_low hg (i := N + i) (by omega)
    exact ⟨h4, by omega, by rw [h3, mvPart_ge _ h4 (by omega)]⟩
  intro n hn
  refine ⟨fun h0 => ?_, fun h0 => ?_⟩
  · have h3 := part_up (ns := ns) (N := N) b2 (i := N) (Nat.le_refl _) (by omega)
    rw [Nat.sub_self] at h3
    rw [h0, h3, mvPart_lt _ (up_low hg hN).2.1]
  · obtain ⟨q1, q2, q3⟩ := hU n h0 hn
    rw [q3]
    refine ⟨by omega, by omega, fun m h1 h2 => ?_⟩
    obtain ⟨s1, s2, s3⟩ := hU m (by omega) (by omega)
    rw [s3]
    have := ((hg (N + n) (by omega)).2 (by omega)).2.2 (N + m) (by omega) (by omega)
    omega
theorem rest_out (hg : GoodTo ns ns.length) (h64 : ns.length ≤ 64) (hN : N < ns.length) (he : e = behind ns N) (i : Nat) (hi : e ≤ i) (hi2 : i < ns.length) :
    (upOf ns i < N → upOf (restRow ns N e) (i - (e - N)) = upOf ns i) ∧ ((N : Int) ≤ upOf ns i → (e : Int) ≤ upOf ns i ∧ upOf (restRow ns N e) (i - (e - N)) = upOf ns i - ((e : Int) - N)) := by
  obtain ⟨b1, b2, b3, b4⟩ := behind_spec hN
  rw [← he] at b1 b2 b3 b4
  have h3 := rest_up2 (ns := ns) (N := N) (by omega) b2 hi hi2
  have ho := behind_out hg hN i (by omega) hi2
  rw [← he] at ho
  have hl := up_low hg hi2
  refine ⟨fun h => by rw [h3, mvRem_lt _ _ h], fun h => ⟨by omega, by rw [h3, mvRem_ge _ _ h (by omega) (by omega) (by omega)]⟩⟩
theorem rest_good (hg : GoodTo ns ns.length) (h64 : ns.length ≤ 64) (hN : N < ns.length) (hN1 : 1 ≤ N) (he : e = behind ns N) : GoodTo (restRow ns N e) (restRow ns N e).length := by
  obtain ⟨b1, b2, b3, b4⟩ := behind_spec hN
  rw [← he] at b1 b2 b3 b4
  rw [rest_len (by omega) b2]
  have hI : ∀ i : Nat, i < N → upOf (restRow ns N e) i = upOf ns i := fun i h => rest_up1 (by omega) b2 h
  intro n hn
  by_cases c1 : n < N
  · rw [hI n c1]
    obtain ⟨a, b⟩ := hg n (by omega)
    refine ⟨a, fun h0 => ?_⟩
    obtain ⟨q1, q2, q3⟩ := b h0
    exact ⟨q1, q2, fun m h1 h2 => by rw [hI m (by omega)]; exact q3 m h1 h2⟩
  refine ⟨fun h0 => by omega, fun _ => ?_⟩
  obtain ⟨i, hi1, hi2, rfl⟩ : ∃ i, e ≤ i ∧ i < ns.length ∧ n = i - (e - N) := ⟨n + (e - N), by omega, by omega, by omega⟩
  obtain ⟨o1, o2⟩ := rest_out hg h64 hN he i hi1 hi2
  have hgi := (hg i hi2).2 (by omega)
  by_cases hu : upOf ns i < N
  · rw [o1 hu]
    refine ⟨hgi.1, by omega, fun m h1 h2 => ?_⟩
    by_cases m1 : m < N
    · rw [hI m m1]; exact hgi.2.2 m h1 (by omega)
    · obtain ⟨j, hj1, hj2, rfl⟩ : ∃ j, e ≤ j ∧ j < i ∧ m = j - (e - N) := ⟨m + (e - N), by omega, by omega, by omega⟩
      obtain ⟨s1, s2⟩ := rest_out hg h64 hN he j hj1 (by omega)
      have := hgi.2.2 j (by omega) (by omega)
      by_cases hv : upOf ns j < N
      · rw [s1 hv]; exact this
      · have := s2 (by omega)
        omega
  · obtain ⟨u1, u2⟩ := o2 (by omega)
    rw [u2]
    refine ⟨by omega, by omega, fun m h1 h2 => ?_⟩
    obtain ⟨j, hj1, hj2, rfl⟩ : ∃ j, e ≤ j ∧ j < i ∧ m = j - (e - N) := ⟨m + (e - N), by omega, by omega, by omega⟩
    obtain ⟨s1, s2⟩ := rest_out hg h64 hN he j hj1 (by omega)
    have := hgi.2.2 j (by omega) (by omega)
    have := s2 (by omega)
    omega
/-- laid in again at N -/
theorem rest_ins (hg : GoodTo ns ns.length) (h64 : ns.length ≤ 64) (hN : N < ns.length) (hN1 : 1 ≤ N) (he : e = behind ns N) (u : Nat) (hu : upOf ns N = u) : insRow (restRow ns N e) u N (partRow ns N e) = ns := by
  obtain ⟨b1, b2, b3, b4⟩ := behind_spec hN
  rw [← he] at b1 b2 b3 b4
  unfold insRow
  have hl : (ns.take N).length = N := by simp; omega
  have h1 : (restRow ns N e).take N = ns.take N := by
    unfold restRow
    rw [List.take_append_of_le_length (by omega), List.take_of_length_le (by omega)]
  have h2 : (restRow ns N e).drop N = (ns.drop e).map (mvd (mvRem N ((e : Int) - N))) := by
    unfold restRow
    rw [List.drop_append_of_le_length (by omega), List.drop_of_length_le (by omega), List.nil_append]
  have h3 : (partRow ns N e).map (mvd (mvIn u N)) = (ns.drop N).take (e - N) := by
    unfold partRow
    refine mvd_back fun i hi => ?_
    have hi' : i < e - N := by simp at hi; omega
    rw [upOf_take hi', upOf_drop]
    rcases Nat.eq_zero_or_pos i with h0 | h0
    · subst h0
      rw [Nat.add_zero, mvPart_lt _ (up_low hg hN).2.1, mvIn_neg _ (by omega), hu]
    · have h4 := b3 (N + i) (by omega) (by omega)
      have hlw := up_low hg (i := N + i) (by omega)
      rw [mvPart_ge _ h4 (by omega), mvIn_pos _ (by omega) (by omega) (by omega)]
      omega
  have h4 : ((ns.drop e).map (mvd (mvRem N ((e : Int) - N)))).map (mvd (mvOut N (partRow ns N e).length)) = ns.drop e := by
    refine mvd_back fun i hi => ?_
    have hi' : e + i < ns.length := by simp at hi; omega
    rw [upOf_drop, part_len (by omega) b2]
    have ho := behind_out hg hN (e + i) (by omega) hi'
    rw [← he] at ho
    have hlw := up_low hg hi'
    by_cases hv : upOf ns (e + i) < N
    · rw [mvRem_lt _ _ hv, mvOut_lt _ _ hv]
    · rw [mvRem_ge _ _ (by omega) (by omega) (by omega) (by omega), mvOut_ge _ _ (by omega) (by omega) (by omega)]
      omega
  rw [h1, h2, h3, h4, map_mvd_id]
  have h5 : ns.drop e = (ns.drop N).drop (e - N) := by rw [List.drop_drop]; congr 1; omega
  rw [h5, List.append_assoc, List.take_append_drop, List.take_append_drop]
end
/-- what was taken out and laid in again leaves all as it was -/
theorem rem_back {ns : List Pl.Nd} {n : Int} (h : checkAtOf ns n = 0) (h2 : remErr ns n = 0) : ∃ N u : Nat, n = N ∧ N < ns.length ∧ upOf ns N = u ∧ checkAtOf ns u = 0 ∧ (kidsOf ns u)[(kidsTo ns u N).length]? = some N ∧ ns.length ≤ 64 ∧
    insErr (remOf ns n) u ((kidsTo ns u N).length : Int) (partOf ns n) = 0 ∧ insOf (remOf ns n) u ((kidsTo ns u N).length : Int) (partOf ns n) = ns := by
  obtain ⟨c1, N, rfl, hN⟩ := checkAt_zero h
  obtain ⟨l1, l2, r1, g1⟩ := (check_iff ns).1 c1
  have hN1 : 1 ≤ N := by
    unfold remErr at h2
    rw [if_pos h] at h2
    split at h2
    · omega
    · omega
  have hgN := (g1 N hN).2 (by omega)
  obtain ⟨u, hu⟩ : ∃ u : Nat, upOf ns N = u := ⟨(upOf ns N).toNat, by omega⟩
  obtain ⟨b1, b2, b3, b4⟩ := behind_spec hN
  have hY : remOf ns N = restRow ns N (behind ns N) := by unfold remOf restRow; rw [if_pos h2, show ((N : Int)).toNat = N by omega, map_mvd_id]
  have hP : partOf ns N = partRow ns N (behind ns N) := by unfold partOf partRow; rw [if_pos h, show ((N : Int)).toNat = N by omega]
  rw [hY, hP]
  have gY := rest_good g1 l2 hN hN1 rfl
  have gP := part_good g1 l2 hN rfl
  have lY := rest_len (ns := ns) (N := N) (by omega) b2
  have lP := part_len (ns := ns) (N := N) (by omega) b2
  have rY : Rights (restRow ns N (behind ns N)) := rights_append (rights_take r1) (rights_mvd (rights_drop r1))
  have rP : Rights (partRow ns N (behind ns N)) := rights_mvd (rights_take (rights_drop r1))
  have cY : checkDoc (restRow ns N (behind ns N)) = 0 := (check_iff _).2 ⟨by omega, by omega, rY, gY⟩
  have cP : checkDoc (partRow ns N (behind ns N)) = 0 := (check_iff _).2 ⟨by omega, by omega, rP, gP⟩
  have hins := rest_ins g1 l2 hN hN1 rfl u hu
  have hcg : kidsTo (restRow ns N (behind ns N)) u N = kidsTo ns u N := kidsTo_congr u N (fun i hi => rest_up1 (by omega) b2 hi)
  have hout := rest_out g1 l2 hN rfl
  obtain ⟨r, hr1, hr2⟩ := kidsTo_split (restRow ns N (behind ns N)) u N (restRow ns N (behind ns N)).length (by omega)
  have hle : (kidsTo ns u N).length ≤ (kidsOf (restRow ns N (behind ns N)) u).length := by
    unfold kidsOf
    rw [hr1, hcg, List.length_append]
    omega
  have hpl : placeOf (restRow ns N (behind ns N)) u ((kidsTo ns u N).length : Int) = N := by
    unfold placeOf
    by_cases hc : N < (restRow ns N (behind ns N)).length ∧ upOf (restRow ns N (behind ns N)) N = u
    · have hk := kid_at hc.1 hc.2
      rw [hcg] at hk
      obtain ⟨hk1, hk2⟩ := List.getElem?_eq_some_iff.1 hk
      rw [if_pos (by omega), show (((kidsTo ns u N).length : Int)).toNat = (kidsTo ns u N).length by omega, List.getD, hk]
      rfl
    · have hEN : behind ns N < ns.length → upOf ns (behind ns N) ≤ u ∧ upOf (restRow ns N (behind ns N)) N = upOf ns (behind ns N) := by
        intro hlt
        have h5 := b4 hlt
        have h6 := ((g1 _ hlt).2 (by omega)).2.2 N (by omega) (by omega)
        have h7 := (hout (behind ns N) (Nat.le_refl _) hlt).1 h5
        rw [show behind ns N - (behind ns N - N) = N by omega] at h7
        exact ⟨by omega, h7⟩
      have hrn : r = [] := by
        rcases r with _ | ⟨s, r⟩
        · rfl
        · have hs : s ∈ kidsOf (restRow ns N (behind ns N)) u := by unfold kidsOf; rw [hr1]; simp
          obtain ⟨m1, m2⟩ := kids_mem hs
          have hsN := hr2 s (by simp)
          exfalso
          apply hc
          refine ⟨by omega, ?_⟩
          by_cases hse : s = N
          · rw [hse] at m2; exact m2
          · have hlt : behind ns N < ns.length := by omega
            obtain ⟨h8, h9⟩ := hEN hlt
            obtain ⟨o1, o2⟩ := hout (s + (behind ns N - N)) (by omega) (by omega)
            rw [show s + (behind ns N - N) - (behind ns N - N) = s by omega] at o1 o2
            have hus : upOf ns (s + (behind ns N - N)) = u := by
              by_cases hv : upOf ns (s + (behind ns N - N)) < N
              · rw [← o1 hv]; exact m2
              · have := o2 (by omega); omega
            have := ((g1 (s + (behind ns N - N)) (by omega)).2 (by omega)).2.2 (behind ns N) (by omega) (by omega)
            rw [h9]
            omega
      have hlen : (kidsOf (restRow ns N (behind ns N)) u).length = (kidsTo ns u N).length := by
        unfold kidsOf
        rw [hr1, hrn, List.append_nil, hcg]
      rw [if_neg (by omega), show ((u : Int)).toNat = u by omega]
      refine behind_eq (by omega) (by omega) (by omega) (fun m h5 h6 => ?_) (fun h5 => ?_)
      · rw [rest_up1 (by omega) b2 h6]
        have := hgN.2.2 m (by omega) h6
        omega
      · obtain ⟨h8, h9⟩ := hEN (by omega)
        have : ¬ upOf (restRow ns N (behind ns N)) N = u := fun h => hc ⟨h5, h⟩
        omega
  have hE : insErr (restRow ns N (behind ns N)) u ((kidsTo ns u N).length : Int) (partRow ns N (behind ns N)) = 0 := by
    unfold insErr hasB
    rw [if_pos cY, if_pos cP, if_pos (by simp; omega), if_neg (by omega), if_neg (by omega)]
  refine ⟨N, u, rfl, hN, hu, checkAt_of c1 (by omega), kid_at hN hu, l2, hE, ?_⟩
  unfold insOf
  rw [if_pos hE, hpl]
  exact hins
end Go.Proofs.YtbpgcfabepioiaaGreat
