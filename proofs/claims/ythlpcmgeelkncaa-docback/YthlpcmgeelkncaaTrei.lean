/-
  What was laid in is there, and taken out again leaves all as it was: in plain lists.
-/
import Derived.Test.YthlpcmgeelkncaaTree
namespace Go.Proofs.Ythlpcmgeelkncaa
open Pl

/-- a place below k -/
structure Place (ns : List Pl.Nd) (k P : Nat) : Prop where
  lt : k < P
  le : P ≤ ns.length
  ins : ∀ m : Nat, k < m → m < P → (k : Int) ≤ upOf ns m
  nxt : P < ns.length → upOf ns P ≤ k

theorem up_low {ns : List Pl.Nd} (hg : GoodTo ns ns.length) {i : Nat} (h : i < ns.length) : -1 ≤ upOf ns i ∧ upOf ns i < i ∧ (0 < i → 0 ≤ upOf ns i) := by
  obtain ⟨a, b⟩ := hg i h
  rcases Nat.eq_zero_or_pos i with h0 | h0
  · have := a h0; omega
  · have := b h0; omega

section
variable {ns es : List Pl.Nd} {k P : Nat}
theorem ins_len : (insRow ns k P es).length = ns.length + es.length := insRow_len _ _ _ _
theorem ins_up1 (hP : P ≤ ns.length) {i : Nat} (h : i < P) : upOf (insRow ns k P es) i = upOf ns i := by
  unfold insRow
  rw [upOf_left (by simp; omega), upOf_left (by simp; omega), map_mvd_id, upOf_take h]
theorem ins_up2 (hP : P ≤ ns.length) {i : Nat} (h : P ≤ i) (h2 : i < P + es.length) : upOf (insRow ns k P es) i = mvIn k P (upOf es (i - P)) := by
  unfold insRow
  have hl : ((ns.take P).map (mvd id)).length = P := by simp; omega
  rw [upOf_left (by simp; omega), upOf_right (by omega), hl, upOf_map (by omega)]
theorem ins_up3 (hP : P ≤ ns.length) {i : Nat} (h : P + es.length ≤ i) (h2 : i < ns.length + es.length) : upOf (insRow ns k P es) i = mvOut P es.length (upOf ns (i - es.length)) := by
  unfold insRow
  have hl : ((ns.take P).map (mvd id) ++ es.map (mvd (mvIn k P))).length = P + es.length := by simp; omega
  rw [upOf_right (by omega), hl, upOf_map (by simp; omega), upOf_drop]
  congr 2
  omega
theorem mvIn_neg (u : Int) (h : u < 0) : mvIn k P u = k := by unfold mvIn; rw [if_pos h]
theorem mvIn_pos (u : Int) (h : 0 ≤ u) (h2 : u < 1000) (hP : P ≤ 1000) : mvIn k P u = u + P := by unfold mvIn; rw [if_neg (by omega), wr_in (by omega) (by omega)]
theorem mvOut_lt (d : Nat) (u : Int) (h : u < P) : mvOut P d u = u := by unfold mvOut; rw [if_pos h]
theorem mvOut_ge (d : Nat) (u : Int) (h : (P : Int) ≤ u) (h2 : u < 1000) (hd : d ≤ 1000) : mvOut P d u = u + d := by unfold mvOut; rw [if_neg (by omega), wr_in (by omega) (by omega)]

theorem ins_good (hg : GoodTo ns ns.length) (he : GoodTo es es.length) (he1 : 1 ≤ es.length) (h64 : ns.length + es.length ≤ 64) (hp : Place ns k P) : GoodTo (insRow ns k P es) (insRow ns k P es).length := by
  rw [ins_len]
  obtain ⟨p1, p2, p3, p4⟩ := hp
  have hE : ∀ i : Nat, i < es.length → (i = 0 → upOf (insRow ns k P es) (P + i) = k) ∧ (0 < i → 0 ≤ upOf es i ∧ upOf es i < i ∧ upOf (insRow ns k P es) (P + i) = upOf es i + P) := by
    intro i hi
    have h1 := ins_up2 (k := k) (es := es) p2 (i := P + i) (by omega) (by omega)
    rw [show P + i - P = i by omega] at h1
    refine ⟨fun h0 => ?_, fun h0 => ?_⟩
    · rw [h1, (he i hi).1 h0, mvIn_neg _ (by omega)]
    · have := (he i hi).2 h0
      exact ⟨this.1, this.2.1, by rw [h1, mvIn_pos _ this.1 (by omega) (by omega)]⟩
  have hO : ∀ i : Nat, P ≤ i → i < ns.length → (upOf ns i < P → upOf (insRow ns k P es) (i + es.length) = upOf ns i) ∧ ((P : Int) ≤ upOf ns i → upOf (insRow ns k P es) (i + es.length) = upOf ns i + es.length) := by
    intro i h1 h2
    have h3 := ins_up3 (k := k) (es := es) p2 (i := i + es.length) (by omega) (by omega)
    rw [show i + es.length - es.length = i by omega] at h3
    have hl := up_low hg h2
    refine ⟨fun h => by rw [h3, mvOut_lt _ _ h], fun h => by rw [h3, mvOut_ge _ _ h (by omega) (by omega)]⟩
  have hI : ∀ i : Nat, i < P → upOf (insRow ns k P es) i = upOf ns i := fun i h => ins_up1 p2 h
  intro n hn
  by_cases c1 : n < P
  · rw [hI n c1]
    obtain ⟨a, b⟩ := hg n (by omega)
    refine ⟨a, fun h0 => ?_⟩
    obtain ⟨b1, b2, b3⟩ := b h0
    exact ⟨b1, b2, fun m h1 h2 => by rw [hI m (by omega)]; exact b3 m h1 h2⟩
  refine ⟨fun h0 => by omega, fun _ => ?_⟩
  by_cases c2 : n < P + es.length
  · obtain ⟨i, rfl⟩ : ∃ i, n = P + i := ⟨n - P, by omega⟩
    obtain ⟨e1, e2⟩ := hE i (by omega)
    rcases Nat.eq_zero_or_pos i with h0 | h0
    · rw [e1 h0]
      refine ⟨by omega, by omega, fun m h1 h2 => ?_⟩
      rw [hI m (by omega)]
      exact p3 m (by omega) (by omega)
    · obtain ⟨q1, q2, q3⟩ := e2 h0
      rw [q3]
      refine ⟨by omega, by omega, fun m h1 h2 => ?_⟩
      obtain ⟨j, rfl⟩ : ∃ j, m = P + j := ⟨m - P, by omega⟩
      obtain ⟨_, f2⟩ := hE j (by omega)
      obtain ⟨r1, r2, r3⟩ := f2 (by omega)
      rw [r3]
      have := ((he i (by omega)).2 h0).2.2 j (by omega) (by omega)
      omega
  · obtain ⟨i, rfl⟩ : ∃ i, n = i + es.length := ⟨n - es.length, by omega⟩
    have hi : i < ns.length := by omega
    obtain ⟨o1, o2⟩ := hO i (by omega) hi
    have hl := up_low hg hi
    have hgi := (hg i hi).2 (by omega)
    by_cases hu : upOf ns i < P
    · rw [o1 hu]
      refine ⟨hgi.1, by omega, fun m h1 h2 => ?_⟩
      by_cases m1 : m < P
      · rw [hI m m1]; exact hgi.2.2 m h1 (by omega)
      · by_cases m2 : m < P + es.length
        · obtain ⟨j, rfl⟩ : ∃ j, m = P + j := ⟨m - P, by omega⟩
          obtain ⟨e1, e2⟩ := hE j (by omega)
          rcases Nat.eq_zero_or_pos j with h0 | h0
          · rw [e1 h0]
            have h4 := p4 (by omega)
            by_cases hPi : P = i
            · subst hPi; exact h4
            · have := hgi.2.2 P hu (by omega)
              omega
          · have := e2 h0
            omega
        · obtain ⟨j, rfl⟩ : ∃ j, m = j + es.length := ⟨m - es.length, by omega⟩
          obtain ⟨s1, s2⟩ := hO j (by omega) (by omega)
          have := hgi.2.2 j (by omega) (by omega)
          by_cases hv : upOf ns j < P
          · rw [s1 hv]; exact this
          · rw [s2 (by omega)]; omega
    · rw [o2 (by omega)]
      refine ⟨by omega, by omega, fun m h1 h2 => ?_⟩
      obtain ⟨j, rfl⟩ : ∃ j, m = j + es.length := ⟨m - es.length, by omega⟩
      obtain ⟨s1, s2⟩ := hO j (by omega) (by omega)
      have := hgi.2.2 j (by omega) (by omega)
      rw [s2 (by omega)]
      omega
theorem ins_rights (h : Rights ns) (h2 : Rights es) : Rights (insRow ns k P es) := rights_append (rights_append (rights_mvd (rights_take h)) (rights_mvd h2)) (rights_mvd (rights_drop h))
/-- what was laid in ends where it ends -/
theorem ins_behind (hg : GoodTo ns ns.length) (he : GoodTo es es.length) (he1 : 1 ≤ es.length) (h64 : ns.length + es.length ≤ 64) (hp : Place ns k P) : behind (insRow ns k P es) P = P + es.length := by
  obtain ⟨p1, p2, p3, p4⟩ := hp
  refine behind_eq (by rw [ins_len]; omega) (by omega) (by rw [ins_len]; omega) (fun m h1 h2 => ?_) (fun h => ?_)
  · rw [ins_up2 p2 (by omega) h2]
    have := (he (m - P) (by omega)).2 (by omega)
    rw [mvIn_pos _ this.1 (by omega) (by omega)]
    omega
  · rw [ins_len] at h
    rw [ins_up3 p2 (Nat.le_refl _) h, show P + es.length - es.length = P by omega]
    have := up_low hg (i := P) (by omega)
    rw [mvOut_lt _ _ this.2.1]
    exact this.2.1
theorem ins_part (hg : GoodTo ns ns.length) (he : GoodTo es es.length) (he1 : 1 ≤ es.length) (h64 : ns.length + es.length ≤ 64) (hp : Place ns k P) (hc : checkAtOf (insRow ns k P es) P = 0) : partOf (insRow ns k P es) P = es := by
  unfold partOf
  rw [if_pos hc, show ((P : Int)).toNat = P by omega, ins_behind hg he he1 h64 hp, show P + es.length - P = es.length by omega]
  have hx : ((insRow ns k P es).drop P).take es.length = es.map (mvd (mvIn k P)) := by
    unfold insRow
    have hl : ((ns.take P).map (mvd id)).length = P := by have := hp.le; simp; omega
    rw [List.append_assoc, List.drop_append_of_le_length (by omega), List.drop_of_length_le (by omega), List.nil_append, List.take_append_of_le_length (by simp), List.take_of_length_le (by simp)]
  rw [hx]
  refine mvd_back fun i hi => ?_
  obtain ⟨a, b⟩ := he i hi
  rcases Nat.eq_zero_or_pos i with h0 | h0
  · rw [a h0, mvIn_neg _ (by omega)]
    unfold mvPart
    have := hp.lt
    rw [if_pos (by omega)]
  · have hb := b h0
    rw [mvIn_pos _ hb.1 (by omega) (by have := hp.le; omega)]
    unfold mvPart
    rw [if_neg (by omega), wr_in (by omega) (by omega)]
    omega
theorem ins_rem (hg : GoodTo ns ns.length) (he : GoodTo es es.length) (he1 : 1 ≤ es.length) (h64 : ns.length + es.length ≤ 64) (hp : Place ns k P) (hc : remErr (insRow ns k P es) P = 0) : remOf (insRow ns k P es) P = ns := by
  unfold remOf
  rw [if_pos hc, show ((P : Int)).toNat = P by omega, ins_behind hg he he1 h64 hp]
  have hl : ((ns.take P).map (mvd id)).length = P := by have := hp.le; simp; omega
  have h1 : (insRow ns k P es).take P = ns.take P := by
    unfold insRow
    rw [List.append_assoc, List.take_append_of_le_length (by omega), List.take_of_length_le (by omega), map_mvd_id]
  have h2 : (insRow ns k P es).drop (P + es.length) = (ns.drop P).map (mvd (mvOut P es.length)) := by
    unfold insRow
    have hl2 : ((ns.take P).map (mvd id) ++ es.map (mvd (mvIn k P))).length = P + es.length := by rw [List.length_append, hl, List.length_map]
    rw [List.drop_append_of_le_length (by omega), List.drop_of_length_le (by omega), List.nil_append]
  rw [h1, h2, map_mvd_id, mvd_back, List.take_append_drop]
  intro i hi
  rw [upOf_drop]
  have hi' : P + i < ns.length := by simp at hi; omega
  have hlw := up_low hg hi'
  by_cases hu : upOf ns (P + i) < P
  · rw [mvOut_lt _ _ hu]
    unfold mvRem
    rw [if_pos hu]
  · rw [mvOut_ge _ _ (by omega) (by omega) (by omega)]
    unfold mvRem
    rw [if_neg (by omega), wr_in (by omega) (by omega)]
    omega
end
end Go.Proofs.Ythlpcmgeelkncaa
