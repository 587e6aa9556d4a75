/-
  From where links lead, as lists; and that these lists are what the document says. No program is walked in this text.
-/
import Derived.Test.YtephhllfodlfbaaGreatDoorRcB
namespace Go.Proofs.YtephhllfodlfbaaGreatDoor

/-- the one above, the one above that, and so on -/
def upL (ns : List Pl.Nd) : Nat → Int → List Nat
  | 0, _ => []
  | f + 1, k => if k < 0 then [] else k.toNat :: upL ns f (Pl.upOf ns k.toNat)
def aboveL (ns : List Pl.Nd) (n : Nat) : List Nat := upL ns (n + 1) (Pl.upOf ns n)
/-- the kids of the same one ahead of it, the nearest first -/
def aheadL (ns : List Pl.Nd) (n : Nat) : List Nat := (List.range n).reverse.filter fun m => Pl.upOf ns m == Pl.upOf ns n
def fromL (ns : List Pl.Nd) (k : Int) (n : Nat) : List Nat :=
  if k = 1 then aboveL ns n
  else if k = 2 then (aboveL ns n).take 1
  else if k = 3 then (aheadL ns n).take 1
  else aheadL ns n
theorem any_range {n : Nat} {p q : Nat → Bool} (h : ∀ m, m < n → p m = q m) : (List.range n).any p = (List.range n).any q := by
  rw [Bool.eq_iff_iff, List.any_eq_true, List.any_eq_true]
  constructor
  · rintro ⟨m, hm, e⟩
    exact ⟨m, hm, by rw [← h m (by simpa using hm)]; exact e⟩
  · rintro ⟨m, hm, e⟩
    exact ⟨m, hm, by rw [h m (by simpa using hm)]; exact e⟩
theorem up_any {ns : List Pl.Nd} {N : Nat} (hl : Pl.Low ns N) (f : Nat → Bool) (M : Nat) : ∀ (fuel : Nat) (k : Int), -1 ≤ k → k < N → k < M → k + 1 < fuel + 1 → (upL ns fuel k).any f = (List.range M).any fun m => way ns k m && f m
  | 0, k, h1, h2, _, h3 => by
    have : k = -1 := by omega
    subst this
    rw [show upL ns 0 (-1) = [] from rfl, any_none fun j _ => by rw [way_neg]; rfl]
    rfl
  | fuel + 1, k, h1, h2, hM, h3 => by
    by_cases h0 : k < 0
    · have : k = -1 := by omega
      subst this
      unfold upL
      rw [if_pos h0, any_none fun j _ => by rw [way_neg]; rfl]
      rfl
    · obtain ⟨q, rfl⟩ := Int.eq_ofNat_of_zero_le (by omega : 0 ≤ k)
      have hq : q < N := by omega
      obtain ⟨u1, u2⟩ := hl q hq
      have ih := up_any hl f M fuel (Pl.upOf ns q) u1 (by omega) (by omega) (by omega)
      unfold upL
      rw [if_neg h0, List.any_cons, Int.toNat_natCast, ih, Bool.eq_iff_iff, Bool.or_eq_true, List.any_eq_true, List.any_eq_true]
      constructor
      · rintro (h | ⟨m, hm, h⟩)
        · exact ⟨q, by simpa using (by omega : q < M), by rw [way_hit, h]; rfl⟩
        · refine ⟨m, hm, ?_⟩
          by_cases e : m = q
          · subst e
            rw [Bool.and_eq_true] at h
            rw [way_hit, h.2]
            rfl
          · rw [way_step hl q hq m (by simp; omega)]
            exact h
      · rintro ⟨m, hm, h⟩
        by_cases e : m = q
        · subst e
          rw [Bool.and_eq_true] at h
          exact Or.inl h.2
        · rw [way_step hl q hq m (by simp; omega)] at h
          exact Or.inr ⟨m, hm, h⟩
theorem kidsTo_lt {ns : List Pl.Nd} {u : Int} {m x : Nat} (h : x ∈ Pl.kidsTo ns u m) : x < m := by
  unfold Pl.kidsTo at h
  have := (List.mem_filter.1 h).1
  simpa using this
theorem kidsTo_up {ns : List Pl.Nd} {u : Int} {m x : Nat} (h : x ∈ Pl.kidsTo ns u m) : (Pl.upOf ns x == u) = true := by
  unfold Pl.kidsTo at h
  exact (List.mem_filter.1 h).2
theorem kidsTo_pre (ns : List Pl.Nd) (u : Int) (m : Nat) : ∀ N, m ≤ N → ∃ r, Pl.kidsTo ns u N = Pl.kidsTo ns u m ++ r
  | 0, h => ⟨[], by rw [show m = 0 by omega]; simp⟩
  | N + 1, h => by
    by_cases e : m = N + 1
    · subst e
      exact ⟨[], by simp⟩
    · obtain ⟨r, hr⟩ := kidsTo_pre ns u m N (by omega)
      cases hp : (Pl.upOf ns N == u) with
      | true => exact ⟨r ++ [N], by rw [Pl.kidsTo_hit ns u N hp, hr, List.append_assoc]⟩
      | false => exact ⟨r, by rw [Pl.kidsTo_miss ns u N hp, hr]⟩
/-- the place of a kid is how many are ahead of it -/
theorem plc_kid {ns : List Pl.Nd} {u : Int} {m N : Nat} (hm : m < N) (hp : (Pl.upOf ns m == u) = true) : plc ((Pl.kidsTo ns u N).map fun (k : Nat) => (k : Int)) m = (Pl.kidsTo ns u m).length := by
  obtain ⟨r, hr⟩ := kidsTo_pre ns u (m + 1) N (by omega)
  rw [Pl.kidsTo_hit ns u m hp] at hr
  rw [hr]
  refine plc_hit (by simp) (fun j hj => ?_) ?_
  · rw [List.getElem?_map, List.append_assoc, List.getElem?_append_left hj]
    intro e
    rw [List.getElem?_eq_getElem hj] at e
    simp only [Option.map_some, Option.some.injEq] at e
    have := kidsTo_lt (List.getElem_mem hj)
    omega
  · rw [List.getElem?_map, List.append_assoc, List.getElem?_append_right (Nat.le_refl _)]
    simp
theorem plc_other {ns : List Pl.Nd} {u : Int} {m N : Nat} (hp : (Pl.upOf ns m == u) = false) : plc ((Pl.kidsTo ns u N).map fun (k : Nat) => (k : Int)) m = -1 := by
  refine plc_miss fun j hj e => ?_
  rw [List.getElem?_eq_getElem hj] at e
  simp only [List.getElem_map, Option.some.injEq] at e
  have h1 : j < (Pl.kidsTo ns u N).length := by simpa using hj
  have h2 := kidsTo_up (List.getElem_mem h1)
  rw [show (Pl.kidsTo ns u N)[j] = m by omega, hp] at h2
  cases h2
theorem cnt_mono (ns : List Pl.Nd) (u : Int) {m n : Nat} (hm : m < n) (hp : (Pl.upOf ns m == u) = true) : (Pl.kidsTo ns u m).length + 1 ≤ (Pl.kidsTo ns u n).length := by
  obtain ⟨r, hr⟩ := kidsTo_pre ns u (m + 1) n (by omega)
  rw [Pl.kidsTo_hit ns u m hp] at hr
  rw [hr]
  simp
theorem first_any (ns : List Pl.Nd) (u : Int) (f : Nat → Bool) : ∀ j, (((List.range j).reverse.filter fun m => Pl.upOf ns m == u).take 1).any f = (List.range j).any fun m => ((Pl.upOf ns m == u) && ((Pl.kidsTo ns u m).length + 1 == (Pl.kidsTo ns u j).length)) && f m
  | 0 => rfl
  | j + 1 => by
    have ih := first_any ns u f j
    rw [List.range_succ, List.reverse_append, List.any_append]
    simp only [List.reverse_cons, List.reverse_nil, List.nil_append, List.cons_append, List.filter_cons, List.any_cons, List.any_nil, Bool.or_false]
    cases hp : (Pl.upOf ns j == u) with
    | true =>
      rw [if_pos rfl, List.take_succ_cons, List.take_zero, Pl.kidsTo_hit ns u j hp]
      simp only [List.any_cons, List.any_nil, Bool.or_false, List.length_append, List.length_singleton, BEq.rfl, Bool.and_true, Bool.true_and]
      rw [any_none fun m hm => ?_]
      · rfl
      · cases hq : (Pl.upOf ns m == u) with
        | false => rfl
        | true =>
          have := cnt_mono ns u hm hq
          have e : ((Pl.kidsTo ns u m).length + 1 == (Pl.kidsTo ns u j).length + 1) = false := by simp; omega
          rw [e]
          rfl
    | false =>
      rw [if_neg (by simp), Pl.kidsTo_miss ns u j hp, ih]
      simp
theorem famOf_pos {ns : List Pl.Nd} {n : Nat} (h : n ≠ 0) : famOf ns n = (Pl.kidsTo ns (Pl.upOf ns n) ns.length).map fun (k : Nat) => (k : Int) := by
  unfold famOf
  rw [if_neg h]
  rfl
theorem from_any {ns : List Pl.Nd} (hl : Pl.Low ns ns.length) {k : Int} (hk : Pl.isLink k = true) {n : Nat} (hn : n < ns.length) (f : Nat → Bool) : (fromL ns k n).any f = (List.range n).any fun m => reach ns k m n && f m := by
  obtain ⟨u1, u2⟩ := hl n hn
  have hk4 : k = 1 ∨ k = 2 ∨ k = 3 ∨ k = 4 := by
    unfold Pl.isLink at hk
    simp only [decide_eq_true_eq] at hk
    omega
  rcases hk4 with rfl | rfl | rfl | rfl
  · exact up_any hl f n (n + 1) (Pl.upOf ns n) u1 (by omega) (by omega) (by omega)
  · show ((upL ns (n + 1) (Pl.upOf ns n)).take 1).any f = _
    by_cases h0 : Pl.upOf ns n < 0
    · rw [show upL ns (n + 1) (Pl.upOf ns n) = [] by unfold upL; rw [if_pos h0], any_none fun m _ => ?_]
      · rfl
      · have e : (Pl.upOf ns n == (m : Int)) = false := by simp; omega
        show ((Pl.upOf ns n == (m : Int)) && f m) = false
        rw [e]
        rfl
    · obtain ⟨q, hq⟩ := Int.eq_ofNat_of_zero_le (by omega : 0 ≤ Pl.upOf ns n)
      unfold upL
      rw [if_neg h0, List.take_succ_cons, List.take_zero, hq, Int.toNat_natCast]
      simp only [List.any_cons, List.any_nil, Bool.or_false]
      rw [Bool.eq_iff_iff, List.any_eq_true]
      constructor
      · intro h
        refine ⟨q, by simp; omega, ?_⟩
        show ((Pl.upOf ns n == (q : Int)) && f q) = true
        rw [hq, h]
        simp
      · rintro ⟨m, hm, h⟩
        replace h : ((Pl.upOf ns n == (m : Int)) && f m) = true := h
        rw [Bool.and_eq_true, hq] at h
        have e : q = m := by have := h.1; simp at this; omega
        rw [e]
        exact h.2
  · show ((aheadL ns n).take 1).any f = _
    by_cases h0 : n = 0
    · subst h0
      rfl
    · unfold aheadL
      rw [first_any]
      refine any_range fun m hm => ?_
      congr 1
      show _ = (decide (0 ≤ plc (famOf ns n) m) && (plc (famOf ns n) m + 1 == plc (famOf ns n) n))
      rw [famOf_pos h0, plc_kid hn (by simp)]
      cases hp : (Pl.upOf ns m == Pl.upOf ns n) with
      | false =>
        rw [plc_other hp]
        rfl
      | true =>
        rw [plc_kid (by omega) hp, decide_eq_true (by omega), Bool.eq_iff_iff]
        simp
        omega
  · show (aheadL ns n).any f = _
    by_cases h0 : n = 0
    · subst h0
      rfl
    · unfold aheadL
      rw [List.any_filter, List.any_reverse]
      refine any_range fun m hm => ?_
      congr 1
      show _ = (decide (0 ≤ plc (famOf ns n) m) && decide (plc (famOf ns n) m < plc (famOf ns n) n))
      rw [famOf_pos h0, plc_kid hn (by simp)]
      cases hp : (Pl.upOf ns m == Pl.upOf ns n) with
      | false =>
        rw [plc_other hp]
        rfl
      | true =>
        have := cnt_mono ns (Pl.upOf ns n) hm hp
        rw [plc_kid (by omega) hp, decide_eq_true (by omega), decide_eq_true (by omega)]
        rfl
section
variable {α : Type}
/-- the path up to a step, as it is gone forward -/
def pthF (ns : List Pl.Nd) (g : List α → Nat → Bool) (p : Pl.Pth α) : Nat → Nat → Bool
  | 0, n => stpM ns g (stpAt p 0) n
  | k + 1, n => stpM ns g (stpAt p (k + 1)) n && (fromL ns (lnkAt p k) n).any (pthF ns g p k)
theorem pthF_eq {ns : List Pl.Nd} (hl : Pl.Low ns ns.length) {g : List α → Nat → Bool} {p : Pl.Pth α} (hk : ∀ k ∈ p.links, Pl.isLink k = true) : ∀ (k : Nat), k ≤ p.links.length → ∀ n, n < ns.length → pthF ns g p k n = pthM ns g p k n
  | 0, _, _, _ => rfl
  | k + 1, h, n, hn => by
    have ih := pthF_eq hl (g := g) hk k (by omega)
    unfold pthF pthM
    have hlk : Pl.isLink (lnkAt p k) = true := by
      unfold lnkAt
      rw [List.getElem?_eq_getElem (by omega)]
      exact hk _ (List.getElem_mem (by omega))
    rw [from_any hl hlk hn]
    congr 1
    exact any_range fun m hm => by rw [ih m (by omega)]
/-- a number among the kids, from 1 on, and from the last one on -/
theorem num_eq {ns : List Pl.Nd} {n : Nat} (hn : n < ns.length) (h : n ≠ 0) : plc (famOf ns n) n + 1 = (Pl.kidsTo ns (Pl.upOf ns n) (n + 1)).length := by
  rw [famOf_pos h, plc_kid hn (by simp), Pl.kidsTo_hit ns (Pl.upOf ns n) n (by simp)]
  simp
theorem num_zero (ns : List Pl.Nd) : plc (famOf ns 0) ((0 : Nat) : Int) = 0 := rfl
end
end Go.Proofs.YtephhllfodlfbaaGreatDoor
