/-
  Whether two entries, and two lists of entries, are the same: slices.Equal, sameEntry, slices.EqualFunc.
-/
import Derived.Test.YtagobgjlhdbhmaaGreatDoorFdP
namespace Go.Proofs.YtagobgjlhdbhmaaGreatDoor
open Go.RowKit

set_option maxRecDepth 100000 in
set_option maxHeartbeats 4000000 in
theorem eqInts_any (v1 v2 : Value) (ks ls : List Int) (w : World) (hl : ks.length ≤ maxLen) (h1 : IntsAt w v1 ks) (h2 : IntsAt w v2 ls) :
    Calls Tryz.prog 78 #[v1, v2] w fun e w' => e = .returned (.bool (sameI ks ls)) ∧ Drawn w w' := by
  obtain ⟨a1, c1, rfl, h1⟩ := h1
  obtain ⟨a2, c2, rfl, h2⟩ := h2
  have H1 : Hid _ := h1
  have H2 : Hid _ := h2
  clear h1 h2
  unfold maxLen at hl
  by_cases hlen : ks.length = ls.length
  · have hle : ((ks.length : Int) == (ls.length : Int)) = true := by simp; omega
    have hle2 : ((ks.length : Int) != (ls.length : Int)) = false := by simp; omega
    go_enter Tryz.func78, Tryz.ntmps78
    go_wp2
    go_loopw [13] (fun i wr => ∃ k : Nat, k ≤ ks.length ∧ i = .int .i64 k ∧ Hid (ks.take k = ls.take k) ∧ Hid (Drawn w wr)) (fun i _ => ks.length - (intOf i).toNat)
    case atStart => exact ⟨0, Nat.zero_le _, rfl, by simp [Hid], Drawn.refl _⟩
    case round =>
      obtain ⟨k, hk, rfl, ht, hD⟩ := hrel
      have hB := hD.out.below
      by_cases hlt : k < ks.length
      · have hlt2 : k < ls.length := by omega
        rcases H1.out with h0 | ⟨b, o, rfl, hc⟩
        · subst h0; simp at hlt
        rcases H2.out with h0 | ⟨b2, o2, rfl, hc2⟩
        · subst h0; simp at hlt2
        have n0 : wr.cell? ⟨b, o + k, none⟩ = some (.int .i64 ks[k]) := cell_on hB (hc k hlt)
        have n1 : wr.cell? ⟨b2, o2 + k, none⟩ = some (.int .i64 ls[k]) := cell_on hB (hc2 k hlt2)
        have i1 : (0 : Int) ≤ (k : Int) := by omega
        have i2 : (k : Int) < (ks.length : Int) := by omega
        have i3 : (k : Int) < (ls.length : Int) := by omega
        clear hc hc2
        by_cases he : ks[k] = ls[k]
        · have HT : Hid (ks.take (k + 1) = ls.take (k + 1)) := take_next hlt hlt2 ht.out he
          rw [← he] at n1
          clear ht he
          generalize ks[k] = u at *
          go_wp2
          go_quiet (fail)
          go_wp2
          exact ⟨⟨k + 1, hlt, by go_num, HT, hD.out.next _⟩, by simp [intOf]; omega⟩
        · have HF : Hid (sameI ks ls = false) := by
            unfold Hid sameI
            rw [decide_eq_false_iff_not]
            intro e
            subst e
            exact he rfl
          have he2 : (ks[k] == ls[k]) = false := by simpa using he
          have he3 : (ks[k] != ls[k]) = true := by simpa using he
          clear ht he
          generalize ks[k] = u at *
          generalize ls[k] = t at *
          go_wp2
          go_quiet (fail)
          go_wp2
          go_ret
          exact ⟨by rw [HF.out]; rfl, hD.out.next _⟩
      · have HT : Hid (sameI ks ls = true) := by
          have := ht.out
          rw [List.take_of_length_le (by omega), List.take_of_length_le (by omega)] at this
          simp [Hid, sameI, this]
        go_wp2
        go_ret
        exact ⟨by rw [HT.out]; rfl, hD.out⟩
  · have hle : ((ks.length : Int) == (ls.length : Int)) = false := by simp; omega
    have hle2 : ((ks.length : Int) != (ls.length : Int)) = true := by simp; omega
    have HF : Hid (sameI ks ls = false) := by
      unfold Hid sameI
      rw [decide_eq_false_iff_not]
      intro e
      subst e
      exact hlen rfl
    go_enter Tryz.func78, Tryz.ntmps78
    go_wp2
    go_ret
    exact ⟨by rw [HF.out]; rfl, Drawn.refl _⟩
def enV (e : Pl.Er) (v : Value) : Value := .agg #[.int .i64 e.1.1, .string ⟨e.1.2.toArray⟩, v]
set_option maxRecDepth 100000 in
set_option maxHeartbeats 4000000 in
theorem sameEntry_any (x y : Pl.Er) (vx vy : Value) (w : World) (hl : x.2.length ≤ maxLen) (h1 : IntsAt w vx x.2) (h2 : IntsAt w vy y.2) :
    Calls Tryz.prog 54 #[enV x vx, enV y vy] w fun e w' => e = .returned (.bool (sameEn x y)) ∧ Below w.heap.size w w' := by
  obtain ⟨a1, c1, rfl, _⟩ := id h1
  obtain ⟨a2, c2, rfl, _⟩ := id h2
  obtain ⟨⟨k1, s1⟩, q1⟩ := x
  obtain ⟨⟨k2, s2⟩, q2⟩ := y
  unfold enV
  dsimp only at hl h1 h2 ⊢
  have hb0 := boxes w (.cells #[.int .i64 k1, .string ⟨s1.toArray⟩, .slice a1 q1.length c1] 55) (.cells #[.int .i64 k2, .string ⟨s2.toArray⟩, .slice a2 q2.length c2] 55)
  have HB0 : Hid (Below _ _ _) := hb0
  have q : Hid (Calls Tryz.prog 78 #[.slice a1 q1.length c1, .slice a2 q2.length c2] ((w.alloc (.cells #[.int .i64 k1, .string ⟨s1.toArray⟩, .slice a1 q1.length c1] 55)).alloc (.cells #[.int .i64 k2, .string ⟨s2.toArray⟩, .slice a2 q2.length c2] 55)) fun e w' => e = .returned (.bool (sameI q1 q2)) ∧ Drawn ((w.alloc (.cells #[.int .i64 k1, .string ⟨s1.toArray⟩, .slice a1 q1.length c1] 55)).alloc (.cells #[.int .i64 k2, .string ⟨s2.toArray⟩, .slice a2 q2.length c2] 55)) w') := eqInts_any _ _ q1 q2 _ hl (h1.on hb0) (h2.on hb0)
  clear h1 h2 hb0
  go_enter Tryz.func54, Tryz.ntmps54
  go_wp2_with fail
  · have e1 : k1 = k2 := by assumption
    have e2 : s1 = s2 := by assumption
    have HE : Hid (sameI q1 q2 = sameEn ((k1, s1), q1) ((k2, s2), q2)) := by
      unfold Hid sameI sameEn
      simp [e1, e2]
    rw [e1, e2] at q HB0
    refine q.out.mono ?_
    rintro e w5 ⟨rfl, hD⟩
    have HBZ : Hid (Below w.heap.size w w5) := below_trans HB0.out hD.below
    clear hD q HB0
    go_wp2_with fail
    all_goals first
      | (go_ret; exact ⟨by rw [← HE.out]; rfl, HBZ.out⟩)
      | (go_ret; refine ⟨?_, HBZ.out⟩; rw [← HE.out]; simp_all)
  · rename_i e1 e2
    rw [e1] at HB0
    go_ret
    refine ⟨?_, HB0.out⟩
    rw [show sameEn ((k2, s1), q1) ((k2, s2), q2) = false from decide_eq_false (by intro e; injection e with e3 _; injection e3 with _ e4; exact e2 e4)]
    rfl
  · rename_i e1
    go_ret
    refine ⟨?_, HB0.out⟩
    rw [show sameEn ((k1, s1), q1) ((k2, s2), q2) = false from decide_eq_false (by intro e; injection e with e3 _; injection e3 with e4 _; exact e1 e4)]
    rfl
end Go.Proofs.YtagobgjlhdbhmaaGreatDoor
/-
  slices.EqualFunc over entries.
-/
namespace Go.Proofs.YtagobgjlhdbhmaaGreatDoor
open Go.RowKit

set_option maxRecDepth 100000 in
set_option maxHeartbeats 4000000 in
theorem eqFunc_any (v1 v2 : Value) (l m : List Pl.Er) (w : World) (hl : l.length ≤ maxLen) (hs : ∀ e ∈ l, e.2.length ≤ maxLen) (h1 : EnsAt w v1 l) (h2 : EnsAt w v2 m) :
    Calls Tryz.prog 53 #[v1, v2, .func (.func 54) #[] #[]] w fun e w' => e = .returned (.bool (sameE l m)) ∧ Below w.heap.size w w' := by
  obtain ⟨a1, c1, rfl, h1⟩ := h1
  obtain ⟨a2, c2, rfl, h2⟩ := h2
  have H1 : Hid _ := h1
  have H2 : Hid _ := h2
  have HS : Hid _ := hs
  clear h1 h2 hs
  unfold maxLen at hl
  by_cases hlen : l.length = m.length
  · have hle : ((l.length : Int) == (m.length : Int)) = true := by simp; omega
    have hle2 : ((l.length : Int) != (m.length : Int)) = false := by simp; omega
    have HLn : Hid (l.length = m.length) := hlen
    clear hlen
    go_enter Tryz.func53, Tryz.ntmps53
    go_wp2
    clear hle hle2
    go_loopw [17] (fun i wr => ∃ k : Nat, k ≤ l.length ∧ i = .int .i64 k ∧ Hid (l.take k = m.take k) ∧ Hid (Below w.heap.size w wr)) (fun i _ => l.length - (intOf i).toNat)
    case atStart => exact ⟨0, Nat.zero_le _, rfl, by simp [Hid], Below.refl _ _⟩
    case round =>
      obtain ⟨k, hk, rfl, ht, hD⟩ := hrel
      have hB := hD.out
      by_cases hlt : k < l.length
      · have hlt2 : k < m.length := by have := HLn.out; omega
        rcases H1.out with h0 | ⟨b, o, rfl, hc⟩
        · subst h0; simp at hlt
        rcases H2.out with h0 | ⟨b2, o2, rfl, hc2⟩
        · subst h0; simp at hlt2
        obtain ⟨vi, n0, n1, n2, n3⟩ := (hc k hlt).on hB
        obtain ⟨wi, p0, p1, p2, p3⟩ := (hc2 k hlt2).on hB
        have hlk := HS.out l[k] (List.getElem_mem hlt)
        have i1 : (0 : Int) ≤ (k : Int) := by omega
        have i2 : (k : Int) < (l.length : Int) := by omega
        have i3 : (k : Int) < (m.length : Int) := by omega
        have HT : Hid (l[k] = m[k] → l.take (k + 1) = m.take (k + 1)) := fun he => take_next hlt hlt2 ht.out he
        have HF : Hid (l[k] ≠ m[k] → sameE l m = false) := by
          intro he
          unfold sameE
          rw [decide_eq_false_iff_not]
          intro e
          subst e
          exact he rfl
        obtain ⟨ai, ci, rfl, _⟩ := id n3
        obtain ⟨aj, cj, rfl, _⟩ := id p3
        have N3 : Hid (IntsAt _ _ _) := n3
        have P3 : Hid (IntsAt _ _ _) := p3
        clear hc hc2 n3 p3 ht
        generalize l[k] = x at *
        generalize m[k] = y at *
        obtain ⟨⟨k1, s1⟩, q1⟩ := x
        obtain ⟨⟨k2, s2⟩, q2⟩ := y
        dsimp only at n0 n1 n2 p0 p1 p2 hlk N3 P3
        have hb2 := boxes wr (.cells #[.int .i64 k1, .string ⟨s1.toArray⟩, .slice ai q1.length ci] 55) (.cells #[.int .i64 k2, .string ⟨s2.toArray⟩, .slice aj q2.length cj] 55)
        have q : Hid (Calls Tryz.prog 54 _ _ _) := sameEntry_any ((k1, s1), q1) ((k2, s2), q2) _ _ _ hlk (N3.out.on hb2) (P3.out.on hb2)
        have HB2 : Hid (Below w.heap.size w _) := below_trans hB hb2
        clear hb2 N3 P3
        unfold enV at q
        dsimp only at q
        have g0 := cell_on (on_alloc wr (.cells #[.int .i64 k1, .string ⟨s1.toArray⟩, .slice ai q1.length ci] 55)) p0
        have g1 := cell_on (on_alloc wr (.cells #[.int .i64 k1, .string ⟨s1.toArray⟩, .slice ai q1.length ci] 55)) p1
        have g2 := cell_on (on_alloc wr (.cells #[.int .i64 k1, .string ⟨s1.toArray⟩, .slice ai q1.length ci] 55)) p2
        go_wp2_with fail
        refine q.out.mono ?_
        rintro e w5 ⟨rfl, hb5⟩
        have HB5 : Hid (Below w.heap.size w w5) := below_trans HB2.out hb5
        clear hb5 q HB2 g0 g1 g2
        cases hq : sameEn ((k1, s1), q1) ((k2, s2), q2) with
        | false =>
          have HF2 : Hid (sameE l m = false) := HF.out (of_decide_eq_false hq)
          go_wp2
          go_ret
          exact ⟨by rw [HF2.out]; rfl, HB5.out⟩
        | true =>
          have HT2 : Hid (l.take (k + 1) = m.take (k + 1)) := HT.out (of_decide_eq_true hq)
          go_wp2
          exact ⟨⟨k + 1, hlt, by go_num, HT2, HB5⟩, by simp [intOf]; omega⟩
      · have HT : Hid (sameE l m = true) := by
          have := ht.out
          rw [List.take_of_length_le (by omega), List.take_of_length_le (by have := HLn.out; omega)] at this
          simp [Hid, sameE, this]
        go_wp2
        go_ret
        exact ⟨by rw [HT.out]; rfl, hD.out⟩
  · have hle : ((l.length : Int) == (m.length : Int)) = false := by simp; omega
    have hle2 : ((l.length : Int) != (m.length : Int)) = true := by simp; omega
    have HF : Hid (sameE l m = false) := by
      unfold Hid sameE
      rw [decide_eq_false_iff_not]
      intro e
      subst e
      exact hlen rfl
    go_enter Tryz.func53, Tryz.ntmps53
    go_wp2
    go_ret
    exact ⟨by rw [HF.out]; rfl, Below.refl _ _⟩
end Go.Proofs.YtagobgjlhdbhmaaGreatDoor
