/-
  Lists of numbers: whether they are the same, as live tells it.
-/
import Derived.Test.YtephhllfodlfbaaGreatDoorLiy
import Derived.Test.YtephhllfodlfbaaGreatDoorIdxM
import Derived.Test.YtephhllfodlfbaaGreatDoorRem
import Derived.Test.YtephhllfodlfbaaGreatDoorVRem
import Derived.Test.YtephhllfodlfbaaGreatDoorMem
import Derived.Test.YtephhllfodlfbaaGreatDoorFor
import Derived.Test.YtephhllfodlfbaaGreatDoorVAsk
import Derived.Test.YtephhllfodlfbaaGreatDoorAsk
import Derived.Test.YtephhllfodlfbaaGreatDoorIsR
import Derived.Test.YtephhllfodlfbaaGreatDoorMbD
import Derived.Test.YtephhllfodlfbaaGreatDoorRcB
import Derived.Deep.RegionLaw
namespace Go.Proofs.YtephhllfodlfbaaGreatDoor
open Go.RowKit

set_option maxHeartbeats 400000 in
theorem sameNum_any (a b : Int) (w : World) : Calls Tryz.prog 174 #[.int .i64 a, .int .i64 b] w fun e w' => e = .returned (.bool (a == b)) ∧ w' = w := by
  go_enter Tryz.func174, Tryz.ntmps174
  go_wp2
  go_ret
  exact ⟨rfl, rfl⟩
set_option maxHeartbeats 2000000 in
theorem listsInt_any (v1 v2 : Value) (ks ls : List Int) (w : World) (hl : ks.length ≤ maxLen) (h1 : IntsAt w v1 ks) (h2 : IntsAt w v2 ls) :
    Calls Tryz.prog 143 #[v1, v2, .func (.func 174) #[] #[]] w fun e w' => e = .returned (.bool (sameI ks ls)) ∧ Drawn w w' := by
  obtain ⟨a1, c1, rfl, h1⟩ := h1
  obtain ⟨a2, c2, rfl, h2⟩ := h2
  have H1 : Hid _ := h1
  have H2 : Hid _ := h2
  clear h1 h2
  unfold maxLen at hl
  by_cases hlen : ks.length = ls.length
  · have hle : ((ks.length : Int) == (ls.length : Int)) = true := by simp; omega
    have hle2 : ((ks.length : Int) != (ls.length : Int)) = false := by simp; omega
    have HLn : Hid (ks.length = ls.length) := hlen
    clear hlen
    go_enter Tryz.func143, Tryz.ntmps143
    go_wp2
    clear hle hle2
    go_loopw [15] (fun i wr => ∃ k : Nat, k ≤ ks.length ∧ i = .int .i64 k ∧ Hid (ks.take k = ls.take k) ∧ Hid (Drawn w wr)) (fun i _ => ks.length - (intOf i).toNat)
    case atStart => exact ⟨0, Nat.zero_le _, rfl, by simp [Hid], Drawn.refl _⟩
    case round =>
      obtain ⟨k, hk, rfl, ht, hD⟩ := hrel
      have hB := hD.out.below
      by_cases hlt : k < ks.length
      · have hlt2 : k < ls.length := by have := HLn.out; omega
        rcases H1.out with h0 | ⟨b, o, rfl, hc⟩
        · subst h0; simp at hlt
        rcases H2.out with h0 | ⟨b2, o2, rfl, hc2⟩
        · subst h0; simp at hlt2
        have n0 : wr.cell? ⟨b, o + k, none⟩ = some (.int .i64 ks[k]) := cell_on hB (hc k hlt)
        have n1 : wr.cell? ⟨b2, o2 + k, none⟩ = some (.int .i64 ls[k]) := cell_on hB (hc2 k hlt2)
        have i1 : (0 : Int) ≤ (k : Int) := by omega
        have i2 : (k : Int) < (ks.length : Int) := by omega
        have i3 : (k : Int) < (ls.length : Int) := by omega
        clear hc hc2
        by_cases he : ks[k] = ls[k]
        · have HT : Hid (ks.take (k + 1) = ls.take (k + 1)) := take_next hlt hlt2 ht.out he
          have he2 : (ks[k] == ls[k]) = true := by simpa using he
          clear ht he
          generalize ks[k] = u at *
          generalize ls[k] = t at *
          have q : ∀ n, Calls Tryz.prog 174 #[.int .i64 u, .int .i64 t] (wr.drewN n) fun e w' => e = .returned (.bool true) ∧ w' = wr.drewN n := fun n => by
            have := sameNum_any u t (wr.drewN n)
            rw [he2] at this
            exact this
          go_wp2
          go_quiet ((go_at_call 174; exact Calls.quiet_of_same (q _)))
          go_wp2
          exact ⟨⟨k + 1, hlt, by go_num, HT, hD.out.next _⟩, by simp [intOf]; omega⟩
        · have HF : Hid (sameI ks ls = false) := by
            unfold Hid sameI
            rw [decide_eq_false_iff_not]
            intro e
            subst e
            exact he rfl
          have he2 : (ks[k] == ls[k]) = false := by simpa using he
          clear ht he
          generalize ks[k] = u at *
          generalize ls[k] = t at *
          have q : ∀ n, Calls Tryz.prog 174 #[.int .i64 u, .int .i64 t] (wr.drewN n) fun e w' => e = .returned (.bool false) ∧ w' = wr.drewN n := fun n => by
            have := sameNum_any u t (wr.drewN n)
            rw [he2] at this
            exact this
          go_wp2
          go_quiet ((go_at_call 174; exact Calls.quiet_of_same (q _)))
          go_wp2
          go_ret
          exact ⟨by rw [HF.out]; rfl, hD.out.next _⟩
      · have HT : Hid (sameI ks ls = true) := by
          have := ht.out
          rw [List.take_of_length_le (by omega), List.take_of_length_le (by have := HLn.out; omega)] at this
          simp [Hid, sameI, this]
        go_wp2
        go_ret
        exact ⟨by rw [HT.out]; rfl, hD.out⟩
  · have hle : ((ks.length : Int) == (ls.length : Int)) = false := by simp; omega
    have hle2 : ((ks.length : Int) != (ls.length : Int)) = true := by simp; omega
    have HF : Hid (sameI ks ls = false) := by
      unfold Hid sameI
      rw [decide_eq_false_iff_not]
      intro e
      subst e
      exact hlen rfl
    go_enter Tryz.func143, Tryz.ntmps143
    go_wp2
    go_ret
    exact ⟨by rw [HF.out]; rfl, Drawn.refl _⟩
set_option maxHeartbeats 400000 in
theorem sameNumbers_any (v1 v2 : Value) (ks ls : List Int) (w : World) (hl : ks.length ≤ maxLen) (h1 : IntsAt w v1 ks) (h2 : IntsAt w v2 ls) :
    Calls Tryz.prog 154 #[v1, v2] w fun e w' => e = .returned (.bool (sameI ks ls)) ∧ Drawn w w' := by
  obtain ⟨a1, c1, rfl, _⟩ := id h1
  obtain ⟨a2, c2, rfl, _⟩ := id h2
  have H1 : Hid (IntsAt _ _ _) := h1
  have H2 : Hid (IntsAt _ _ _) := h2
  clear h1 h2
  go_enter Tryz.func154, Tryz.ntmps154
  go_wp2_with fail
  refine (listsInt_any _ _ ks ls _ hl H1.out H2.out).mono ?_
  rintro e w1 ⟨rfl, hD⟩
  have HD : Hid (Drawn _ _) := hD
  clear hD
  go_wp2
  go_ret
  exact ⟨rfl, HD.out⟩
set_option maxHeartbeats 1000000 in
theorem lsameEntry_any (k1 k2 : Int) (s1 s2 : List UInt8) (q1 q2 : List Int) (a1 a2 : Option Addr) (c1 c2 : Nat) (w : World) (hl : q1.length ≤ maxLen) (h1 : IntsAt w (.slice a1 q1.length c1) q1) (h2 : IntsAt w (.slice a2 q2.length c2) q2) :
    Calls Tryz.prog 153 #[.agg #[.int .i64 k1, .string ⟨s1.toArray⟩, .slice a1 q1.length c1], .agg #[.int .i64 k2, .string ⟨s2.toArray⟩, .slice a2 q2.length c2]] w fun e w' =>
      e = .returned (.bool (sameEn ((k1, s1), q1) ((k2, s2), q2))) ∧ Below w.heap.size w w' := by
  have hB := boxes w (.cells #[.int .i64 k1, .string ⟨s1.toArray⟩, .slice a1 q1.length c1] 61) (.cells #[.int .i64 k2, .string ⟨s2.toArray⟩, .slice a2 q2.length c2] 61)
  have H1 : Hid (IntsAt _ _ _) := h1.on hB
  have H2 : Hid (IntsAt _ _ _) := h2.on hB
  clear h1 h2
  cases hk : (k1 == k2) with
  | false =>
    have HF : Hid (sameEn ((k1, s1), q1) ((k2, s2), q2) = false) := by
      unfold Hid sameEn; rw [decide_eq_false_iff_not]; intro e; injection e with e1 _; injection e1 with e2 _; subst e2; simp at hk
    go_enter Tryz.func153, Tryz.ntmps153
    go_wp2
    go_ret
    exact ⟨by rw [HF.out]; rfl, hB⟩
  | true =>
    cases hs : (s1 == s2) with
    | false =>
      have HF : Hid (sameEn ((k1, s1), q1) ((k2, s2), q2) = false) := by
        unfold Hid sameEn; rw [decide_eq_false_iff_not]; intro e; injection e with e1 _; injection e1 with _ e2; subst e2; simp at hs
      go_enter Tryz.func153, Tryz.ntmps153
      go_wp2
      go_ret
      exact ⟨by rw [HF.out]; rfl, hB⟩
    | true =>
      have HT : Hid (sameEn ((k1, s1), q1) ((k2, s2), q2) = sameI q1 q2) := by
        have e1 := eq_of_beq hk
        have e2 := eq_of_beq hs
        subst e1 e2
        unfold Hid sameEn sameI
        simp
      go_enter Tryz.func153, Tryz.ntmps153
      go_wp2_with fail
      generalize (w.alloc (.cells #[.int .i64 k1, .string ⟨s1.toArray⟩, .slice a1 q1.length c1] 61)).alloc (.cells #[.int .i64 k2, .string ⟨s2.toArray⟩, .slice a2 q2.length c2] 61) = w0 at *
      refine (sameNumbers_any _ _ q1 q2 _ hl H1.out H2.out).mono ?_
      rintro e w1 ⟨rfl, hD⟩
      have hB1 := below_trans hB hD.below
      clear hD
      go_wp2
      go_ret
      exact ⟨by rw [HT.out]; rfl, hB1⟩
end Go.Proofs.YtephhllfodlfbaaGreatDoor
/-
  Lists of entries: whether they are the same, as live tells it.
-/
namespace Go.Proofs.YtephhllfodlfbaaGreatDoor
open Go.RowKit

set_option maxRecDepth 100000 in
set_option maxHeartbeats 4000000 in
theorem listsEn_any (v1 v2 : Value) (l m : List Pl.Er) (w : World) (hl : l.length ≤ maxLen) (hs : ∀ e ∈ l, e.2.length ≤ maxLen) (h1 : EnsAt w v1 l) (h2 : EnsAt w v2 m) :
    Calls Tryz.prog 152 #[v1, v2, .func (.func 153) #[] #[]] w fun e w' => e = .returned (.bool (sameE l m)) ∧ Below w.heap.size w w' := by
  obtain ⟨a1, c1, rfl, h1⟩ := h1
  obtain ⟨a2, c2, rfl, h2⟩ := h2
  have H1 : Hid _ := h1
  have H2 : Hid _ := h2
  have HS : Hid _ := hs
  clear h1 h2 hs
  unfold maxLen at hl
  by_cases hlen : l.length = m.length
  · have hle : ((l.length : Int) == (m.length : Int)) = true := by simp; omega
    have hle2 : ((l.length : Int) != (m.length : Int)) = false := by simp; omega
    have HLn : Hid (l.length = m.length) := hlen
    clear hlen
    go_enter Tryz.func152, Tryz.ntmps152
    go_wp2
    clear hle hle2
    go_loopw [15] (fun i wr => ∃ k : Nat, k ≤ l.length ∧ i = .int .i64 k ∧ Hid (l.take k = m.take k) ∧ Hid (Below w.heap.size w wr)) (fun i _ => l.length - (intOf i).toNat)
    case atStart => exact ⟨0, Nat.zero_le _, rfl, by simp [Hid], Below.refl _ _⟩
    case round =>
      obtain ⟨k, hk, rfl, ht, hD⟩ := hrel
      by_cases hlt : k < l.length
      · have hlt2 : k < m.length := by have := HLn.out; omega
        rcases H1.out with h0 | ⟨b, o, rfl, hc⟩
        · subst h0; simp at hlt
        rcases H2.out with h0 | ⟨b2, o2, rfl, hc2⟩
        · subst h0; simp at hlt2
        have hDd := hD.out.drew
        obtain ⟨vi, n0, n1, n2, n3⟩ := (hc k hlt).on hDd
        obtain ⟨wi, p0, p1, p2, p3⟩ := (hc2 k hlt2).on hDd
        have hlk := HS.out l[k] (List.getElem_mem hlt)
        have i1 : (0 : Int) ≤ (k : Int) := by omega
        have i2 : (k : Int) < (l.length : Int) := by omega
        have i3 : (k : Int) < (m.length : Int) := by omega
        have HT : Hid (l[k] = m[k] → l.take (k + 1) = m.take (k + 1)) := fun he => take_next hlt hlt2 ht.out he
        have HF : Hid (l[k] ≠ m[k] → sameE l m = false) := by
          intro he
          unfold sameE
          rw [decide_eq_false_iff_not]
          intro e
          subst e
          exact he rfl
        obtain ⟨ai, ci, rfl, _⟩ := id n3
        obtain ⟨aj, cj, rfl, _⟩ := id p3
        have N3 : Hid (IntsAt _ _ _) := n3
        have P3 : Hid (IntsAt _ _ _) := p3
        have HDd : Hid (Below w.heap.size w wr.drew) := hDd
        clear hc hc2 n3 p3 ht hDd
        generalize l[k] = x at *
        generalize m[k] = y at *
        obtain ⟨⟨k1, s1⟩, q1⟩ := x
        obtain ⟨⟨k2, s2⟩, q2⟩ := y
        dsimp only at n0 n1 n2 p0 p1 p2 hlk N3 P3
        cases hq : sameEn ((k1, s1), q1) ((k2, s2), q2) with
        | false =>
          have HF2 : Hid (sameE l m = false) := HF.out (of_decide_eq_false hq)
          go_wp2
          go_region_law (go_simp; go_at_call 153; refine (lsameEntry_any k1 k2 s1 s2 q1 q2 ai aj ci cj _ hlk N3.out P3.out).mono ?_; rw [hq]; rintro e w4 ⟨rfl, hb4⟩)
          all_goals
            have HB4 : Hid (Below w.heap.size w w4) := below_trans HDd.out hb4
            go_wp2
            go_ret
            exact ⟨by rw [HF2.out]; rfl, HB4.out⟩
        | true =>
          have HT2 : Hid (l.take (k + 1) = m.take (k + 1)) := HT.out (of_decide_eq_true hq)
          go_wp2
          go_region_law (go_simp; go_at_call 153; refine (lsameEntry_any k1 k2 s1 s2 q1 q2 ai aj ci cj _ hlk N3.out P3.out).mono ?_; rw [hq]; rintro e w4 ⟨rfl, hb4⟩)
          all_goals
            have HB4 : Hid (Below w.heap.size w w4) := below_trans HDd.out hb4
            go_wp2
            exact ⟨⟨k + 1, hlt, by go_num, HT2, HB4⟩, by simp [intOf]; omega⟩
      · have HT : Hid (sameE l m = true) := by
          have := ht.out
          rw [List.take_of_length_le (by omega), List.take_of_length_le (by have := HLn.out; omega)] at this
          simp [Hid, sameE, this]
        go_wp2
        go_ret
        exact ⟨by rw [HT.out]; rfl, hD.out⟩
  · have hle : ((l.length : Int) == (m.length : Int)) = false := by simp; omega
    have hle2 : ((l.length : Int) != (m.length : Int)) = true := by simp; omega
    have HF : Hid (sameE l m = false) := by
      unfold Hid sameE
      rw [decide_eq_false_iff_not]
      intro e
      subst e
      exact hlen rfl
    go_enter Tryz.func152, Tryz.ntmps152
    go_wp2
    go_ret
    exact ⟨by rw [HF.out]; rfl, Below.refl _ _⟩
set_option maxHeartbeats 400000 in
theorem sameIndex_any (v1 v2 : Value) (l m : List Pl.Er) (w : World) (hl : l.length ≤ maxLen) (hs : ∀ e ∈ l, e.2.length ≤ maxLen) (h1 : EnsAt w v1 l) (h2 : EnsAt w v2 m) :
    Calls Tryz.prog 119 #[v1, v2] w fun e w' => e = .returned (.bool (sameE l m)) ∧ Below w.heap.size w w' := by
  obtain ⟨a1, c1, rfl, _⟩ := id h1
  obtain ⟨a2, c2, rfl, _⟩ := id h2
  have H1 : Hid (EnsAt _ _ _) := h1
  have H2 : Hid (EnsAt _ _ _) := h2
  have HS : Hid _ := hs
  clear h1 h2 hs
  go_enter Tryz.func119, Tryz.ntmps119
  go_wp2_with fail
  refine (listsEn_any _ _ l m _ hl HS.out H1.out H2.out).mono ?_
  rintro e w1 ⟨rfl, hD⟩
  have HD : Hid (Below _ _ _) := hD
  clear hD
  go_wp2
  go_ret
  exact ⟨rfl, HD.out⟩
end Go.Proofs.YtephhllfodlfbaaGreatDoor
