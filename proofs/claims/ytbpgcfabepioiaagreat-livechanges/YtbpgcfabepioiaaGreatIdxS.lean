/-
  Lists of numbers: whether they are the same, told either way.
-/
import Derived.Test.YtbpgcfabepioiaaGreatSamd
import Derived.Test.YtbpgcfabepioiaaGreatIdxP
namespace Go.Proofs.YtbpgcfabepioiaaGreat
open Go.RowKit

/-- nothing but draws between two worlds -/
def Drawn (w w' : World) : Prop := ∃ m, w' = w.drewN m
theorem Drawn.refl (w : World) : Drawn w w := ⟨0, rfl⟩
theorem Drawn.next {w w' : World} (h : Drawn w w') (n : Nat) : Drawn w (w'.drewN n) := by
  obtain ⟨m, rfl⟩ := h
  exact ⟨m + n, by rw [World.drewN_drewN]⟩
theorem Drawn.below {w w' : World} (h : Drawn w w') : Below w.heap.size w w' := by
  obtain ⟨m, rfl⟩ := h
  exact below_drewN (Below.refl _ _) m
def sameI (ks ls : List Int) : Bool := decide (ks = ls)
theorem take_next {α : Type} {ks ls : List α} {k : Nat} (h1 : k < ks.length) (h2 : k < ls.length) (h : ks.take k = ls.take k) (he : ks[k] = ls[k]) : ks.take (k + 1) = ls.take (k + 1) := by
  rw [List.take_succ_eq_append_getElem h1, List.take_succ_eq_append_getElem h2, h, he]
set_option maxHeartbeats 2000000 in
theorem sameInts_any (v1 v2 : Value) (ks ls : List Int) (w : World) (hl : ks.length ≤ maxLen) (h1 : IntsAt w v1 ks) (h2 : IntsAt w v2 ls) :
    Calls Tryz.prog 59 #[v1, v2] w fun e w' => e = .returned (.bool (sameI ks ls)) ∧ Drawn w w' := by
  obtain ⟨a1, c1, rfl, h1⟩ := h1
  obtain ⟨a2, c2, rfl, h2⟩ := h2
  have H1 : Hid _ := h1
  have H2 : Hid _ := h2
  clear h1 h2
  unfold maxLen at hl
  by_cases hlen : ks.length = ls.length
  · have hle : ((ks.length : Int) == (ls.length : Int)) = true := by simp; omega
    have hle2 : ((ks.length : Int) != (ls.length : Int)) = false := by simp; omega
    go_enter Tryz.func59, Tryz.ntmps59
    go_wp2
    go_loopw [5] (fun i wr => ∃ k : Nat, k ≤ ks.length ∧ i = .int .i64 k ∧ Hid (ks.take k = ls.take k) ∧ Hid (Drawn w wr)) (fun i _ => ks.length - (intOf i).toNat)
    case atStart => exact ⟨0, Nat.zero_le _, rfl, by simp [Hid], Drawn.refl _⟩
    case round =>
      obtain ⟨k, hk, rfl, ht, hD⟩ := hrel
      have hB := hD.out.below
      by_cases hlt : k < ks.length
      · have hlt2 : k < ls.length := by omega
        rcases H1.out with h0 | ⟨b, o, rfl, hc⟩
        · subst h0; simp at hlt
        rcases H2.out with h0 | ⟨b2, o2, rfl, hc2⟩
        · subst h0; simp at hlt2
        have n0 : wr.cell? ⟨b, o + k, none⟩ = some (.int .i64 ks[k]) := cell_on hB (hc k hlt)
        have n1 : wr.cell? ⟨b2, o2 + k, none⟩ = some (.int .i64 ls[k]) := cell_on hB (hc2 k hlt2)
        have i1 : (0 : Int) ≤ (k : Int) := by omega
        have i2 : (k : Int) < (ks.length : Int) := by omega
        have i3 : (k : Int) < (ls.length : Int) := by omega
        clear hc hc2
        by_cases he : ks[k] = ls[k]
        · have HT : Hid (ks.take (k + 1) = ls.take (k + 1)) := take_next hlt hlt2 ht.out he
          rw [← he] at n1
          clear ht he
          generalize ks[k] = u at *
          go_wp2
          go_quiet (fail)
          go_wp2
          exact ⟨⟨k + 1, hlt, by go_num, HT, hD.out.next _⟩, by simp [intOf]; omega⟩
        · have HF : Hid (sameI ks ls = false) := by
            unfold Hid sameI
            rw [decide_eq_false_iff_not]
            intro e
            subst e
            exact he rfl
          have he2 : (ks[k] == ls[k]) = false := by simpa using he
          have he3 : (ks[k] != ls[k]) = true := by simpa using he
          clear ht he
          generalize ks[k] = u at *
          generalize ls[k] = t at *
          go_wp2
          go_quiet (fail)
          go_wp2
          go_ret
          exact ⟨by rw [HF.out]; rfl, hD.out.next _⟩
      · have HT : Hid (sameI ks ls = true) := by
          have := ht.out
          rw [List.take_of_length_le (by omega), List.take_of_length_le (by omega)] at this
          simp [Hid, sameI, this]
        go_wp2
        go_ret
        exact ⟨by rw [HT.out]; rfl, hD.out⟩
  · have hle : ((ks.length : Int) == (ls.length : Int)) = false := by simp; omega
    have hle2 : ((ks.length : Int) != (ls.length : Int)) = true := by simp; omega
    have HF : Hid (sameI ks ls = false) := by
      unfold Hid sameI
      rw [decide_eq_false_iff_not]
      intro e
      subst e
      exact hlen rfl
    go_enter Tryz.func59, Tryz.ntmps59
    go_wp2
    go_ret
    exact ⟨by rw [HF.out]; rfl, Drawn.refl _⟩
/-- an entry: its key, its places -/
abbrev Pl.Er := Pl.Key × List Int
def EnAt (w : World) (b o : Nat) (e : Pl.Er) : Prop := ∃ vi, w.cell? ⟨b, o, none⟩ = some (.int .i64 e.1.1) ∧ w.cell? ⟨b, o + 1, none⟩ = some (.string ⟨e.1.2.toArray⟩) ∧ w.cell? ⟨b, o + 2, none⟩ = some vi ∧ IntsAt w vi e.2
/-- a list of entries -/
def EnsAt (w : World) (v : Value) (l : List Pl.Er) : Prop := ∃ a cap, v = .slice a l.length cap ∧ (l = [] ∨ ∃ b o, a = some ⟨b, o, none⟩ ∧ ∀ i (h : i < l.length), EnAt w b (o + i * 3) l[i])
theorem EnAt.on {w w' : World} {b o : Nat} {e : Pl.Er} (h : EnAt w b o e) (hb : Below w.heap.size w w') : EnAt w' b o e := by
  obtain ⟨vi, h0, h1, h2, h3⟩ := h
  exact ⟨vi, cell_on hb h0, cell_on hb h1, cell_on hb h2, h3.on hb⟩
theorem EnsAt.on {w w' : World} {v : Value} {l : List Pl.Er} (h : EnsAt w v l) (hb : Below w.heap.size w w') : EnsAt w' v l := by
  obtain ⟨a, cap, rfl, h⟩ := h
  refine ⟨a, cap, rfl, ?_⟩
  rcases h with h | ⟨b, o, ha, hc⟩
  · exact Or.inl h
  · exact Or.inr ⟨b, o, ha, fun i hi => (hc i hi).on hb⟩
def sameE (l m : List Pl.Er) : Bool := decide (l = m)
set_option maxRecDepth 100000 in
set_option maxHeartbeats 4000000 in
theorem sameIndexes_any (v1 v2 : Value) (l m : List Pl.Er) (w : World) (hl : l.length ≤ maxLen) (hs : ∀ e ∈ l, e.2.length ≤ maxLen) (h1 : EnsAt w v1 l) (h2 : EnsAt w v2 m) :
    Calls Tryz.prog 29 #[v1, v2] w fun e w' => e = .returned (.bool (sameE l m)) ∧ Drawn w w' := by
  obtain ⟨a1, c1, rfl, h1⟩ := h1
  obtain ⟨a2, c2, rfl, h2⟩ := h2
  have H1 : Hid _ := h1
  have H2 : Hid _ := h2
  have HS : Hid _ := hs
  clear h1 h2 hs
  unfold maxLen at hl
  by_cases hlen : l.length = m.length
  · have hle : ((l.length : Int) == (m.length : Int)) = true := by simp; omega
    have hle2 : ((l.length : Int) != (m.length : Int)) = false := by simp; omega
    have HLn : Hid (l.length = m.length) := hlen
    clear hlen
    go_enter Tryz.func29, Tryz.ntmps29
    go_wp2
    clear hle hle2
    go_loopw [5] (fun i wr => ∃ k : Nat, k ≤ l.length ∧ i = .int .i64 k ∧ Hid (l.take k = m.take k) ∧ Hid (Drawn w wr)) (fun i _ => l.length - (intOf i).toNat)
    case atStart => exact ⟨0, Nat.zero_le _, rfl, by simp [Hid], Drawn.refl _⟩
    case round =>
      obtain ⟨k, hk, rfl, ht, hD⟩ := hrel
      have hB := hD.out.below
      by_cases hlt : k < l.length
      · have hlt2 : k < m.length := by have := HLn.out; omega
        rcases H1.out with h0 | ⟨b, o, rfl, hc⟩
        · subst h0; simp at hlt
        rcases H2.out with h0 | ⟨b2, o2, rfl, hc2⟩
        · subst h0; simp at hlt2
        obtain ⟨vi, n0, n1, n2, n3⟩ := (hc k hlt).on hB
        obtain ⟨wi, p0, p1, p2, p3⟩ := (hc2 k hlt2).on hB
        have hlk := HS.out l[k] (List.getElem_mem hlt)
        have i1 : (0 : Int) ≤ (k : Int) := by omega
        have i2 : (k : Int) < (l.length : Int) := by omega
        have i3 : (k : Int) < (m.length : Int) := by omega
        have HT : Hid (l[k] = m[k] → l.take (k + 1) = m.take (k + 1)) := fun he => take_next hlt hlt2 ht.out he
        have HF : Hid (l[k] ≠ m[k] → sameE l m = false) := by
          intro he
          unfold sameE
          rw [decide_eq_false_iff_not]
          intro e
          subst e
          exact he rfl
        obtain ⟨ai, ci, rfl, _⟩ := id n3
        obtain ⟨aj, cj, rfl, _⟩ := id p3
        have N3 : Hid (IntsAt _ _ _) := n3
        have P3 : Hid (IntsAt _ _ _) := p3
        clear hc hc2 n3 p3 ht
        generalize l[k] = x at *
        generalize m[k] = y at *
        obtain ⟨⟨k1, s1⟩, q1⟩ := x
        obtain ⟨⟨k2, s2⟩, q2⟩ := y
        dsimp only at n0 n1 n2 p0 p1 p2 hlk N3 P3
        have q : ∀ n, Calls Tryz.prog 59 #[.slice ai q1.length ci, .slice aj q2.length cj] (wr.drewN n) fun e w' => e = .returned (.bool (sameI q1 q2)) ∧ ∃ m, w' = (wr.drewN n).drewN m := fun n => sameInts_any _ _ q1 q2 _ hlk (N3.out.on (below_drewN (Below.refl _ _) n)) (P3.out.on (below_drewN (Below.refl _ _) n))
        cases hk1 : (k1 == k2) with
        | false =>
          have hk2 : (k1 != k2) = true := by simp [bne, hk1]
          have HF2 : Hid (sameE l m = false) := HF.out (by intro e; injection e with e1 _; injection e1 with e2 _; subst e2; simp at hk1)
          go_wp2
          go_quiet (fail)
          go_wp2
          go_ret
          exact ⟨by rw [HF2.out]; rfl, hD.out.next _⟩
        | true =>
          have hk2 : (k1 != k2) = false := by simp [bne, hk1]
          cases hs1 : (s1 == s2) with
          | false =>
            have HF2 : Hid (sameE l m = false) := HF.out (by intro e; injection e with e1 _; injection e1 with _ e2; subst e2; simp at hs1)
            go_wp2
            go_quiet (fail)
            go_wp2
            go_ret
            exact ⟨by rw [HF2.out]; rfl, hD.out.next _⟩
          | true =>
            cases hq : sameI q1 q2 with
            | false =>
              have HF2 : Hid (sameE l m = false) := HF.out (by intro e; injection e with _ e2; subst e2; simp [sameI] at hq)
              rw [hq] at q
              go_wp2
              go_quiet ((go_at_call 59; exact Calls.quiet_of (q _)))
              go_wp2
              go_ret
              exact ⟨by rw [HF2.out]; rfl, hD.out.next _⟩
            | true =>
              have HT2 : Hid (l.take (k + 1) = m.take (k + 1)) := HT.out (by
                have e1 := eq_of_beq hk1
                have e2 := eq_of_beq hs1
                have e3 : q1 = q2 := of_decide_eq_true hq
                rw [e1, e2, e3])
              rw [hq] at q
              go_wp2
              go_quiet ((go_at_call 59; exact Calls.quiet_of (q _)))
              go_wp2
              exact ⟨⟨k + 1, hlt, by go_num, HT2, hD.out.next _⟩, by simp [intOf]; omega⟩
      · have HT : Hid (sameE l m = true) := by
          have := ht.out
          rw [List.take_of_length_le (by omega), List.take_of_length_le (by have := HLn.out; omega)] at this
          simp [Hid, sameE, this]
        go_wp2
        go_ret
        exact ⟨by rw [HT.out]; rfl, hD.out⟩
  · have hle : ((l.length : Int) == (m.length : Int)) = false := by simp; omega
    have hle2 : ((l.length : Int) != (m.length : Int)) = true := by simp; omega
    have HF : Hid (sameE l m = false) := by
      unfold Hid sameE
      rw [decide_eq_false_iff_not]
      intro e
      subst e
      exact hlen rfl
    go_enter Tryz.func29, Tryz.ntmps29
    go_wp2
    go_ret
    exact ⟨by rw [HF.out]; rfl, Drawn.refl _⟩
end Go.Proofs.YtbpgcfabepioiaaGreat
