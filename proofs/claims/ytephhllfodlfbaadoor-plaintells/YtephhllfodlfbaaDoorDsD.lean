/-
  The document's own sameness.
-/
import Derived.Test.YtephhllfodlfbaaDoorPnS
import Derived.Test.YtephhllfodlfbaaDoorPnO
namespace Go.Proofs.YtephhllfodlfbaaDoor
open Go.RowKit
set_option maxRecDepth 100000 in
set_option maxHeartbeats 4000000 in
theorem dSameI_any (v1 v2 : Value) (l m : List (Int)) (w : World) (h1 : RowAt (IntAt) 1 w v1 l) (h2 : RowAt (IntAt) 1 w v2 m) :
    Calls Tryd.prog 41 #[v1, v2] w fun e w' => e = .returned (.bool (sm l m)) ∧ Below w.heap.size w w' := by
  have hl := h1.fit
  unfold maxLen at hl
  obtain ⟨a1, c1, rfl, -, h1⟩ := h1
  obtain ⟨a2, c2, rfl, -, h2⟩ := h2
  have H1 : Hid _ := h1
  have H2 : Hid _ := h2
  clear h1 h2
  by_cases hlen : l.length = m.length
  · have hle : ((l.length : Int) == (m.length : Int)) = true := by simp; omega
    have hle2 : ((l.length : Int) != (m.length : Int)) = false := by simp; omega
    have HLn : Hid (l.length = m.length) := hlen
    clear hlen
    go_enter Tryd.func41, Tryd.ntmps41
    go_wp2
    clear hle hle2
    go_loopw [5] (fun i wr => ∃ k : Nat, k ≤ l.length ∧ i = .int .i64 k ∧ Hid (l.take k = m.take k) ∧ Hid (Below w.heap.size w wr)) (fun i _ => l.length - (intOf i).toNat)
    case atStart => exact ⟨0, Nat.zero_le _, rfl, by simp [Hid], Below.refl _ _⟩
    case round =>
      obtain ⟨k, hk, rfl, ht, hD⟩ := hrel
      by_cases hlt : k < l.length
      · have hlt2 : k < m.length := by have := HLn.out; omega
        rcases H1.out with h0 | ⟨b, o, rfl, hc⟩
        · subst h0; simp at hlt
        rcases H2.out with h0 | ⟨b2, o2, rfl, hc2⟩
        · subst h0; simp at hlt2
        have hDd := hD.out.drew
        have e1 := hc k hlt
        have e2 := hc2 k hlt2
        have i1 : (0 : Int) ≤ (k : Int) := by omega
        have i2 : (k : Int) < (l.length : Int) := by omega
        have i3 : (k : Int) < (m.length : Int) := by omega
        have HT : Hid (l[k] = m[k] → l.take (k + 1) = m.take (k + 1)) := fun he => take_nxt hlt hlt2 ht.out he
        have HF : Hid (l[k] ≠ m[k] → sm l m = false) := by
          intro he
          refine sm_ne fun e => ?_
          subst e
          exact he rfl
        have HDd : Hid (Below w.heap.size w wr.drew) := hDd
        clear hc hc2 ht
        generalize l[k] = x at *
        generalize m[k] = y at *
        have n0 : wr.drew.cell? ⟨b, o + k, none⟩ = some (.int .i64 x) := by
          have := cell_on hDd e1
          rwa [Nat.mul_one] at this
        clear e1
        have p0 : wr.drew.cell? ⟨b2, o2 + k, none⟩ = some (.int .i64 y) := by
          have := cell_on hDd e2
          rwa [Nat.mul_one] at this
        clear e2
        clear hDd
        cases hq : sm x y with
        | false =>
          have HF2 : Hid (sm l m = false) := HF.out (sm_false hq)
          have r1 : (x == y) = false := by simpa using sm_false hq
          have r2 : (x != y) = true := by simpa using sm_false hq
          clear HF HT
          go_wp2
          go_region_law (fail)
          all_goals
            go_wp2
            go_ret
            exact ⟨by rw [HF2.out]; rfl, HDd.out⟩
        | true =>
          have HT2 : Hid (l.take (k + 1) = m.take (k + 1)) := HT.out (sm_true hq)
          have r1 : (x == y) = true := by simpa using sm_true hq
          have r2 : (x != y) = false := by simpa using sm_true hq
          clear HF HT
          go_wp2
          go_region_law (fail)
          all_goals
            go_wp2
            exact ⟨⟨k + 1, hlt, by go_num, HT2, HDd⟩, by simp [intOf]; omega⟩
      · have HT : Hid (sm l m = true) := by
          have := ht.out
          rw [List.take_of_length_le (by omega), List.take_of_length_le (by have := HLn.out; omega)] at this
          rw [this]
          exact sm_rfl m
        go_wp2
        go_ret
        exact ⟨by rw [HT.out]; rfl, hD.out⟩
  · have hle : ((l.length : Int) == (m.length : Int)) = false := by simp; omega
    have hle2 : ((l.length : Int) != (m.length : Int)) = true := by simp; omega
    have HF : Hid (sm l m = false) := sm_ne fun e => hlen (by rw [e])
    go_enter Tryd.func41, Tryd.ntmps41
    go_wp2
    go_ret
    exact ⟨by rw [HF.out]; rfl, Below.refl _ _⟩
end Go.Proofs.YtephhllfodlfbaaDoor
/-
  The document's own sameness: steps.
-/
namespace Go.Proofs.YtephhllfodlfbaaDoor
open Go.RowKit
set_option maxRecDepth 100000 in
set_option maxHeartbeats 8000000 in
theorem dSameS_any {α : Type} [DecidableEq α] {A : MemL α} (hA : IsL A) (ok : Pl.Tst α → Prop) (hH : ∀ (W : World) (x y : Value) (t s : Pl.Tst α), TstV A W x t → TstV A W y s → ok t → ok s → Calls Tryd.prog 40 #[x, y] W fun e w' => e = .returned (.bool (sm t s)) ∧ Below W.heap.size W w')
    (w : World) (vx vy : Value) (s1 s2 : Pl.Stp α) (h1 : StpV A w vx s1) (h2 : StpV A w vy s2) (o1 : ∀ t ∈ s1.tests, ok t) (o2 : ∀ t ∈ s2.tests, ok t) : Calls Tryd.prog 42 #[vx, vy] w fun e w' => e = .returned (.bool (sm s1 s2)) ∧ Below w.heap.size w w' := by
  obtain ⟨g1, l⟩ := s1
  obtain ⟨g2, m⟩ := s2
  obtain ⟨v1, rfl, h1⟩ := h1
  obtain ⟨v2, rfl, h2⟩ := h2
  dsimp only at *
  have hl := h1.fit
  unfold maxLen at hl
  obtain ⟨a1, c1, rfl, -, h1⟩ := h1
  obtain ⟨a2, c2, rfl, -, h2⟩ := h2
  have H1 : Hid _ := h1
  have H2 : Hid _ := h2
  have HH : Hid _ := hH
  have O1 : Hid _ := o1
  have O2 : Hid _ := o2
  have HB : Hid (Below w.heap.size w ((w.alloc (.cells #[.string ⟨g1.toArray⟩, .slice a1 l.length c1] 41)).alloc (.cells #[.string ⟨g2.toArray⟩, .slice a2 m.length c2] 41))) := ((Below.refl _ w).alloc (Nat.le_refl _) _).alloc (by simp) _
  have HX1 : Hid (((w.alloc (.cells #[.string ⟨g1.toArray⟩, .slice a1 l.length c1] 41)).alloc (.cells #[.string ⟨g2.toArray⟩, .slice a2 m.length c2] 41)).heap[w.heap.size]? = some (.cells #[.string ⟨g1.toArray⟩, .slice a1 l.length c1] 41)) := hblk (heap_alloc_new w _) (on_alloc _ _)
  have HX2 : Hid (((w.alloc (.cells #[.string ⟨g1.toArray⟩, .slice a1 l.length c1] 41)).alloc (.cells #[.string ⟨g2.toArray⟩, .slice a2 m.length c2] 41)).heap[w.heap.size + 1]? = some (.cells #[.string ⟨g2.toArray⟩, .slice a2 m.length c2] 41)) := by
    have h1 := heap_alloc_new (w.alloc (.cells #[.string ⟨g1.toArray⟩, .slice a1 l.length c1] 41)) (.cells #[.string ⟨g2.toArray⟩, .slice a2 m.length c2] 41)
    unfold Hid
    simpa using h1
  clear h1 h2 hH o1 o2
  by_cases htag : g1 = g2
  case neg =>
    have HS : Hid (sm (⟨g1, l⟩ : Pl.Stp α) ⟨g2, m⟩ = false) := sm_ne fun e => htag (by injection e)
    have r1 : (g1 == g2) = false := by simpa using htag
    have r2 : (g1 != g2) = true := by simpa using htag
    clear htag H1 H2 HH O1 O2
    go_enter Tryd.func42, Tryd.ntmps42
    go_wp2
    go_ret
    exact ⟨by rw [HS.out]; rfl, HB.out⟩
  subst htag
  have hsm : sm (⟨g1, l⟩ : Pl.Stp α) ⟨g1, m⟩ = sm l m := by unfold sm; simp
  rw [hsm]
  clear hsm
  have r1 : (g1 == g1) = true := by simp
  have r2 : (g1 != g1) = false := by simp
  by_cases hlen : l.length = m.length
  · have hle : ((l.length : Int) == (m.length : Int)) = true := by simp; omega
    have hle2 : ((l.length : Int) != (m.length : Int)) = false := by simp; omega
    have HLn : Hid (l.length = m.length) := hlen
    clear hlen
    go_enter Tryd.func42, Tryd.ntmps42
    go_wp2
    clear hle hle2 r1 r2
    generalize (w.alloc (.cells #[.string ⟨g1.toArray⟩, .slice a1 l.length c1] 41)).alloc (.cells #[.string ⟨g1.toArray⟩, .slice a2 m.length c2] 41) = W2 at *
    have HST : Hid (Below W2.heap.size W2 W2) := Below.refl _ _
    go_loopw [5] (fun i wr => ∃ k : Nat, k ≤ l.length ∧ i = .int .i64 k ∧ Hid (l.take k = m.take k) ∧ Hid (Below W2.heap.size W2 wr)) (fun i _ => l.length - (intOf i).toNat)
    case atStart => exact ⟨0, Nat.zero_le _, rfl, by simp [Hid], HST.out⟩
    case round =>
      obtain ⟨k, hk, rfl, ht, hD2⟩ := hrel
      have hD := below_trans HB.out hD2.out
      have y1 := (res71 (hblk HX1.out hD2.out)).2.1
      have y2 := (res71 (hblk HX2.out hD2.out)).2.1
      have y1d : wr.drew.cell? _ = _ := y1
      have y2d : wr.drew.cell? _ = _ := y2
      by_cases hlt : k < l.length
      · have hlt2 : k < m.length := by have := HLn.out; omega
        rcases H1.out with h0 | ⟨b, o, rfl, hc⟩
        · subst h0; simp at hlt
        rcases H2.out with h0 | ⟨b2, o2, rfl, hc2⟩
        · subst h0; simp at hlt2
        have hDd := hD.drew
        have e1 := hc k hlt
        have e2 := hc2 k hlt2
        have x1 := O1.out l[k] (List.getElem_mem hlt)
        have x2 := O2.out m[k] (List.getElem_mem hlt2)
        have i1 : (0 : Int) ≤ (k : Int) := by omega
        have i2 : (k : Int) < (l.length : Int) := by omega
        have i3 : (k : Int) < (m.length : Int) := by omega
        have HT : Hid (l[k] = m[k] → l.take (k + 1) = m.take (k + 1)) := fun he => take_nxt hlt hlt2 ht.out he
        have HF : Hid (l[k] ≠ m[k] → sm l m = false) := by
          intro he
          refine sm_ne fun e => ?_
          subst e
          exact he rfl
        have HDd : Hid (Below w.heap.size w wr.drew) := hDd
        have HD2 : Hid (Below W2.heap.size W2 wr.drew) := hD2.out.drew
        clear hc hc2 ht
        generalize l[k] = x at *
        generalize m[k] = y at *
        obtain ⟨vn, n0, n1, n2, n3, n4, n5, n6⟩ := TstAt.on hA e1 hDd
        obtain ⟨an, dn, rfl, -⟩ := hA.form n6
        have Nn : Hid (A _ _ _) := n6
        clear n6
        obtain ⟨vp, p0, p1, p2, p3, p4, p5, p6⟩ := TstAt.on hA e2 hDd
        obtain ⟨ap, dp, rfl, -⟩ := hA.form p6
        have Np : Hid (A _ _ _) := p6
        clear p6
        have X1 : Hid (ok x) := x1
        have X2 : Hid (ok y) := x2
        clear hDd x1 x2 hD
        cases hq : sm x y with
        | false =>
          have HF2 : Hid (sm l m = false) := HF.out (sm_false hq)
          go_wp2
          go_region_law (go_simp; go_at_call 40; refine (HH.out _ _ _ x y (⟨_, rfl, Nn.out⟩) (⟨_, rfl, Np.out⟩) X1.out X2.out).mono ?_; rw [hq]; rintro e w4 ⟨rfl, hb4⟩)
          all_goals
            have HB4 : Hid (Below w.heap.size w w4) := below_trans HDd.out hb4
            go_wp2
            go_ret
            exact ⟨by rw [HF2.out]; rfl, HB4.out⟩
        | true =>
          have HT2 : Hid (l.take (k + 1) = m.take (k + 1)) := HT.out (sm_true hq)
          go_wp2
          go_region_law (go_simp; go_at_call 40; refine (HH.out _ _ _ x y (⟨_, rfl, Nn.out⟩) (⟨_, rfl, Np.out⟩) X1.out X2.out).mono ?_; rw [hq]; rintro e w4 ⟨rfl, hb4⟩)
          all_goals
            have HB4 : Hid (Below W2.heap.size W2 w4) := below_trans HD2.out hb4
            go_wp2
            exact ⟨⟨k + 1, hlt, by go_num, HT2, HB4⟩, by simp [intOf]; omega⟩
      · have HT : Hid (sm l m = true) := by
          have := ht.out
          rw [List.take_of_length_le (by omega), List.take_of_length_le (by have := HLn.out; omega)] at this
          rw [this]
          exact sm_rfl m
        have HDw : Hid _ := hD
        clear hD
        go_wp2
        go_ret
        exact ⟨by rw [HT.out]; rfl, HDw.out⟩
  · have hle : ((l.length : Int) == (m.length : Int)) = false := by simp; omega
    have hle2 : ((l.length : Int) != (m.length : Int)) = true := by simp; omega
    have HF : Hid (sm l m = false) := sm_ne fun e => hlen (by rw [e])
    go_enter Tryd.func42, Tryd.ntmps42
    go_wp2
    go_ret
    exact ⟨by rw [HF.out]; rfl, HB.out⟩
end Go.Proofs.YtephhllfodlfbaaDoor
