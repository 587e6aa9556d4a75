/-
  The document's own sameness: paths.
-/
import Derived.Test.YtephhllfodlfbaaDoorPnO
import Derived.Test.YtephhllfodlfbaaDoorDsD
namespace Go.Proofs.YtephhllfodlfbaaDoor
open Go.RowKit
set_option maxRecDepth 100000 in
set_option maxHeartbeats 8000000 in
theorem dSameP_any {α : Type} [DecidableEq α] {A : MemL α} (hA : IsL A) (ok : Pl.Stp α → Prop) (hH : ∀ (W : World) (x y : Value) (t s : Pl.Stp α), StpV A W x t → StpV A W y s → ok t → ok s → Calls Tryd.prog 42 #[x, y] W fun e w' => e = .returned (.bool (sm t s)) ∧ Below W.heap.size W w')
    (w : World) (vx vy : Value) (p1 p2 : Pl.Pth α) (h1 : PthV A w vx p1) (h2 : PthV A w vy p2) (o1 : ∀ t ∈ p1.steps, ok t) (o2 : ∀ t ∈ p2.steps, ok t) : Calls Tryd.prog 23 #[vx, vy] w fun e w' => e = .returned (.bool (sm p1 p2)) ∧ Below w.heap.size w w' := by
  obtain ⟨l, k1⟩ := p1
  obtain ⟨m, k2⟩ := p2
  obtain ⟨v1, u1, rfl, h1, z1⟩ := h1
  obtain ⟨v2, u2, rfl, h2, z2⟩ := h2
  dsimp only at *
  have hl := h1.fit
  unfold maxLen at hl
  obtain ⟨a1, c1, rfl, -, h1⟩ := h1
  obtain ⟨a2, c2, rfl, -, h2⟩ := h2
  obtain ⟨b1, f1, rfl⟩ := z1.form
  obtain ⟨b2_, f2_, rfl⟩ := z2.form
  have H1 : Hid _ := h1
  have H2 : Hid _ := h2
  have HH : Hid _ := hH
  have O1 : Hid _ := o1
  have O2 : Hid _ := o2
  have hb : Below w.heap.size w ((w.alloc (.cells #[.slice a1 l.length c1, .slice b1 k1.length f1] 38)).alloc (.cells #[.slice a2 m.length c2, .slice b2_ k2.length f2_] 38)) := ((Below.refl _ w).alloc (Nat.le_refl _) _).alloc (by simp) _
  have HB : Hid (Below w.heap.size w ((w.alloc (.cells #[.slice a1 l.length c1, .slice b1 k1.length f1] 38)).alloc (.cells #[.slice a2 m.length c2, .slice b2_ k2.length f2_] 38))) := hb
  have HX1 : Hid (((w.alloc (.cells #[.slice a1 l.length c1, .slice b1 k1.length f1] 38)).alloc (.cells #[.slice a2 m.length c2, .slice b2_ k2.length f2_] 38)).heap[w.heap.size]? = some (.cells #[.slice a1 l.length c1, .slice b1 k1.length f1] 38)) := hblk (heap_alloc_new w _) (on_alloc _ _)
  have HX2 : Hid (((w.alloc (.cells #[.slice a1 l.length c1, .slice b1 k1.length f1] 38)).alloc (.cells #[.slice a2 m.length c2, .slice b2_ k2.length f2_] 38)).heap[w.heap.size + 1]? = some (.cells #[.slice a2 m.length c2, .slice b2_ k2.length f2_] 38)) := by
    have h1 := heap_alloc_new (w.alloc (.cells #[.slice a1 l.length c1, .slice b1 k1.length f1] 38)) (.cells #[.slice a2 m.length c2, .slice b2_ k2.length f2_] 38)
    unfold Hid
    simpa using h1
  have HC : Hid (Calls Tryd.prog 41 _ _ _) := dSameI_any _ _ k1 k2 ((w.alloc (.cells #[.slice a1 l.length c1, .slice b1 k1.length f1] 38)).alloc (.cells #[.slice a2 m.length c2, .slice b2_ k2.length f2_] 38)) (z1.map fun _ _ _ hx => cell_on hb hx) (z2.map fun _ _ _ hx => cell_on hb hx)
  clear h1 h2 hH o1 o2 hb z1 z2
  by_cases hlen : l.length = m.length
  case neg =>
    have hle : ((l.length : Int) == (m.length : Int)) = false := by simp; omega
    have hle2 : ((l.length : Int) != (m.length : Int)) = true := by simp; omega
    have HF : Hid (sm (⟨l, k1⟩ : Pl.Pth α) ⟨m, k2⟩ = false) := sm_ne fun e => hlen (by injection e with e _; rw [e])
    clear HC
    go_enter Tryd.func23, Tryd.ntmps23
    go_wp2
    go_ret
    exact ⟨by rw [HF.out]; rfl, HB.out⟩
  have hle : ((l.length : Int) == (m.length : Int)) = true := by simp; omega
  have hle2 : ((l.length : Int) != (m.length : Int)) = false := by simp; omega
  have HLn : Hid (l.length = m.length) := hlen
  clear hlen
  by_cases hk : k1 = k2
  case neg =>
    have HF : Hid (sm (⟨l, k1⟩ : Pl.Pth α) ⟨m, k2⟩ = false) := sm_ne fun e => hk (by injection e)
    rw [sm_ne hk] at HC
    clear hk
    go_enter Tryd.func23, Tryd.ntmps23
    go_wp2_with fail
    refine HC.out.mono ?_
    rintro e w3 ⟨rfl, hb3⟩
    have HB3 : Hid (Below w.heap.size w w3) := below_trans HB.out hb3
    clear hb3
    go_wp2
    go_ret
    exact ⟨by rw [HF.out]; rfl, HB3.out⟩
  · have hsm : sm (⟨l, k1⟩ : Pl.Pth α) ⟨m, k2⟩ = sm l m := by unfold sm; simp [hk]
    rw [hsm]
    have hkk : sm k1 k2 = true := decide_eq_true hk
    rw [hkk] at HC
    clear hsm hk hkk
    go_enter Tryd.func23, Tryd.ntmps23
    go_wp2_with fail
    refine HC.out.mono ?_
    rintro e w3 ⟨rfl, hb3⟩
    have HST : Hid (Below ((w.alloc (.cells #[.slice a1 l.length c1, .slice b1 k1.length f1] 38)).alloc (.cells #[.slice a2 m.length c2, .slice b2_ k2.length f2_] 38)).heap.size ((w.alloc (.cells #[.slice a1 l.length c1, .slice b1 k1.length f1] 38)).alloc (.cells #[.slice a2 m.length c2, .slice b2_ k2.length f2_] 38)) w3) := hb3
    clear hb3 HC
    generalize (w.alloc (.cells #[.slice a1 l.length c1, .slice b1 k1.length f1] 38)).alloc (.cells #[.slice a2 m.length c2, .slice b2_ k2.length f2_] 38) = W2 at *
    go_wp2
    clear hle hle2
    go_loopw [5] (fun i wr => ∃ k : Nat, k ≤ l.length ∧ i = .int .i64 k ∧ Hid (l.take k = m.take k) ∧ Hid (Below W2.heap.size W2 wr)) (fun i _ => l.length - (intOf i).toNat)
    case atStart => exact ⟨0, Nat.zero_le _, rfl, by simp [Hid], HST.out⟩
    case round =>
      obtain ⟨k, hk, rfl, ht, hD2⟩ := hrel
      have hD := below_trans HB.out hD2.out
      have y1 := (f2 (hblk HX1.out hD2.out)).1
      have y2 := (f2 (hblk HX2.out hD2.out)).1
      have y1d : wr.drew.cell? _ = _ := y1
      have y2d : wr.drew.cell? _ = _ := y2
      by_cases hlt : k < l.length
      · have hlt2 : k < m.length := by have := HLn.out; omega
        rcases H1.out with h0 | ⟨b, o, rfl, hc⟩
        · subst h0; simp at hlt
        rcases H2.out with h0 | ⟨b2, o2, rfl, hc2⟩
        · subst h0; simp at hlt2
        have hDd := hD.drew
        have e1 := hc k hlt
        have e2 := hc2 k hlt2
        have x1 := O1.out l[k] (List.getElem_mem hlt)
        have x2 := O2.out m[k] (List.getElem_mem hlt2)
        have i1 : (0 : Int) ≤ (k : Int) := by omega
        have i2 : (k : Int) < (l.length : Int) := by omega
        have i3 : (k : Int) < (m.length : Int) := by omega
        have HT : Hid (l[k] = m[k] → l.take (k + 1) = m.take (k + 1)) := fun he => take_nxt hlt hlt2 ht.out he
        have HF : Hid (l[k] ≠ m[k] → sm l m = false) := by
          intro he
          refine sm_ne fun e => ?_
          subst e
          exact he rfl
        have HDd : Hid (Below w.heap.size w wr.drew) := hDd
        have HD2 : Hid (Below W2.heap.size W2 wr.drew) := hD2.out.drew
        clear hc hc2 ht
        generalize l[k] = x at *
        generalize m[k] = y at *
        obtain ⟨vn, n0, n1, n6⟩ := StpAt.on hA e1 hDd
        obtain ⟨an, dn, rfl⟩ := n6.form
        have Nn : Hid (RowAt (TstAt A) 6 _ _ _) := n6
        clear n6
        obtain ⟨vp, p0, p1, p6⟩ := StpAt.on hA e2 hDd
        obtain ⟨ap, dp, rfl⟩ := p6.form
        have Np : Hid (RowAt (TstAt A) 6 _ _ _) := p6
        clear p6
        have X1 : Hid (ok x) := x1
        have X2 : Hid (ok y) := x2
        clear hDd x1 x2 hD
        cases hq : sm x y with
        | false =>
          have HF2 : Hid (sm l m = false) := HF.out (sm_false hq)
          go_wp2
          go_region_law (go_simp; go_at_call 42; refine (HH.out _ _ _ x y (⟨_, rfl, Nn.out⟩) (⟨_, rfl, Np.out⟩) X1.out X2.out).mono ?_; rw [hq]; rintro e w4 ⟨rfl, hb4⟩)
          all_goals
            have HB4 : Hid (Below w.heap.size w w4) := below_trans HDd.out hb4
            go_wp2
            go_ret
            exact ⟨by rw [HF2.out]; rfl, HB4.out⟩
        | true =>
          have HT2 : Hid (l.take (k + 1) = m.take (k + 1)) := HT.out (sm_true hq)
          go_wp2
          go_region_law (go_simp; go_at_call 42; refine (HH.out _ _ _ x y (⟨_, rfl, Nn.out⟩) (⟨_, rfl, Np.out⟩) X1.out X2.out).mono ?_; rw [hq]; rintro e w4 ⟨rfl, hb4⟩)
          all_goals
            have HB4 : Hid (Below W2.heap.size W2 w4) := below_trans HD2.out hb4
            go_wp2
            exact ⟨⟨k + 1, hlt, by go_num, HT2, HB4⟩, by simp [intOf]; omega⟩
      · have HT : Hid (sm l m = true) := by
          have := ht.out
          rw [List.take_of_length_le (by omega), List.take_of_length_le (by have := HLn.out; omega)] at this
          rw [this]
          exact sm_rfl m
        have HDw : Hid _ := hD
        clear hD
        go_wp2
        go_ret
        exact ⟨by rw [HT.out]; rfl, HDw.out⟩
end Go.Proofs.YtephhllfodlfbaaDoor
