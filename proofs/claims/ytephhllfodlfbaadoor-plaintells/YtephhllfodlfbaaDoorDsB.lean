/-
  The document's own sameness.
-/
import Derived.Test.YtephhllfodlfbaaDoorPnS
namespace Go.Proofs.YtephhllfodlfbaaDoor
open Go.RowKit
section
variable {α : Type} [DecidableEq α] {A : MemL α} (hA : IsL A) (W0 : List α → Prop) (hS : ∀ (w : World) (v1 v2 : Value) (l m : List α), A w v1 l → A w v2 m → W0 l → W0 m → Calls Tryd.prog 12 #[v1, v2] w fun e w' => e = .returned (.bool (sm l m)) ∧ Below w.heap.size w w')
include hA hS
set_option maxRecDepth 100000 in
set_option maxHeartbeats 4000000 in
theorem dSameT_any (w : World) (vx vy : Value) (x y : Pl.Tst α) (h1 : TstV A w vx x) (h2 : TstV A w vy y) (o1 : W0 x.list) (o2 : W0 y.list) : Calls Tryd.prog 40 #[vx, vy] w fun e w' => e = .returned (.bool (sm x y)) ∧ Below w.heap.size w w' := by
  obtain ⟨v1, rfl, h1⟩ := h1
  obtain ⟨v2, rfl, h2⟩ := h2
  obtain ⟨ax, dx, rfl, -⟩ := hA.form h1
  obtain ⟨ay, dy, rfl, -⟩ := hA.form h2
  obtain ⟨k1, n1, u1, a1, b1, l1⟩ := x
  obtain ⟨k2, n2, u2, a2, b2, l2⟩ := y
  dsimp only at *
  have hb : Below w.heap.size w ((w.alloc (.cells #[.int .i64 k1, .string ⟨n1.toArray⟩, .string ⟨u1.toArray⟩, .int .i64 a1, .int .i64 b1, .slice ax l1.length dx] 45)).alloc (.cells #[.int .i64 k2, .string ⟨n2.toArray⟩, .string ⟨u2.toArray⟩, .int .i64 a2, .int .i64 b2, .slice ay l2.length dy] 45)) := ((Below.refl _ w).alloc (Nat.le_refl _) _).alloc (by simp) _
  have HB : Hid (Below w.heap.size w ((w.alloc (.cells #[.int .i64 k1, .string ⟨n1.toArray⟩, .string ⟨u1.toArray⟩, .int .i64 a1, .int .i64 b1, .slice ax l1.length dx] 45)).alloc (.cells #[.int .i64 k2, .string ⟨n2.toArray⟩, .string ⟨u2.toArray⟩, .int .i64 a2, .int .i64 b2, .slice ay l2.length dy] 45))) := hb
  have HC : Hid (Calls Tryd.prog 12 _ _ _) := hS _ _ _ l1 l2 (hA.on h1 hb) (hA.on h2 hb) o1 o2
  clear h1 h2 hb o1 o2
  by_cases e1 : k1 = k2
  case neg =>
    have HS : Hid (sm (⟨k1, n1, u1, a1, b1, l1⟩ : Pl.Tst α) ⟨k2, n2, u2, a2, b2, l2⟩ = false) := sm_ne fun e => e1 (by injection e)
    have r1 : (k1 == k2) = false := by simpa using e1
    clear HC
    go_enter Tryd.func40, Tryd.ntmps40
    go_wp2
    go_ret
    exact ⟨by rw [HS.out]; rfl, HB.out⟩
  subst e1
  by_cases e2 : n1 = n2
  case neg =>
    have HS : Hid (sm (⟨k1, n1, u1, a1, b1, l1⟩ : Pl.Tst α) ⟨k1, n2, u2, a2, b2, l2⟩ = false) := sm_ne fun e => e2 (by injection e)
    have r2 : (n1 == n2) = false := by simpa using e2
    clear HC e2
    go_enter Tryd.func40, Tryd.ntmps40
    go_wp2
    go_ret
    exact ⟨by rw [HS.out]; rfl, HB.out⟩
  subst e2
  by_cases e3 : u1 = u2
  case neg =>
    have HS : Hid (sm (⟨k1, n1, u1, a1, b1, l1⟩ : Pl.Tst α) ⟨k1, n1, u2, a2, b2, l2⟩ = false) := sm_ne fun e => e3 (by injection e)
    have r3 : (u1 == u2) = false := by simpa using e3
    clear HC e3
    go_enter Tryd.func40, Tryd.ntmps40
    go_wp2
    go_ret
    exact ⟨by rw [HS.out]; rfl, HB.out⟩
  subst e3
  by_cases e4 : a1 = a2
  case neg =>
    have HS : Hid (sm (⟨k1, n1, u1, a1, b1, l1⟩ : Pl.Tst α) ⟨k1, n1, u1, a2, b2, l2⟩ = false) := sm_ne fun e => e4 (by injection e)
    have r4 : (a1 == a2) = false := by simpa using e4
    clear HC
    go_enter Tryd.func40, Tryd.ntmps40
    go_wp2
    go_ret
    exact ⟨by rw [HS.out]; rfl, HB.out⟩
  subst e4
  by_cases e5 : b1 = b2
  case neg =>
    have HS : Hid (sm (⟨k1, n1, u1, a1, b1, l1⟩ : Pl.Tst α) ⟨k1, n1, u1, a1, b2, l2⟩ = false) := sm_ne fun e => e5 (by injection e)
    have r5 : (b1 == b2) = false := by simpa using e5
    clear HC
    go_enter Tryd.func40, Tryd.ntmps40
    go_wp2
    go_ret
    exact ⟨by rw [HS.out]; rfl, HB.out⟩
  subst e5
  have HS : Hid (sm (⟨k1, n1, u1, a1, b1, l1⟩ : Pl.Tst α) ⟨k1, n1, u1, a1, b1, l2⟩ = sm l1 l2) := by
    unfold Hid sm
    simp
  rw [HS.out]
  clear HS
  generalize sm l1 l2 = r at *
  go_enter Tryd.func40, Tryd.ntmps40
  go_wp2_with fail
  refine HC.out.mono ?_
  rintro e w2 ⟨rfl, hb2⟩
  have HB2 : Hid (Below w.heap.size w w2) := below_trans HB.out hb2
  clear hb2
  go_wp2
  go_ret
  exact ⟨rfl, HB2.out⟩
end
end Go.Proofs.YtephhllfodlfbaaDoor
/-
  The document's own sameness.
-/
namespace Go.Proofs.YtephhllfodlfbaaDoor
open Go.RowKit
set_option maxRecDepth 100000 in
set_option maxHeartbeats 4000000 in
theorem dSameL_any {α : Type} [DecidableEq α] {A : MemL α} (hA : IsL A) (ok : Pl.Pth α → Prop) (hH : ∀ (W : World) (x y : Value) (t s : Pl.Pth α), PthV A W x t → PthV A W y s → ok t → ok s → Calls Tryd.prog 23 #[x, y] W fun e w' => e = .returned (.bool (sm t s)) ∧ Below W.heap.size W w')
    (v1 v2 : Value) (l m : List (Pl.Pth α)) (w : World) (h1 : RowAt (PthAt A) 2 w v1 l) (h2 : RowAt (PthAt A) 2 w v2 m) (o1 : ∀ t ∈ l, ok t) (o2 : ∀ t ∈ m, ok t) :
    Calls Tryd.prog 12 #[v1, v2] w fun e w' => e = .returned (.bool (sm l m)) ∧ Below w.heap.size w w' := by
  have hl := h1.fit
  unfold maxLen at hl
  obtain ⟨a1, c1, rfl, -, h1⟩ := h1
  obtain ⟨a2, c2, rfl, -, h2⟩ := h2
  have H1 : Hid _ := h1
  have H2 : Hid _ := h2
  have HH : Hid _ := hH
  have O1 : Hid _ := o1
  have O2 : Hid _ := o2
  clear h1 h2 hH o1 o2
  by_cases hlen : l.length = m.length
  · have hle : ((l.length : Int) == (m.length : Int)) = true := by simp; omega
    have hle2 : ((l.length : Int) != (m.length : Int)) = false := by simp; omega
    have HLn : Hid (l.length = m.length) := hlen
    clear hlen
    go_enter Tryd.func12, Tryd.ntmps12
    go_wp2
    clear hle hle2
    go_loopw [5] (fun i wr => ∃ k : Nat, k ≤ l.length ∧ i = .int .i64 k ∧ Hid (l.take k = m.take k) ∧ Hid (Below w.heap.size w wr)) (fun i _ => l.length - (intOf i).toNat)
    case atStart => exact ⟨0, Nat.zero_le _, rfl, by simp [Hid], Below.refl _ _⟩
    case round =>
      obtain ⟨k, hk, rfl, ht, hD⟩ := hrel
      by_cases hlt : k < l.length
      · have hlt2 : k < m.length := by have := HLn.out; omega
        rcases H1.out with h0 | ⟨b, o, rfl, hc⟩
        · subst h0; simp at hlt
        rcases H2.out with h0 | ⟨b2, o2, rfl, hc2⟩
        · subst h0; simp at hlt2
        have hDd := hD.out.drew
        have e1 := hc k hlt
        have e2 := hc2 k hlt2
        have x1 := O1.out l[k] (List.getElem_mem hlt)
        have x2 := O2.out m[k] (List.getElem_mem hlt2)
        have i1 : (0 : Int) ≤ (k : Int) := by omega
        have i2 : (k : Int) < (l.length : Int) := by omega
        have i3 : (k : Int) < (m.length : Int) := by omega
        have HT : Hid (l[k] = m[k] → l.take (k + 1) = m.take (k + 1)) := fun he => take_nxt hlt hlt2 ht.out he
        have HF : Hid (l[k] ≠ m[k] → sm l m = false) := by
          intro he
          refine sm_ne fun e => ?_
          subst e
          exact he rfl
        have HDd : Hid (Below w.heap.size w wr.drew) := hDd
        clear hc hc2 ht
        generalize l[k] = x at *
        generalize m[k] = y at *
        obtain ⟨vn, un, n0, n1, n6, n7⟩ := PthAt.on hA e1 hDd
        obtain ⟨an, dn, rfl⟩ := n6.form
        obtain ⟨bn, fn, rfl⟩ := n7.form
        have Nn : Hid (RowAt (StpAt A) 2 _ _ _) := n6
        have Mn : Hid (RowAt IntAt 1 _ _ _) := n7
        clear n6 n7
        obtain ⟨vp, up, p0, p1, p6, p7⟩ := PthAt.on hA e2 hDd
        obtain ⟨ap, dp, rfl⟩ := p6.form
        obtain ⟨bp, fp, rfl⟩ := p7.form
        have Np : Hid (RowAt (StpAt A) 2 _ _ _) := p6
        have Mp : Hid (RowAt IntAt 1 _ _ _) := p7
        clear p6 p7
        have X1 : Hid (ok x) := x1
        have X2 : Hid (ok y) := x2
        clear hDd x1 x2
        cases hq : sm x y with
        | false =>
          have HF2 : Hid (sm l m = false) := HF.out (sm_false hq)
          go_wp2
          go_region_law (go_simp; go_at_call 23; refine (HH.out _ _ _ x y (⟨_, _, rfl, Nn.out, Mn.out⟩) (⟨_, _, rfl, Np.out, Mp.out⟩) X1.out X2.out).mono ?_; rw [hq]; rintro e w4 ⟨rfl, hb4⟩)
          all_goals
            have HB4 : Hid (Below w.heap.size w w4) := below_trans HDd.out hb4
            go_wp2
            go_ret
            exact ⟨by rw [HF2.out]; rfl, HB4.out⟩
        | true =>
          have HT2 : Hid (l.take (k + 1) = m.take (k + 1)) := HT.out (sm_true hq)
          go_wp2
          go_region_law (go_simp; go_at_call 23; refine (HH.out _ _ _ x y (⟨_, _, rfl, Nn.out, Mn.out⟩) (⟨_, _, rfl, Np.out, Mp.out⟩) X1.out X2.out).mono ?_; rw [hq]; rintro e w4 ⟨rfl, hb4⟩)
          all_goals
            have HB4 : Hid (Below w.heap.size w w4) := below_trans HDd.out hb4
            go_wp2
            exact ⟨⟨k + 1, hlt, by go_num, HT2, HB4⟩, by simp [intOf]; omega⟩
      · have HT : Hid (sm l m = true) := by
          have := ht.out
          rw [List.take_of_length_le (by omega), List.take_of_length_le (by have := HLn.out; omega)] at this
          rw [this]
          exact sm_rfl m
        go_wp2
        go_ret
        exact ⟨by rw [HT.out]; rfl, hD.out⟩
  · have hle : ((l.length : Int) == (m.length : Int)) = false := by simp; omega
    have hle2 : ((l.length : Int) != (m.length : Int)) = true := by simp; omega
    have HF : Hid (sm l m = false) := sm_ne fun e => hlen (by rw [e])
    go_enter Tryd.func12, Tryd.ntmps12
    go_wp2
    go_ret
    exact ⟨by rw [HF.out]; rfl, Below.refl _ _⟩
end Go.Proofs.YtephhllfodlfbaaDoor
