/-
  Where elements hang, in plain lists. No program in this text.
-/
import Derived.Test.YtephhllfodlfbaaGreatDoorMem
import Derived.Test.YtephhllfodlfbaaGreatDoorIsR
namespace Go.Proofs.YtephhllfodlfbaaGreatDoor.Pl

/-- Up of element k; -1 where there is none -/
def upOf (ns : List Nd) (k : Nat) : Int := match ns[k]? with | some x => x.up | none => -1
/-- is t met on the way up from k on (k itself too)? -/
def chase (ns : List Nd) : Nat → Int → Int → Bool
  | 0, _, _ => false
  | f + 1, k, t => if k < 0 then false else if k == t then true else chase ns f (upOf ns k.toNat) t
/-- does element n hang right, those ahead of it hanging right? -/
def hangs (ns : List Nd) (n : Nat) : Bool := if n = 0 then upOf ns 0 == -1 else chase ns (n + 1) ((n : Int) - 1) (upOf ns n)
/-- those ahead of n lie above themselves -/
def Low (ns : List Nd) (n : Nat) : Prop := ∀ k, k < n → -1 ≤ upOf ns k ∧ upOf ns k < k
/-- the first n elements are right and hang right -/
def okTo (ns : List Nd) (n : Nat) : Bool := (List.range n).all fun k => (match ns[k]? with | some x => right x | none => false) && hangs ns k
def checkDoc (ns : List Nd) : Int := if ns.length < 1 ∨ 64 < ns.length then 2 else if okTo ns ns.length = true then 0 else 1

theorem chase_low {ns : List Nd} {n : Nat} (hl : Low ns n) : ∀ (f : Nat) (k t : Int), k < n → -1 ≤ k → k + 1 < f → ∀ g, f ≤ g → chase ns g k t = chase ns f k t := by
  intro f
  induction f with
  | zero => intro k t _ h1 h2; omega
  | succ f ih =>
    intro k t hk h1 h2 g hg
    obtain ⟨g', rfl⟩ : ∃ g', g = g' + 1 := ⟨g - 1, by omega⟩
    unfold chase
    by_cases h0 : k < 0
    · simp [h0]
    · rw [if_neg h0, if_neg h0]
      by_cases he : (k == t) = true
      · rw [if_pos he, if_pos he]
      · rw [if_neg he, if_neg he]
        have := hl k.toNat (by omega)
        exact ih _ _ (by omega) this.1 (by omega) g' (by omega)
theorem chase_le {ns : List Nd} {n : Nat} (hl : Low ns n) : ∀ (f : Nat) (k t : Int), k < n → chase ns f k t = true → 0 ≤ t ∧ t ≤ k := by
  intro f
  induction f with
  | zero => intro k t _ h; simp [chase] at h
  | succ f ih =>
    intro k t hk h
    unfold chase at h
    by_cases h0 : k < 0
    · simp [h0] at h
    · rw [if_neg h0] at h
      by_cases he : (k == t) = true
      · have : k = t := by simpa using he
        omega
      · rw [if_neg he] at h
        have h3 := hl k.toNat (by omega)
        have := ih _ _ (by omega) h
        omega
theorem hangs_low {ns : List Nd} {n : Nat} (hl : Low ns n) (h : hangs ns n = true) : Low ns (n + 1) := by
  intro k hk
  by_cases hkn : k < n
  · exact hl k hkn
  · obtain rfl : k = n := by omega
    unfold hangs at h
    by_cases h0 : k = 0
    · subst h0
      simp at h; omega
    · rw [if_neg h0] at h
      have := chase_le hl _ _ _ (by omega) h
      omega
theorem okTo_succ (ns : List Nd) (n : Nat) : okTo ns (n + 1) = (okTo ns n && ((match ns[n]? with | some x => right x | none => false) && hangs ns n)) := by
  unfold okTo
  rw [List.range_succ, List.all_append]
  simp
theorem okTo_low {ns : List Nd} : ∀ n, okTo ns n = true → Low ns n
  | 0, _ => fun k hk => by omega
  | n + 1, h => by
    rw [okTo_succ, Bool.and_eq_true, Bool.and_eq_true] at h
    exact hangs_low (okTo_low n h.1) h.2.2
theorem okTo_le {ns : List Nd} {n m : Nat} (h : okTo ns m = true) (hm : n ≤ m) : okTo ns n = true := by
  unfold okTo at *
  rw [List.all_eq_true] at *
  intro k hk
  exact h k (by simp at *; omega)
end Go.Proofs.YtephhllfodlfbaaGreatDoor.Pl
/-
  Where an element hangs, as the program tells it.
-/
namespace Go.Proofs.YtephhllfodlfbaaGreatDoor
open Go.RowKit

theorem upOf_at (ns : List Pl.Nd) (k : Nat) (h : k < ns.length) : Pl.upOf ns k = ns[k].up := by
  unfold Pl.upOf; rw [List.getElem?_eq_getElem h]
theorem up_cell {w : World} {b o : Nat} {ns : List Pl.Nd} (hc : ∀ i (h : i < ns.length), NdAt w b (o + i * 5) ns[i]) (k : Nat) (h : k < ns.length) : w.cell? ⟨b, o + k * 5, none⟩ = some (.int .i64 (Pl.upOf ns k)) := by
  obtain ⟨vc, va, h0, _⟩ := hc k h
  rw [upOf_at ns k h]; exact h0

/-- the way up from k on, with just enough steps -/
def way (ns : List Pl.Nd) (k : Int) (t : Int) : Bool := Pl.chase ns (k + 2).toNat k t
theorem way_neg (ns : List Pl.Nd) (t : Int) : way ns (-1) t = false := by simp [way, Pl.chase]
theorem way_hit (ns : List Pl.Nd) (k : Nat) : way ns k k = true := by
  unfold way
  rw [show ((k : Int) + 2).toNat = (k + 1) + 1 by omega]
  unfold Pl.chase
  rw [if_neg (by omega)]; simp
theorem way_step {ns : List Pl.Nd} {n : Nat} (hl : Pl.Low ns n) (k : Nat) (hk : k < n) (t : Int) (hne : ((k : Int) == t) = false) : way ns k t = way ns (Pl.upOf ns k) t := by
  have h2 := hl k hk
  unfold way
  rw [show ((k : Int) + 2).toNat = (k + 1) + 1 by omega, Pl.chase, if_neg (by omega), hne]
  simp only [Bool.false_eq_true, if_false, Int.toNat_natCast]
  exact Pl.chase_low hl _ _ _ (by omega) h2.1 (by omega) _ (by omega)
theorem hangs_way (ns : List Pl.Nd) (n : Nat) (h : n ≠ 0) : Pl.hangs ns n = way ns ((n : Int) - 1) (Pl.upOf ns n) := by
  unfold Pl.hangs way
  rw [if_neg h, show ((n : Int) - 1 + 2).toNat = n + 1 by omega]

set_option maxHeartbeats 400000 in
theorem hangs_zero (b o cap : Nat) (ns : List Pl.Nd) (w : World) (hn : 0 < ns.length) (hlen : ns.length ≤ 64) (hc : ∀ i (h : i < ns.length), NdAt w b (o + i * 5) ns[i]) :
    Calls Tryz.prog 50 #[.slice (some ⟨b, o, none⟩) ns.length cap, .int .i64 0] w fun e w' => e = .returned (.bool (Pl.hangs ns 0)) ∧ w' = w := by
  have c0 := up_cell hc 0 hn
  rw [Nat.zero_mul, Nat.add_zero] at c0
  have HH : Hid (Pl.hangs ns 0 = (Pl.upOf ns 0 == -1)) := by simp [Hid, Pl.hangs]
  have hn' : (0 : Int) < (ns.length : Int) := by omega
  clear hc
  generalize Pl.upOf ns 0 = u at *
  go_enter Tryz.func50, Tryz.ntmps50
  go_wp2
  go_ret
  exact ⟨by rw [HH.out]; rfl, rfl⟩

set_option maxHeartbeats 400000 in
theorem hangs_pos (b o cap : Nat) (ns : List Pl.Nd) (n : Nat) (w : World) (hn : n < ns.length) (h0 : 0 < n) (hlen : ns.length ≤ 64) (hl : Pl.Low ns n) (hc : ∀ i (h : i < ns.length), NdAt w b (o + i * 5) ns[i]) :
    Calls Tryz.prog 50 #[.slice (some ⟨b, o, none⟩) ns.length cap, .int .i64 n] w fun e w' => e = .returned (.bool (Pl.hangs ns n)) ∧ w' = w := by
  have HC : Hid (∀ k, k < ns.length → w.cell? ⟨b, o + k * 5, none⟩ = some (.int .i64 (Pl.upOf ns k))) := fun k h => up_cell hc k h
  have cn := up_cell hc n hn
  have HH : Hid (Pl.hangs ns n = way ns ((n : Int) - 1) (Pl.upOf ns n)) := hangs_way ns n (by omega)
  have HL : Hid (Pl.Low ns n) := hl
  have hz : ((n : Int) == 0) = false := by simp; omega
  clear hc hl
  generalize Pl.upOf ns n = t at *
  go_enter Tryz.func50, Tryz.ntmps50
  go_wp2
  go_loop [5] (fun u => ∃ q : Int, u = .int .i64 q ∧ -1 ≤ q ∧ q < n ∧ Hid (Pl.hangs ns n = way ns q t)) (fun u => (intOf u + 1).toNat)
  case atStart => exact ⟨(n : Int) - 1, rfl, by omega, by omega, HH⟩
  case round =>
    obtain ⟨q, rfl, hq1, hq2, hw⟩ := hrel
    by_cases hneg : q < 0
    · have HF : Hid (Pl.hangs ns n = false) := by
        have : q = -1 := by omega
        subst this
        exact hw.out.trans (way_neg ns t)
      go_wp2
      go_ret
      exact ⟨by rw [HF.out]; rfl, rfl⟩
    · obtain ⟨k, rfl⟩ : ∃ k : Nat, q = k := ⟨q.toNat, by omega⟩
      have hk : k < n := by omega
      cases he : ((k : Int) == t) with
      | true =>
        have HF : Hid (Pl.hangs ns n = true) := by
          have : (k : Int) = t := by simpa using he
          rw [Hid, hw.out, ← this]; exact way_hit ns k
        go_wp2
        go_ret
        exact ⟨by rw [HF.out]; rfl, rfl⟩
      | false =>
        have ck := HC.out k (by omega)
        obtain ⟨u1, u2⟩ := HL.out k hk
        have HS : Hid (Pl.hangs ns n = way ns (Pl.upOf ns k) t) := hw.out.trans (way_step HL.out k hk t he)
        generalize Pl.upOf ns k = u at *
        go_wp2
        exact ⟨⟨u, rfl, u1, by omega, HS⟩, by simp [intOf]; omega⟩
theorem hangs_any (b o cap : Nat) (ns : List Pl.Nd) (n : Nat) (w : World) (hn : n < ns.length) (hlen : ns.length ≤ 64) (hl : Pl.Low ns n) (hc : ∀ i (h : i < ns.length), NdAt w b (o + i * 5) ns[i]) :
    Calls Tryz.prog 50 #[.slice (some ⟨b, o, none⟩) ns.length cap, .int .i64 n] w fun e w' => e = .returned (.bool (Pl.hangs ns n)) ∧ w' = w := by
  by_cases h0 : n = 0
  · subst h0; exact hangs_zero b o cap ns w hn hlen hc
  · exact hangs_pos b o cap ns n w hn (by omega) hlen hl hc
end Go.Proofs.YtephhllfodlfbaaGreatDoor
/-
  A right document, as the program tells it.
-/
namespace Go.Proofs.YtephhllfodlfbaaGreatDoor
open Go.RowKit

/-- its elements' lists are no longer than lists can be -/
def FitsAll (ns : List Pl.Nd) : Prop := ns.length ≤ maxLen ∧ ∀ i (h : i < ns.length), Fits ns[i]

set_option maxHeartbeats 400000 in
theorem check_many (a : Option Addr) (n cap : Nat) (w : World) (h : n < 1 ∨ 64 < n) (hm : n ≤ maxLen) :
    Calls Tryz.prog 14 #[.agg #[.slice a n cap]] w fun e w' => e = .returned (.int .i64 2) ∧ Below w.heap.size w w' := by
  unfold maxLen at hm
  rcases h with h | h
  · go_enter Tryz.func14, Tryz.ntmps14
    go_wp2
    go_ret
    exact ⟨rfl, on_alloc _ _⟩
  · have h1 : ¬ n < 1 := by omega
    go_enter Tryz.func14, Tryz.ntmps14
    go_wp2
    go_ret
    exact ⟨rfl, on_alloc _ _⟩

theorem okTo_false {ns : List Pl.Nd} {k : Nat} (hk : k < ns.length) (h : (Pl.right ns[k] && Pl.hangs ns k) = false) : Pl.okTo ns ns.length = false := by
  cases hh : Pl.okTo ns ns.length with
  | false => rfl
  | true =>
    have := Pl.okTo_le hh (n := k + 1) (by omega)
    rw [Pl.okTo_succ, List.getElem?_eq_getElem hk] at this
    simp only [h, Bool.and_false] at this
    cases this
theorem okTo_next {ns : List Pl.Nd} {k : Nat} (hk : k < ns.length) (h0 : Pl.okTo ns k = true) (h1 : Pl.right ns[k] = true) (h2 : Pl.hangs ns k = true) : Pl.okTo ns (k + 1) = true := by
  rw [Pl.okTo_succ, List.getElem?_eq_getElem hk, h0, h2]
  simp [h1]

theorem checkDoc_one {ns : List Pl.Nd} (h1 : 1 ≤ ns.length) (h64 : ns.length ≤ 64) (h : Pl.okTo ns ns.length = false) : Pl.checkDoc ns = 1 := by
  unfold Pl.checkDoc; rw [if_neg (by omega), h]; rfl
theorem checkDoc_zero {ns : List Pl.Nd} (h1 : 1 ≤ ns.length) (h64 : ns.length ≤ 64) (h : Pl.okTo ns ns.length = true) : Pl.checkDoc ns = 0 := by
  unfold Pl.checkDoc; rw [if_neg (by omega), h]; rfl
theorem NdV.on {w w' : World} {v : Value} {x : Pl.Nd} (h : NdV w v x) (hb : Below w.heap.size w w') : NdV w' v x := by
  obtain ⟨vc, va, rfl, hc, ha⟩ := h
  exact ⟨vc, va, rfl, hc.on hb, ha.on hb⟩
set_option maxHeartbeats 2000000 in
theorem check_some (b o cap : Nat) (ns : List Pl.Nd) (w : World) (h1 : 1 ≤ ns.length) (h64 : ns.length ≤ 64) (hf : FitsAll ns) (hc : ∀ i (h : i < ns.length), NdAt w b (o + i * 5) ns[i]) :
    Calls Tryz.prog 14 #[.agg #[.slice (some ⟨b, o, none⟩) ns.length cap]] w fun e w' => e = .returned (.int .i64 (Pl.checkDoc ns)) ∧ Below w.heap.size w w' := by
  have HC : Hid (∀ i (h : i < ns.length), NdAt w b (o + i * 5) ns[i]) := hc
  have HFit : Hid (FitsAll ns) := hf
  clear hc hf
  have l1 : ¬ ns.length < 1 := by omega
  go_enter Tryz.func14, Tryz.ntmps14
  go_wp2
  go_loopw [18] (fun i wr => ∃ k : Nat, k ≤ ns.length ∧ i = .int .i64 k ∧ Hid (Pl.okTo ns k = true) ∧ Below w.heap.size w wr ∧ wr.cell? ⟨w.heap.size, 0, none⟩ = some (.slice (some ⟨b, o, none⟩) ns.length cap)) (fun i _ => ns.length - (intOf i).toNat)
  case atStart => exact ⟨0, Nat.zero_le _, rfl, rfl, on_alloc _ _, by simp [go_sem]⟩
  case round =>
    obtain ⟨k, hk, rfl, hd, hB, hbox⟩ := hrel
    by_cases hlt : k < ns.length
    · obtain ⟨vc, va, n0, n1, n2, n3, n4, nc, na⟩ := (HC.out k hlt).on hB
      obtain ⟨ac, cc, rfl, _⟩ := id nc
      obtain ⟨aa, ca, rfl, _⟩ := id na
      have HV : Hid (NdV wr (.agg #[.int .i64 ns[k].up, .string ⟨ns[k].tag.toArray⟩, .string ⟨ns[k].id.toArray⟩, .slice ac ns[k].cls.length cc, .slice aa ns[k].ats.length ca]) ns[k]) := ⟨_, _, rfl, nc, na⟩
      clear nc na
      cases hr : Pl.right ns[k] with
      | false =>
        have HF : Hid (Pl.checkDoc ns = 1) := checkDoc_one h1 h64 (okTo_false hlt (by rw [hr]; rfl))
        go_wp2_with fail
        refine (isRight_any _ ns[k] _ (HFit.out.2 k hlt) (HV.out.on (on_alloc _ _))).mono ?_
        rintro e w1 ⟨rfl, hw1⟩
        have hB1 := below_trans (below_trans hB (on_alloc _ _)) hw1
        go_wp2
        go_ret
        exact ⟨by rw [HF.out]; rfl, hB1⟩
      | true =>
        go_wp2_with fail
        refine (isRight_any _ ns[k] _ (HFit.out.2 k hlt) (HV.out.on (on_alloc _ _))).mono ?_
        rintro e w1 ⟨rfl, hw1⟩
        have hb1 := below_trans (on_alloc _ _) hw1
        have hB1 := below_trans hB hb1
        have hbox1 := cell_on hb1 hbox
        have HC1 : Hid (∀ i (h : i < ns.length), NdAt w1 b (o + i * 5) ns[i]) := fun i h => (HC.out i h).on hB1
        clear hw1 hbox hb1 n0 n1 n2 n3 n4
        cases hh : Pl.hangs ns k with
        | false =>
          have HF : Hid (Pl.checkDoc ns = 1) := checkDoc_one h1 h64 (okTo_false hlt (by rw [hh]; simp))
          go_wp2_with fail
          refine (hangs_any b o cap ns k _ hlt h64 (Pl.okTo_low k hd.out) HC1.out).mono ?_
          rintro e w2 ⟨rfl, rfl⟩
          go_wp2
          go_ret
          exact ⟨by rw [HF.out]; rfl, hB1⟩
        | true =>
          have HN : Hid (Pl.okTo ns (k + 1) = true) := okTo_next hlt hd.out hr hh
          go_wp2_with fail
          refine (hangs_any b o cap ns k _ hlt h64 (Pl.okTo_low k hd.out) HC1.out).mono ?_
          rintro e w2 ⟨rfl, rfl⟩
          go_wp2
          exact ⟨⟨k + 1, hlt, by go_num, HN, hB1, hbox1⟩, by simp [intOf]; omega⟩
    · have HF : Hid (Pl.checkDoc ns = 0) := by
        have he : k = ns.length := by omega
        have := hd.out
        rw [he] at this
        exact checkDoc_zero h1 h64 this
      go_wp2
      go_ret
      exact ⟨by rw [HF.out]; rfl, hB⟩

theorem check_any (v : Value) (ns : List Pl.Nd) (w : World) (hf : FitsAll ns) (hv : NdsAt w v ns) :
    Calls Tryz.prog 14 #[.agg #[v]] w fun e w' => e = .returned (.int .i64 (Pl.checkDoc ns)) ∧ Below w.heap.size w w' := by
  obtain ⟨a, cap, rfl, h⟩ := hv
  by_cases hl : ns.length < 1 ∨ 64 < ns.length
  · have : Pl.checkDoc ns = 2 := by unfold Pl.checkDoc; rw [if_pos hl]
    rw [this]
    exact check_many a ns.length cap w hl hf.1
  · rcases h with rfl | ⟨b, o, rfl, hc⟩
    · simp at hl
    · exact check_some b o cap ns w (by omega) (by omega) hf hc
end Go.Proofs.YtephhllfodlfbaaGreatDoor
