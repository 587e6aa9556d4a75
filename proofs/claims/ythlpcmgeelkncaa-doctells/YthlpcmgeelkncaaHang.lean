/-
  Where an element hangs, as the program tells it.
-/
import Derived.Test.YthlpcmgeelkncaaIsR
import Derived.Test.YthlpcmgeelkncaaPlan2
namespace Go.Proofs.Ythlpcmgeelkncaa
open Go.RowKit

theorem upOf_at (ns : List Pl.Nd) (k : Nat) (h : k < ns.length) : Pl.upOf ns k = ns[k].up := by
  unfold Pl.upOf; rw [List.getElem?_eq_getElem h]
theorem up_cell {w : World} {b o : Nat} {ns : List Pl.Nd} (hc : ∀ i (h : i < ns.length), NdAt w b (o + i * 5) ns[i]) (k : Nat) (h : k < ns.length) : w.cell? ⟨b, o + k * 5, none⟩ = some (.int .i64 (Pl.upOf ns k)) := by
  obtain ⟨vc, va, h0, _⟩ := hc k h
  rw [upOf_at ns k h]; exact h0

/-- the way up from k on, with just enough steps -/
def way (ns : List Pl.Nd) (k : Int) (t : Int) : Bool := Pl.chase ns (k + 2).toNat k t
theorem way_neg (ns : List Pl.Nd) (t : Int) : way ns (-1) t = false := by simp [way, Pl.chase]
theorem way_hit (ns : List Pl.Nd) (k : Nat) : way ns k k = true := by
  unfold way
  rw [show ((k : Int) + 2).toNat = (k + 1) + 1 by omega]
  unfold Pl.chase
  rw [if_neg (by omega)]; simp
theorem way_step {ns : List Pl.Nd} {n : Nat} (hl : Pl.Low ns n) (k : Nat) (hk : k < n) (t : Int) (hne : ((k : Int) == t) = false) : way ns k t = way ns (Pl.upOf ns k) t := by
  have h2 := hl k hk
  unfold way
  rw [show ((k : Int) + 2).toNat = (k + 1) + 1 by omega, Pl.chase, if_neg (by omega), hne]
  simp only [Bool.false_eq_true, if_false, Int.toNat_natCast]
  exact Pl.chase_low hl _ _ _ (by omega) h2.1 (by omega) _ (by omega)
theorem hangs_way (ns : List Pl.Nd) (n : Nat) (h : n ≠ 0) : Pl.hangs ns n = way ns ((n : Int) - 1) (Pl.upOf ns n) := by
  unfold Pl.hangs way
  rw [if_neg h, show ((n : Int) - 1 + 2).toNat = n + 1 by omega]

set_option maxHeartbeats 400000 in
theorem hangs_zero (b o cap : Nat) (ns : List Pl.Nd) (w : World) (hn : 0 < ns.length) (hlen : ns.length ≤ 64) (hc : ∀ i (h : i < ns.length), NdAt w b (o + i * 5) ns[i]) :
    Calls Try.prog 43 #[.slice (some ⟨b, o, none⟩) ns.length cap, .int .i64 0] w fun e w' => e = .returned (.bool (Pl.hangs ns 0)) ∧ w' = w := by
  have c0 := up_cell hc 0 hn
  rw [Nat.zero_mul, Nat.add_zero] at c0
  have HH : Hid (Pl.hangs ns 0 = (Pl.upOf ns 0 == -1)) := by simp [Hid, Pl.hangs]
  have hn' : (0 : Int) < (ns.length : Int) := by omega
  clear hc
  generalize Pl.upOf ns 0 = u at *
  go_enter Try.func43, Try.ntmps43
  go_wp2
  go_ret
  exact ⟨by rw [HH.out]; rfl, rfl⟩

set_option maxHeartbeats 400000 in
theorem hangs_pos (b o cap : Nat) (ns : List Pl.Nd) (n : Nat) (w : World) (hn : n < ns.length) (h0 : 0 < n) (hlen : ns.length ≤ 64) (hl : Pl.Low ns n) (hc : ∀ i (h : i < ns.length), NdAt w b (o + i * 5) ns[i]) :
    Calls Try.prog 43 #[.slice (some ⟨b, o, none⟩) ns.length cap, .int .i64 n] w fun e w' => e = .returned (.bool (Pl.hangs ns n)) ∧ w' = w := by
  have HC : Hid (∀ k, k < ns.length → w.cell? ⟨b, o + k * 5, none⟩ = some (.int .i64 (Pl.upOf ns k))) := fun k h => up_cell hc k h
  have cn := up_cell hc n hn
  have HH : Hid (Pl.hangs ns n = way ns ((n : Int) - 1) (Pl.upOf ns n)) := hangs_way ns n (by omega)
  have HL : Hid (Pl.Low ns n) := hl
  have hz : ((n : Int) == 0) = false := by simp; omega
  clear hc hl
  generalize Pl.upOf ns n = t at *
  go_enter Try.func43, Try.ntmps43
  go_wp2
  go_loop [5] (fun u => ∃ q : Int, u = .int .i64 q ∧ -1 ≤ q ∧ q < n ∧ Hid (Pl.hangs ns n = way ns q t)) (fun u => (intOf u + 1).toNat)
  case atStart => exact ⟨(n : Int) - 1, rfl, by omega, by omega, HH⟩
  case round =>
    obtain ⟨q, rfl, hq1, hq2, hw⟩ := hrel
    by_cases hneg : q < 0
    · have HF : Hid (Pl.hangs ns n = false) := by
        have : q = -1 := by omega
        subst this
        exact hw.out.trans (way_neg ns t)
      go_wp2
      go_ret
      exact ⟨by rw [HF.out]; rfl, rfl⟩
    · obtain ⟨k, rfl⟩ : ∃ k : Nat, q = k := ⟨q.toNat, by omega⟩
      have hk : k < n := by omega
      cases he : ((k : Int) == t) with
      | true =>
        have HF : Hid (Pl.hangs ns n = true) := by
          have : (k : Int) = t := by simpa using he
          rw [Hid, hw.out, ← this]; exact way_hit ns k
        go_wp2
        go_ret
        exact ⟨by rw [HF.out]; rfl, rfl⟩
      | false =>
        have ck := HC.out k (by omega)
        obtain ⟨u1, u2⟩ := HL.out k hk
        have HS : Hid (Pl.hangs ns n = way ns (Pl.upOf ns k) t) := hw.out.trans (way_step HL.out k hk t he)
        generalize Pl.upOf ns k = u at *
        go_wp2
        exact ⟨⟨u, rfl, u1, by omega, HS⟩, by simp [intOf]; omega⟩
theorem hangs_any (b o cap : Nat) (ns : List Pl.Nd) (n : Nat) (w : World) (hn : n < ns.length) (hlen : ns.length ≤ 64) (hl : Pl.Low ns n) (hc : ∀ i (h : i < ns.length), NdAt w b (o + i * 5) ns[i]) :
    Calls Try.prog 43 #[.slice (some ⟨b, o, none⟩) ns.length cap, .int .i64 n] w fun e w' => e = .returned (.bool (Pl.hangs ns n)) ∧ w' = w := by
  by_cases h0 : n = 0
  · subst h0; exact hangs_zero b o cap ns w hn hlen hc
  · exact hangs_pos b o cap ns n w hn (by omega) hlen hl hc
end Go.Proofs.Ythlpcmgeelkncaa
