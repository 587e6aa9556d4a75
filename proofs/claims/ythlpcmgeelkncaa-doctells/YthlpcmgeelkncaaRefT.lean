/-
  Names and values, as the document's own answer tells them.
-/
import Derived.Test.YthlpcmgeelkncaaTxt
namespace Go.Proofs.Ythlpcmgeelkncaa
open Go.RowKit

def within (n lo hi : Int) : Bool := decide (lo ≤ n) && decide (n ≤ hi)
set_option maxHeartbeats 400000 in
theorem within_any (n lo hi : Int) (w : World) : Calls Try.prog 44 #[.int .i64 n, .int .i64 lo, .int .i64 hi] w fun e w' => e = .returned (.bool (within n lo hi)) ∧ w' = w := by
  by_cases h : lo ≤ n
  · have HH : Hid (within n lo hi = decide (n ≤ hi)) := by simp [Hid, within, h]
    go_enter Try.func44, Try.ntmps44
    go_wp2
    go_ret
    exact ⟨by rw [HH.out]; rfl, rfl⟩
  · have HH : Hid (within n lo hi = false) := by simp [Hid, within, h]
    go_enter Try.func44, Try.ntmps44
    go_wp2
    go_ret
    exact ⟨by rw [HH.out]; rfl, rfl⟩
set_option maxHeartbeats 1000000 in
theorem refValue_any (l : List UInt8) (w : World) :
    Calls Try.prog 73 #[.string ⟨l.toArray⟩] w fun e w' => e = .returned (.bool (Pl.isValue l)) ∧ w' = w := by
  by_cases h16 : 16 < l.length
  · have hh : Pl.isValue l = false := by
      have : ¬ l.length ≤ 16 := by omega
      simp [Pl.isValue, this]
    go_enter Try.func73, Try.ntmps73
    go_wp2
    go_ret
    exact ⟨by first | rfl | (rw [hh]; rfl), rfl⟩
  · have hle : l.length ≤ 16 := by omega
    have HH : Hid (Pl.isValue l = l.all Pl.isVB) := by
      unfold Hid; simp [Pl.isValue, hle]
    go_enter Try.func73, Try.ntmps73
    go_wp2
    go_loop [3] (fun i => ∃ k : Nat, k ≤ l.length ∧ i = .int .i64 k ∧ Hid ((l.take k).all Pl.isVB = true)) (fun i => l.length - (intOf i).toNat)
    case atStart => exact ⟨0, Nat.zero_le _, rfl, rfl⟩
    case round =>
      obtain ⟨k, hk, rfl, hd⟩ := hrel
      by_cases hlt : k < l.length
      · cases hx : Pl.isVB l[k] with
        | true =>
          obtain ⟨b1, b2, b3⟩ := vb_true _ hx
          have y1 : ¬ (((⟨l.toArray⟩ : ByteArray)[k]'hlt).toNat : Int) < 32 := b1
          have y2 : ¬ 126 < (((⟨l.toArray⟩ : ByteArray)[k]'hlt).toNat : Int) := b2
          have y3 : ((((⟨l.toArray⟩ : ByteArray)[k]'hlt).toNat : Int) == 34) = false := b3
          have HX : Hid _ := hx
          clear hx b1 b2 b3
          go_wp2
          go_round
          case rel => exact ⟨k + 1, hlt, by go_num, all_succ l k hlt hd.out HX.out⟩
          case measure => simp [intOf]; omega
        | false =>
          have HF : Hid (l.all Pl.isVB = false) := all_not l k hlt hx
          have hcs := vb_cases _ hx
          clear hx
          have hcs' : (((⟨l.toArray⟩ : ByteArray)[k]'hlt).toNat : Int) < 32 ∨ (¬ (((⟨l.toArray⟩ : ByteArray)[k]'hlt).toNat : Int) < 32 ∧ 126 < (((⟨l.toArray⟩ : ByteArray)[k]'hlt).toNat : Int)) ∨ (¬ (((⟨l.toArray⟩ : ByteArray)[k]'hlt).toNat : Int) < 32 ∧ ¬ 126 < (((⟨l.toArray⟩ : ByteArray)[k]'hlt).toNat : Int) ∧ ((((⟨l.toArray⟩ : ByteArray)[k]'hlt).toNat : Int) == 34) = true) := hcs
          clear hcs
          rcases hcs' with y1 | ⟨y1, y2⟩ | ⟨y1, y2, y3⟩
          all_goals
            go_wp2
            go_ret
            exact ⟨by rw [HH.out, HF.out]; rfl, rfl⟩
      · have HF : Hid (l.all Pl.isVB = true) := by
          have := hd.out
          rwa [List.take_of_length_le (by omega)] at this
        go_wp2
        go_ret
        exact ⟨by rw [HH.out, HF.out]; rfl, rfl⟩
end Go.Proofs.Ythlpcmgeelkncaa
