/-
  Names that rise: asked of texts, and of attributes.
-/
import Derived.Test.YthlpcmgeelkncaaMem
import Derived.BigQuiet
import Derived.Deep.QuietTactic
namespace Go.Proofs.Ythlpcmgeelkncaa
open Go.RowKit

set_option maxHeartbeats 400000 in
theorem same_any (l : List UInt8) (w : World) :
    Calls Try.prog 68 #[.string ⟨l.toArray⟩] w fun e w' => e = .returned (.string ⟨l.toArray⟩) ∧ w' = w := by
  go_enter Try.func68, Try.ntmps68
  go_wp2
  go_ret
  exact ⟨rfl, rfl⟩

theorem below_drewN {B : Nat} {w w' : World} (h : Below B w w') (n : Nat) : Below B w (w'.drewN n) := ⟨h.os, h.tape, h.output, h.size, h.block⟩
theorem rise_step (ss : List (List UInt8)) (j : Nat) (h : j + 1 < ss.length) (hle : Op.bytesLess ss[j] ss[j + 1] = true) : Pl.rise (ss.drop j) = Pl.rise (ss.drop (j + 1)) := by
  rw [List.drop_eq_getElem_cons (i := j) (by omega), List.drop_eq_getElem_cons (i := j + 1) h]
  simp [Pl.rise, hle]
theorem rise_stop (ss : List (List UInt8)) (j : Nat) (h : j + 1 < ss.length) (hle : Op.bytesLess ss[j] ss[j + 1] = false) : Pl.rise (ss.drop j) = false := by
  rw [List.drop_eq_getElem_cons (i := j) (by omega), List.drop_eq_getElem_cons (i := j + 1) h]
  simp [Pl.rise, hle]
theorem rise_end (ss : List (List UInt8)) (j : Nat) (h : ¬ j + 1 < ss.length) : Pl.rise (ss.drop j) = true := by
  have hl : (ss.drop j).length ≤ 1 := by simp; omega
  cases hd : ss.drop j with
  | nil => rfl
  | cons x r =>
    rw [hd] at hl
    have : r = [] := by cases r with | nil => rfl | cons => simp at hl
    rw [this]; rfl
set_option maxHeartbeats 400000 in
theorem riseS_none (a : Option Addr) (cap : Nat) (w : World) :
    Calls Try.prog 86 #[.slice a 0 cap, .func (.func 68) #[] #[]] w fun e w' => e = .returned (.bool (Pl.rise [])) ∧ Below w.heap.size w w' := by
  go_enter Try.func86, Try.ntmps86
  go_wp2
  refine wp_loop_rounds 1 ?_
  rw [rounds_succ]
  go_wp2
  go_ret
  exact ⟨rfl, Below.refl _ _⟩

set_option maxHeartbeats 400000 in
theorem riseS_some (b o cap : Nat) (ss : List (List UInt8)) (w : World) (hlen : ss.length ≤ 6) (hc : ∀ i (h : i < ss.length), w.cell? ⟨b, o + i, none⟩ = some (.string ⟨ss[i].toArray⟩)) :
    Calls Try.prog 86 #[.slice (some ⟨b, o, none⟩) ss.length cap, .func (.func 68) #[] #[]] w fun e w' => e = .returned (.bool (Pl.rise ss)) ∧ Below w.heap.size w w' := by
  have HC : Hid _ := hc
  clear hc
  go_enter Try.func86, Try.ntmps86
  go_wp2
  go_loopw [5] (fun i wr => ∃ j : Nat, i = .int .i64 ((j : Int) + 1) ∧ Hid (Pl.rise ss = Pl.rise (ss.drop j)) ∧ Below w.heap.size w wr) (fun i _ => ss.length - (intOf i).toNat)
  case atStart => exact ⟨0, rfl, by simp [Hid], Below.refl _ _⟩
  case round =>
    obtain ⟨j, rfl, hd, hB⟩ := hrel
    by_cases hlt : j + 1 < ss.length
    · have c0 : wr.cell? ⟨b, o + j, none⟩ = some (.string ⟨ss[j].toArray⟩) := cell_on hB (HC.out j (by omega))
      have c1 : wr.cell? ⟨b, o + (j + 1), none⟩ = some (.string ⟨ss[j + 1].toArray⟩) := cell_on hB (HC.out (j + 1) hlt)
      have i1 : (0 : Int) ≤ (j : Int) := by omega
      have i2 : (j : Int) < (ss.length : Int) := by omega
      have i3 : (j : Int) + 1 < (ss.length : Int) := by omega
      cases hle : Op.bytesLess ss[j] ss[j + 1] with
      | true =>
        go_wp2
        go_quiet ((go_at_call 68; exact Calls.quiet_of_same (same_any _ _)))
        go_wp2
        refine ⟨⟨j + 1, by go_num, ?_, below_drewN hB _⟩, by simp [intOf]; omega⟩
        exact hd.out.trans (rise_step ss j hlt hle)
      | false =>
        have HF : Hid (Pl.rise ss = false) := hd.out.trans (rise_stop ss j hlt hle)
        go_wp2
        go_quiet ((go_at_call 68; exact Calls.quiet_of_same (same_any _ _)))
        go_wp2
        go_ret
        exact ⟨by rw [HF.out]; rfl, below_drewN hB _⟩
    · have HF : Hid (Pl.rise ss = true) := hd.out.trans (rise_end ss j hlt)
      go_wp2
      go_ret
      exact ⟨by rw [HF.out]; rfl, hB⟩

theorem riseS_any (v : Value) (ss : List (List UInt8)) (w : World) (hlen : ss.length ≤ 6) (hs : StrsAt w v ss) :
    Calls Try.prog 86 #[v, .func (.func 68) #[] #[]] w fun e w' => e = .returned (.bool (Pl.rise ss)) ∧ Below w.heap.size w w' := by
  obtain ⟨a, cap, rfl, h⟩ := hs
  rcases h with rfl | ⟨b, o, rfl, hc⟩
  · exact riseS_none a cap w
  · exact riseS_some b o cap ss w hlen hc
end Go.Proofs.Ythlpcmgeelkncaa
