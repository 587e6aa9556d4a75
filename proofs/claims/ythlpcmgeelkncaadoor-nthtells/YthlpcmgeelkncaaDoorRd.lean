/-
  The strict reader's small steps: a sign that is taken, a run of digits, a refusal.
-/
import Derived.Test.YthlpcmgeelkncaaDoorShelf
import Derived.Test.YthlpcmgeelkncaaDoorPlain
import Derived.WalkKit
import Derived.WalkSpells
import Derived.WalkLawsBesides
import Derived.ProofKit
namespace Go.Proofs.YthlpcmgeelkncaaDoor
open Go.RowKit

set_option maxHeartbeats 400000 in
theorem isDigit_any (c : UInt8) (w : World) :
    Calls Tryd.prog 38 #[.int .u8 c.toNat] w fun e w' => e = .returned (.bool (Pl.isDig c)) ∧ w' = w := by
  have hc := c.toNat_lt
  by_cases h1 : (48 : Int) ≤ (c.toNat : Int)
  · by_cases h2 : (c.toNat : Int) ≤ 57
    · have hh : Pl.isDig c = true := (Pl.dig_iff c).2 ⟨by omega, by omega⟩
      go_enter Tryd.func38, Tryd.ntmps38
      go_wp2
      go_ret
      exact ⟨by rw [hh]; rfl, rfl⟩
    · have hh : Pl.isDig c = false := by simp [Pl.isDig]; omega
      go_enter Tryd.func38, Tryd.ntmps38
      go_wp2
      go_ret
      exact ⟨rfl, rfl⟩
  · have hh : Pl.isDig c = false := by simp [Pl.isDig]; omega
    go_enter Tryd.func38, Tryd.ntmps38
    go_wp2
    go_ret
    exact ⟨rfl, rfl⟩

set_option maxHeartbeats 400000 in
theorem refuse_any (w : World) :
    Calls Tryd.prog 24 #[] w fun e w' => e = .panicked [{ v := .iface 24 (.int .i64 1), recovered := false }] ∧ w' = w := by
  go_enter Tryd.func24, Tryd.ntmps24
  go_wp2
  exact ⟨rfl, rfl, rfl⟩

theorem hasPrefix_one (c : UInt8) (l : List UInt8) : Lib.hasPrefix l [c] = Pl.took c l := by
  cases l with
  | nil => simp [Lib.hasPrefix, Pl.took]
  | cons x r => simp [Lib.hasPrefix, Pl.took, List.isPrefixOf]; exact Bool.beq_comm
theorem trimPrefix_one (c : UInt8) (l : List UInt8) : Lib.trimPrefix l [c] = Pl.left c l := by
  rw [Lib.trimPrefix, hasPrefix_one]
  cases l with
  | nil => simp [Pl.took, Pl.left]
  | cons x r => simp [Pl.took, Pl.left]

set_option maxHeartbeats 400000 in
theorem take_any (b : Nat) (l : List UInt8) (c : UInt8) (w : World) (hc : w.cell? ⟨b, 0, none⟩ = some (.string ⟨l.toArray⟩)) (hf : w.frozen? ⟨b, 0, none⟩ = false) :
    Calls Tryd.prog 26 #[.pointer (some ⟨b, 0, none⟩), .string ⟨#[c]⟩] w fun e w' => e = .returned (.bool (Pl.took c l)) ∧ w' = w.setCell ⟨b, 0, none⟩ (.string ⟨(Pl.left c l).toArray⟩) := by
  go_enter Tryd.func26, Tryd.ntmps26
  go_wp2_with (go_at_call 32; refine (Tryd.strings_CutPrefix _ _ _).mono ?_; rintro e w' ⟨rfl, rfl⟩)
  go_ret
  rw [hasPrefix_one, trimPrefix_one]
  exact ⟨rfl, rfl⟩

theorem ex_take (l : List UInt8) (k : Nat) : (⟨l.toArray⟩ : ByteArray).extract 0 k = ⟨(l.take k).toArray⟩ := by
  rw [Lib.extract_eq]; simp
theorem ex_drop (l : List UInt8) (k : Nat) : (⟨l.toArray⟩ : ByteArray).extract k l.length = ⟨(l.drop k).toArray⟩ := by
  rw [Lib.extract_eq]; congr 2; exact List.take_of_length_le (by simp)
theorem scan_stop : ∀ (l : List UInt8) (k : Nat), (∀ c ∈ l.take k, Pl.isDig c = true) → Pl.noDig (l.drop k) = true → l.takeWhile Pl.isDig = l.take k ∧ l.dropWhile Pl.isDig = l.drop k := by
  intro l k h1 h2
  have := Pl.take_app (l.take k) (l.drop k) h1 h2
  rwa [List.take_append_drop] at this
theorem noDig_at (l : List UInt8) (k : Nat) (h : k < l.length) : Pl.noDig (l.drop k) = !Pl.isDig l[k] := by
  rw [List.drop_eq_getElem_cons h]; rfl
theorem digs_succ (l : List UInt8) (k : Nat) (h : k < l.length) (h1 : ∀ c ∈ l.take k, Pl.isDig c = true) (h2 : Pl.isDig l[k] = true) : ∀ c ∈ l.take (k + 1), Pl.isDig c = true := by
  intro c hc
  rw [List.take_succ_eq_append_getElem h, List.mem_append, List.mem_singleton] at hc
  rcases hc with hc | rfl
  · exact h1 c hc
  · exact h2

set_option maxHeartbeats 400000 in
theorem run_any (b : Nat) (l : List UInt8) (w : World) (hc : w.cell? ⟨b, 0, none⟩ = some (.string ⟨l.toArray⟩)) (hf : w.frozen? ⟨b, 0, none⟩ = false) (hl : l.length ≤ maxLen) :
    Calls Tryd.prog 37 #[.pointer (some ⟨b, 0, none⟩), .func (.func 38) #[] #[]] w fun e w' => e = .returned (.string ⟨(l.takeWhile Pl.isDig).toArray⟩) ∧ w' = w.setCell ⟨b, 0, none⟩ (.string ⟨(l.dropWhile Pl.isDig).toArray⟩) := by
  unfold maxLen at hl
  go_enter Tryd.func37, Tryd.ntmps37
  go_wp2
  go_loop [5] (fun n => ∃ k : Nat, k ≤ l.length ∧ n = .int .i64 k ∧ Hid (∀ c ∈ l.take k, Pl.isDig c = true)) (fun n => l.length - (intOf n).toNat)
  case atStart => exact ⟨0, Nat.zero_le _, rfl, by intro c hc; simp at hc⟩
  case round =>
    obtain ⟨k, hk, rfl, hd⟩ := hrel
    by_cases hlt : k < l.length
    · cases hx : Pl.isDig l[k] with
      | true =>
        have hx' : Hid (Pl.isDig l[k] = true) := hx
        have hy : Pl.isDig (⟨l.toArray⟩ : ByteArray)[k] = true := hx
        clear hx
        go_wp2_with (go_at_call 38; refine (isDigit_any _ _).mono ?_; rintro e w' ⟨rfl, rfl⟩)
        go_round
        case rel => exact ⟨k + 1, hlt, by go_num, digs_succ l k hlt hd.out hx'.out⟩
        case measure => simp [intOf]; omega
      | false =>
        have hs := scan_stop l k hd.out (by rw [noDig_at l k hlt, hx]; rfl)
        have HS : Hid (l.takeWhile Pl.isDig = l.take k ∧ l.dropWhile Pl.isDig = l.drop k) := hs
        have hy : Pl.isDig (⟨l.toArray⟩ : ByteArray)[k] = false := hx
        clear hx hs
        go_wp2_with (go_at_call 38; refine (isDigit_any _ _).mono ?_; rintro e w' ⟨rfl, rfl⟩)
        go_ret
        rw [HS.out.1, HS.out.2]
        exact ⟨by simp [ex_take], by rw [ex_drop]⟩
    · have hs := scan_stop l k hd.out (by rw [List.drop_eq_nil_of_le (by omega)]; rfl)
      have HS : Hid (l.takeWhile Pl.isDig = l.take k ∧ l.dropWhile Pl.isDig = l.drop k) := hs
      clear hs
      go_wp2
      go_ret
      rw [HS.out.1, HS.out.2]
      exact ⟨by simp [ex_take], by rw [ex_drop]⟩
end Go.Proofs.YthlpcmgeelkncaaDoor
