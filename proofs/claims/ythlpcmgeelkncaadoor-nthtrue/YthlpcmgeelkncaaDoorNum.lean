/-
  The strict reader's number: digits without a 0 ahead, up to 2 to the 20th.
-/
import Derived.Test.YthlpcmgeelkncaaDoorRd
namespace Go.Proofs.YthlpcmgeelkncaaDoor
open Go.RowKit

set_option maxHeartbeats 400000 in
theorem need_yes (b : Nat) (l : List UInt8) (c : UInt8) (w : World) (hc : w.cell? ⟨b, 0, none⟩ = some (.string ⟨l.toArray⟩)) (hf : w.frozen? ⟨b, 0, none⟩ = false) (ht : Pl.took c l = true) :
    Calls Tryd.prog 27 #[.pointer (some ⟨b, 0, none⟩), .string ⟨#[c]⟩] w fun e w' => e = .returned (.tuple #[]) ∧ w' = w.setCell ⟨b, 0, none⟩ (.string ⟨(Pl.left c l).toArray⟩) := by
  go_enter Tryd.func27, Tryd.ntmps27
  go_wp2_with (go_at_call 26; refine (take_any b l c _ hc hf).mono ?_; rintro e w' ⟨rfl, rfl⟩)
  go_end0
  exact ⟨rfl, rfl⟩
set_option maxHeartbeats 400000 in
theorem need_no (b : Nat) (l : List UInt8) (c : UInt8) (w : World) (hc : w.cell? ⟨b, 0, none⟩ = some (.string ⟨l.toArray⟩)) (hf : w.frozen? ⟨b, 0, none⟩ = false) (ht : Pl.took c l = false) :
    Calls Tryd.prog 27 #[.pointer (some ⟨b, 0, none⟩), .string ⟨#[c]⟩] w fun e w' => e = .panicked [{ v := .iface 24 (.int .i64 1), recovered := false }] ∧ Below b w w' := by
  go_enter Tryd.func27, Tryd.ntmps27
  go_wp2_with (first | (go_at_call 26; refine (take_any b l c _ hc hf).mono ?_; rintro e w' ⟨rfl, rfl⟩) | (go_at_call 24; refine (refuse_any _).mono ?_; rintro e w' ⟨rfl, rfl⟩))
  exact ⟨rfl, rfl, (Below.refl _ _).setCell (p := ⟨b, 0, none⟩) (Nat.le_refl _) _⟩

theorem val_take_succ (s : List UInt8) (k : Nat) (h : k < s.length) : Pl.val (s.take (k + 1)) = Pl.val (s.take k) * 10 + (s[k].toNat - 48) := by
  rw [List.take_succ_eq_append_getElem h, Pl.val_snoc]
theorem val_mono (s : List UInt8) (k : Nat) : Pl.val (s.take k) ≤ Pl.val s := by
  refine Pl.snoc_ind (P := fun s => ∀ k, Pl.val (s.take k) ≤ Pl.val s) ?_ ?_ s k
  · intro k; simp
  · intro l c ih k
    by_cases h : k ≤ l.length
    · have := ih k
      rw [List.take_append_of_le_length h, Pl.val_snoc]; omega
    · rw [List.take_of_length_le (by simp; omega)]; exact Nat.le_refl _

set_option maxHeartbeats 400000 in
theorem number_core (b : Nat) (l s r : List UInt8) (w : World) (hc : w.cell? ⟨b, 0, none⟩ = some (.string ⟨l.toArray⟩)) (hf : w.frozen? ⟨b, 0, none⟩ = false) (hl : l.length ≤ maxLen)
    (hs : l.takeWhile Pl.isDig = s) (hr : l.dropWhile Pl.isDig = r) (hb : Pl.bad s = false) :
    Calls Tryd.prog 31 #[.pointer (some ⟨b, 0, none⟩), .int .i64 1048576] w fun e w' => (1048576 < Pl.val s ∧ e = .panicked [{ v := .iface 24 (.int .i64 1), recovered := false }] ∧ Below b w w') ∨
      (Pl.val s ≤ 1048576 ∧ e = .returned (.int .i64 (Pl.val s)) ∧ w' = w.setCell ⟨b, 0, none⟩ (.string ⟨r.toArray⟩)) := by
  have hdig : Hid (∀ c ∈ s, Pl.isDig c = true) := by rw [← hs]; exact Pl.takeWhile_dig l
  have hlen : s.length ≤ maxLen := by
    rw [← hs]
    exact Nat.le_trans (List.takeWhile_prefix _).length_le hl
  unfold maxLen at hlen
  obtain ⟨x, t, rfl⟩ : ∃ x t, s = x :: t := by
    cases s with
    | nil => simp [Pl.bad] at hb
    | cons x t => exact ⟨x, t, rfl⟩
  have hx : x = 48 → t = [] := by
    intro e; subst e; simp [Pl.bad] at hb; exact hb
  have hlt' : t.length + 1 ≤ 2 ^ 63 - 1 := by simpa using hlen
  clear hb hlen
  have hcase : ((((⟨(x :: t).toArray⟩ : ByteArray)[0]'(Nat.succ_pos _)).toNat : Int) == 48) = false ∨ (((((⟨(x :: t).toArray⟩ : ByteArray)[0]'(Nat.succ_pos _)).toNat : Int) == 48) = true ∧ t.length ≤ 0) := by
    by_cases h : x = 48
    · right; refine ⟨?_, by rw [hx h]; exact Nat.le_refl _⟩
      show ((x.toNat : Int) == 48) = true
      rw [h]; rfl
    · left
      show ((x.toNat : Int) == 48) = false
      simp only [beq_eq_false_iff_ne, ne_eq]
      intro e; apply h; apply UInt8.toNat_inj.1; simp; omega
  clear hx
  rcases hcase with hq | ⟨hq, ht0⟩
  all_goals
    go_enter Tryd.func31, Tryd.ntmps31
    go_wp2_with (go_at_call 37; refine (run_any b l _ hc hf hl).mono ?_; rintro e w' ⟨rfl, rfl⟩; rw [hs, hr])
    clear hs hr hc
    go_loop [6, 25] (fun n i => ∃ k : Nat, k ≤ t.length + 1 ∧ i = .int .i64 k ∧ n = .int .i64 (Pl.val ((x :: t).take k)) ∧ Pl.val ((x :: t).take k) ≤ 1048576) (fun _ i => t.length + 1 - (intOf i).toNat)
    case atStart => exact ⟨0, Nat.zero_le _, rfl, rfl, by simp [Pl.val]⟩
    case round =>
      obtain ⟨k, hk, rfl, rfl, hv⟩ := hrel
      by_cases hlt : k < t.length + 1
      · have hm := val_take_succ (x :: t) k hlt
        have hdk := (Pl.dig_iff _).1 (hdig.out (x :: t)[k] (List.getElem_mem _))
        have hn0 : (48 : Int) ≤ (((⟨(x :: t).toArray⟩ : ByteArray)[k]'hlt).toNat : Int) := by have := hdk.1; show (48 : Int) ≤ ((x :: t)[k].toNat : Int); omega
        have hn1 : (((⟨(x :: t).toArray⟩ : ByteArray)[k]'hlt).toNat : Int) ≤ 57 := by have := hdk.2; show ((x :: t)[k].toNat : Int) ≤ 57; omega
        have hvn : (Pl.val ((x :: t).take k) : Int) * 10 + ((((⟨(x :: t).toArray⟩ : ByteArray)[k]'hlt).toNat : Int) - 48) = (Pl.val ((x :: t).take (k + 1)) : Int) := by
          rw [hm]; show (Pl.val ((x :: t).take k) : Int) * 10 + (((x :: t)[k].toNat : Int) - 48) = _; omega
        have HM : Hid _ := hvn
        clear hm hdk hvn
        go_wp2_with (go_at_call 24; refine (refuse_any _).mono ?_; rintro e w' ⟨rfl, rfl⟩)
        · have hmono := val_mono (x :: t) (k + 1)
          have hvn := HM.out
          refine ⟨rfl, Or.inl ⟨by omega, rfl, ?_⟩⟩
          exact (Below.refl _ _).setCell (p := ⟨b, 0, none⟩) (Nat.le_refl _) _
        · have hvn := HM.out
          refine ⟨⟨k + 1, hlt, by go_num, ?_, by omega⟩, by simp [intOf]; omega⟩
          rw [hvn]
      · have hall : (x :: t).take k = x :: t := List.take_of_length_le (by simp; omega)
        rw [hall] at hv
        rw [hall]
        clear hall
        go_wp2
        go_ret
        first | exact Or.inr ⟨hv, rfl, rfl⟩ | exact Or.inr ⟨rfl, rfl⟩

set_option maxHeartbeats 400000 in
theorem number_bad (b : Nat) (l s : List UInt8) (w : World) (hc : w.cell? ⟨b, 0, none⟩ = some (.string ⟨l.toArray⟩)) (hf : w.frozen? ⟨b, 0, none⟩ = false) (hl : l.length ≤ maxLen)
    (hs : l.takeWhile Pl.isDig = s) (hb : Pl.bad s = true) :
    Calls Tryd.prog 31 #[.pointer (some ⟨b, 0, none⟩), .int .i64 1048576] w fun e w' => e = .panicked [{ v := .iface 24 (.int .i64 1), recovered := false }] ∧ Below b w w' := by
  have hlen : s.length ≤ maxLen := by
    rw [← hs]
    exact Nat.le_trans (List.takeWhile_prefix _).length_le hl
  unfold maxLen at hlen
  cases s with
  | nil =>
    go_enter Tryd.func31, Tryd.ntmps31
    go_wp2_with (first | (go_at_call 37; refine (run_any b l _ hc hf hl).mono ?_; rintro e w' ⟨rfl, rfl⟩; rw [hs]) | (go_at_call 24; refine (refuse_any _).mono ?_; rintro e w' ⟨rfl, rfl⟩))
    exact ⟨rfl, rfl, (Below.refl _ _).setCell (p := ⟨b, 0, none⟩) (Nat.le_refl _) _⟩
  | cons x t =>
    obtain ⟨rfl, ht⟩ : x = 48 ∧ 1 ≤ t.length := by
      simp [Pl.bad] at hb
      exact ⟨hb.1, by cases t with | nil => simp at hb | cons => simp⟩
    have hlt' : t.length + 1 ≤ 2 ^ 63 - 1 := by simpa using hlen
    clear hlen hb
    have hq : ((((⟨(48 :: t).toArray⟩ : ByteArray)[0]'(Nat.succ_pos _)).toNat : Int) == 48) = true := rfl
    go_enter Tryd.func31, Tryd.ntmps31
    go_wp2_with (first | (go_at_call 37; refine (run_any b l _ hc hf hl).mono ?_; rintro e w' ⟨rfl, rfl⟩; rw [hs]) | (go_at_call 24; refine (refuse_any _).mono ?_; rintro e w' ⟨rfl, rfl⟩))
    exact ⟨rfl, rfl, (Below.refl _ _).setCell (p := ⟨b, 0, none⟩) (Nat.le_refl _) _⟩

/-- THE NUMBER, whatever stands there. -/
theorem number_any (b : Nat) (l : List UInt8) (w : World) (hc : w.cell? ⟨b, 0, none⟩ = some (.string ⟨l.toArray⟩)) (hf : w.frozen? ⟨b, 0, none⟩ = false) (hl : l.length ≤ maxLen) :
    Calls Tryd.prog 31 #[.pointer (some ⟨b, 0, none⟩), .int .i64 1048576] w fun e w' => (Pl.number l = none ∧ e = .panicked [{ v := .iface 24 (.int .i64 1), recovered := false }] ∧ Below b w w') ∨
      (∃ n r, Pl.number l = some (n, r) ∧ e = .returned (.int .i64 (n : Int)) ∧ w' = w.setCell ⟨b, 0, none⟩ (.string ⟨r.toArray⟩)) := by
  cases hb : Pl.bad (l.takeWhile Pl.isDig) with
  | true =>
    refine (number_bad b l _ w hc hf hl rfl hb).mono ?_
    rintro e w' ⟨rfl, h⟩
    exact Or.inl ⟨by simp [Pl.number, hb], rfl, h⟩
  | false =>
    refine (number_core b l _ _ w hc hf hl rfl rfl hb).mono ?_
    rintro e w' (⟨h1, rfl, h⟩ | ⟨h1, rfl, h⟩)
    · exact Or.inl ⟨by simp [Pl.number, hb, h1], rfl, h⟩
    · refine Or.inr ⟨_, _, ?_, rfl, h⟩
      simp only [Pl.number, hb]
      rw [if_neg (by simp), if_neg (by omega)]
end Go.Proofs.YthlpcmgeelkncaaDoor
