/-
  Right elements: names that rise, values, and a whole element.
-/
import Derived.Test.YthlpcmgeelkncaaRisA
namespace Go.Proofs.Ythlpcmgeelkncaa
open Go.RowKit

theorem allN_succ {α : Type} {p : α → Bool} (l : List α) (k : Nat) (h : k < l.length) (h1 : (l.take k).all p = true) (h2 : p l[k] = true) : (l.take (k + 1)).all p = true := by
  rw [List.take_succ_eq_append_getElem h, List.all_append, h1]; simp [h2]
theorem allN_not {α : Type} {p : α → Bool} (l : List α) (k : Nat) (h : k < l.length) (h2 : p l[k] = false) : l.all p = false := by
  rw [List.all_eq_false]; exact ⟨l[k], List.getElem_mem h, by simp [h2]⟩

set_option maxHeartbeats 1000000 in
theorem areS_some (b o cap : Nat) (ss : List (List UInt8)) (w : World) (hlen : ss.length ≤ 6) (hc : ∀ i (h : i < ss.length), w.cell? ⟨b, o + i, none⟩ = some (.string ⟨ss[i].toArray⟩)) :
    Calls Try.prog 67 #[.slice (some ⟨b, o, none⟩) ss.length cap, .int .i64 6, .func (.func 68) #[] #[]] w fun e w' => e = .returned (.bool (Pl.names 6 ss)) ∧ Below w.heap.size w w' := by
  have HC : Hid (∀ i (h : i < ss.length), w.cell? ⟨b, o + i, none⟩ = some (.string ⟨ss[i].toArray⟩)) := hc
  clear hc
  have HN : Hid (Pl.names 6 ss = (ss.all Pl.isName && Pl.rise ss)) := by unfold Hid; simp [Pl.names, hlen]
  go_enter Try.func67, Try.ntmps67
  go_wp2
  go_loopw [15] (fun i wr => ∃ k : Nat, k ≤ ss.length ∧ i = .int .i64 k ∧ Hid ((ss.take k).all Pl.isName = true) ∧ Below w.heap.size w wr) (fun i _ => ss.length - (intOf i).toNat)
  case atStart => exact ⟨0, Nat.zero_le _, rfl, rfl, Below.refl _ _⟩
  case round =>
    obtain ⟨k, hk, rfl, hd, hB⟩ := hrel
    by_cases hlt : k < ss.length
    · have c0 : wr.cell? ⟨b, o + k, none⟩ = some (.string ⟨ss[k].toArray⟩) := cell_on hB (HC.out k hlt)
      cases hx : Pl.isName ss[k] with
      | true =>
        have HX : Hid _ := hx
        go_wp2_with (first | (go_at_call 68; refine (same_any _ _).mono ?_; rintro e w' ⟨rfl, rfl⟩) | (go_at_call 66; refine (isName_any _ _).mono ?_; rintro e w' ⟨rfl, rfl⟩))
        exact ⟨⟨k + 1, hlt, by go_num, allN_succ ss k hlt hd.out HX.out, hB⟩, by simp [intOf]; omega⟩
      | false =>
        have HF : Hid (Pl.names 6 ss = false) := by unfold Hid; rw [HN.out, allN_not ss k hlt hx]; rfl
        go_wp2_with (first | (go_at_call 68; refine (same_any _ _).mono ?_; rintro e w' ⟨rfl, rfl⟩) | (go_at_call 66; refine (isName_any _ _).mono ?_; rintro e w' ⟨rfl, rfl⟩))
        go_ret
        exact ⟨by rw [HF.out]; rfl, hB⟩
    · have HF : Hid (Pl.names 6 ss = Pl.rise ss) := by
        unfold Hid
        have := hd.out
        rw [List.take_of_length_le (by omega)] at this
        rw [HN.out, this]; rfl
      have hS : StrsAt wr (.slice (some ⟨b, o, none⟩) ss.length cap) ss := ⟨_, _, rfl, Or.inr ⟨b, o, rfl, fun i hi => cell_on hB (HC.out i hi)⟩⟩
      go_wp2_with fail
      refine (riseS_any _ ss _ hlen hS).mono ?_
      rintro e w2 ⟨rfl, h2⟩
      go_wp2
      go_ret
      exact ⟨by rw [HF.out]; rfl, below_trans hB h2⟩
set_option maxHeartbeats 400000 in
theorem areS_many (a : Option Addr) (n cap : Nat) (w : World) (hlen : 6 < n) (hm : n ≤ maxLen) :
    Calls Try.prog 67 #[.slice a n cap, .int .i64 6, .func (.func 68) #[] #[]] w fun e w' => e = .returned (.bool false) ∧ Below w.heap.size w w' := by
  unfold maxLen at hm
  go_enter Try.func67, Try.ntmps67
  go_wp2
  go_ret
  exact ⟨rfl, Below.refl _ _⟩
set_option maxHeartbeats 400000 in
theorem areS_none (a : Option Addr) (cap : Nat) (w : World) :
    Calls Try.prog 67 #[.slice a 0 cap, .int .i64 6, .func (.func 68) #[] #[]] w fun e w' => e = .returned (.bool true) ∧ Below w.heap.size w w' := by
  go_enter Try.func67, Try.ntmps67
  go_wp2
  refine wp_loop_rounds 1 ?_
  rw [rounds_succ]
  go_wp2_with fail
  refine (riseS_none _ _ _).mono ?_
  rintro e w2 ⟨rfl, h2⟩
  go_wp2
  go_ret
  exact ⟨rfl, h2⟩
theorem areS_any (v : Value) (ss : List (List UInt8)) (w : World) (hm : ss.length ≤ maxLen) (hs : StrsAt w v ss) :
    Calls Try.prog 67 #[v, .int .i64 6, .func (.func 68) #[] #[]] w fun e w' => e = .returned (.bool (Pl.names 6 ss)) ∧ Below w.heap.size w w' := by
  obtain ⟨a, cap, rfl, h⟩ := hs
  by_cases hlen : ss.length ≤ 6
  · rcases h with rfl | ⟨b, o, rfl, hc⟩
    · exact areS_none a cap w
    · exact areS_some b o cap ss w hlen hc
  · have hF : Pl.names 6 ss = false := by simp [Pl.names, hlen]
    rw [hF]
    exact areS_many a ss.length cap w (by omega) hm

set_option maxHeartbeats 1000000 in
theorem areA_some (b o cap : Nat) (ss : List (List UInt8 × List UInt8)) (w : World) (hlen : ss.length ≤ 4)
    (hc : ∀ i (h : i < ss.length), w.cell? ⟨b, o + i * 2, none⟩ = some (.string ⟨ss[i].1.toArray⟩) ∧ w.cell? ⟨b, o + i * 2 + 1, none⟩ = some (.string ⟨ss[i].2.toArray⟩)) :
    Calls Try.prog 69 #[.slice (some ⟨b, o, none⟩) ss.length cap, .int .i64 4, .func (.func 70) #[] #[]] w fun e w' => e = .returned (.bool (Pl.names 4 (ss.map (·.1)))) ∧ Below w.heap.size w w' := by
  have HC : Hid (∀ i (h : i < ss.length), w.cell? ⟨b, o + i * 2, none⟩ = some (.string ⟨ss[i].1.toArray⟩) ∧ w.cell? ⟨b, o + i * 2 + 1, none⟩ = some (.string ⟨ss[i].2.toArray⟩)) := hc
  clear hc
  have HN : Hid (Pl.names 4 (ss.map (·.1)) = (ss.all (fun a => Pl.isName a.1) && Pl.rise (ss.map (·.1)))) := by
    unfold Hid; simp [Pl.names, hlen, List.all_map, Function.comp_def]
  go_enter Try.func69, Try.ntmps69
  go_wp2
  go_loopw [15] (fun i wr => ∃ k : Nat, k ≤ ss.length ∧ i = .int .i64 k ∧ Hid ((ss.take k).all (fun a => Pl.isName a.1) = true) ∧ Below w.heap.size w wr) (fun i _ => ss.length - (intOf i).toNat)
  case atStart => exact ⟨0, Nat.zero_le _, rfl, rfl, Below.refl _ _⟩
  case round =>
    obtain ⟨k, hk, rfl, hd, hB⟩ := hrel
    by_cases hlt : k < ss.length
    · obtain ⟨c0, c1⟩ := HC.out k hlt
      replace c0 := cell_on hB c0
      replace c1 := cell_on hB c1
      cases hx : Pl.isName ss[k].1 with
      | true =>
        have HX : Hid _ := hx
        go_wp2_with (first | (go_at_call 70; refine (nameOf_any _ _ _).mono ?_; rintro e w' ⟨rfl, hw⟩) | (go_at_call 66; refine (isName_any _ _).mono ?_; rintro e w' ⟨rfl, rfl⟩))
        exact ⟨⟨k + 1, hlt, by go_num, allN_succ ss k hlt hd.out HX.out, below_trans (below_trans hB (on_alloc _ _)) hw⟩, by simp [intOf]; omega⟩
      | false =>
        have HF : Hid (Pl.names 4 (ss.map (·.1)) = false) := by
          unfold Hid; rw [HN.out, allN_not (p := fun a => Pl.isName a.1) ss k hlt hx]; rfl
        go_wp2_with (first | (go_at_call 70; refine (nameOf_any _ _ _).mono ?_; rintro e w' ⟨rfl, hw⟩) | (go_at_call 66; refine (isName_any _ _).mono ?_; rintro e w' ⟨rfl, rfl⟩))
        go_ret
        exact ⟨by rw [HF.out]; rfl, below_trans (below_trans hB (on_alloc _ _)) hw⟩
    · have HF : Hid (Pl.names 4 (ss.map (·.1)) = Pl.rise (ss.map (·.1))) := by
        unfold Hid
        have := hd.out
        rw [List.take_of_length_le (by omega)] at this
        rw [HN.out, this]; rfl
      have hS : AtsAt wr (.slice (some ⟨b, o, none⟩) ss.length cap) ss := ⟨_, _, rfl, Or.inr ⟨b, o, rfl, fun i hi => ⟨cell_on hB (HC.out i hi).1, cell_on hB (HC.out i hi).2⟩⟩⟩
      go_wp2_with fail
      refine (riseA_any _ ss _ hlen hS).mono ?_
      rintro e w2 ⟨rfl, h2⟩
      go_wp2
      go_ret
      exact ⟨by rw [HF.out]; rfl, below_trans hB h2⟩
set_option maxHeartbeats 400000 in
theorem areA_many (a : Option Addr) (n cap : Nat) (w : World) (hlen : 4 < n) (hm : n ≤ maxLen) :
    Calls Try.prog 69 #[.slice a n cap, .int .i64 4, .func (.func 70) #[] #[]] w fun e w' => e = .returned (.bool false) ∧ Below w.heap.size w w' := by
  unfold maxLen at hm
  go_enter Try.func69, Try.ntmps69
  go_wp2
  go_ret
  exact ⟨rfl, Below.refl _ _⟩
set_option maxHeartbeats 400000 in
theorem areA_none (a : Option Addr) (cap : Nat) (w : World) :
    Calls Try.prog 69 #[.slice a 0 cap, .int .i64 4, .func (.func 70) #[] #[]] w fun e w' => e = .returned (.bool true) ∧ Below w.heap.size w w' := by
  go_enter Try.func69, Try.ntmps69
  go_wp2
  refine wp_loop_rounds 1 ?_
  rw [rounds_succ]
  go_wp2_with fail
  refine (riseA_none _ _ _).mono ?_
  rintro e w2 ⟨rfl, h2⟩
  go_wp2
  go_ret
  exact ⟨rfl, h2⟩
theorem areA_any (v : Value) (ss : List (List UInt8 × List UInt8)) (w : World) (hm : ss.length ≤ maxLen) (hs : AtsAt w v ss) :
    Calls Try.prog 69 #[v, .int .i64 4, .func (.func 70) #[] #[]] w fun e w' => e = .returned (.bool (Pl.names 4 (ss.map (·.1)))) ∧ Below w.heap.size w w' := by
  obtain ⟨a, cap, rfl, h⟩ := hs
  by_cases hlen : ss.length ≤ 4
  · rcases h with rfl | ⟨b, o, rfl, hc⟩
    · exact areA_none a cap w
    · exact areA_some b o cap ss w hlen hc
  · have hF : Pl.names 4 (ss.map (·.1)) = false := by simp [Pl.names, hlen]
    rw [hF]
    exact areA_many a ss.length cap w (by omega) hm

set_option maxHeartbeats 1000000 in
theorem vals_some (b o cap : Nat) (ss : List (List UInt8 × List UInt8)) (w : World) (hm : ss.length ≤ maxLen)
    (hc : ∀ i (h : i < ss.length), w.cell? ⟨b, o + i * 2, none⟩ = some (.string ⟨ss[i].1.toArray⟩) ∧ w.cell? ⟨b, o + i * 2 + 1, none⟩ = some (.string ⟨ss[i].2.toArray⟩)) :
    Calls Try.prog 71 #[.slice (some ⟨b, o, none⟩) ss.length cap] w fun e w' => e = .returned (.bool (ss.all (fun a => Pl.isValue a.2))) ∧ Below w.heap.size w w' := by
  have HC : Hid (∀ i (h : i < ss.length), w.cell? ⟨b, o + i * 2, none⟩ = some (.string ⟨ss[i].1.toArray⟩) ∧ w.cell? ⟨b, o + i * 2 + 1, none⟩ = some (.string ⟨ss[i].2.toArray⟩)) := hc
  clear hc
  unfold maxLen at hm
  go_enter Try.func71, Try.ntmps71
  go_wp2
  go_loopw [7] (fun i wr => ∃ k : Nat, k ≤ ss.length ∧ i = .int .i64 k ∧ Hid ((ss.take k).all (fun a => Pl.isValue a.2) = true) ∧ Below w.heap.size w wr) (fun i _ => ss.length - (intOf i).toNat)
  case atStart => exact ⟨0, Nat.zero_le _, rfl, rfl, Below.refl _ _⟩
  case round =>
    obtain ⟨k, hk, rfl, hd, hB⟩ := hrel
    by_cases hlt : k < ss.length
    · obtain ⟨c0, c1⟩ := HC.out k hlt
      replace c0 := cell_on hB c0
      replace c1 := cell_on hB c1
      cases hx : Pl.isValue ss[k].2 with
      | true =>
        have HX : Hid _ := hx
        go_wp2_with (go_at_call 88; refine (isValue_any _ _).mono ?_; rintro e w' ⟨rfl, rfl⟩)
        exact ⟨⟨k + 1, hlt, by go_num, allN_succ ss k hlt hd.out HX.out, below_trans hB (on_alloc _ _)⟩, by simp [intOf]; omega⟩
      | false =>
        have HF : Hid (ss.all (fun a => Pl.isValue a.2) = false) := allN_not (p := fun (a : List UInt8 × List UInt8) => Pl.isValue a.2) ss k hlt hx
        go_wp2_with (go_at_call 88; refine (isValue_any _ _).mono ?_; rintro e w' ⟨rfl, rfl⟩)
        go_ret
        exact ⟨by rw [HF.out]; rfl, below_trans hB (on_alloc _ _)⟩
    · have HF : Hid (ss.all (fun a => Pl.isValue a.2) = true) := by
        have := hd.out
        rwa [List.take_of_length_le (by omega)] at this
      go_wp2
      go_ret
      exact ⟨by rw [HF.out]; rfl, hB⟩
set_option maxHeartbeats 400000 in
theorem vals_none (a : Option Addr) (cap : Nat) (w : World) :
    Calls Try.prog 71 #[.slice a 0 cap] w fun e w' => e = .returned (.bool true) ∧ Below w.heap.size w w' := by
  go_enter Try.func71, Try.ntmps71
  go_wp2
  refine wp_loop_rounds 1 ?_
  rw [rounds_succ]
  go_wp2
  go_ret
  exact ⟨rfl, Below.refl _ _⟩
theorem vals_any (v : Value) (ss : List (List UInt8 × List UInt8)) (w : World) (hm : ss.length ≤ maxLen) (hs : AtsAt w v ss) :
    Calls Try.prog 71 #[v] w fun e w' => e = .returned (.bool (ss.all (fun a => Pl.isValue a.2))) ∧ Below w.heap.size w w' := by
  obtain ⟨a, cap, rfl, h⟩ := hs
  rcases h with rfl | ⟨b, o, rfl, hc⟩
  · exact vals_none a cap w
  · exact vals_some b o cap ss w hm hc
end Go.Proofs.Ythlpcmgeelkncaa
