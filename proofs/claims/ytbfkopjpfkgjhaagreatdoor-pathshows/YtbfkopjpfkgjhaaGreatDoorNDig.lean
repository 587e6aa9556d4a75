/-
  The document's own answers on counts: a number's digits, and how a count is shown.
-/
import Derived.Test.YtbfkopjpfkgjhaaGreatDoorNShow
import Derived.BigQuiet
namespace Go.Proofs.YtbfkopjpfkgjhaaGreatDoor.Nt
open Go.RowKit

theorem conv_one (n : Nat) (h : n < 10) (w : World) :
    (convert 46 9 (.slice (some ⟨w.heap.size, 0, none⟩) 1 1)).run Tryz.prog (w.alloc (.cells #[.int .u8 (48 + (n : Int))] 5)) = .ok (.string ⟨#[UInt8.ofNat (48 + n)]⟩) (w.alloc (.cells #[.int .u8 (48 + (n : Int))] 5)) := by
  have := run_convert_bytes_back (P := Tryz.prog) (w.alloc (.cells #[.int .u8 (48 + (n : Int))] 5)) 46 9 5 ⟨w.heap.size, 0, none⟩ 1 [UInt8.ofNat (48 + n)] Tryz.underlying46 Tryz.underlying5 Tryz.underlying9 ?_
  · exact this
  · intro j hj
    obtain rfl : j = 0 := by simpa using hj
    simp [go_sem, Addr.add]; omega

set_option maxRecDepth 100000 in
set_option maxHeartbeats 400000 in
theorem digit_one (n : Nat) (w : World) (h : n < 10) :
    Calls Tryz.prog 65 #[.int .i64 (n : Int)] w fun e w' => e = .returned (.string ⟨(Lib.decDigits n).toArray⟩) ∧ Below w.heap.size w w' := by
  rw [Lib.decDigits_one h]
  have hv := conv_one n h w
  go_enter Tryz.func65, Tryz.ntmps65
  go_wp2
  go_ret
  exact ⟨rfl, (Below.refl _ _).alloc (Nat.le_refl _) _⟩

theorem ba_app (l r : List UInt8) : (⟨l.toArray⟩ : ByteArray) ++ (⟨r.toArray⟩ : ByteArray) = ⟨(l ++ r).toArray⟩ := by apply ByteArray.ext; simp
theorem dec_len (n : Nat) (h : n < 18446744073709551616) : (Lib.decDigits n).length ≤ 20 := by rw [Lib.decDigits_length]; exact Lib.nDigits_le20 n h

set_option maxHeartbeats 400000 in
theorem digits_nat (m : Nat) : ∀ (n : Nat) (w : World), n ≤ m → n < 4611686018427387904 →
    Calls Tryz.prog 65 #[.int .i64 (n : Int)] w fun e w' => e = .returned (.string ⟨(Lib.decDigits n).toArray⟩) ∧ Below w.heap.size w w' := by
  induction m using Nat.strongRecOn with
  | _ m ih =>
    intro n w hm hn
    by_cases h : n < 10
    · exact digit_one n w h
    · have IH : Hid (∀ w, Calls Tryz.prog 65 #[.int .i64 ((n : Int) / 10)] w fun e w' => e = .returned (.string ⟨(Lib.decDigits (n / 10)).toArray⟩) ∧ Below w.heap.size w w') := by
        intro w
        rw [show (n : Int) / 10 = ((n / 10 : Nat) : Int) by omega]
        exact ih (n / 10) (by omega) (n / 10) w (Nat.le_refl _) (by omega)
      have H1 : Hid (∀ w, Calls Tryz.prog 65 #[.int .i64 ((n : Int) % 10)] w fun e w' => e = .returned (.string ⟨(Lib.decDigits (n % 10)).toArray⟩) ∧ Below w.heap.size w w') := by
        intro w
        rw [show (n : Int) % 10 = ((n % 10 : Nat) : Int) by omega]
        exact digit_one (n % 10) w (by omega)
      have HS : Hid ((⟨(Lib.decDigits (n / 10)).toArray⟩ : ByteArray) ++ (⟨(Lib.decDigits (n % 10)).toArray⟩ : ByteArray) = ⟨(Lib.decDigits n).toArray⟩) := by
        unfold Hid
        rw [ba_app, Lib.decDigits_one (i := n % 10) (by omega)]
        conv => rhs; rw [Lib.decDigits, dif_neg h]
      have l1 := dec_len (n / 10) (by omega)
      have l2 := dec_len (n % 10) (by omega)
      clear ih
      go_enter Tryz.func65, Tryz.ntmps65
      go_wp2_with fail
      refine (IH.out _).mono ?_
      rintro e w1 ⟨rfl, h1⟩
      go_wp2_with fail
      refine (H1.out _).mono ?_
      rintro e w2 ⟨rfl, h2⟩
      have hB := h1.trans (h2.mono h1.size)
      go_wp2
      go_ret
      exact ⟨by rw [← HS.out]; rfl, hB⟩

set_option maxHeartbeats 400000 in
theorem digits_neg (m : Nat) : ∀ (n : Nat) (w : World), n ≤ m → 0 < n → n < 4611686018427387904 →
    Calls Tryz.prog 65 #[.int .i64 (-(n : Int))] w fun e w' => e = .returned (.string ⟨(45 :: Lib.decDigits n).toArray⟩) ∧ Below w.heap.size w w' := by
  induction m using Nat.strongRecOn with
  | _ m ih =>
    intro n w hm h0 hn
    by_cases h : n < 10
    · have H1 : Hid (∀ w, Calls Tryz.prog 65 #[.int .i64 (n : Int)] w fun e w' => e = .returned (.string ⟨(Lib.decDigits n).toArray⟩) ∧ Below w.heap.size w w') := fun w => digit_one n w h
      have l1 := dec_len n (by omega)
      have HS : Hid ((⟨#[45]⟩ : ByteArray) ++ (⟨(Lib.decDigits n).toArray⟩ : ByteArray) = ⟨(45 :: Lib.decDigits n).toArray⟩) := ba_app [45] _
      clear ih
      go_enter Tryz.func65, Tryz.ntmps65
      go_wp2_with fail
      refine (H1.out _).mono ?_
      rintro e w1 ⟨rfl, h1⟩
      go_wp2
      go_ret
      exact ⟨by rw [← HS.out]; rfl, h1⟩
    · have IH : Hid (∀ w, Calls Tryz.prog 65 #[.int .i64 (-((n : Int) / 10))] w fun e w' => e = .returned (.string ⟨(45 :: Lib.decDigits (n / 10)).toArray⟩) ∧ Below w.heap.size w w') := by
        intro w
        rw [show (n : Int) / 10 = ((n / 10 : Nat) : Int) by omega]
        exact ih (n / 10) (by omega) (n / 10) w (Nat.le_refl _) (by omega) (by omega)
      have H1 : Hid (∀ w, Calls Tryz.prog 65 #[.int .i64 ((n : Int) % 10)] w fun e w' => e = .returned (.string ⟨(Lib.decDigits (n % 10)).toArray⟩) ∧ Below w.heap.size w w') := by
        intro w
        rw [show (n : Int) % 10 = ((n % 10 : Nat) : Int) by omega]
        exact digit_one (n % 10) w (by omega)
      have HS : Hid ((⟨(45 :: Lib.decDigits (n / 10)).toArray⟩ : ByteArray) ++ (⟨(Lib.decDigits (n % 10)).toArray⟩ : ByteArray) = ⟨(45 :: Lib.decDigits n).toArray⟩) := by
        unfold Hid
        rw [ba_app, Lib.decDigits_one (i := n % 10) (by omega)]
        conv => rhs; rw [Lib.decDigits, dif_neg h]
        rfl
      have l1 := dec_len (n / 10) (by omega)
      have l2 := dec_len (n % 10) (by omega)
      clear ih
      go_enter Tryz.func65, Tryz.ntmps65
      go_wp2_with fail
      refine (IH.out _).mono ?_
      rintro e w1 ⟨rfl, h1⟩
      go_wp2_with fail
      refine (H1.out _).mono ?_
      rintro e w2 ⟨rfl, h2⟩
      have hB := h1.trans (h2.mono h1.size)
      go_wp2
      go_ret
      exact ⟨by rw [← HS.out]; rfl, hB⟩

theorem digits_any (n : Int) (w : World) (h1 : -4611686018427387904 < n) (h2 : n < 4611686018427387904) :
    Calls Tryz.prog 65 #[.int .i64 n] w fun e w' => e = .returned (.string ⟨(Lib.itoa n).toArray⟩) ∧ Below w.heap.size w w' := by
  by_cases h : n < 0
  · rw [Pl.itoa_neg h]
    have e : n = -((n.natAbs : Nat) : Int) := by omega
    have := digits_neg n.natAbs n.natAbs w (Nat.le_refl _) (by omega) (by omega)
    rwa [← e] at this
  · rw [Pl.itoa_pos (by omega)]
    have e : n = ((n.natAbs : Nat) : Int) := by omega
    have := digits_nat n.natAbs n.natAbs w (Nat.le_refl _) (by omega)
    rwa [← e] at this

def At (w wi : World) (a b : Int) : Prop :=
  wi.cell? ⟨w.heap.size, 0, none⟩ = some (.int .i64 a) ∧ wi.cell? ⟨w.heap.size, 1, none⟩ = some (.int .i64 b) ∧ w.heap.size + 1 ≤ wi.heap.size ∧ Below w.heap.size w wi
theorem At.step {w wi wj : World} {a b : Int} (h : At w wi a b) (hb : Below wi.heap.size wi wj) : At w wj a b := by
  obtain ⟨c0, c1, hz, hB⟩ := h
  refine ⟨?_, ?_, Nat.le_trans hz hb.size, hB.trans (hb.mono (by omega))⟩
  · rw [hb.cell (p := ⟨w.heap.size, 0, none⟩) (by show w.heap.size < _; omega)]; exact c0
  · rw [hb.cell (p := ⟨w.heap.size, 1, none⟩) (by show w.heap.size < _; omega)]; exact c1
theorem At.new (w : World) (a b : Int) : At w (w.alloc (.cells #[.int .i64 a, .int .i64 b] 59)) a b := by
  refine ⟨by simp [go_sem], by simp [go_sem], by simp, (Below.refl _ _).alloc (Nat.le_refl _) _⟩
theorem At.alloc {w wi : World} {a b : Int} (h : At w wi a b) (o : Obj) : At w (wi.alloc o) a b :=
  h.step ((Below.refl _ _).alloc (Nat.le_refl _) _)

theorem At.below {w wi : World} {a b : Int} (h : At w wi a b) : Below w.heap.size w wi := h.2.2.2
theorem At.drew {w wi : World} {a b : Int} (h : At w wi a b) : At w wi.drew a b := h.step (Below.refl _ _).drew

set_option maxHeartbeats 1000000 in
theorem text_pos (a b : Int) (w : World) (ha : Pl.inB a) (hb : Pl.inB b) (h0 : 0 ≤ b) :
    Calls Tryz.prog 43 #[.agg #[.int .i64 a, .int .i64 b]] w fun e w' => e = .returned (.string ⟨(Pl.shown a b).toArray⟩) ∧ Below w.heap.size w w' := by
  obtain ⟨a1, a2⟩ := ha
  obtain ⟨b1, b2⟩ := hb
  have la := Lib.itoa_length_le a (by omega) (by omega)
  have lb := Lib.itoa_length_le b (by omega) (by omega)
  have HA : Hid (∀ W, Calls Tryz.prog 65 #[.int .i64 a] W fun e w' => e = .returned (.string ⟨(Lib.itoa a).toArray⟩) ∧ Below W.heap.size W w') := fun W => digits_any a W (by omega) (by omega)
  have HB : Hid (∀ W, Calls Tryz.prog 65 #[.int .i64 b] W fun e w' => e = .returned (.string ⟨(Lib.itoa b).toArray⟩) ∧ Below W.heap.size W w') := fun W => digits_any b W (by omega) (by omega)
  have A0 := (At.new w a b).drew
  have HS : Hid (({ data := (Lib.itoa a).toArray } : ByteArray) ++ { data := #[110, 43] } ++ { data := (Lib.itoa b).toArray } = ⟨(Pl.shown a b).toArray⟩) := by
    unfold Hid; rw [Pl.shown, if_pos h0]; apply ByteArray.ext; simp
  go_enter Tryz.func43, Tryz.ntmps43
  go_wp2
  go_region_with (first | (go_at_call_of 65 (Value.int IntKind.i64 a); refine (HA.out _).mono ?_; rintro e w' ⟨rfl, hw⟩; have A1 := At.step (by assumption) hw; obtain ⟨d0, d1, dz, dB⟩ := id A1; clear hw) | (go_at_call_of 65 (Value.int IntKind.i64 b); refine (HB.out _).mono ?_; rintro e w' ⟨rfl, hw⟩; have A1 := At.step (by assumption) hw; obtain ⟨d0, d1, dz, dB⟩ := id A1; clear hw))
  all_goals
    go_wp2
    go_ret
    exact ⟨by rw [← HS.out]; rfl, by assumption⟩

set_option maxHeartbeats 1000000 in
theorem text_neg (a b : Int) (w : World) (ha : Pl.inB a) (hb : Pl.inB b) (h0 : b < 0) :
    Calls Tryz.prog 43 #[.agg #[.int .i64 a, .int .i64 b]] w fun e w' => e = .returned (.string ⟨(Pl.shown a b).toArray⟩) ∧ Below w.heap.size w w' := by
  obtain ⟨a1, a2⟩ := ha
  obtain ⟨b1, b2⟩ := hb
  have la := Lib.itoa_length_le a (by omega) (by omega)
  have lb := Lib.itoa_length_le (-b) (by omega) (by omega)
  have HA : Hid (∀ W, Calls Tryz.prog 65 #[.int .i64 a] W fun e w' => e = .returned (.string ⟨(Lib.itoa a).toArray⟩) ∧ Below W.heap.size W w') := fun W => digits_any a W (by omega) (by omega)
  have HB : Hid (∀ W, Calls Tryz.prog 65 #[.int .i64 (IntKind.i64.wrap (-b))] W fun e w' => e = .returned (.string ⟨(Lib.itoa (-b)).toArray⟩) ∧ Below W.heap.size W w') := by
    intro W
    rw [IntWalk.i64_left, show wrap64 (-b) = -b from IntWalk.wrap64_in _ ⟨by omega, by omega⟩]
    exact digits_any (-b) W (by omega) (by omega)
  have HC : Hid (∀ W, Calls Tryz.prog 65 #[.int .i64 (-b)] W fun e w' => e = .returned (.string ⟨(Lib.itoa (-b)).toArray⟩) ∧ Below W.heap.size W w') := fun W => digits_any (-b) W (by omega) (by omega)
  have A0 := (At.new w a b).drew
  have HS : Hid (({ data := (Lib.itoa a).toArray } : ByteArray) ++ { data := #[110, 45] } ++ { data := (Lib.itoa (-b)).toArray } = ⟨(Pl.shown a b).toArray⟩) := by
    unfold Hid; rw [Pl.shown, if_neg (by omega), Pl.itoa_neg h0, Pl.itoa_pos (a := -b) (by omega), Int.natAbs_neg]; apply ByteArray.ext; simp
  go_enter Tryz.func43, Tryz.ntmps43
  go_wp2
  go_region_with (first | (go_at_call_of 65 (Value.int IntKind.i64 a); refine (HA.out _).mono ?_; rintro e w' ⟨rfl, hw⟩; have A1 := At.step (by assumption) hw; obtain ⟨d0, d1, dz, dB⟩ := id A1; clear hw) | (go_at_call_of 65 (Value.int IntKind.i64 (IntKind.i64.wrap (-b))); refine (HB.out _).mono ?_; rintro e w' ⟨rfl, hw⟩; have A1 := At.step (by assumption) hw; obtain ⟨d0, d1, dz, dB⟩ := id A1; clear hw) | (go_at_call_of 65 (Value.int IntKind.i64 (-b)); refine (HC.out _).mono ?_; rintro e w' ⟨rfl, hw⟩; have A1 := At.step (by assumption) hw; obtain ⟨d0, d1, dz, dB⟩ := id A1; clear hw))
  all_goals
    go_wp2
    go_ret
    exact ⟨by rw [← HS.out]; rfl, by assumption⟩
theorem text_any (a b : Int) (w : World) (ha : Pl.inB a) (hb : Pl.inB b) :
    Calls Tryz.prog 43 #[.agg #[.int .i64 a, .int .i64 b]] w fun e w' => e = .returned (.string ⟨(Pl.shown a b).toArray⟩) ∧ Below w.heap.size w w' := by
  by_cases h : 0 ≤ b
  · exact text_pos a b w ha hb h
  · exact text_neg a b w ha hb (by omega)
end Go.Proofs.YtbfkopjpfkgjhaaGreatDoor.Nt
