/-
  The document's own reader of counts: whatever can't be is left standing.
-/
import Derived.Test.YtbfkopjpfkgjhaaGreatDoorNDig
namespace Go.Proofs.YtbfkopjpfkgjhaaGreatDoor.Nt
open Go.RowKit

namespace Pl
/-- what there is of a number, of few digits -/
def lnum : Nat → Nat → List UInt8 → Nat × List UInt8
  | 0, n, l => (n, l)
  | _ + 1, n, [] => (n, [])
  | f + 1, n, c :: l => if isDig c = true then lnum f (10 * n + (c.toNat - 48)) l else (n, c :: l)
/-- what there is of a count -/
def lnth (l : List UInt8) : Int × Int :=
  let p := lnum 8 0 (left 45 l)
  let a : Int := if took 45 l = true then -(p.1 : Int) else (p.1 : Int)
  let r := left 110 p.2
  let q := lnum 8 0 (left 43 (left 45 r))
  (a, if took 45 r = true then -(q.1 : Int) else (q.1 : Int))
theorem lnum_app : ∀ (l r : List UInt8) (f n : Nat), (∀ c ∈ l, isDig c = true) → noDig r = true → l.length ≤ f → lnum f n (l ++ r) = (l.foldl (fun n c => n * 10 + (c.toNat - 48)) n, r)
  | [], r, f, n, _, hr, _ => by
    cases f with
    | zero => rfl
    | succ f =>
      cases r with
      | nil => rfl
      | cons x r => simp only [noDig, Bool.not_eq_true'] at hr; simp [lnum, hr]
  | c :: l, r, f, n, hd, hr, hf => by
    cases f with
    | zero => simp at hf
    | succ f =>
      have hc := hd c (by simp)
      have := lnum_app l r f (10 * n + (c.toNat - 48)) (fun x hx => hd x (List.mem_cons_of_mem _ hx)) hr (by simpa using hf)
      simp only [List.cons_append, lnum, hc, if_true, this, List.foldl_cons]
      rw [Nat.mul_comm]
theorem dec_len8 (n : Nat) (h : n ≤ 1048576) : (Lib.decDigits n).length ≤ 8 := by
  rw [Lib.decDigits_length]
  have : ∀ k u : Nat, u < 10 ^ (k + 1) → Lib.nDigits u ≤ k + 1 := by
    intro k
    induction k with
    | zero => intro u hu; rw [Lib.nDigits_small (by simpa using hu)]; exact Nat.le_refl _
    | succ k ih =>
      intro u hu
      by_cases h : u < 10
      · rw [Lib.nDigits_small h]; omega
      · rw [Lib.nDigits_big h]
        have := ih (u / 10) (by rw [Nat.pow_succ] at hu; omega)
        omega
  exact this 7 n (by omega)
theorem lnum_dec (n : Nat) (h : n ≤ 1048576) (r : List UInt8) (hr : noDig r = true) : lnum 8 0 (Lib.decDigits n ++ r) = (n, r) := by
  rw [lnum_app _ _ _ _ (dec_dig n) hr (dec_len8 n h)]
  have := val_dec n
  unfold val at this
  rw [this]
theorem took_ne {c d : UInt8} (h : d ≠ c) (r : List UInt8) : took c (d :: r) = false ∧ left c (d :: r) = d :: r := by simp [took, left, h]
/-- WHAT IS SHOWN IS WHAT THERE IS OF IT. -/
theorem lnth_shown {a b : Int} (ha : inB a) (hb : inB b) : lnth (shown a b) = (a, b) := by
  obtain ⟨a1, a2⟩ := ha
  obtain ⟨b1, b2⟩ := hb
  have key : ∀ (r : List UInt8) (x : Int), -1048576 ≤ x → x ≤ 1048576 → noDig r = true →
      (if took 45 (Lib.itoa x ++ r) = true then -((lnum 8 0 (left 45 (Lib.itoa x ++ r))).1 : Int) else ((lnum 8 0 (left 45 (Lib.itoa x ++ r))).1 : Int)) = x ∧ (lnum 8 0 (left 45 (Lib.itoa x ++ r))).2 = r := by
    intro r x x1 x2 hr
    by_cases hx : x < 0
    · rw [itoa_neg hx, List.cons_append, (took_cons 45 _).1, (took_cons 45 _).2, lnum_dec x.natAbs (by omega) r hr]
      simp; omega
    · have ht := took_dec 45 (by decide) x.natAbs r
      rw [itoa_pos (by omega), left_not ht, ht, lnum_dec x.natAbs (by omega) r hr]
      simp; omega
  have e : shown a b = Lib.itoa a ++ (110 :: ((if 0 ≤ b then [43] else []) ++ Lib.itoa b)) := by simp [shown]
  obtain ⟨k1, k2⟩ := key (110 :: ((if 0 ≤ b then [43] else []) ++ Lib.itoa b)) a a1 a2 (by simp [noDig, isDig])
  unfold lnth
  simp only
  rw [e, k1, k2, (took_cons 110 _).2]
  congr 1
  by_cases hb0 : 0 ≤ b
  · rw [if_pos hb0, List.singleton_append, (took_ne (by decide) _).1, (took_ne (by decide) _).2, (took_cons 43 _).2, itoa_pos hb0]
    have := lnum_dec b.natAbs (by omega) [] rfl
    rw [List.append_nil] at this
    rw [this]; simp; omega
  · rw [if_neg hb0, List.nil_append, itoa_neg (by omega), (took_cons 45 _).1, (took_cons 45 _).2]
    have ht := took_dec 43 (by decide) b.natAbs []
    rw [List.append_nil] at ht
    have := lnum_dec b.natAbs (by omega) [] rfl
    rw [List.append_nil] at this
    rw [left_not ht, this]; simp; omega
end Pl
end Go.Proofs.YtbfkopjpfkgjhaaGreatDoor.Nt
/-
  The document's own reader of counts, walked.
-/
namespace Go.Proofs.YtbfkopjpfkgjhaaGreatDoor.Nt
open Go.RowKit

theorem ex_one (x : UInt8) (r : List UInt8) : (({ data := (x :: r).toArray } : ByteArray).extract 0 1).toList = [x] := by
  rw [Lib.extract_toList]; simp
set_option maxHeartbeats 400000 in
theorem sign_no (b : Nat) (l : List UInt8) (c : UInt8) (w : World) (hc : w.cell? ⟨b, 0, none⟩ = some (.string ⟨l.toArray⟩)) (hl : l.length ≤ maxLen) (ht : Pl.took c l = false) :
    Calls Tryz.prog 49 #[.pointer (some ⟨b, 0, none⟩), .string ⟨#[c]⟩] w fun e w' => e = .returned (.bool false) ∧ w' = w := by
  unfold maxLen at hl
  cases l with
  | nil =>
    go_enter Tryz.func49, Tryz.ntmps49
    go_wp2
    go_ret
    exact ⟨rfl, rfl⟩
  | cons x r =>
    have hx : ((({ data := (x :: r).toArray } : ByteArray).extract 0 1).toList == [c]) = false := by
      rw [ex_one]; simpa [Pl.took] using ht
    clear ht
    go_enter Tryz.func49, Tryz.ntmps49
    go_wp2
    go_ret
    exact ⟨rfl, rfl⟩
set_option maxHeartbeats 400000 in
theorem sign_yes (b : Nat) (l : List UInt8) (c : UInt8) (w : World) (hc : w.cell? ⟨b, 0, none⟩ = some (.string ⟨l.toArray⟩)) (hf : w.frozen? ⟨b, 0, none⟩ = false) (hl : l.length ≤ maxLen) (ht : Pl.took c l = true) :
    Calls Tryz.prog 49 #[.pointer (some ⟨b, 0, none⟩), .string ⟨#[c]⟩] w fun e w' => e = .returned (.bool true) ∧ w' = w.setCell ⟨b, 0, none⟩ (.string ⟨(Pl.left c l).toArray⟩) := by
  unfold maxLen at hl
  cases l with
  | nil => cases ht
  | cons x r =>
    obtain rfl : x = c := by simpa [Pl.took] using ht
    have hx : ((({ data := (x :: r).toArray } : ByteArray).extract 0 1).toList == [x]) = true := by
      rw [ex_one]; simp
    rw [(Pl.took_cons x r).2]
    clear ht
    have HE : Hid (({ data := (x :: r).toArray } : ByteArray).extract 1 (r.length + 1) = ⟨r.toArray⟩) := ex_drop (x :: r) 1
    go_enter Tryz.func49, Tryz.ntmps49
    go_wp2
    go_ret
    exact ⟨rfl, by rw [HE.out]⟩
/-- the reader in block b now holds l; nothing else has turned -/
def RS (b : Nat) (w w' : World) (l : List UInt8) : Prop :=
  w'.cell? ⟨b, 0, none⟩ = some (.string ⟨l.toArray⟩) ∧ w'.frozen? ⟨b, 0, none⟩ = false ∧ w'.heap.size = w.heap.size ∧ (∀ p : Addr, p.block ≠ b → w'.cell? p = w.cell? p ∧ w'.frozen? p = w.frozen? p) ∧ Below b w w'
theorem RS.same {b : Nat} {w : World} {l : List UInt8} (hc : w.cell? ⟨b, 0, none⟩ = some (.string ⟨l.toArray⟩)) (hf : w.frozen? ⟨b, 0, none⟩ = false) : RS b w w l :=
  ⟨hc, hf, rfl, fun _ _ => ⟨rfl, rfl⟩, Below.refl _ _⟩
theorem RS.set {b : Nat} {w w' : World} {l : List UInt8} (h : RS b w w' l) (r : List UInt8) : RS b w (w'.setCell ⟨b, 0, none⟩ (.string ⟨r.toArray⟩)) r := by
  obtain ⟨hc, hf, hs, ho, hB⟩ := h
  refine ⟨World.cell?_setCell_same _ _ _ hc, by rw [World.frozen?_setCell]; exact hf, by rw [← hs]; simp [World.setCell], fun p hp => ⟨?_, ?_⟩, hB.setCell (p := ⟨b, 0, none⟩) (Nat.le_refl _) _⟩
  · rw [World.cell?_setCell_other _ _ _ _ (by intro e; apply hp; rw [← e])]; exact (ho p hp).1
  · rw [World.frozen?_setCell]; exact (ho p hp).2

theorem sign_any (b : Nat) (l : List UInt8) (c : UInt8) (w : World) (hc : w.cell? ⟨b, 0, none⟩ = some (.string ⟨l.toArray⟩)) (hf : w.frozen? ⟨b, 0, none⟩ = false) (hl : l.length ≤ maxLen) :
    Calls Tryz.prog 49 #[.pointer (some ⟨b, 0, none⟩), .string ⟨#[c]⟩] w fun e w' => e = .returned (.bool (Pl.took c l)) ∧ RS b w w' (Pl.left c l) := by
  cases ht : Pl.took c l with
  | false =>
    refine (sign_no b l c w hc hl ht).mono ?_
    rintro e w' ⟨rfl, rfl⟩
    rw [Pl.left_not ht]
    exact ⟨rfl, RS.same hc hf⟩
  | true =>
    refine (sign_yes b l c w hc hf hl ht).mono ?_
    rintro e w' ⟨rfl, rfl⟩
    exact ⟨rfl, (RS.same hc hf).set _⟩

theorem pow_lt (m k : Nat) (h : m < 10 ^ k) (hk : k < 8) (c : Nat) (hc : c ≤ 9) : 10 * m + c < 10 ^ (k + 1) ∧ m < 100000000 := by
  have h2 : 10 ^ k ≤ 10 ^ 7 := Nat.pow_le_pow_right (by omega) (by omega)
  rw [Nat.pow_succ]
  omega

set_option maxHeartbeats 400000 in
theorem rnumber_any (b : Nat) (l : List UInt8) (w : World) (hc : w.cell? ⟨b, 0, none⟩ = some (.string ⟨l.toArray⟩)) (hf : w.frozen? ⟨b, 0, none⟩ = false) (_hl : l.length ≤ maxLen) :
    Calls Tryz.prog 97 #[.pointer (some ⟨b, 0, none⟩)] w fun e w' => e = .returned (.int .i64 ((Pl.lnum 8 0 l).1 : Int)) ∧ RS b w w' (Pl.lnum 8 0 l).2 := by
  unfold maxLen at _hl
  have R0 := RS.same hc hf
  go_enter Tryz.func97, Tryz.ntmps97
  go_wp2
  go_loopw [3, 4] (fun n i wr => ∃ (k m : Nat) (r : List UInt8), k ≤ 8 ∧ i = .int .i64 k ∧ n = .int .i64 m ∧ m < 10 ^ k ∧ Hid (Pl.lnum (8 - k) m r = Pl.lnum 8 0 l) ∧ r.length ≤ l.length ∧ RS b w wr r) (fun _ i _ => 8 - (intOf i).toNat)
  case atStart => exact ⟨0, 0, l, by omega, rfl, rfl, by simp, rfl, Nat.le_refl _, R0⟩
  case round =>
    obtain ⟨k, m, r, hk, rfl, rfl, hm, hL, hrl, R⟩ := hrel
    obtain ⟨hc1, hf1, _, _, _⟩ := id R
    clear hc hf R0
    by_cases hk8 : k < 8
    · cases r with
      | nil =>
        have hE : Hid (Pl.lnum 8 0 l = (m, [])) := by
          unfold Hid; rw [← hL.out]
          obtain ⟨f, hf⟩ : ∃ f, 8 - k = f + 1 := ⟨7 - k, by omega⟩
          rw [hf]; rfl
        clear hL
        go_wp2
        go_ret
        rw [hE.out]
        exact ⟨rfl, R⟩
      | cons c t =>
        cases hd : Pl.isDig c with
        | false =>
          have hE : Hid (Pl.lnum 8 0 l = (m, c :: t)) := by
            unfold Hid; rw [← hL.out]
            obtain ⟨f, hf⟩ : ∃ f, 8 - k = f + 1 := ⟨7 - k, by omega⟩
            rw [hf]; simp [Pl.lnum, hd]
          clear hL
          have hcase : ((((⟨(c :: t).toArray⟩ : ByteArray)[0]'(Nat.succ_pos _)).toNat : Int) < 48) ∨ (48 ≤ (((⟨(c :: t).toArray⟩ : ByteArray)[0]'(Nat.succ_pos _)).toNat : Int) ∧ 57 < (((⟨(c :: t).toArray⟩ : ByteArray)[0]'(Nat.succ_pos _)).toNat : Int)) := by
            show ((c.toNat : Int) < 48) ∨ (48 ≤ (c.toNat : Int) ∧ 57 < (c.toNat : Int))
            simp [Pl.isDig] at hd; omega
          clear hd
          rcases hcase with h1 | ⟨h1, h2⟩
          · go_wp2
            go_ret
            rw [hE.out]
            exact ⟨rfl, R⟩
          · go_wp2
            go_ret
            rw [hE.out]
            exact ⟨rfl, R⟩
        | true =>
          have hdd := (Pl.dig_iff c).1 hd
          have hE : Hid (Pl.lnum (8 - (k + 1)) (10 * m + (c.toNat - 48)) t = Pl.lnum 8 0 l) := by
            unfold Hid; rw [← hL.out]
            rw [show 8 - k = (8 - (k + 1)) + 1 by omega]; simp [Pl.lnum, hd]
          obtain ⟨hp, hm8⟩ := pow_lt m k hm hk8 (c.toNat - 48) (by omega)
          have h1 : 48 ≤ (((⟨(c :: t).toArray⟩ : ByteArray)[0]'(Nat.succ_pos _)).toNat : Int) := by show 48 ≤ (c.toNat : Int); omega
          have h2 : (((⟨(c :: t).toArray⟩ : ByteArray)[0]'(Nat.succ_pos _)).toNat : Int) ≤ 57 := by show (c.toNat : Int) ≤ 57; omega
          have HV : Hid ((10 : Int) * (m : Int) + ((((⟨(c :: t).toArray⟩ : ByteArray)[0]'(Nat.succ_pos _)).toNat : Int) - 48) = ((10 * m + (c.toNat - 48) : Nat) : Int)) := by
            unfold Hid; show (10 : Int) * (m : Int) + ((c.toNat : Int) - 48) = _; omega
          have HP : Hid (10 * m + (c.toNat - 48) < 10 ^ (k + 1)) := hp
          have HT : Hid (({ data := (c :: t).toArray } : ByteArray).extract 1 (t.length + 1) = ⟨t.toArray⟩) := ex_drop (c :: t) 1
          clear hd hdd hL hp hm
          have hrl' : t.length ≤ l.length := by simp at hrl; omega
          go_wp2
          rw [HT.out]
          exact ⟨⟨k + 1, _, t, hk8, by go_num, by rw [HV.out], HP.out, hE, hrl', R.set t⟩, by simp [intOf]; omega⟩
    · have hE : Hid (Pl.lnum 8 0 l = (m, r)) := by
        unfold Hid; rw [← hL.out, show 8 - k = 0 by omega]; rfl
      clear hL
      go_wp2
      go_ret
      rw [hE.out]
      exact ⟨rfl, R⟩

/-- the reader in block b, the result's box at w's end, the count's box behind it -/
def NS (w wi : World) (b : Nat) (l : List UInt8) (x y : Int) : Prop :=
  (wi.cell? ⟨b, 0, none⟩ = some (.string ⟨l.toArray⟩) ∧ wi.frozen? ⟨b, 0, none⟩ = false) ∧
  (wi.cell? ⟨w.heap.size, 0, none⟩ = some (.int .i64 0) ∧ wi.cell? ⟨w.heap.size, 1, none⟩ = some (.int .i64 0) ∧ wi.frozen? ⟨w.heap.size, 0, none⟩ = false ∧ wi.frozen? ⟨w.heap.size, 1, none⟩ = false) ∧
  (wi.cell? ⟨w.heap.size + 1, 0, none⟩ = some (.int .i64 x) ∧ wi.cell? ⟨w.heap.size + 1, 1, none⟩ = some (.int .i64 y) ∧ wi.frozen? ⟨w.heap.size + 1, 0, none⟩ = false ∧ wi.frozen? ⟨w.heap.size + 1, 1, none⟩ = false) ∧
  b < w.heap.size ∧ Below b w wi
theorem NS.step {w wi wj : World} {b : Nat} {l r : List UInt8} {x y : Int} (h : NS w wi b l x y) (R : RS b wi wj r) : NS w wj b r x y := by
  obtain ⟨_, ⟨a1, a2, a3, a4⟩, ⟨b1, b2, b3, b4⟩, hb, hB⟩ := h
  obtain ⟨r1, r2, _, ho, hB2⟩ := R
  have n0 : w.heap.size ≠ b := by omega
  have n1 : w.heap.size + 1 ≠ b := by omega
  refine ⟨⟨r1, r2⟩, ⟨?_, ?_, ?_, ?_⟩, ⟨?_, ?_, ?_, ?_⟩, hb, hB.trans hB2⟩
  · rw [(ho ⟨w.heap.size, 0, none⟩ n0).1]; exact a1
  · rw [(ho ⟨w.heap.size, 1, none⟩ n0).1]; exact a2
  · rw [(ho ⟨w.heap.size, 0, none⟩ n0).2]; exact a3
  · rw [(ho ⟨w.heap.size, 1, none⟩ n0).2]; exact a4
  · rw [(ho ⟨w.heap.size + 1, 0, none⟩ n1).1]; exact b1
  · rw [(ho ⟨w.heap.size + 1, 1, none⟩ n1).1]; exact b2
  · rw [(ho ⟨w.heap.size + 1, 0, none⟩ n1).2]; exact b3
  · rw [(ho ⟨w.heap.size + 1, 1, none⟩ n1).2]; exact b4
theorem NS.setA {w wi : World} {b : Nat} {l : List UInt8} {x y : Int} (h : NS w wi b l x y) (v : Int) : NS w (wi.setCell ⟨w.heap.size + 1, 0, none⟩ (.int .i64 v)) b l v y := by
  obtain ⟨⟨r1, r2⟩, ⟨a1, a2, a3, a4⟩, ⟨b1, b2, b3, b4⟩, hb, hB⟩ := h
  have n0 : (⟨w.heap.size + 1, 0, none⟩ : Addr) ≠ ⟨b, 0, none⟩ := by intro e; injection e; omega
  have n1 : (⟨w.heap.size + 1, 0, none⟩ : Addr) ≠ ⟨w.heap.size, 0, none⟩ := by intro e; injection e; omega
  have n2 : (⟨w.heap.size + 1, 0, none⟩ : Addr) ≠ ⟨w.heap.size, 1, none⟩ := by intro e; injection e; omega
  have n3 : (⟨w.heap.size + 1, 0, none⟩ : Addr) ≠ ⟨w.heap.size + 1, 1, none⟩ := by intro e; injection e; omega
  refine ⟨⟨?_, ?_⟩, ⟨?_, ?_, ?_, ?_⟩, ⟨?_, ?_, ?_, ?_⟩, hb, hB.setCell (p := ⟨w.heap.size + 1, 0, none⟩) (by show b ≤ w.heap.size + 1; omega) _⟩
  · rw [World.cell?_setCell_other _ _ _ _ n0]; exact r1
  · rw [World.frozen?_setCell]; exact r2
  · rw [World.cell?_setCell_other _ _ _ _ n1]; exact a1
  · rw [World.cell?_setCell_other _ _ _ _ n2]; exact a2
  · rw [World.frozen?_setCell]; exact a3
  · rw [World.frozen?_setCell]; exact a4
  · exact World.cell?_setCell_same _ _ _ b1
  · rw [World.cell?_setCell_other _ _ _ _ n3]; exact b2
  · rw [World.frozen?_setCell]; exact b3
  · rw [World.frozen?_setCell]; exact b4
theorem NS.setB {w wi : World} {b : Nat} {l : List UInt8} {x y : Int} (h : NS w wi b l x y) (v : Int) : NS w (wi.setCell ⟨w.heap.size + 1, 1, none⟩ (.int .i64 v)) b l x v := by
  obtain ⟨⟨r1, r2⟩, ⟨a1, a2, a3, a4⟩, ⟨b1, b2, b3, b4⟩, hb, hB⟩ := h
  have n0 : (⟨w.heap.size + 1, 1, none⟩ : Addr) ≠ ⟨b, 0, none⟩ := by intro e; injection e; omega
  have n1 : (⟨w.heap.size + 1, 1, none⟩ : Addr) ≠ ⟨w.heap.size, 0, none⟩ := by intro e; injection e; omega
  have n2 : (⟨w.heap.size + 1, 1, none⟩ : Addr) ≠ ⟨w.heap.size, 1, none⟩ := by intro e; injection e; omega
  have n3 : (⟨w.heap.size + 1, 1, none⟩ : Addr) ≠ ⟨w.heap.size + 1, 0, none⟩ := by intro e; injection e; omega
  refine ⟨⟨?_, ?_⟩, ⟨?_, ?_, ?_, ?_⟩, ⟨?_, ?_, ?_, ?_⟩, hb, hB.setCell (p := ⟨w.heap.size + 1, 1, none⟩) (by show b ≤ w.heap.size + 1; omega) _⟩
  · rw [World.cell?_setCell_other _ _ _ _ n0]; exact r1
  · rw [World.frozen?_setCell]; exact r2
  · rw [World.cell?_setCell_other _ _ _ _ n1]; exact a1
  · rw [World.cell?_setCell_other _ _ _ _ n2]; exact a2
  · rw [World.frozen?_setCell]; exact a3
  · rw [World.frozen?_setCell]; exact a4
  · rw [World.cell?_setCell_other _ _ _ _ n3]; exact b1
  · exact World.cell?_setCell_same _ _ _ b2
  · rw [World.frozen?_setCell]; exact b3
  · rw [World.frozen?_setCell]; exact b4
theorem NS.new {w : World} {b : Nat} {l : List UInt8} (hb : b < w.heap.size) (hc : w.cell? ⟨b, 0, none⟩ = some (.string ⟨l.toArray⟩)) (hf : w.frozen? ⟨b, 0, none⟩ = false) :
    NS w ((w.alloc (.cells #[.int .i64 0, .int .i64 0] 59)).alloc (.cells #[.int .i64 0, .int .i64 0] 59)) b l 0 0 := by
  refine ⟨⟨?_, ?_⟩, ⟨?_, ?_, ?_, ?_⟩, ⟨?_, ?_, ?_, ?_⟩, hb, ((Below.refl _ _).alloc (Nat.le_of_lt hb) _).alloc (by simp; omega) _⟩
  · rw [World.cell?_alloc_past _ _ _ (by simp; omega), World.cell?_alloc_past _ _ _ hb]; exact hc
  · rw [World.frozen?_alloc_past _ _ _ (by simp; omega), World.frozen?_alloc_past _ _ _ hb]; exact hf
  all_goals simp [go_sem]

theorem lnum_len : ∀ (f n : Nat) (l : List UInt8), (Pl.lnum f n l).2.length ≤ l.length
  | 0, _, l => Nat.le_refl _
  | _ + 1, _, [] => Nat.le_refl _
  | f + 1, n, c :: l => by
    unfold Pl.lnum
    split
    · exact Nat.le_trans (lnum_len f _ l) (by simp)
    · exact Nat.le_refl _
theorem lnum_lt : ∀ (f k n : Nat) (l : List UInt8), n < 10 ^ k → (Pl.lnum f n l).1 < 10 ^ (k + f)
  | 0, k, n, l, h => h
  | f + 1, k, n, [], h => Nat.lt_of_lt_of_le h (Nat.pow_le_pow_right (by omega) (by omega))
  | f + 1, k, n, c :: l, h => by
    unfold Pl.lnum
    split
    · rename_i hd
      have hd := (Pl.dig_iff c).1 hd
      have := lnum_lt f (k + 1) (10 * n + (c.toNat - 48)) l (by rw [Nat.pow_succ]; omega)
      rwa [show k + 1 + f = k + (f + 1) by omega] at this
    · exact Nat.lt_of_lt_of_le h (Nat.pow_le_pow_right (by omega) (by omega))
end Go.Proofs.YtbfkopjpfkgjhaaGreatDoor.Nt
