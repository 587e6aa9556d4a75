/-
  Plain laws of numerals and of counts' texts: what is read by the strict reader is just what is shown. No program in this text.
-/
import Derived.Lib.ItoaNum
import Derived.Test.YtbfkopjpfkgjhaaGreatDoorShelf
import Derived.WalkKit
import Derived.WalkSpells
import Derived.WalkLawsBesides
import Derived.ProofKit
import Derived.Defers
import Derived.Recover
import Derived.Lib.SmallJoins
import Derived.Lib.ItoaLen
namespace Go.Proofs.YtbfkopjpfkgjhaaGreatDoor.Nt.Pl

def isDig (c : UInt8) : Bool := decide (48 ≤ c.toNat) && decide (c.toNat ≤ 57)
def val (l : List UInt8) : Nat := l.foldl (fun n c => n * 10 + (c.toNat - 48)) 0
/-- no digits, or a 0 ahead of others -/
def bad (s : List UInt8) : Bool := s.isEmpty || (s.head? == some 48 && decide (1 < s.length))
def number (l : List UInt8) : Option (Nat × List UInt8) :=
  if bad (l.takeWhile isDig) = true then none else if 1048576 < val (l.takeWhile isDig) then none else some (val (l.takeWhile isDig), l.dropWhile isDig)
def readNum (minus : Bool) (l : List UInt8) : Option (Int × List UInt8) :=
  match number l with
  | none => none
  | some (n, r) => if minus = true then (if n = 0 then none else some (-(n : Int), r)) else some ((n : Int), r)
def took (c : UInt8) : List UInt8 → Bool
  | [] => false
  | x :: _ => x == c
def left (c : UInt8) : List UInt8 → List UInt8
  | [] => []
  | x :: r => if x == c then r else x :: r
def readRest (a : Int) (r : List UInt8) : Option (Int × Int × List UInt8) :=
  if took 110 r = true then
    (if took 45 (left 110 r) = true then (readNum true (left 45 (left 110 r))).map fun p => (a, p.1, p.2)
     else if took 43 (left 110 r) = true then (readNum false (left 43 (left 110 r))).map fun p => (a, p.1, p.2)
     else none)
  else none
def readNth (l : List UInt8) : Option (Int × Int × List UInt8) :=
  match readNum (took 45 l) (left 45 l) with
  | none => none
  | some (a, r) => readRest a r
def read (l : List UInt8) : Option (Int × Int) :=
  match readNth l with
  | some (a, b, []) => some (a, b)
  | _ => none
def inB (n : Int) : Prop := -1048576 ≤ n ∧ n ≤ 1048576
def shown (a b : Int) : List UInt8 := Lib.itoa a ++ [110] ++ (if 0 ≤ b then [43] else []) ++ Lib.itoa b

theorem val_snoc (l : List UInt8) (c : UInt8) : val (l ++ [c]) = val l * 10 + (c.toNat - 48) := by simp [val]
theorem dig_iff (c : UInt8) : isDig c = true ↔ 48 ≤ c.toNat ∧ c.toNat ≤ 57 := by simp [isDig]

theorem toNat_ofNat {n : Nat} (h : n < 256) : (UInt8.ofNat n).toNat = n := by
  rw [UInt8.toNat_ofNat']; exact Nat.mod_eq_of_lt h
theorem val_dec (u : Nat) : val (Lib.decDigits u) = u := by
  induction u using Nat.strongRecOn with
  | _ u ih =>
    by_cases h : u < 10
    · rw [Lib.decDigits, dif_pos h]; simp [val]; omega
    · rw [Lib.decDigits, dif_neg h, val_snoc, ih (u / 10) (by omega), toNat_ofNat (by omega)]; omega
theorem dec_dig (u : Nat) : ∀ c ∈ Lib.decDigits u, isDig c = true := by
  induction u using Nat.strongRecOn with
  | _ u ih =>
    intro c hc
    by_cases h : u < 10
    · rw [Lib.decDigits, dif_pos h] at hc
      simp only [List.mem_singleton] at hc
      subst hc; rw [dig_iff, toNat_ofNat (by omega)]; omega
    · rw [Lib.decDigits, dif_neg h, List.mem_append, List.mem_singleton] at hc
      rcases hc with hc | hc
      · exact ih (u / 10) (by omega) c hc
      · subst hc; rw [dig_iff, toNat_ofNat (by omega)]; omega
theorem dec_ne (u : Nat) : Lib.decDigits u ≠ [] := by
  intro h
  have := Lib.decDigits_length u
  rw [h] at this
  have := Lib.nDigits_pos u
  simp at *
  omega
theorem dec_head (u : Nat) (h : 0 < u) : (Lib.decDigits u).head? ≠ some 48 := by
  induction u using Nat.strongRecOn with
  | _ u ih =>
    by_cases h10 : u < 10
    · rw [Lib.decDigits, dif_pos h10]
      simp only [List.head?_cons, ne_eq, Option.some.injEq]
      intro e
      have := congrArg UInt8.toNat e
      rw [toNat_ofNat (by omega)] at this
      simp at this; omega
    · rw [Lib.decDigits, dif_neg h10]
      have h1 := ih (u / 10) (by omega) (by omega)
      have h2 := dec_ne (u / 10)
      cases hd : Lib.decDigits (u / 10) with
      | nil => exact absurd hd h2
      | cons x r => rw [hd] at h1; simpa using h1
theorem not_bad_dec (u : Nat) : bad (Lib.decDigits u) = false := by
  unfold bad
  have h2 := dec_ne u
  by_cases h : 0 < u
  · have h1 := dec_head u h
    cases hd : Lib.decDigits u with
    | nil => exact absurd hd h2
    | cons x r => rw [hd] at h1; simp at h1; simp [h1]
  · obtain rfl : u = 0 := by omega
    rw [Lib.decDigits_one (by omega)]; decide

theorem snoc_ind {P : List UInt8 → Prop} (h0 : P []) (h1 : ∀ l c, P l → P (l ++ [c])) (l : List UInt8) : P l := by
  have h : ∀ r : List UInt8, P r.reverse := by
    intro r
    induction r with
    | nil => exact h0
    | cons c r ih => rw [List.reverse_cons]; exact h1 _ _ ih
  simpa using h l.reverse
theorem val_pos : ∀ (l : List UInt8), (∀ c ∈ l, isDig c = true) → ∀ x r, l = x :: r → x ≠ 48 → 0 < val l := by
  intro l
  refine snoc_ind (P := fun l => (∀ c ∈ l, isDig c = true) → ∀ x r, l = x :: r → x ≠ 48 → 0 < val l) ?_ ?_ l
  · intro _ x r h; simp at h
  · intro l c ih hd x r he hx
    rw [val_snoc]
    cases l with
    | nil =>
      simp only [List.nil_append, List.cons.injEq] at he
      obtain ⟨rfl, rfl⟩ := he
      have := (dig_iff c).1 (hd c (by simp))
      have : c.toNat ≠ 48 := fun e => hx (UInt8.toNat_inj.1 (by simpa using e))
      omega
    | cons y t =>
      simp only [List.cons_append, List.cons.injEq] at he
      have := ih (fun c hc => hd c (by simp at hc ⊢; rcases hc with rfl | hc <;> simp_all)) y t rfl (by rw [he.1]; exact hx)
      omega
theorem dec_val : ∀ (l : List UInt8), (∀ c ∈ l, isDig c = true) → bad l = false → Lib.decDigits (val l) = l := by
  intro l
  refine snoc_ind (P := fun l => (∀ c ∈ l, isDig c = true) → bad l = false → Lib.decDigits (val l) = l) ?_ ?_ l
  · intro _ h; simp [bad] at h
  · intro l c ih hd hb
    have hc := (dig_iff c).1 (hd c (by simp))
    have hcc : UInt8.ofNat (48 + (c.toNat - 48)) = c := by
      apply UInt8.toNat_inj.1; rw [toNat_ofNat (by omega)]; omega
    rw [val_snoc]
    cases l with
    | nil =>
      rw [show val [] = 0 from rfl, Lib.decDigits_one (by omega)]
      simp only [Nat.zero_mul, Nat.zero_add, List.nil_append]
      rw [hcc]
    | cons y t =>
      have hd' : ∀ x ∈ y :: t, isDig x = true := fun x hx => hd x (List.mem_append_left _ hx)
      have hy : y ≠ 48 := by
        intro e; subst e; simp [bad] at hb
      have hv := val_pos (y :: t) hd' y t rfl hy
      have hb' : bad (y :: t) = false := by simp [bad, hy]
      rw [Lib.decDigits, dif_neg (by omega)]
      have e1 : (val (y :: t) * 10 + (c.toNat - 48)) / 10 = val (y :: t) := by omega
      have e2 : (val (y :: t) * 10 + (c.toNat - 48)) % 10 = c.toNat - 48 := by omega
      rw [e1, e2, ih hd' hb', hcc]

/-- no digit opens it -/
def noDig : List UInt8 → Bool
  | [] => true
  | x :: _ => !isDig x
theorem take_app : ∀ (l r : List UInt8), (∀ c ∈ l, isDig c = true) → noDig r = true → (l ++ r).takeWhile isDig = l ∧ (l ++ r).dropWhile isDig = r
  | [], [], _, _ => by simp
  | [], x :: r, _, h => by
    simp only [noDig, Bool.not_eq_true'] at h
    simp [h]
  | y :: l, r, hd, h => by
    have := take_app l r (fun c hc => hd c (List.mem_cons_of_mem _ hc)) h
    have hy := hd y (by simp)
    simp [hy, this]
theorem noDig_drop : ∀ (l : List UInt8), noDig (l.dropWhile isDig) = true
  | [] => rfl
  | x :: l => by
    rw [List.dropWhile_cons]
    by_cases h : isDig x = true
    · rw [if_pos h]; exact noDig_drop l
    · rw [if_neg h]; simpa [noDig] using h
theorem takeWhile_dig : ∀ (l : List UInt8), ∀ c ∈ l.takeWhile isDig, isDig c = true
  | [], c, h => by simp at h
  | x :: l, c, h => by
    rw [List.takeWhile_cons] at h
    by_cases hx : isDig x = true
    · rw [if_pos hx, List.mem_cons] at h
      rcases h with rfl | h
      · exact hx
      · exact takeWhile_dig l c h
    · rw [if_neg hx] at h; simp at h

theorem number_iff (l : List UInt8) (n : Nat) (r : List UInt8) : number l = some (n, r) ↔ l = Lib.decDigits n ++ r ∧ n ≤ 1048576 ∧ noDig r = true := by
  constructor
  · intro h
    unfold number at h
    split at h
    · simp at h
    · rename_i hb
      split at h
      · simp at h
      · rename_i hv
        simp only [Option.some.injEq, Prod.mk.injEq] at h
        obtain ⟨rfl, rfl⟩ := h
        refine ⟨?_, by omega, noDig_drop l⟩
        rw [dec_val _ (takeWhile_dig l) (by simpa using hb), List.takeWhile_append_dropWhile]
  · rintro ⟨rfl, hn, hr⟩
    obtain ⟨h1, h2⟩ := take_app (Lib.decDigits n) r (dec_dig n) hr
    unfold number
    rw [h1, h2, val_dec, not_bad_dec]
    simp; omega

theorem readNum_iff (m : Bool) (l : List UInt8) (x : Int) (r : List UInt8) : readNum m l = some (x, r) ↔
    inB x ∧ noDig r = true ∧ (m = true ∧ x < 0 ∨ m = false ∧ 0 ≤ x) ∧ l = Lib.decDigits x.natAbs ++ r := by
  constructor
  · intro h
    unfold readNum at h
    cases hn : number l with
    | none => rw [hn] at h; simp at h
    | some p =>
      obtain ⟨n, r'⟩ := p
      rw [hn] at h
      obtain ⟨rfl, hle, hr⟩ := (number_iff l n r').1 hn
      cases m with
      | true =>
        simp only [if_true] at h
        by_cases h0 : n = 0
        · simp [h0] at h
        · simp only [if_neg h0, Option.some.injEq, Prod.mk.injEq] at h
          obtain ⟨rfl, rfl⟩ := h
          refine ⟨⟨by omega, by omega⟩, hr, Or.inl ⟨rfl, by omega⟩, ?_⟩
          rw [show (-(n : Int)).natAbs = n by omega]
      | false =>
        simp only [Bool.false_eq_true, if_false, Option.some.injEq, Prod.mk.injEq] at h
        obtain ⟨rfl, rfl⟩ := h
        refine ⟨⟨by omega, by omega⟩, hr, Or.inr ⟨rfl, by omega⟩, ?_⟩
        rw [show ((n : Int)).natAbs = n by omega]
  · rintro ⟨⟨h1, h2⟩, hr, hm, rfl⟩
    have hn := (number_iff (Lib.decDigits x.natAbs ++ r) x.natAbs r).2 ⟨rfl, by omega, hr⟩
    unfold readNum
    rw [hn]
    rcases hm with ⟨rfl, hx⟩ | ⟨rfl, hx⟩
    · simp only [if_true]
      rw [if_neg (by omega)]
      simp; omega
    · simp; omega

theorem took_iff (c : UInt8) (l : List UInt8) : took c l = true ↔ l = c :: left c l := by
  cases l with
  | nil => simp [took, left]
  | cons x r =>
    by_cases h : x = c
    · subst h; simp [took, left]
    · simp [took, left, h]
theorem left_not {c : UInt8} {l : List UInt8} (h : took c l = false) : left c l = l := by
  cases l with
  | nil => rfl
  | cons x r => simp only [took] at h; simp [left, h]
theorem took_cons (c : UInt8) (r : List UInt8) : took c (c :: r) = true ∧ left c (c :: r) = r := by simp [took, left]
theorem dec_cons (n : Nat) : ∃ x r, Lib.decDigits n = x :: r ∧ isDig x = true := by
  cases h : Lib.decDigits n with
  | nil => exact absurd h (dec_ne n)
  | cons x r => exact ⟨x, r, rfl, dec_dig n x (by simp [h])⟩
theorem took_dec (c : UInt8) (hc : isDig c = false) (n : Nat) (r : List UInt8) : took c (Lib.decDigits n ++ r) = false := by
  obtain ⟨x, t, h, hx⟩ := dec_cons n
  rw [h]
  simp only [List.cons_append, took, beq_eq_false_iff_ne]
  intro e; subst e; rw [hx] at hc; cases hc
theorem itoa_neg {a : Int} (h : a < 0) : Lib.itoa a = 45 :: Lib.decDigits a.natAbs := by rw [Lib.itoa, if_pos h]
theorem itoa_pos {a : Int} (h : 0 ≤ a) : Lib.itoa a = Lib.decDigits a.natAbs := by
  rw [Lib.itoa, if_neg (by omega)]; congr 1; omega

/-- the first number, whatever stands behind it -/
theorem readA_iff (l : List UInt8) (a : Int) (r : List UInt8) : readNum (took 45 l) (left 45 l) = some (a, r) ↔ inB a ∧ noDig r = true ∧ l = Lib.itoa a ++ r := by
  rw [readNum_iff]
  constructor
  · rintro ⟨hb, hr, hm, hl⟩
    refine ⟨hb, hr, ?_⟩
    rcases hm with ⟨hm, ha⟩ | ⟨hm, ha⟩
    · rw [itoa_neg ha, (took_iff 45 l).1 hm, hl]; rfl
    · rw [itoa_pos ha, ← hl, left_not hm]
  · rintro ⟨hb, hr, rfl⟩
    by_cases ha : a < 0
    · rw [itoa_neg ha, List.cons_append, (took_cons 45 _).1, (took_cons 45 _).2]
      exact ⟨hb, hr, Or.inl ⟨rfl, ha⟩, rfl⟩
    · have ht := took_dec 45 (by decide) a.natAbs r
      rw [itoa_pos (by omega), left_not ht, ht]
      exact ⟨hb, hr, Or.inr ⟨rfl, by omega⟩, rfl⟩
theorem readRest_iff (a : Int) (r : List UInt8) (b : Int) (t : List UInt8) : readRest a r = some (a, b, t) ↔
    inB b ∧ noDig t = true ∧ r = [110] ++ (if 0 ≤ b then [43] else []) ++ Lib.itoa b ++ t := by
  constructor
  · intro h
    unfold readRest at h
    split at h
    · rename_i h1
      have e1 := (took_iff 110 r).1 h1
      split at h
      · rename_i h2
        have e2 := (took_iff 45 _).1 h2
        cases hn : readNum true (left 45 (left 110 r)) with
        | none => rw [hn] at h; simp at h
        | some p =>
          rw [hn] at h
          simp only [Option.map_some, Option.some.injEq, Prod.mk.injEq, true_and] at h
          obtain ⟨x, y⟩ := p
          obtain ⟨rfl, rfl⟩ := h
          obtain ⟨hb, hr, hm, hl⟩ := (readNum_iff _ _ _ _).1 hn
          simp only [true_and, Bool.true_eq_false, false_and, or_false] at hm
          refine ⟨hb, hr, ?_⟩
          rw [e1, e2, hl]
          simp only at hm ⊢
          rw [if_neg (by omega), itoa_neg hm]; simp
      · rename_i h2
        split at h
        · rename_i h3
          have e2 := (took_iff 43 _).1 h3
          cases hn : readNum false (left 43 (left 110 r)) with
          | none => rw [hn] at h; simp at h
          | some p =>
            rw [hn] at h
            simp only [Option.map_some, Option.some.injEq, Prod.mk.injEq, true_and] at h
            obtain ⟨x, y⟩ := p
            obtain ⟨rfl, rfl⟩ := h
            obtain ⟨hb, hr, hm, hl⟩ := (readNum_iff _ _ _ _).1 hn
            simp only [true_and, Bool.false_eq_true, false_and, false_or] at hm
            refine ⟨hb, hr, ?_⟩
            rw [e1, e2, hl]
            simp only at hm ⊢
            rw [if_pos hm, itoa_pos hm]; simp
        · simp at h
    · simp at h
  · rintro ⟨hb, ht, rfl⟩
    unfold readRest
    simp only [List.append_assoc, List.cons_append, List.nil_append]
    rw [if_pos (took_cons 110 _).1, (took_cons 110 _).2]
    by_cases h : 0 ≤ b
    · rw [if_pos h, itoa_pos h, List.cons_append, List.nil_append, if_neg (by simp [took]), if_pos (took_cons 43 _).1, (took_cons 43 _).2,
        (readNum_iff false _ b t).2 ⟨hb, ht, Or.inr ⟨rfl, h⟩, rfl⟩]
      rfl
    · rw [if_neg h, itoa_neg (by omega), List.nil_append, List.cons_append, if_pos (took_cons 45 _).1, (took_cons 45 _).2,
        (readNum_iff true _ b t).2 ⟨hb, ht, Or.inl ⟨rfl, by omega⟩, rfl⟩]
      rfl
theorem readRest_fst {a a' b : Int} {r t : List UInt8} (h : readRest a r = some (a', b, t)) : a' = a := by
  unfold readRest at h
  split at h
  · split at h
    · cases hn : readNum true (left 45 (left 110 r)) <;> rw [hn] at h <;> simp at h; exact h.1.symm
    · split at h
      · cases hn : readNum false (left 43 (left 110 r)) <;> rw [hn] at h <;> simp at h; exact h.1.symm
      · simp at h
  · simp at h
theorem noDig_110 (l : List UInt8) : noDig (110 :: l) = true := by simp [noDig, isDig]

/-- WHAT IS READ IS JUST WHAT IS SHOWN. -/
theorem read_iff (l : List UInt8) (a b : Int) : read l = some (a, b) ↔ inB a ∧ inB b ∧ l = shown a b := by
  constructor
  · intro h
    unfold read at h
    split at h
    · rename_i a' b' hr
      simp only [Option.some.injEq, Prod.mk.injEq] at h
      obtain ⟨rfl, rfl⟩ := h
      unfold readNth at hr
      split at hr
      · simp at hr
      · rename_i a2 r hn
        obtain rfl := readRest_fst hr
        obtain ⟨ha, hr1, hl⟩ := (readA_iff _ _ _).1 hn
        obtain ⟨hb, _, hr2⟩ := (readRest_iff _ _ _ _).1 hr
        refine ⟨ha, hb, ?_⟩
        rw [hl, hr2, shown]; simp
    · simp at h
  · rintro ⟨ha, hb, rfl⟩
    have h2 := (readRest_iff a ([110] ++ (if 0 ≤ b then [43] else []) ++ Lib.itoa b ++ []) b []).2 ⟨hb, rfl, rfl⟩
    have h1 := (readA_iff (shown a b) a ([110] ++ (if 0 ≤ b then [43] else []) ++ Lib.itoa b ++ [])).2 ⟨ha, by simp [noDig, isDig], by simp [shown]⟩
    unfold read readNth
    rw [h1]
    simp only
    rw [h2]
end Go.Proofs.YtbfkopjpfkgjhaaGreatDoor.Nt.Pl
/-
  The strict reader's small steps: a sign that is taken, a run of digits, a refusal.
-/
namespace Go.Proofs.YtbfkopjpfkgjhaaGreatDoor.Nt
open Go.RowKit

set_option maxHeartbeats 400000 in
theorem isDigit_any (c : UInt8) (w : World) :
    Calls Tryz.prog 87 #[.int .u8 c.toNat] w fun e w' => e = .returned (.bool (Pl.isDig c)) ∧ w' = w := by
  have hc := c.toNat_lt
  by_cases h1 : (48 : Int) ≤ (c.toNat : Int)
  · by_cases h2 : (c.toNat : Int) ≤ 57
    · have hh : Pl.isDig c = true := (Pl.dig_iff c).2 ⟨by omega, by omega⟩
      go_enter Tryz.func87, Tryz.ntmps87
      go_wp2
      go_ret
      exact ⟨by rw [hh]; rfl, rfl⟩
    · have hh : Pl.isDig c = false := by simp [Pl.isDig]; omega
      go_enter Tryz.func87, Tryz.ntmps87
      go_wp2
      go_ret
      exact ⟨rfl, rfl⟩
  · have hh : Pl.isDig c = false := by simp [Pl.isDig]; omega
    go_enter Tryz.func87, Tryz.ntmps87
    go_wp2
    go_ret
    exact ⟨rfl, rfl⟩

set_option maxHeartbeats 400000 in
theorem refuse_any (w : World) :
    Calls Tryz.prog 45 #[] w fun e w' => e = .panicked [{ v := .iface 23 (.int .i64 1), recovered := false }] ∧ w' = w := by
  go_enter Tryz.func45, Tryz.ntmps45
  go_wp2
  exact ⟨rfl, rfl, rfl⟩

theorem hasPrefix_one (c : UInt8) (l : List UInt8) : Lib.hasPrefix l [c] = Pl.took c l := by
  cases l with
  | nil => simp [Lib.hasPrefix, Pl.took]
  | cons x r => simp [Lib.hasPrefix, Pl.took, List.isPrefixOf]; exact Bool.beq_comm
theorem trimPrefix_one (c : UInt8) (l : List UInt8) : Lib.trimPrefix l [c] = Pl.left c l := by
  rw [Lib.trimPrefix, hasPrefix_one]
  cases l with
  | nil => simp [Pl.took, Pl.left]
  | cons x r => simp [Pl.took, Pl.left]

set_option maxHeartbeats 400000 in
theorem take_any (b : Nat) (l : List UInt8) (c : UInt8) (w : World) (hc : w.cell? ⟨b, 0, none⟩ = some (.string ⟨l.toArray⟩)) (hf : w.frozen? ⟨b, 0, none⟩ = false) :
    Calls Tryz.prog 47 #[.pointer (some ⟨b, 0, none⟩), .string ⟨#[c]⟩] w fun e w' => e = .returned (.bool (Pl.took c l)) ∧ w' = w.setCell ⟨b, 0, none⟩ (.string ⟨(Pl.left c l).toArray⟩) := by
  go_enter Tryz.func47, Tryz.ntmps47
  go_wp2_with (go_at_call 68; refine (Tryz.strings_CutPrefix _ _ _).mono ?_; rintro e w' ⟨rfl, rfl⟩)
  go_ret
  rw [hasPrefix_one, trimPrefix_one]
  exact ⟨rfl, rfl⟩

theorem ex_take (l : List UInt8) (k : Nat) : (⟨l.toArray⟩ : ByteArray).extract 0 k = ⟨(l.take k).toArray⟩ := by
  rw [Lib.extract_eq]; simp
theorem ex_drop (l : List UInt8) (k : Nat) : (⟨l.toArray⟩ : ByteArray).extract k l.length = ⟨(l.drop k).toArray⟩ := by
  rw [Lib.extract_eq]; congr 2; exact List.take_of_length_le (by simp)
theorem scan_stop : ∀ (l : List UInt8) (k : Nat), (∀ c ∈ l.take k, Pl.isDig c = true) → Pl.noDig (l.drop k) = true → l.takeWhile Pl.isDig = l.take k ∧ l.dropWhile Pl.isDig = l.drop k := by
  intro l k h1 h2
  have := Pl.take_app (l.take k) (l.drop k) h1 h2
  rwa [List.take_append_drop] at this
theorem noDig_at (l : List UInt8) (k : Nat) (h : k < l.length) : Pl.noDig (l.drop k) = !Pl.isDig l[k] := by
  rw [List.drop_eq_getElem_cons h]; rfl
theorem digs_succ (l : List UInt8) (k : Nat) (h : k < l.length) (h1 : ∀ c ∈ l.take k, Pl.isDig c = true) (h2 : Pl.isDig l[k] = true) : ∀ c ∈ l.take (k + 1), Pl.isDig c = true := by
  intro c hc
  rw [List.take_succ_eq_append_getElem h, List.mem_append, List.mem_singleton] at hc
  rcases hc with hc | rfl
  · exact h1 c hc
  · exact h2

set_option maxHeartbeats 400000 in
theorem run_any (b : Nat) (l : List UInt8) (w : World) (hc : w.cell? ⟨b, 0, none⟩ = some (.string ⟨l.toArray⟩)) (hf : w.frozen? ⟨b, 0, none⟩ = false) (hl : l.length ≤ maxLen) :
    Calls Tryz.prog 90 #[.pointer (some ⟨b, 0, none⟩), .func (.func 87) #[] #[]] w fun e w' => e = .returned (.string ⟨(l.takeWhile Pl.isDig).toArray⟩) ∧ w' = w.setCell ⟨b, 0, none⟩ (.string ⟨(l.dropWhile Pl.isDig).toArray⟩) := by
  unfold maxLen at hl
  go_enter Tryz.func90, Tryz.ntmps90
  go_wp2
  go_loop [5] (fun n => ∃ k : Nat, k ≤ l.length ∧ n = .int .i64 k ∧ Hid (∀ c ∈ l.take k, Pl.isDig c = true)) (fun n => l.length - (intOf n).toNat)
  case atStart => exact ⟨0, Nat.zero_le _, rfl, by intro c hc; simp at hc⟩
  case round =>
    obtain ⟨k, hk, rfl, hd⟩ := hrel
    by_cases hlt : k < l.length
    · cases hx : Pl.isDig l[k] with
      | true =>
        have hx' : Hid (Pl.isDig l[k] = true) := hx
        have hy : Pl.isDig (⟨l.toArray⟩ : ByteArray)[k] = true := hx
        clear hx
        go_wp2_with (go_at_call 87; refine (isDigit_any _ _).mono ?_; rintro e w' ⟨rfl, rfl⟩)
        go_round
        case rel => exact ⟨k + 1, hlt, by go_num, digs_succ l k hlt hd.out hx'.out⟩
        case measure => simp [intOf]; omega
      | false =>
        have hs := scan_stop l k hd.out (by rw [noDig_at l k hlt, hx]; rfl)
        have HS : Hid (l.takeWhile Pl.isDig = l.take k ∧ l.dropWhile Pl.isDig = l.drop k) := hs
        have hy : Pl.isDig (⟨l.toArray⟩ : ByteArray)[k] = false := hx
        clear hx hs
        go_wp2_with (go_at_call 87; refine (isDigit_any _ _).mono ?_; rintro e w' ⟨rfl, rfl⟩)
        go_ret
        rw [HS.out.1, HS.out.2]
        exact ⟨by simp [ex_take], by rw [ex_drop]⟩
    · have hs := scan_stop l k hd.out (by rw [List.drop_eq_nil_of_le (by omega)]; rfl)
      have HS : Hid (l.takeWhile Pl.isDig = l.take k ∧ l.dropWhile Pl.isDig = l.drop k) := hs
      clear hs
      go_wp2
      go_ret
      rw [HS.out.1, HS.out.2]
      exact ⟨by simp [ex_take], by rw [ex_drop]⟩
end Go.Proofs.YtbfkopjpfkgjhaaGreatDoor.Nt
/-
  The strict reader's number: digits without a 0 ahead, up to 2 to the 20th.
-/
namespace Go.Proofs.YtbfkopjpfkgjhaaGreatDoor.Nt
open Go.RowKit

set_option maxHeartbeats 400000 in
theorem need_yes (b : Nat) (l : List UInt8) (c : UInt8) (w : World) (hc : w.cell? ⟨b, 0, none⟩ = some (.string ⟨l.toArray⟩)) (hf : w.frozen? ⟨b, 0, none⟩ = false) (ht : Pl.took c l = true) :
    Calls Tryz.prog 94 #[.pointer (some ⟨b, 0, none⟩), .string ⟨#[c]⟩] w fun e w' => e = .returned (.tuple #[]) ∧ w' = w.setCell ⟨b, 0, none⟩ (.string ⟨(Pl.left c l).toArray⟩) := by
  go_enter Tryz.func94, Tryz.ntmps94
  go_wp2_with (go_at_call 47; refine (take_any b l c _ hc hf).mono ?_; rintro e w' ⟨rfl, rfl⟩)
  go_end0
  exact ⟨rfl, rfl⟩
set_option maxHeartbeats 400000 in
theorem need_no (b : Nat) (l : List UInt8) (c : UInt8) (w : World) (hc : w.cell? ⟨b, 0, none⟩ = some (.string ⟨l.toArray⟩)) (hf : w.frozen? ⟨b, 0, none⟩ = false) (ht : Pl.took c l = false) :
    Calls Tryz.prog 94 #[.pointer (some ⟨b, 0, none⟩), .string ⟨#[c]⟩] w fun e w' => e = .panicked [{ v := .iface 23 (.int .i64 1), recovered := false }] ∧ Below b w w' := by
  go_enter Tryz.func94, Tryz.ntmps94
  go_wp2_with (first | (go_at_call 47; refine (take_any b l c _ hc hf).mono ?_; rintro e w' ⟨rfl, rfl⟩) | (go_at_call 45; refine (refuse_any _).mono ?_; rintro e w' ⟨rfl, rfl⟩))
  exact ⟨rfl, rfl, (Below.refl _ _).setCell (p := ⟨b, 0, none⟩) (Nat.le_refl _) _⟩

theorem val_take_succ (s : List UInt8) (k : Nat) (h : k < s.length) : Pl.val (s.take (k + 1)) = Pl.val (s.take k) * 10 + (s[k].toNat - 48) := by
  rw [List.take_succ_eq_append_getElem h, Pl.val_snoc]
theorem val_mono (s : List UInt8) (k : Nat) : Pl.val (s.take k) ≤ Pl.val s := by
  refine Pl.snoc_ind (P := fun s => ∀ k, Pl.val (s.take k) ≤ Pl.val s) ?_ ?_ s k
  · intro k; simp
  · intro l c ih k
    by_cases h : k ≤ l.length
    · have := ih k
      rw [List.take_append_of_le_length h, Pl.val_snoc]; omega
    · rw [List.take_of_length_le (by simp; omega)]; exact Nat.le_refl _

set_option maxHeartbeats 400000 in
theorem number_core (b : Nat) (l s r : List UInt8) (w : World) (hc : w.cell? ⟨b, 0, none⟩ = some (.string ⟨l.toArray⟩)) (hf : w.frozen? ⟨b, 0, none⟩ = false) (hl : l.length ≤ maxLen)
    (hs : l.takeWhile Pl.isDig = s) (hr : l.dropWhile Pl.isDig = r) (hb : Pl.bad s = false) :
    Calls Tryz.prog 121 #[.pointer (some ⟨b, 0, none⟩), .int .i64 1048576] w fun e w' => (1048576 < Pl.val s ∧ e = .panicked [{ v := .iface 23 (.int .i64 1), recovered := false }] ∧ Below b w w') ∨
      (Pl.val s ≤ 1048576 ∧ e = .returned (.int .i64 (Pl.val s)) ∧ w' = w.setCell ⟨b, 0, none⟩ (.string ⟨r.toArray⟩)) := by
  have hdig : Hid (∀ c ∈ s, Pl.isDig c = true) := by rw [← hs]; exact Pl.takeWhile_dig l
  have hlen : s.length ≤ maxLen := by
    rw [← hs]
    exact Nat.le_trans (List.takeWhile_prefix _).length_le hl
  unfold maxLen at hlen
  obtain ⟨x, t, rfl⟩ : ∃ x t, s = x :: t := by
    cases s with
    | nil => simp [Pl.bad] at hb
    | cons x t => exact ⟨x, t, rfl⟩
  have hx : x = 48 → t = [] := by
    intro e; subst e; simp [Pl.bad] at hb; exact hb
  have hlt' : t.length + 1 ≤ 2 ^ 63 - 1 := by simpa using hlen
  clear hb hlen
  have hcase : ((((⟨(x :: t).toArray⟩ : ByteArray)[0]'(Nat.succ_pos _)).toNat : Int) == 48) = false ∨ (((((⟨(x :: t).toArray⟩ : ByteArray)[0]'(Nat.succ_pos _)).toNat : Int) == 48) = true ∧ t.length ≤ 0) := by
    by_cases h : x = 48
    · right; refine ⟨?_, by rw [hx h]; exact Nat.le_refl _⟩
      show ((x.toNat : Int) == 48) = true
      rw [h]; rfl
    · left
      show ((x.toNat : Int) == 48) = false
      simp only [beq_eq_false_iff_ne, ne_eq]
      intro e; apply h; apply UInt8.toNat_inj.1; simp; omega
  clear hx
  rcases hcase with hq | ⟨hq, ht0⟩
  all_goals
    go_enter Tryz.func121, Tryz.ntmps121
    go_wp2_with (go_at_call 90; refine (run_any b l _ hc hf hl).mono ?_; rintro e w' ⟨rfl, rfl⟩; rw [hs, hr])
    clear hs hr hc
    go_loop [6, 25] (fun n i => ∃ k : Nat, k ≤ t.length + 1 ∧ i = .int .i64 k ∧ n = .int .i64 (Pl.val ((x :: t).take k)) ∧ Pl.val ((x :: t).take k) ≤ 1048576) (fun _ i => t.length + 1 - (intOf i).toNat)
    case atStart => exact ⟨0, Nat.zero_le _, rfl, rfl, by simp [Pl.val]⟩
    case round =>
      obtain ⟨k, hk, rfl, rfl, hv⟩ := hrel
      by_cases hlt : k < t.length + 1
      · have hm := val_take_succ (x :: t) k hlt
        have hdk := (Pl.dig_iff _).1 (hdig.out (x :: t)[k] (List.getElem_mem _))
        have hn0 : (48 : Int) ≤ (((⟨(x :: t).toArray⟩ : ByteArray)[k]'hlt).toNat : Int) := by have := hdk.1; show (48 : Int) ≤ ((x :: t)[k].toNat : Int); omega
        have hn1 : (((⟨(x :: t).toArray⟩ : ByteArray)[k]'hlt).toNat : Int) ≤ 57 := by have := hdk.2; show ((x :: t)[k].toNat : Int) ≤ 57; omega
        have hvn : (Pl.val ((x :: t).take k) : Int) * 10 + ((((⟨(x :: t).toArray⟩ : ByteArray)[k]'hlt).toNat : Int) - 48) = (Pl.val ((x :: t).take (k + 1)) : Int) := by
          rw [hm]; show (Pl.val ((x :: t).take k) : Int) * 10 + (((x :: t)[k].toNat : Int) - 48) = _; omega
        have HM : Hid _ := hvn
        clear hm hdk hvn
        go_wp2_with (go_at_call 45; refine (refuse_any _).mono ?_; rintro e w' ⟨rfl, rfl⟩)
        · have hmono := val_mono (x :: t) (k + 1)
          have hvn := HM.out
          refine ⟨rfl, Or.inl ⟨by omega, rfl, ?_⟩⟩
          exact (Below.refl _ _).setCell (p := ⟨b, 0, none⟩) (Nat.le_refl _) _
        · have hvn := HM.out
          refine ⟨⟨k + 1, hlt, by go_num, ?_, by omega⟩, by simp [intOf]; omega⟩
          rw [hvn]
      · have hall : (x :: t).take k = x :: t := List.take_of_length_le (by simp; omega)
        rw [hall] at hv
        rw [hall]
        clear hall
        go_wp2
        go_ret
        first | exact Or.inr ⟨hv, rfl, rfl⟩ | exact Or.inr ⟨rfl, rfl⟩

set_option maxHeartbeats 400000 in
theorem number_bad (b : Nat) (l s : List UInt8) (w : World) (hc : w.cell? ⟨b, 0, none⟩ = some (.string ⟨l.toArray⟩)) (hf : w.frozen? ⟨b, 0, none⟩ = false) (hl : l.length ≤ maxLen)
    (hs : l.takeWhile Pl.isDig = s) (hb : Pl.bad s = true) :
    Calls Tryz.prog 121 #[.pointer (some ⟨b, 0, none⟩), .int .i64 1048576] w fun e w' => e = .panicked [{ v := .iface 23 (.int .i64 1), recovered := false }] ∧ Below b w w' := by
  have hlen : s.length ≤ maxLen := by
    rw [← hs]
    exact Nat.le_trans (List.takeWhile_prefix _).length_le hl
  unfold maxLen at hlen
  cases s with
  | nil =>
    go_enter Tryz.func121, Tryz.ntmps121
    go_wp2_with (first | (go_at_call 90; refine (run_any b l _ hc hf hl).mono ?_; rintro e w' ⟨rfl, rfl⟩; rw [hs]) | (go_at_call 45; refine (refuse_any _).mono ?_; rintro e w' ⟨rfl, rfl⟩))
    exact ⟨rfl, rfl, (Below.refl _ _).setCell (p := ⟨b, 0, none⟩) (Nat.le_refl _) _⟩
  | cons x t =>
    obtain ⟨rfl, ht⟩ : x = 48 ∧ 1 ≤ t.length := by
      simp [Pl.bad] at hb
      exact ⟨hb.1, by cases t with | nil => simp at hb | cons => simp⟩
    have hlt' : t.length + 1 ≤ 2 ^ 63 - 1 := by simpa using hlen
    clear hlen hb
    have hq : ((((⟨(48 :: t).toArray⟩ : ByteArray)[0]'(Nat.succ_pos _)).toNat : Int) == 48) = true := rfl
    go_enter Tryz.func121, Tryz.ntmps121
    go_wp2_with (first | (go_at_call 90; refine (run_any b l _ hc hf hl).mono ?_; rintro e w' ⟨rfl, rfl⟩; rw [hs]) | (go_at_call 45; refine (refuse_any _).mono ?_; rintro e w' ⟨rfl, rfl⟩))
    exact ⟨rfl, rfl, (Below.refl _ _).setCell (p := ⟨b, 0, none⟩) (Nat.le_refl _) _⟩

/-- THE NUMBER, whatever stands there. -/
theorem number_any (b : Nat) (l : List UInt8) (w : World) (hc : w.cell? ⟨b, 0, none⟩ = some (.string ⟨l.toArray⟩)) (hf : w.frozen? ⟨b, 0, none⟩ = false) (hl : l.length ≤ maxLen) :
    Calls Tryz.prog 121 #[.pointer (some ⟨b, 0, none⟩), .int .i64 1048576] w fun e w' => (Pl.number l = none ∧ e = .panicked [{ v := .iface 23 (.int .i64 1), recovered := false }] ∧ Below b w w') ∨
      (∃ n r, Pl.number l = some (n, r) ∧ e = .returned (.int .i64 (n : Int)) ∧ w' = w.setCell ⟨b, 0, none⟩ (.string ⟨r.toArray⟩)) := by
  cases hb : Pl.bad (l.takeWhile Pl.isDig) with
  | true =>
    refine (number_bad b l _ w hc hf hl rfl hb).mono ?_
    rintro e w' ⟨rfl, h⟩
    exact Or.inl ⟨by simp [Pl.number, hb], rfl, h⟩
  | false =>
    refine (number_core b l _ _ w hc hf hl rfl rfl hb).mono ?_
    rintro e w' (⟨h1, rfl, h⟩ | ⟨h1, rfl, h⟩)
    · exact Or.inl ⟨by simp [Pl.number, hb, h1], rfl, h⟩
    · refine Or.inr ⟨_, _, ?_, rfl, h⟩
      simp only [Pl.number, hb]
      rw [if_neg (by simp), if_neg (by omega)]
end Go.Proofs.YtbfkopjpfkgjhaaGreatDoor.Nt
/-
  The strict reader's counts: a number with its sign, and a whole count.
-/
namespace Go.Proofs.YtbfkopjpfkgjhaaGreatDoor.Nt
open Go.RowKit

set_option maxHeartbeats 400000 in
theorem readNum_any (b : Nat) (m : Bool) (l : List UInt8) (w : World) (hc : w.cell? ⟨b, 0, none⟩ = some (.string ⟨l.toArray⟩)) (hf : w.frozen? ⟨b, 0, none⟩ = false) (hl : l.length ≤ maxLen) :
    Calls Tryz.prog 114 #[.pointer (some ⟨b, 0, none⟩), .bool m] w fun e w' => (Pl.readNum m l = none ∧ e = .panicked [{ v := .iface 23 (.int .i64 1), recovered := false }] ∧ Below b w w') ∨
      (∃ x r, Pl.readNum m l = some (x, r) ∧ e = .returned (.int .i64 x) ∧ w' = w.setCell ⟨b, 0, none⟩ (.string ⟨r.toArray⟩)) := by
  go_enter Tryz.func114, Tryz.ntmps114
  go_wp2_with fail
  refine (number_any b l _ hc hf hl).mono ?_
  rintro e w' (⟨h, rfl, hb⟩ | ⟨n, r, h, rfl, rfl⟩)
  · go_wp2
    exact ⟨rfl, Or.inl ⟨by simp [Pl.readNum, h], rfl, hb⟩⟩
  · have hb := ((Pl.number_iff _ _ _).1 h).2.1
    cases m with
    | false =>
      have hq : Hid (Pl.readNum false l = some ((n : Int), r)) := by simp [Hid, Pl.readNum, h]
      clear h
      go_wp2
      go_ret
      exact Or.inr ⟨_, _, hq, rfl, rfl⟩
    | true =>
      by_cases h0 : n = 0
      · have hq : Hid (Pl.readNum true l = none) := by simp [Hid, Pl.readNum, h, h0]
        subst h0
        clear h
        go_wp2_with (go_at_call 45; refine (refuse_any _).mono ?_; rintro e w' ⟨rfl, rfl⟩)
        exact ⟨rfl, Or.inl ⟨hq, rfl, (Below.refl _ _).setCell (p := ⟨b, 0, none⟩) (Nat.le_refl _) _⟩⟩
      · have hq : Hid (Pl.readNum true l = some (-(n : Int), r)) := by simp [Hid, Pl.readNum, h, h0]
        have hn : ((n : Int) == 0) = false := by simp; omega
        clear h
        go_wp2
        go_ret
        exact Or.inr ⟨_, _, hq, rfl, rfl⟩
end Go.Proofs.YtbfkopjpfkgjhaaGreatDoor.Nt
/-
  The strict reader's counts: a whole count.
-/
namespace Go.Proofs.YtbfkopjpfkgjhaaGreatDoor.Nt
open Go.RowKit

theorem left_len (c : UInt8) (l : List UInt8) : (Pl.left c l).length ≤ l.length := by
  cases l with
  | nil => simp [Pl.left]
  | cons x r => simp only [Pl.left]; split <;> simp
theorem readNum_len {m : Bool} {l r : List UInt8} {x : Int} (h : Pl.readNum m l = some (x, r)) : r.length ≤ l.length := by
  have := ((Pl.readNum_iff _ _ _ _).1 h).2.2.2
  rw [this]; simp

theorem step_world {w : World} {b : Nat} {u : Value} (v : Value) (hbs : b < w.heap.size) (hc : w.cell? ⟨b, 0, none⟩ = some u) (hf : w.frozen? ⟨b, 0, none⟩ = false) :
    ∃ w2, w.setCell ⟨b, 0, none⟩ v = w2 ∧ b < w2.heap.size ∧ w2.cell? ⟨b, 0, none⟩ = some v ∧ w2.frozen? ⟨b, 0, none⟩ = false ∧ w2.heap.size = w.heap.size ∧ Below b w w2 :=
  ⟨_, rfl, by simpa [World.setCell] using hbs, World.cell?_setCell_same _ _ _ hc, by rw [World.frozen?_setCell]; exact hf, by simp [World.setCell], (Below.refl _ _).setCell (p := ⟨b, 0, none⟩) (Nat.le_refl _) _⟩
theorem past_cell {w : World} {b : Nat} {u : Value} (o : Obj) (hbs : b < w.heap.size) (hc : w.cell? ⟨b, 0, none⟩ = some u) : (w.alloc o).cell? ⟨b, 0, none⟩ = some u := by
  rw [World.cell?_alloc_past _ _ _ hbs]; exact hc
theorem past_frozen {w : World} {b : Nat} (o : Obj) (hbs : b < w.heap.size) (hf : w.frozen? ⟨b, 0, none⟩ = false) : (w.alloc o).frozen? ⟨b, 0, none⟩ = false := by
  rw [World.frozen?_alloc_past _ _ _ hbs]; exact hf
theorem past_below {w w1 : World} {b : Nat} (o : Obj) (hbs : b < w.heap.size) (h : Below b (w.alloc o) w1) : Below b w w1 :=
  ((Below.refl _ _).alloc (Nat.le_of_lt hbs) _).trans h

set_option maxHeartbeats 400000 in
theorem readNth_any (b : Nat) (l : List UInt8) (w : World) (hbs : b < w.heap.size) (hc : w.cell? ⟨b, 0, none⟩ = some (.string ⟨l.toArray⟩)) (hf : w.frozen? ⟨b, 0, none⟩ = false) (hl : l.length ≤ maxLen) :
    Calls Tryz.prog 107 #[.pointer (some ⟨b, 0, none⟩)] w fun e w' => (Pl.readNth l = none ∧ e = .panicked [{ v := .iface 23 (.int .i64 1), recovered := false }] ∧ Below b w w') ∨
      (∃ x y r, Pl.readNth l = some (x, y, r) ∧ e = .returned (.agg #[.int .i64 x, .int .i64 y]) ∧ w'.cell? ⟨b, 0, none⟩ = some (.string ⟨r.toArray⟩) ∧ Below b w w') := by
  go_enter Tryz.func107, Tryz.ntmps107
  go_wp2_with fail
  refine (take_any b l 45 _ (past_cell _ hbs hc) (past_frozen _ hbs hf)).mono ?_
  rintro e w' ⟨rfl, rfl⟩
  go_wp2_with fail
  obtain ⟨w2, hw2, hbs2, hc2, hf2, hsz2, hB2⟩ := step_world (.string ⟨(Pl.left 45 l).toArray⟩) hbs hc hf
  rw [hw2]
  clear hw2 hc hf
  have hl2 : (Pl.left 45 l).length ≤ maxLen := Nat.le_trans (left_len _ _) hl
  refine (readNum_any b _ _ _ (past_cell _ hbs2 hc2) (past_frozen _ hbs2 hf2) hl2).mono ?_
  rintro e w' (⟨h, rfl, hb⟩ | ⟨x, r, h, rfl, rfl⟩)
  · go_wp2
    exact ⟨rfl, Or.inl ⟨by simp [Pl.readNth, h], rfl, hB2.trans (past_below _ hbs2 hb)⟩⟩
  have hl3 : r.length ≤ maxLen := Nat.le_trans (readNum_len h) hl2
  have H1 : Hid (Pl.readNth l = Pl.readRest x r) := by simp [Hid, Pl.readNth, h]
  have hbx := ((Pl.readNum_iff _ _ _ _).1 h).1
  clear h hl2
  obtain ⟨w3, hw3, hbs3, hc3, hf3, hsz3, hB3⟩ := step_world (.string ⟨r.toArray⟩) hbs2 hc2 hf2
  have hB3' := hB2.trans hB3
  have hsz3' := hsz3.trans hsz2
  clear hc2 hf2 hB3 hsz3
  go_wp2_with fail
  clear hw3 hB2 hsz2 hbs2
  have hl4 : (Pl.left 110 r).length ≤ maxLen := Nat.le_trans (left_len _ _) hl3
  cases h110 : Pl.took 110 r with
  | false =>
    refine (need_no b _ _ _ (past_cell _ hbs3 hc3) (past_frozen _ hbs3 hf3) h110).mono ?_
    rintro e w' ⟨rfl, hb⟩
    go_wp2
    exact ⟨rfl, Or.inl ⟨H1.out.trans (by simp [Pl.readRest, h110]), rfl, hB3'.trans (past_below _ hbs3 hb)⟩⟩
  | true =>
    refine (need_yes b _ _ _ (past_cell _ hbs3 hc3) (past_frozen _ hbs3 hf3) h110).mono ?_
    rintro e w' ⟨rfl, rfl⟩
    obtain ⟨w4, hw4, hbs4, hc4, hf4, hsz4, hB4⟩ := step_world (.string ⟨(Pl.left 110 r).toArray⟩) hbs3 hc3 hf3
    have hB4' := hB3'.trans hB4
    have hsz4' := hsz4.trans hsz3'
    clear hc3 hf3 hB4 hsz4 hB3'
    go_wp2_with fail
    clear hw4 hbs3 hsz3'
    refine (take_any b _ 45 _ (past_cell _ hbs4 hc4) (past_frozen _ hbs4 hf4)).mono ?_
    rintro e w' ⟨rfl, rfl⟩
    obtain ⟨w5, hw5, hbs5, hc5, hf5, hsz5, hB5⟩ := step_world (.string ⟨(Pl.left 45 (Pl.left 110 r)).toArray⟩) hbs4 hc4 hf4
    have hB5' := hB4'.trans hB5
    have hsz5' := hsz5.trans hsz4'
    clear hc4 hf4 hB5 hsz5 hB4'
    cases h45 : Pl.took 45 (Pl.left 110 r) with
    | true =>
      have hl5 : (Pl.left 45 (Pl.left 110 r)).length ≤ maxLen := Nat.le_trans (left_len _ _) hl4
      have H2 : Hid (Pl.readNth l = (Pl.readNum true (Pl.left 45 (Pl.left 110 r))).map fun p => (x, p.1, p.2)) := H1.out.trans (by simp [Pl.readRest, h110, h45])
      go_wp2_with fail
      refine (readNum_any b _ _ _ (past_cell _ hbs5 hc5) (past_frozen _ hbs5 hf5) hl5).mono ?_
      rintro e w' (⟨h, rfl, hb⟩ | ⟨y, r', h, rfl, rfl⟩)
      · go_wp2
        exact ⟨rfl, Or.inl ⟨by rw [H2.out, h]; rfl, rfl, hB5'.trans (past_below _ hbs5 hb)⟩⟩
      obtain ⟨w6, hw6, hbs6, hc6, hf6, hsz6, hB6⟩ := step_world (.string ⟨r'.toArray⟩) hbs5 hc5 hf5
      have hB6' := hB5'.trans hB6
      have hsz6' := hsz6.trans hsz5'
      clear hc5 hf5 hB6 hsz6 hB5'
      have H3 : Hid (Pl.readNth l = some (x, y, r')) := by rw [Hid, H2.out, h]; rfl
      clear h hsz4' hbs4 h110 h45 H1 H2
      go_wp2_with fail
      exact bodyPost_ret (v := .agg #[.int .i64 x, .int .i64 y]) (by simp [results, Tryz.results107, go_sem, hsz6']) rfl (Or.inr ⟨x, y, r', H3.out, rfl, past_cell _ hbs6 hc6, hB6'.alloc (Nat.le_of_lt hbs6) _⟩)
    | false =>
      rw [Pl.left_not h45] at hw5 hc5
      rw [Pl.left_not h45]
      have hl5 : (Pl.left 43 (Pl.left 110 r)).length ≤ maxLen := Nat.le_trans (left_len _ _) hl4
      go_wp2_with fail
      cases h43 : Pl.took 43 (Pl.left 110 r) with
      | false =>
        refine (need_no b _ _ _ (past_cell _ hbs5 hc5) (past_frozen _ hbs5 hf5) h43).mono ?_
        rintro e w' ⟨rfl, hb⟩
        go_wp2
        exact ⟨rfl, Or.inl ⟨H1.out.trans (by simp [Pl.readRest, h110, h45, h43]), rfl, hB5'.trans (past_below _ hbs5 hb)⟩⟩
      | true =>
        have H2 : Hid (Pl.readNth l = (Pl.readNum false (Pl.left 43 (Pl.left 110 r))).map fun p => (x, p.1, p.2)) := H1.out.trans (by simp [Pl.readRest, h110, h45, h43])
        refine (need_yes b _ _ _ (past_cell _ hbs5 hc5) (past_frozen _ hbs5 hf5) h43).mono ?_
        rintro e w' ⟨rfl, rfl⟩
        obtain ⟨w7, hw7, hbs7, hc7, hf7, hsz7, hB7⟩ := step_world (.string ⟨(Pl.left 43 (Pl.left 110 r)).toArray⟩) hbs5 hc5 hf5
        have hB7' := hB5'.trans hB7
        have hsz7' := hsz7.trans hsz5'
        clear hc5 hf5 hB7 hsz7 hB5' h110 h45 h43 hw5 H1
        go_wp2_with fail
        clear hw7 hbs5 hsz5' hbs4 hsz4'
        refine (readNum_any b _ _ _ (past_cell _ hbs7 hc7) (past_frozen _ hbs7 hf7) hl5).mono ?_
        rintro e w' (⟨h, rfl, hb⟩ | ⟨y, r', h, rfl, rfl⟩)
        · go_wp2
          exact ⟨rfl, Or.inl ⟨by rw [H2.out, h]; rfl, rfl, hB7'.trans (past_below _ hbs7 hb)⟩⟩
        obtain ⟨w6, hw6, hbs6, hc6, hf6, hsz6, hB6⟩ := step_world (.string ⟨r'.toArray⟩) hbs7 hc7 hf7
        have hB6' := hB7'.trans hB6
        have hsz6' := hsz6.trans hsz7'
        clear hc7 hf7 hB6 hsz6 hB7'
        have H3 : Hid (Pl.readNth l = some (x, y, r')) := by rw [Hid, H2.out, h]; rfl
        clear h H2
        go_wp2_with fail
        exact bodyPost_ret (v := .agg #[.int .i64 x, .int .i64 y]) (by simp [results, Tryz.results107, go_sem, hsz6']) rfl (Or.inr ⟨x, y, r', H3.out, rfl, past_cell _ hbs6 hc6, hB6'.alloc (Nat.le_of_lt hbs6) _⟩)
end Go.Proofs.YtbfkopjpfkgjhaaGreatDoor.Nt
/-
  The strict reader as a whole: what its rule refuses is recovered, and told as an error.
-/
namespace Go.Proofs.YtbfkopjpfkgjhaaGreatDoor.Nt
open Go.RowKit

theorem caught (g r : Nat) (x y z : Int) (older : List PanicEntry) (w : World) (hg : g < w.heap.size) (hr : r < w.heap.size) (hgr : g ≠ r)
    (c0 : w.cell? ⟨g, 0, none⟩ = some (.int .i64 x)) (c1 : w.cell? ⟨g, 1, none⟩ = some (.int .i64 y)) (c2 : w.cell? ⟨r, 0, none⟩ = some (.int .i64 z))
    (f0 : w.frozen? ⟨g, 0, none⟩ = false) (f1 : w.frozen? ⟨g, 1, none⟩ = false) (f2 : w.frozen? ⟨r, 0, none⟩ = false) :
    CallsD Tryz.prog 113 #[.pointer (some ⟨g, 0, none⟩), .pointer (some ⟨r, 0, none⟩)] (.panicking ({ v := .iface 23 (.int .i64 1), recovered := false } :: older)) w fun e u' w' =>
      e = .returned (.tuple #[]) ∧ u' = .panicking ({ v := .iface 23 (.int .i64 1), recovered := true } :: older) ∧ w' = (((w.setCell ⟨g, 0, none⟩ (.int .i64 0)).setCell ⟨g, 1, none⟩ (.int .i64 0)).setCell ⟨r, 0, none⟩ (.int .i64 1)).alloc (.cells #[.int .i64 0, .int .i64 0] 59) := by
  refine callsD_of_wpS Tryz.func113 rfl fun c₀ cs hu => ?_
  apply wpS_seq
  apply wpS_region
  simp [wpOpsS, go_sem, recoverD, hu, Tryz.ntmps113, Exit.thenS]
  refine wpS_cond (t := true) (by simp [Act.eval, Array.replicate]) ?_
  simp only [if_true]
  refine wpS_of_wp ?_
  have ht : (#[Value.pointer (some { block := g, off := 0 }), Value.pointer (some { block := r, off := 0 })] ++
          ((Array.replicate 4 undef).setIfInBounds 1 (Value.iface 23 (Value.int IntKind.i64 1))).setIfInBounds 2 (Value.bool true)) =
      #[Value.pointer (some { block := g, off := 0 }), Value.pointer (some { block := r, off := 0 }), undef, Value.iface 23 (Value.int IntKind.i64 1), Value.bool true, undef] := rfl
  rw [ht]
  clear ht
  go_wp2
  exact ⟨rfl, _, rfl, _, by simp [results, Tryz.results113], rfl, rfl, rfl⟩

theorem idle (g r : Nat) (w : World) :
    CallsD Tryz.prog 113 #[.pointer (some ⟨g, 0, none⟩), .pointer (some ⟨r, 0, none⟩)] .returning w fun e u' w' => e = .returned (.tuple #[]) ∧ u' = .returning ∧ w' = w := by
  refine callsD_of_wpS Tryz.func113 rfl fun c₀ cs hu => ?_
  apply wpS_seq
  apply wpS_region
  simp [wpOpsS, go_sem, recoverD, hu, Tryz.ntmps113, Exit.thenS]
  refine wpS_cond (t := false) (by simp [Act.eval, Array.replicate]) ?_
  simp only [Bool.false_eq_true, if_false]
  refine wpS_of_wp (wp_skip ?_)
  cases c₀
  simp_all [bodyPostS, results, Tryz.results113]

theorem still_some {w : World} {a : Addr} (b : Addr) (v : Value) (h : ∃ u, w.cell? a = some u) : ∃ u, (w.setCell b v).cell? a = some u := by
  obtain ⟨u, hu⟩ := h
  by_cases e : b = a
  · subst e; exact ⟨v, World.cell?_setCell_same _ _ _ hu⟩
  · exact ⟨u, by rw [World.cell?_setCell_other _ _ _ _ e]; exact hu⟩
theorem set_same {w : World} {a : Addr} (v : Value) (h : ∃ u, w.cell? a = some u) : (w.setCell a v).cell? a = some v := by
  obtain ⟨u, hu⟩ := h
  exact World.cell?_setCell_same _ _ _ hu
theorem caught_cells (g r : Nat) (x y z : Int) (older : List PanicEntry) (w : World) (hg : g < w.heap.size) (hr : r < w.heap.size) (hgr : g < r)
    (c0 : w.cell? ⟨g, 0, none⟩ = some (.int .i64 x)) (c1 : w.cell? ⟨g, 1, none⟩ = some (.int .i64 y)) (c2 : w.cell? ⟨r, 0, none⟩ = some (.int .i64 z))
    (f0 : w.frozen? ⟨g, 0, none⟩ = false) (f1 : w.frozen? ⟨g, 1, none⟩ = false) (f2 : w.frozen? ⟨r, 0, none⟩ = false) :
    CallsD Tryz.prog 113 #[.pointer (some ⟨g, 0, none⟩), .pointer (some ⟨r, 0, none⟩)] (.panicking ({ v := .iface 23 (.int .i64 1), recovered := false } :: older)) w fun e u' w' =>
      e = .returned (.tuple #[]) ∧ u' = .panicking ({ v := .iface 23 (.int .i64 1), recovered := true } :: older) ∧
      w'.cell? ⟨g, 0, none⟩ = some (.int .i64 0) ∧ w'.cell? ⟨g, 1, none⟩ = some (.int .i64 0) ∧ w'.cell? ⟨r, 0, none⟩ = some (.int .i64 1) ∧ Below g w w' := by
  refine (caught g r x y z older w hg hr (by omega) c0 c1 c2 f0 f1 f2).mono ?_
  rintro e u' w' ⟨rfl, rfl, rfl⟩
  have n1 : (⟨r, 0, none⟩ : Addr) ≠ ⟨g, 0, none⟩ := by intro e; injection e; omega
  have n2 : (⟨r, 0, none⟩ : Addr) ≠ ⟨g, 1, none⟩ := by simp
  have n3 : (⟨g, 1, none⟩ : Addr) ≠ ⟨g, 0, none⟩ := by simp
  refine ⟨rfl, rfl, ?_, ?_, ?_, ?_⟩
  · rw [World.cell?_alloc_past _ _ _ (by simpa [World.setCell] using hg), World.cell?_setCell_other _ _ _ _ n1, World.cell?_setCell_other _ _ _ _ n3]
    exact set_same _ ⟨_, c0⟩
  · rw [World.cell?_alloc_past _ _ _ (by simpa [World.setCell] using hg), World.cell?_setCell_other _ _ _ _ n2]
    exact set_same _ (still_some _ _ ⟨_, c1⟩)
  · rw [World.cell?_alloc_past _ _ _ (by simpa [World.setCell] using hr)]
    exact set_same _ (still_some _ _ (still_some _ _ ⟨_, c2⟩))
  · refine Below.alloc ((((Below.refl _ _).setCell (p := ⟨g, 0, none⟩) (Nat.le_refl _) _).setCell (p := ⟨g, 1, none⟩) (Nat.le_refl _) _).setCell (p := ⟨r, 0, none⟩) (Nat.le_of_lt hgr) _) ?_ _
    simp [World.setCell]; omega
theorem two_boxes (w w1 : World) (o : Obj)
    (hb : Below (w.heap.size + 1 + 1) (((w.alloc (.cells #[.int .i64 0, .int .i64 0] 59)).alloc (.cells #[.int .i64 0] 23)).alloc o) w1) :
    (w1.cell? ⟨w.heap.size, 0, none⟩ = some (.int .i64 0) ∧ w1.cell? ⟨w.heap.size, 1, none⟩ = some (.int .i64 0) ∧ w1.cell? ⟨w.heap.size + 1, 0, none⟩ = some (.int .i64 0)) ∧
    (w1.frozen? ⟨w.heap.size, 0, none⟩ = false ∧ w1.frozen? ⟨w.heap.size, 1, none⟩ = false ∧ w1.frozen? ⟨w.heap.size + 1, 0, none⟩ = false) ∧
    w.heap.size + 1 < w1.heap.size ∧ Below w.heap.size w w1 := by
  have hs := hb.size
  simp at hs
  refine ⟨⟨?_, ?_, ?_⟩, ⟨?_, ?_, ?_⟩, by omega, ?_⟩
  · rw [hb.cell (p := ⟨w.heap.size, 0, none⟩) (by simp; omega)]; simp [go_sem]
  · rw [hb.cell (p := ⟨w.heap.size, 1, none⟩) (by simp; omega)]; simp [go_sem]
  · rw [hb.cell (p := ⟨w.heap.size + 1, 0, none⟩) (by simp)]; simp [go_sem]
  · rw [hb.frozen (p := ⟨w.heap.size, 0, none⟩) (by simp; omega)]; simp [go_sem]
  · rw [hb.frozen (p := ⟨w.heap.size, 1, none⟩) (by simp; omega)]; simp [go_sem]
  · rw [hb.frozen (p := ⟨w.heap.size + 1, 0, none⟩) (by simp)]; simp [go_sem]
  · exact ((((Below.refl _ _).alloc (Nat.le_refl _) _).alloc (by simp) _).alloc (by simp; omega) _).trans (hb.mono (by omega))

set_option maxHeartbeats 400000 in
theorem whole_some (l : List UInt8) (x y : Int) (w : World) (hl : l.length ≤ maxLen) (h : Pl.read l = some (x, y)) :
    Calls Tryz.prog 106 #[.string ⟨l.toArray⟩, .func (.func 107) #[] #[]] w fun e w' => e = .returned (.tuple #[.agg #[.int .i64 x, .int .i64 y], .int .i64 0]) ∧ Below w.heap.size w w' := by
  have hmf : ∀ (fn : Fn) (first cap : Array Value) (w : World), (Instr.makeFunc fn first cap).run Tryz.prog w = .ok (.func fn first cap) w := fun _ _ _ _ => rfl
  have hr : Pl.readNth l = some (x, y, []) := by
    unfold Pl.read at h
    split at h
    · rename_i a b hr
      simp only [Option.some.injEq, Prod.mk.injEq] at h
      rw [hr, h.1, h.2]
    · cases h
  clear h
  go_enter_defers Tryz.func106, Tryz.ntmps106
  go_wp2_with fail
  refine (readNth_any _ l _ (by simp) (by simp [go_sem]) (by simp [go_sem]) hl).mono ?_
  rintro e w1 (⟨h, rfl, hb⟩ | ⟨x', y', r', h, rfl, hc, hb⟩)
  · rw [hr] at h; cases h
  rw [hr] at h
  simp only [Option.some.injEq, Prod.mk.injEq] at h
  obtain ⟨rfl, rfl, rfl⟩ := h
  obtain ⟨⟨c0, c1, c2⟩, ⟨f0, f1, f2⟩, hsz, hB⟩ := two_boxes w w1 _ hb
  clear hb hr
  go_wp2
  refine leaves_cons (f := 113) (args := #[.pointer (some ⟨w.heap.size, 0, none⟩), .pointer (some ⟨w.heap.size + 1, 0, none⟩)]) (by simp) (by simp [go_sem]) ?_
  refine (idle _ _ _).mono ?_
  rintro e u' w'' ⟨rfl, rfl, rfl⟩
  have e1 := set_same (a := ⟨w.heap.size, 1, none⟩) (.int .i64 y) (still_some ⟨w.heap.size, 0, none⟩ (.int .i64 x) (still_some ⟨w.heap.size, 1, none⟩ (.int .i64 y) (still_some ⟨w.heap.size, 0, none⟩ (.int .i64 x) ⟨_, c1⟩)))
  have e2 := set_same (a := ⟨w.heap.size + 1, 0, none⟩) (.int .i64 0) (still_some ⟨w.heap.size, 1, none⟩ (.int .i64 y) (still_some ⟨w.heap.size, 0, none⟩ (.int .i64 x) (still_some ⟨w.heap.size, 1, none⟩ (.int .i64 y) (still_some ⟨w.heap.size, 0, none⟩ (.int .i64 x) ⟨_, c2⟩))))
  simp [Leaves, settle, results, Tryz.results106, go_sem, c0, e1, e2]
  exact ((((hB.setCell (p := ⟨w.heap.size, 0, none⟩) (Nat.le_refl _) _).setCell (p := ⟨w.heap.size, 1, none⟩) (Nat.le_refl _) _).setCell (p := ⟨w.heap.size, 0, none⟩) (Nat.le_refl _) _).setCell (p := ⟨w.heap.size, 1, none⟩) (Nat.le_refl _) _).setCell (p := ⟨w.heap.size + 1, 0, none⟩) (Nat.le_succ _) _

set_option maxHeartbeats 400000 in
theorem whole_none (l : List UInt8) (w : World) (hl : l.length ≤ maxLen) (h : Pl.read l = none) :
    Calls Tryz.prog 106 #[.string ⟨l.toArray⟩, .func (.func 107) #[] #[]] w fun e w' => e = .returned (.tuple #[.agg #[.int .i64 0, .int .i64 0], .int .i64 1]) ∧ Below w.heap.size w w' := by
  have hmf : ∀ (fn : Fn) (first cap : Array Value) (w : World), (Instr.makeFunc fn first cap).run Tryz.prog w = .ok (.func fn first cap) w := fun _ _ _ _ => rfl
  go_enter_defers Tryz.func106, Tryz.ntmps106
  go_wp2_with fail
  refine (readNth_any _ l _ (by simp) (by simp [go_sem]) (by simp [go_sem]) hl).mono ?_
  rintro e w1 (⟨hn, rfl, hb⟩ | ⟨x, y, r, hn, rfl, hc, hb⟩)
  · obtain ⟨⟨c0, c1, c2⟩, ⟨f0, f1, f2⟩, hsz, hB⟩ := two_boxes w w1 _ hb
    clear hb hn h
    go_wp2
    refine leaves_cons (f := 113) (args := #[.pointer (some ⟨w.heap.size, 0, none⟩), .pointer (some ⟨w.heap.size + 1, 0, none⟩)]) (by simp) (by simp [go_sem]) ?_
    refine (caught_cells _ _ 0 0 0 [] _ (by omega) (by omega) (by omega) c0 c1 c2 f0 f1 f2).mono ?_
    rintro e u' w'' ⟨rfl, rfl, d0, d1, d2, hb2⟩
    simp [Leaves, settle, results, Tryz.results106, go_sem, d0, d1, d2]
    exact hB.trans hb2
  · have hne : ∃ c t, r = c :: t := by
      cases r with
      | nil => simp [Pl.read, hn] at h
      | cons c t => exact ⟨c, t, rfl⟩
    obtain ⟨c, t, rfl⟩ := hne
    obtain ⟨⟨c0, c1, c2⟩, ⟨f0, f1, f2⟩, hsz, hB⟩ := two_boxes w w1 _ hb
    clear hb hn h
    go_wp2_with (go_at_call 45; refine (refuse_any _).mono ?_; rintro e w' ⟨rfl, rfl⟩)
    refine leaves_cons (f := 113) (args := #[.pointer (some ⟨w.heap.size, 0, none⟩), .pointer (some ⟨w.heap.size + 1, 0, none⟩)]) (by simp) (by simp [go_sem]) ?_
    have n1 : (⟨w.heap.size, 1, none⟩ : Addr) ≠ ⟨w.heap.size, 0, none⟩ := by simp
    have n2 : (⟨w.heap.size, 1, none⟩ : Addr) ≠ ⟨w.heap.size + 1, 0, none⟩ := by simp
    have n3 : (⟨w.heap.size, 0, none⟩ : Addr) ≠ ⟨w.heap.size + 1, 0, none⟩ := by simp
    have g0 : ((w1.setCell ⟨w.heap.size, 0, none⟩ (.int .i64 x)).setCell ⟨w.heap.size, 1, none⟩ (.int .i64 y)).cell? ⟨w.heap.size, 0, none⟩ = some (.int .i64 x) := by
      rw [World.cell?_setCell_other _ _ _ _ n1]; exact set_same _ ⟨_, c0⟩
    have g1 : ((w1.setCell ⟨w.heap.size, 0, none⟩ (.int .i64 x)).setCell ⟨w.heap.size, 1, none⟩ (.int .i64 y)).cell? ⟨w.heap.size, 1, none⟩ = some (.int .i64 y) := set_same _ (still_some _ _ ⟨_, c1⟩)
    have g2 : ((w1.setCell ⟨w.heap.size, 0, none⟩ (.int .i64 x)).setCell ⟨w.heap.size, 1, none⟩ (.int .i64 y)).cell? ⟨w.heap.size + 1, 0, none⟩ = some (.int .i64 0) := by
      rw [World.cell?_setCell_other _ _ _ _ n2, World.cell?_setCell_other _ _ _ _ n3]; exact c2
    refine (caught_cells _ _ x y 0 [] _ (by simp [World.setCell]; omega) (by simp [World.setCell]; omega) (by omega) g0 g1 g2 (by simp [f0]) (by simp [f1]) (by simp [f2])).mono ?_
    rintro e u' w'' ⟨rfl, rfl, d0, d1, d2, hb2⟩
    simp [Leaves, settle, results, Tryz.results106, go_sem, d0, d1, d2]
    exact ((hB.setCell (p := ⟨w.heap.size, 0, none⟩) (Nat.le_refl _) _).setCell (p := ⟨w.heap.size, 1, none⟩) (Nat.le_refl _) _).trans hb2

theorem one_box (w w1 : World) (hb : Below (w.heap.size + 1) (w.alloc (.cells #[.int .i64 0, .int .i64 0] 59)) w1) :
    (w1.cell? ⟨w.heap.size, 0, none⟩ = some (.int .i64 0) ∧ w1.cell? ⟨w.heap.size, 1, none⟩ = some (.int .i64 0)) ∧
    (w1.frozen? ⟨w.heap.size, 0, none⟩ = false ∧ w1.frozen? ⟨w.heap.size, 1, none⟩ = false) ∧ Below w.heap.size w w1 := by
  refine ⟨⟨?_, ?_⟩, ⟨?_, ?_⟩, ?_⟩
  · rw [hb.cell (p := ⟨w.heap.size, 0, none⟩) (by simp)]; simp [go_sem]
  · rw [hb.cell (p := ⟨w.heap.size, 1, none⟩) (by simp)]; simp [go_sem]
  · rw [hb.frozen (p := ⟨w.heap.size, 0, none⟩) (by simp)]; simp [go_sem]
  · rw [hb.frozen (p := ⟨w.heap.size, 1, none⟩) (by simp)]; simp [go_sem]
  · exact ((Below.refl _ _).alloc (Nat.le_refl _) _).trans (hb.mono (by omega))

/-- nth.Read, out of what is read as a whole. -/
theorem read_of (l : List UInt8) (x y ev : Int) (w : World)
    (hw : Hid (∀ W, Calls Tryz.prog 106 #[.string ⟨l.toArray⟩, .func (.func 107) #[] #[]] W fun e w' => e = .returned (.tuple #[.agg #[.int .i64 x, .int .i64 y], .int .i64 ev]) ∧ Below W.heap.size W w')) :
    Calls Tryz.prog 102 #[.string ⟨l.toArray⟩] w fun e w' => e = .returned (.tuple #[.agg #[.int .i64 x, .int .i64 y], .int .i64 ev]) ∧ Below w.heap.size w w' := by
  go_enter Tryz.func102, Tryz.ntmps102
  go_wp2_with fail
  refine (hw.out _).mono ?_
  rintro e w1 ⟨rfl, hb⟩
  obtain ⟨⟨c0, c1⟩, ⟨f0, f1⟩, hB⟩ := one_box w w1 (by simpa using hb)
  clear hb
  go_wp2
  have e1 := set_same (a := ⟨w.heap.size, 1, none⟩) (.int .i64 y) (still_some ⟨w.heap.size, 0, none⟩ (.int .i64 x) ⟨_, c1⟩)
  exact bodyPost_ret (v := .tuple #[.agg #[.int .i64 x, .int .i64 y], .int .i64 ev]) (by simp [results, Tryz.results102, go_sem, c0, e1]) rfl
    ⟨rfl, (hB.setCell (p := ⟨w.heap.size, 0, none⟩) (Nat.le_refl _) _).setCell (p := ⟨w.heap.size, 1, none⟩) (Nat.le_refl _) _⟩
theorem read_some (l : List UInt8) (x y : Int) (w : World) (hl : l.length ≤ maxLen) (h : Pl.read l = some (x, y)) :
    Calls Tryz.prog 102 #[.string ⟨l.toArray⟩] w fun e w' => e = .returned (.tuple #[.agg #[.int .i64 x, .int .i64 y], .int .i64 0]) ∧ Below w.heap.size w w' :=
  read_of l x y 0 w fun W => whole_some l x y W hl h
theorem read_none (l : List UInt8) (w : World) (hl : l.length ≤ maxLen) (h : Pl.read l = none) :
    Calls Tryz.prog 102 #[.string ⟨l.toArray⟩] w fun e w' => e = .returned (.tuple #[.agg #[.int .i64 0, .int .i64 0], .int .i64 1]) ∧ Below w.heap.size w w' :=
  read_of l 0 0 1 w fun W => whole_none l W hl h
end Go.Proofs.YtbfkopjpfkgjhaaGreatDoor.Nt
/-
  Counts: whether one is right, of what it holds, and how it is shown.
-/
namespace Go.Proofs.YtbfkopjpfkgjhaaGreatDoor.Nt
open Go.RowKit

theorem grown_below (w : World) (k : Nat) (os : Array Obj) : Below w.heap.size w (Sort.grow (w.drewN k) os) :=
  ⟨rfl, rfl, rfl, by simp [Sort.grow], fun i hi => by
    simp only [Sort.grow]
    rw [Array.getElem?_append_left (by simpa using hi)]; rfl⟩

theorem gPow : Tryz.prog.globalNamed "internal/strconv.uint64pow10" = some 2 := by kernel_rfl
theorem tab_later {w : World} (h : Lib.TabIs Tryz.prog w "internal/strconv.uint64pow10" .u64 Lib.pow10Tab) : ∀ w', Below w.heap.size w w' → Lib.TabIs Tryz.prog w' "internal/strconv.uint64pow10" .u64 Lib.pow10Tab :=
  fun _ hb => Joins.tab_stays gPow h hb (Nat.le_refl _)

namespace Pl
def inBB (n : Int) : Bool := decide (-1048576 ≤ n) && decide (n ≤ 1048576)
theorem inBB_iff (n : Int) : inBB n = true ↔ inB n := by simp [inBB, inB]
/-- what one holds of, as it is reckoned -/
def holds (a b i : Int) : Bool :=
  inBB a && inBB b && decide (1 ≤ i) && decide (i ≤ 1073741824) && (if a = 0 then (i - b == 0) else ((i - b).tmod a == 0 && decide (0 ≤ (i - b).tdiv a)))
end Pl

set_option maxHeartbeats 400000 in
theorem inBounds_any (n : Int) (w : World) :
    Calls Tryz.prog 76 #[.int .i64 n] w fun e w' => e = .returned (.bool (Pl.inBB n)) ∧ w' = w := by
  by_cases h1 : -1048576 ≤ n
  · by_cases h2 : n ≤ 1048576
    · have hh : Pl.inBB n = true := by simp [Pl.inBB]; omega
      go_enter Tryz.func76, Tryz.ntmps76
      go_wp2
      go_ret
      exact ⟨by first | rfl | (rw [hh]; rfl), rfl⟩
    · have hh : Pl.inBB n = false := by simp [Pl.inBB]; omega
      go_enter Tryz.func76, Tryz.ntmps76
      go_wp2
      go_ret
      exact ⟨by first | rfl | (rw [hh]; rfl), rfl⟩
  · have hh : Pl.inBB n = false := by simp [Pl.inBB]; omega
    go_enter Tryz.func76, Tryz.ntmps76
    go_wp2
    go_ret
    exact ⟨by first | rfl | (rw [hh]; rfl), rfl⟩

set_option maxHeartbeats 400000 in
theorem check_ok (a b : Int) (w : World) (ha : Pl.inBB a = true) (hb : Pl.inBB b = true) :
    Calls Tryz.prog 57 #[.agg #[.int .i64 a, .int .i64 b]] w fun e w' => e = .returned (.int .i64 0) ∧ Below w.heap.size w w' := by
  go_enter Tryz.func57, Tryz.ntmps57
  go_wp2_with (go_at_call 76; refine (inBounds_any _ _).mono ?_; rintro e w' ⟨rfl, rfl⟩)
  go_ret
  exact ⟨rfl, (Below.refl _ _).alloc (Nat.le_refl _) _⟩
set_option maxHeartbeats 400000 in
theorem check_no (a b : Int) (w : World) (h : (Pl.inBB a && Pl.inBB b) = false) :
    Calls Tryz.prog 57 #[.agg #[.int .i64 a, .int .i64 b]] w fun e w' => e = .returned (.int .i64 3) ∧ Below w.heap.size w w' := by
  cases ha : Pl.inBB a with
  | false =>
    clear h
    go_enter Tryz.func57, Tryz.ntmps57
    go_wp2_with (go_at_call 76; refine (inBounds_any _ _).mono ?_; rintro e w' ⟨rfl, rfl⟩)
    go_ret
    exact ⟨rfl, (Below.refl _ _).alloc (Nat.le_refl _) _⟩
  | true =>
    have hb : Pl.inBB b = false := by rw [ha] at h; simpa using h
    clear h
    go_enter Tryz.func57, Tryz.ntmps57
    go_wp2_with (go_at_call 76; refine (inBounds_any _ _).mono ?_; rintro e w' ⟨rfl, rfl⟩)
    go_ret
    exact ⟨rfl, (Below.refl _ _).alloc (Nat.le_refl _) _⟩

theorem box_cells (w w1 : World) (a b : Int) (hb : Below (w.heap.size + 1) (w.alloc (.cells #[.int .i64 a, .int .i64 b] 59)) w1) :
    (w1.cell? ⟨w.heap.size, 0, none⟩ = some (.int .i64 a) ∧ w1.cell? ⟨w.heap.size, 1, none⟩ = some (.int .i64 b)) ∧ Below w.heap.size w w1 ∧ w.heap.size + 1 ≤ w1.heap.size := by
  refine ⟨⟨?_, ?_⟩, ?_, ?_⟩
  · rw [hb.cell (p := ⟨w.heap.size, 0, none⟩) (by simp)]; simp [go_sem]
  · rw [hb.cell (p := ⟨w.heap.size, 1, none⟩) (by simp)]; simp [go_sem]
  · exact ((Below.refl _ _).alloc (Nat.le_refl _) _).trans (hb.mono (by omega))
  · have := hb.size; simpa using this

set_option maxHeartbeats 400000 in
theorem show_no (a b : Int) (w : World) (h : (Pl.inBB a && Pl.inBB b) = false) :
    Calls Tryz.prog 80 #[.agg #[.int .i64 a, .int .i64 b]] w fun e w' => e = .returned (.tuple #[.string ⟨#[]⟩, .int .i64 3]) ∧ Below w.heap.size w w' := by
  go_enter Tryz.func80, Tryz.ntmps80
  go_wp2_with fail
  refine (check_no a b _ h).mono ?_
  rintro e w1 ⟨rfl, hb⟩
  obtain ⟨⟨c0, c1⟩, hB, _⟩ := box_cells w w1 a b (by simpa using hb)
  clear hb
  go_wp2
  go_ret2
  exact ⟨rfl, hB⟩

set_option maxHeartbeats 400000 in
theorem show_ok (a b : Int) (w : World) (ha : Pl.inBB a = true) (hb : Pl.inBB b = true) (hT : Lib.TabIs Tryz.prog w "internal/strconv.uint64pow10" .u64 Lib.pow10Tab) :
    Calls Tryz.prog 80 #[.agg #[.int .i64 a, .int .i64 b]] w fun e w' => e = .returned (.tuple #[.string ⟨(Pl.shown a b).toArray⟩, .int .i64 0]) ∧ Below w.heap.size w w' := by
  have hBa := (Pl.inBB_iff a).1 ha
  have hBb := (Pl.inBB_iff b).1 hb
  have HT : Hid (∀ w', Below w.heap.size w w' → Lib.TabIs Tryz.prog w' "internal/strconv.uint64pow10" .u64 Lib.pow10Tab) := tab_later hT
  clear hT
  go_enter Tryz.func80, Tryz.ntmps80
  go_wp2_with fail
  refine (check_ok a b _ ha hb).mono ?_
  rintro e w1 ⟨rfl, hb1⟩
  obtain ⟨⟨c0, c1⟩, hB, hz⟩ := box_cells w w1 a b (by simpa using hb1)
  clear hb1
  go_wp2_with fail
  refine (Tryz.strconv_Itoa a (by have := hBa.1; omega) (by have := hBa.2; omega) _ (HT.out _ hB)).mono ?_
  rintro e w2 ⟨rfl, k, os, rfl⟩
  have hb2 := grown_below w1 k os
  generalize Sort.grow (w1.drewN k) os = w2 at *
  have d1 : w2.cell? ⟨w.heap.size, 1, none⟩ = some (.int .i64 b) := by rw [hb2.cell (p := ⟨w.heap.size, 1, none⟩) (by show w.heap.size < _; omega)]; exact c1
  have hB2 : Below w.heap.size w w2 := hB.trans (hb2.mono (by omega))
  clear hb2 c0 c1 hB
  have la := Lib.itoa_length_le a (by have := hBa.1; omega) (by have := hBa.2; omega)
  have lb := Lib.itoa_length_le b (by have := hBb.1; omega) (by have := hBb.2; omega)
  by_cases h0 : 0 ≤ b
  · have HS : Hid (({ data := (Lib.itoa a).toArray } : ByteArray) ++ { data := #[110] } ++ { data := #[43] } ++ { data := (Lib.itoa b).toArray } = ⟨(Pl.shown a b).toArray⟩) := by
      unfold Hid; rw [Pl.shown, if_pos h0]; apply ByteArray.ext; simp
    go_wp2_with fail
    refine (Tryz.strconv_Itoa b (by have := hBb.1; omega) (by have := hBb.2; omega) _ (HT.out _ hB2)).mono ?_
    rintro e w3 ⟨rfl, k3, os3, rfl⟩
    have hb3 := grown_below w2 k3 os3
    generalize Sort.grow (w2.drewN k3) os3 = w3 at *
    have hB3 : Below w.heap.size w w3 := hB2.trans (hb3.mono hB2.size)
    clear hb3 d1
    go_wp2
    go_ret2
    exact ⟨by rw [← HS.out]; rfl, hB3⟩
  · have HS : Hid (({ data := (Lib.itoa a).toArray } : ByteArray) ++ { data := #[110] } ++ { data := (Lib.itoa b).toArray } = ⟨(Pl.shown a b).toArray⟩) := by
      unfold Hid; rw [Pl.shown, if_neg h0]; apply ByteArray.ext; simp
    go_wp2_with fail
    refine (Tryz.strconv_Itoa b (by have := hBb.1; omega) (by have := hBb.2; omega) _ (HT.out _ hB2)).mono ?_
    rintro e w3 ⟨rfl, k3, os3, rfl⟩
    have hb3 := grown_below w2 k3 os3
    generalize Sort.grow (w2.drewN k3) os3 = w3 at *
    have hB3 : Below w.heap.size w w3 := hB2.trans (hb3.mono hB2.size)
    clear hb3 d1
    go_wp2
    go_ret2
    exact ⟨by rw [← HS.out]; rfl, hB3⟩
end Go.Proofs.YtbfkopjpfkgjhaaGreatDoor.Nt
