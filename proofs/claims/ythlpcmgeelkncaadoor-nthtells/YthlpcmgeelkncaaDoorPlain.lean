/-
  Plain laws of numerals and of counts' texts: what is read by the strict reader is just what is shown. No program in this text.
-/
import Derived.Lib.ItoaNum
namespace Go.Proofs.YthlpcmgeelkncaaDoor.Pl

def isDig (c : UInt8) : Bool := decide (48 ≤ c.toNat) && decide (c.toNat ≤ 57)
def val (l : List UInt8) : Nat := l.foldl (fun n c => n * 10 + (c.toNat - 48)) 0
/-- no digits, or a 0 ahead of others -/
def bad (s : List UInt8) : Bool := s.isEmpty || (s.head? == some 48 && decide (1 < s.length))
def number (l : List UInt8) : Option (Nat × List UInt8) :=
  if bad (l.takeWhile isDig) = true then none else if 1048576 < val (l.takeWhile isDig) then none else some (val (l.takeWhile isDig), l.dropWhile isDig)
def readNum (minus : Bool) (l : List UInt8) : Option (Int × List UInt8) :=
  match number l with
  | none => none
  | some (n, r) => if minus = true then (if n = 0 then none else some (-(n : Int), r)) else some ((n : Int), r)
def took (c : UInt8) : List UInt8 → Bool
  | [] => false
  | x :: _ => x == c
def left (c : UInt8) : List UInt8 → List UInt8
  | [] => []
  | x :: r => if x == c then r else x :: r
def readRest (a : Int) (r : List UInt8) : Option (Int × Int × List UInt8) :=
  if took 110 r = true then
    (if took 45 (left 110 r) = true then (readNum true (left 45 (left 110 r))).map fun p => (a, p.1, p.2)
     else if took 43 (left 110 r) = true then (readNum false (left 43 (left 110 r))).map fun p => (a, p.1, p.2)
     else none)
  else none
def readNth (l : List UInt8) : Option (Int × Int × List UInt8) :=
  match readNum (took 45 l) (left 45 l) with
  | none => none
  | some (a, r) => readRest a r
def read (l : List UInt8) : Option (Int × Int) :=
  match readNth l with
  | some (a, b, []) => some (a, b)
  | _ => none
def inB (n : Int) : Prop := -1048576 ≤ n ∧ n ≤ 1048576
def shown (a b : Int) : List UInt8 := Lib.itoa a ++ [110] ++ (if 0 ≤ b then [43] else []) ++ Lib.itoa b

theorem val_snoc (l : List UInt8) (c : UInt8) : val (l ++ [c]) = val l * 10 + (c.toNat - 48) := by simp [val]
theorem dig_iff (c : UInt8) : isDig c = true ↔ 48 ≤ c.toNat ∧ c.toNat ≤ 57 := by simp [isDig]

theorem toNat_ofNat {n : Nat} (h : n < 256) : (UInt8.ofNat n).toNat = n := by
  rw [UInt8.toNat_ofNat']; exact Nat.mod_eq_of_lt h
theorem val_dec (u : Nat) : val (Lib.decDigits u) = u := by
  induction u using Nat.strongRecOn with
  | _ u ih =>
    by_cases h : u < 10
    · rw [Lib.decDigits, dif_pos h]; simp [val]; omega
    · rw [Lib.decDigits, dif_neg h, val_snoc, ih (u / 10) (by omega), toNat_ofNat (by omega)]; omega
theorem dec_dig (u : Nat) : ∀ c ∈ Lib.decDigits u, isDig c = true := by
  induction u using Nat.strongRecOn with
  | _ u ih =>
    intro c hc
    by_cases h : u < 10
    · rw [Lib.decDigits, dif_pos h] at hc
      simp only [List.mem_singleton] at hc
      subst hc; rw [dig_iff, toNat_ofNat (by omega)]; omega
    · rw [Lib.decDigits, dif_neg h, List.mem_append, List.mem_singleton] at hc
      rcases hc with hc | hc
      · exact ih (u / 10) (by omega) c hc
      · subst hc; rw [dig_iff, toNat_ofNat (by omega)]; omega
theorem dec_ne (u : Nat) : Lib.decDigits u ≠ [] := by
  intro h
  have := Lib.decDigits_length u
  rw [h] at this
  have := Lib.nDigits_pos u
  simp at *
  omega
theorem dec_head (u : Nat) (h : 0 < u) : (Lib.decDigits u).head? ≠ some 48 := by
  induction u using Nat.strongRecOn with
  | _ u ih =>
    by_cases h10 : u < 10
    · rw [Lib.decDigits, dif_pos h10]
      simp only [List.head?_cons, ne_eq, Option.some.injEq]
      intro e
      have := congrArg UInt8.toNat e
      rw [toNat_ofNat (by omega)] at this
      simp at this; omega
    · rw [Lib.decDigits, dif_neg h10]
      have h1 := ih (u / 10) (by omega) (by omega)
      have h2 := dec_ne (u / 10)
      cases hd : Lib.decDigits (u / 10) with
      | nil => exact absurd hd h2
      | cons x r => rw [hd] at h1; simpa using h1
theorem not_bad_dec (u : Nat) : bad (Lib.decDigits u) = false := by
  unfold bad
  have h2 := dec_ne u
  by_cases h : 0 < u
  · have h1 := dec_head u h
    cases hd : Lib.decDigits u with
    | nil => exact absurd hd h2
    | cons x r => rw [hd] at h1; simp at h1; simp [h1]
  · obtain rfl : u = 0 := by omega
    rw [Lib.decDigits_one (by omega)]; decide

theorem snoc_ind {P : List UInt8 → Prop} (h0 : P []) (h1 : ∀ l c, P l → P (l ++ [c])) (l : List UInt8) : P l := by
  have h : ∀ r : List UInt8, P r.reverse := by
    intro r
    induction r with
    | nil => exact h0
    | cons c r ih => rw [List.reverse_cons]; exact h1 _ _ ih
  simpa using h l.reverse
theorem val_pos : ∀ (l : List UInt8), (∀ c ∈ l, isDig c = true) → ∀ x r, l = x :: r → x ≠ 48 → 0 < val l := by
  intro l
  refine snoc_ind (P := fun l => (∀ c ∈ l, isDig c = true) → ∀ x r, l = x :: r → x ≠ 48 → 0 < val l) ?_ ?_ l
  · intro _ x r h; simp at h
  · intro l c ih hd x r he hx
    rw [val_snoc]
    cases l with
    | nil =>
      simp only [List.nil_append, List.cons.injEq] at he
      obtain ⟨rfl, rfl⟩ := he
      have := (dig_iff c).1 (hd c (by simp))
      have : c.toNat ≠ 48 := fun e => hx (UInt8.toNat_inj.1 (by simpa using e))
      omega
    | cons y t =>
      simp only [List.cons_append, List.cons.injEq] at he
      have := ih (fun c hc => hd c (by simp at hc ⊢; rcases hc with rfl | hc <;> simp_all)) y t rfl (by rw [he.1]; exact hx)
      omega
theorem dec_val : ∀ (l : List UInt8), (∀ c ∈ l, isDig c = true) → bad l = false → Lib.decDigits (val l) = l := by
  intro l
  refine snoc_ind (P := fun l => (∀ c ∈ l, isDig c = true) → bad l = false → Lib.decDigits (val l) = l) ?_ ?_ l
  · intro _ h; simp [bad] at h
  · intro l c ih hd hb
    have hc := (dig_iff c).1 (hd c (by simp))
    have hcc : UInt8.ofNat (48 + (c.toNat - 48)) = c := by
      apply UInt8.toNat_inj.1; rw [toNat_ofNat (by omega)]; omega
    rw [val_snoc]
    cases l with
    | nil =>
      rw [show val [] = 0 from rfl, Lib.decDigits_one (by omega)]
      simp only [Nat.zero_mul, Nat.zero_add, List.nil_append]
      rw [hcc]
    | cons y t =>
      have hd' : ∀ x ∈ y :: t, isDig x = true := fun x hx => hd x (List.mem_append_left _ hx)
      have hy : y ≠ 48 := by
        intro e; subst e; simp [bad] at hb
      have hv := val_pos (y :: t) hd' y t rfl hy
      have hb' : bad (y :: t) = false := by simp [bad, hy]
      rw [Lib.decDigits, dif_neg (by omega)]
      have e1 : (val (y :: t) * 10 + (c.toNat - 48)) / 10 = val (y :: t) := by omega
      have e2 : (val (y :: t) * 10 + (c.toNat - 48)) % 10 = c.toNat - 48 := by omega
      rw [e1, e2, ih hd' hb', hcc]

/-- no digit opens it -/
def noDig : List UInt8 → Bool
  | [] => true
  | x :: _ => !isDig x
theorem take_app : ∀ (l r : List UInt8), (∀ c ∈ l, isDig c = true) → noDig r = true → (l ++ r).takeWhile isDig = l ∧ (l ++ r).dropWhile isDig = r
  | [], [], _, _ => by simp
  | [], x :: r, _, h => by
    simp only [noDig, Bool.not_eq_true'] at h
    simp [h]
  | y :: l, r, hd, h => by
    have := take_app l r (fun c hc => hd c (List.mem_cons_of_mem _ hc)) h
    have hy := hd y (by simp)
    simp [hy, this]
theorem noDig_drop : ∀ (l : List UInt8), noDig (l.dropWhile isDig) = true
  | [] => rfl
  | x :: l => by
    rw [List.dropWhile_cons]
    by_cases h : isDig x = true
    · rw [if_pos h]; exact noDig_drop l
    · rw [if_neg h]; simpa [noDig] using h
theorem takeWhile_dig : ∀ (l : List UInt8), ∀ c ∈ l.takeWhile isDig, isDig c = true
  | [], c, h => by simp at h
  | x :: l, c, h => by
    rw [List.takeWhile_cons] at h
    by_cases hx : isDig x = true
    · rw [if_pos hx, List.mem_cons] at h
      rcases h with rfl | h
      · exact hx
      · exact takeWhile_dig l c h
    · rw [if_neg hx] at h; simp at h

theorem number_iff (l : List UInt8) (n : Nat) (r : List UInt8) : number l = some (n, r) ↔ l = Lib.decDigits n ++ r ∧ n ≤ 1048576 ∧ noDig r = true := by
  constructor
  · intro h
    unfold number at h
    split at h
    · simp at h
    · rename_i hb
      split at h
      · simp at h
      · rename_i hv
        simp only [Option.some.injEq, Prod.mk.injEq] at h
        obtain ⟨rfl, rfl⟩ := h
        refine ⟨?_, by omega, noDig_drop l⟩
        rw [dec_val _ (takeWhile_dig l) (by simpa using hb), List.takeWhile_append_dropWhile]
  · rintro ⟨rfl, hn, hr⟩
    obtain ⟨h1, h2⟩ := take_app (Lib.decDigits n) r (dec_dig n) hr
    unfold number
    rw [h1, h2, val_dec, not_bad_dec]
    simp; omega

theorem readNum_iff (m : Bool) (l : List UInt8) (x : Int) (r : List UInt8) : readNum m l = some (x, r) ↔
    inB x ∧ noDig r = true ∧ (m = true ∧ x < 0 ∨ m = false ∧ 0 ≤ x) ∧ l = Lib.decDigits x.natAbs ++ r := by
  constructor
  · intro h
    unfold readNum at h
    cases hn : number l with
    | none => rw [hn] at h; simp at h
    | some p =>
      obtain ⟨n, r'⟩ := p
      rw [hn] at h
      obtain ⟨rfl, hle, hr⟩ := (number_iff l n r').1 hn
      cases m with
      | true =>
        simp only [if_true] at h
        by_cases h0 : n = 0
        · simp [h0] at h
        · simp only [if_neg h0, Option.some.injEq, Prod.mk.injEq] at h
          obtain ⟨rfl, rfl⟩ := h
          refine ⟨⟨by omega, by omega⟩, hr, Or.inl ⟨rfl, by omega⟩, ?_⟩
          rw [show (-(n : Int)).natAbs = n by omega]
      | false =>
        simp only [Bool.false_eq_true, if_false, Option.some.injEq, Prod.mk.injEq] at h
        obtain ⟨rfl, rfl⟩ := h
        refine ⟨⟨by omega, by omega⟩, hr, Or.inr ⟨rfl, by omega⟩, ?_⟩
        rw [show ((n : Int)).natAbs = n by omega]
  · rintro ⟨⟨h1, h2⟩, hr, hm, rfl⟩
    have hn := (number_iff (Lib.decDigits x.natAbs ++ r) x.natAbs r).2 ⟨rfl, by omega, hr⟩
    unfold readNum
    rw [hn]
    rcases hm with ⟨rfl, hx⟩ | ⟨rfl, hx⟩
    · simp only [if_true]
      rw [if_neg (by omega)]
      simp; omega
    · simp; omega

theorem took_iff (c : UInt8) (l : List UInt8) : took c l = true ↔ l = c :: left c l := by
  cases l with
  | nil => simp [took, left]
  | cons x r =>
    by_cases h : x = c
    · subst h; simp [took, left]
    · simp [took, left, h]
theorem left_not {c : UInt8} {l : List UInt8} (h : took c l = false) : left c l = l := by
  cases l with
  | nil => rfl
  | cons x r => simp only [took] at h; simp [left, h]
theorem took_cons (c : UInt8) (r : List UInt8) : took c (c :: r) = true ∧ left c (c :: r) = r := by simp [took, left]
theorem dec_cons (n : Nat) : ∃ x r, Lib.decDigits n = x :: r ∧ isDig x = true := by
  cases h : Lib.decDigits n with
  | nil => exact absurd h (dec_ne n)
  | cons x r => exact ⟨x, r, rfl, dec_dig n x (by simp [h])⟩
theorem took_dec (c : UInt8) (hc : isDig c = false) (n : Nat) (r : List UInt8) : took c (Lib.decDigits n ++ r) = false := by
  obtain ⟨x, t, h, hx⟩ := dec_cons n
  rw [h]
  simp only [List.cons_append, took, beq_eq_false_iff_ne]
  intro e; subst e; rw [hx] at hc; cases hc
theorem itoa_neg {a : Int} (h : a < 0) : Lib.itoa a = 45 :: Lib.decDigits a.natAbs := by rw [Lib.itoa, if_pos h]
theorem itoa_pos {a : Int} (h : 0 ≤ a) : Lib.itoa a = Lib.decDigits a.natAbs := by
  rw [Lib.itoa, if_neg (by omega)]; congr 1; omega

/-- the first number, whatever stands behind it -/
theorem readA_iff (l : List UInt8) (a : Int) (r : List UInt8) : readNum (took 45 l) (left 45 l) = some (a, r) ↔ inB a ∧ noDig r = true ∧ l = Lib.itoa a ++ r := by
  rw [readNum_iff]
  constructor
  · rintro ⟨hb, hr, hm, hl⟩
    refine ⟨hb, hr, ?_⟩
    rcases hm with ⟨hm, ha⟩ | ⟨hm, ha⟩
    · rw [itoa_neg ha, (took_iff 45 l).1 hm, hl]; rfl
    · rw [itoa_pos ha, ← hl, left_not hm]
  · rintro ⟨hb, hr, rfl⟩
    by_cases ha : a < 0
    · rw [itoa_neg ha, List.cons_append, (took_cons 45 _).1, (took_cons 45 _).2]
      exact ⟨hb, hr, Or.inl ⟨rfl, ha⟩, rfl⟩
    · have ht := took_dec 45 (by decide) a.natAbs r
      rw [itoa_pos (by omega), left_not ht, ht]
      exact ⟨hb, hr, Or.inr ⟨rfl, by omega⟩, rfl⟩
theorem readRest_iff (a : Int) (r : List UInt8) (b : Int) (t : List UInt8) : readRest a r = some (a, b, t) ↔
    inB b ∧ noDig t = true ∧ r = [110] ++ (if 0 ≤ b then [43] else []) ++ Lib.itoa b ++ t := by
  constructor
  · intro h
    unfold readRest at h
    split at h
    · rename_i h1
      have e1 := (took_iff 110 r).1 h1
      split at h
      · rename_i h2
        have e2 := (took_iff 45 _).1 h2
        cases hn : readNum true (left 45 (left 110 r)) with
        | none => rw [hn] at h; simp at h
        | some p =>
          rw [hn] at h
          simp only [Option.map_some, Option.some.injEq, Prod.mk.injEq, true_and] at h
          obtain ⟨x, y⟩ := p
          obtain ⟨rfl, rfl⟩ := h
          obtain ⟨hb, hr, hm, hl⟩ := (readNum_iff _ _ _ _).1 hn
          simp only [true_and, Bool.true_eq_false, false_and, or_false] at hm
          refine ⟨hb, hr, ?_⟩
          rw [e1, e2, hl]
          simp only at hm ⊢
          rw [if_neg (by omega), itoa_neg hm]; simp
      · rename_i h2
        split at h
        · rename_i h3
          have e2 := (took_iff 43 _).1 h3
          cases hn : readNum false (left 43 (left 110 r)) with
          | none => rw [hn] at h; simp at h
          | some p =>
            rw [hn] at h
            simp only [Option.map_some, Option.some.injEq, Prod.mk.injEq, true_and] at h
            obtain ⟨x, y⟩ := p
            obtain ⟨rfl, rfl⟩ := h
            obtain ⟨hb, hr, hm, hl⟩ := (readNum_iff _ _ _ _).1 hn
            simp only [true_and, Bool.false_eq_true, false_and, false_or] at hm
            refine ⟨hb, hr, ?_⟩
            rw [e1, e2, hl]
            simp only at hm ⊢
            rw [if_pos hm, itoa_pos hm]; simp
        · simp at h
    · simp at h
  · rintro ⟨hb, ht, rfl⟩
    unfold readRest
    simp only [List.append_assoc, List.cons_append, List.nil_append]
    rw [if_pos (took_cons 110 _).1, (took_cons 110 _).2]
    by_cases h : 0 ≤ b
    · rw [if_pos h, itoa_pos h, List.cons_append, List.nil_append, if_neg (by simp [took]), if_pos (took_cons 43 _).1, (took_cons 43 _).2,
        (readNum_iff false _ b t).2 ⟨hb, ht, Or.inr ⟨rfl, h⟩, rfl⟩]
      rfl
    · rw [if_neg h, itoa_neg (by omega), List.nil_append, List.cons_append, if_pos (took_cons 45 _).1, (took_cons 45 _).2,
        (readNum_iff true _ b t).2 ⟨hb, ht, Or.inl ⟨rfl, by omega⟩, rfl⟩]
      rfl
theorem readRest_fst {a a' b : Int} {r t : List UInt8} (h : readRest a r = some (a', b, t)) : a' = a := by
  unfold readRest at h
  split at h
  · split at h
    · cases hn : readNum true (left 45 (left 110 r)) <;> rw [hn] at h <;> simp at h; exact h.1.symm
    · split at h
      · cases hn : readNum false (left 43 (left 110 r)) <;> rw [hn] at h <;> simp at h; exact h.1.symm
      · simp at h
  · simp at h
theorem noDig_110 (l : List UInt8) : noDig (110 :: l) = true := by simp [noDig, isDig]

/-- WHAT IS READ IS JUST WHAT IS SHOWN. -/
theorem read_iff (l : List UInt8) (a b : Int) : read l = some (a, b) ↔ inB a ∧ inB b ∧ l = shown a b := by
  constructor
  · intro h
    unfold read at h
    split at h
    · rename_i a' b' hr
      simp only [Option.some.injEq, Prod.mk.injEq] at h
      obtain ⟨rfl, rfl⟩ := h
      unfold readNth at hr
      split at hr
      · simp at hr
      · rename_i a2 r hn
        obtain rfl := readRest_fst hr
        obtain ⟨ha, hr1, hl⟩ := (readA_iff _ _ _).1 hn
        obtain ⟨hb, _, hr2⟩ := (readRest_iff _ _ _ _).1 hr
        refine ⟨ha, hb, ?_⟩
        rw [hl, hr2, shown]; simp
    · simp at h
  · rintro ⟨ha, hb, rfl⟩
    have h2 := (readRest_iff a ([110] ++ (if 0 ≤ b then [43] else []) ++ Lib.itoa b ++ []) b []).2 ⟨hb, rfl, rfl⟩
    have h1 := (readA_iff (shown a b) a ([110] ++ (if 0 ≤ b then [43] else []) ++ Lib.itoa b ++ [])).2 ⟨ha, by simp [noDig, isDig], by simp [shown]⟩
    unfold read readNth
    rw [h1]
    simp only
    rw [h2]
end Go.Proofs.YthlpcmgeelkncaaDoor.Pl
