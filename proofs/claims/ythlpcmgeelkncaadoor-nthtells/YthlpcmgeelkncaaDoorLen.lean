/-
  The document's own reader of counts: whatever can't be is left standing.
-/
import Derived.Test.YthlpcmgeelkncaaDoorRef
namespace Go.Proofs.YthlpcmgeelkncaaDoor
open Go.RowKit

namespace Pl
/-- what there is of a number, of few digits -/
def lnum : Nat → Nat → List UInt8 → Nat × List UInt8
  | 0, n, l => (n, l)
  | _ + 1, n, [] => (n, [])
  | f + 1, n, c :: l => if isDig c = true then lnum f (10 * n + (c.toNat - 48)) l else (n, c :: l)
/-- what there is of a count -/
def lnth (l : List UInt8) : Int × Int :=
  let p := lnum 8 0 (left 45 l)
  let a : Int := if took 45 l = true then -(p.1 : Int) else (p.1 : Int)
  let r := left 110 p.2
  let q := lnum 8 0 (left 43 (left 45 r))
  (a, if took 45 r = true then -(q.1 : Int) else (q.1 : Int))
theorem lnum_app : ∀ (l r : List UInt8) (f n : Nat), (∀ c ∈ l, isDig c = true) → noDig r = true → l.length ≤ f → lnum f n (l ++ r) = (l.foldl (fun n c => n * 10 + (c.toNat - 48)) n, r)
  | [], r, f, n, _, hr, _ => by
    cases f with
    | zero => rfl
    | succ f =>
      cases r with
      | nil => rfl
      | cons x r => simp only [noDig, Bool.not_eq_true'] at hr; simp [lnum, hr]
  | c :: l, r, f, n, hd, hr, hf => by
    cases f with
    | zero => simp at hf
    | succ f =>
      have hc := hd c (by simp)
      have := lnum_app l r f (10 * n + (c.toNat - 48)) (fun x hx => hd x (List.mem_cons_of_mem _ hx)) hr (by simpa using hf)
      simp only [List.cons_append, lnum, hc, if_true, this, List.foldl_cons]
      rw [Nat.mul_comm]
theorem dec_len8 (n : Nat) (h : n ≤ 1048576) : (Lib.decDigits n).length ≤ 8 := by
  rw [Lib.decDigits_length]
  have : ∀ k u : Nat, u < 10 ^ (k + 1) → Lib.nDigits u ≤ k + 1 := by
    intro k
    induction k with
    | zero => intro u hu; rw [Lib.nDigits_small (by simpa using hu)]; exact Nat.le_refl _
    | succ k ih =>
      intro u hu
      by_cases h : u < 10
      · rw [Lib.nDigits_small h]; omega
      · rw [Lib.nDigits_big h]
        have := ih (u / 10) (by rw [Nat.pow_succ] at hu; omega)
        omega
  exact this 7 n (by omega)
theorem lnum_dec (n : Nat) (h : n ≤ 1048576) (r : List UInt8) (hr : noDig r = true) : lnum 8 0 (Lib.decDigits n ++ r) = (n, r) := by
  rw [lnum_app _ _ _ _ (dec_dig n) hr (dec_len8 n h)]
  have := val_dec n
  unfold val at this
  rw [this]
theorem took_ne {c d : UInt8} (h : d ≠ c) (r : List UInt8) : took c (d :: r) = false ∧ left c (d :: r) = d :: r := by simp [took, left, h]
/-- WHAT IS SHOWN IS WHAT THERE IS OF IT. -/
theorem lnth_shown {a b : Int} (ha : inB a) (hb : inB b) : lnth (shown a b) = (a, b) := by
  obtain ⟨a1, a2⟩ := ha
  obtain ⟨b1, b2⟩ := hb
  have key : ∀ (r : List UInt8) (x : Int), -1048576 ≤ x → x ≤ 1048576 → noDig r = true →
      (if took 45 (Lib.itoa x ++ r) = true then -((lnum 8 0 (left 45 (Lib.itoa x ++ r))).1 : Int) else ((lnum 8 0 (left 45 (Lib.itoa x ++ r))).1 : Int)) = x ∧ (lnum 8 0 (left 45 (Lib.itoa x ++ r))).2 = r := by
    intro r x x1 x2 hr
    by_cases hx : x < 0
    · rw [itoa_neg hx, List.cons_append, (took_cons 45 _).1, (took_cons 45 _).2, lnum_dec x.natAbs (by omega) r hr]
      simp; omega
    · have ht := took_dec 45 (by decide) x.natAbs r
      rw [itoa_pos (by omega), left_not ht, ht, lnum_dec x.natAbs (by omega) r hr]
      simp; omega
  have e : shown a b = Lib.itoa a ++ (110 :: ((if 0 ≤ b then [43] else []) ++ Lib.itoa b)) := by simp [shown]
  obtain ⟨k1, k2⟩ := key (110 :: ((if 0 ≤ b then [43] else []) ++ Lib.itoa b)) a a1 a2 (by simp [noDig, isDig])
  unfold lnth
  simp only
  rw [e, k1, k2, (took_cons 110 _).2]
  congr 1
  by_cases hb0 : 0 ≤ b
  · rw [if_pos hb0, List.singleton_append, (took_ne (by decide) _).1, (took_ne (by decide) _).2, (took_cons 43 _).2, itoa_pos hb0]
    have := lnum_dec b.natAbs (by omega) [] rfl
    rw [List.append_nil] at this
    rw [this]; simp; omega
  · rw [if_neg hb0, List.nil_append, itoa_neg (by omega), (took_cons 45 _).1, (took_cons 45 _).2]
    have ht := took_dec 43 (by decide) b.natAbs []
    rw [List.append_nil] at ht
    have := lnum_dec b.natAbs (by omega) [] rfl
    rw [List.append_nil] at this
    rw [left_not ht, this]; simp; omega
end Pl
end Go.Proofs.YthlpcmgeelkncaaDoor
