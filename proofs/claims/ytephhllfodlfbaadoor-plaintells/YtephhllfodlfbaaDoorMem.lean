/-
  Documents in plain lists: names, values, right elements, where elements hang. No program in this text.
-/
import Derived.Lib.Strings
import GoSem.Op.String
import Derived.Test.YtephhllfodlfbaaDoorProg
import Derived.WalkKit
import Derived.WalkSpells
import Derived.WalkLawsBesides
import Derived.ProofKit
namespace Go.Proofs.YtephhllfodlfbaaDoor.Pl

def isDig (c : UInt8) : Bool := decide (48 ≤ c.toNat) && decide (c.toNat ≤ 57)
def isLet (c : UInt8) : Bool := decide (97 ≤ c.toNat) && decide (c.toNat ≤ 122)
def isNB (c : UInt8) : Bool := isLet c || isDig c || (c.toNat == 45)
def isVB (c : UInt8) : Bool := decide (32 ≤ c.toNat) && decide (c.toNat ≤ 126) && !(c.toNat == 34)
def headLet : List UInt8 → Bool
  | [] => false
  | c :: _ => isLet c
def isName (l : List UInt8) : Bool := decide (1 ≤ l.length) && decide (l.length ≤ 12) && headLet l && l.all isNB
def isValue (l : List UInt8) : Bool := decide (l.length ≤ 16) && l.all isVB
def rise : List (List UInt8) → Bool
  | a :: b :: r => Op.bytesLess a b && rise (b :: r)
  | _ => true
/-- an element -/
structure Nd where
  up : Int
  tag : List UInt8
  id : List UInt8
  cls : List (List UInt8)
  ats : List (List UInt8 × List UInt8)
def names (most : Nat) (l : List (List UInt8)) : Bool := decide (l.length ≤ most) && l.all isName && rise l
def right (x : Nd) : Bool :=
  isName x.tag && (x.id.isEmpty || isName x.id) && names 6 x.cls && names 4 (x.ats.map (·.1)) && x.ats.all (fun a => isValue a.2)
end Go.Proofs.YtephhllfodlfbaaDoor.Pl
/-
  Names and values, as the program and the document's answer tell them.
-/
namespace Go.Proofs.YtephhllfodlfbaaDoor
open Go.RowKit

set_option maxHeartbeats 400000 in
theorem isLetter_any (c : UInt8) (w : World) :
    Calls Tryd.prog 62 #[.int .u8 c.toNat] w fun e w' => e = .returned (.bool (Pl.isLet c)) ∧ w' = w := by
  have hc := c.toNat_lt
  by_cases h1 : (97 : Int) ≤ (c.toNat : Int)
  · by_cases h2 : (c.toNat : Int) ≤ 122
    · have hh : Pl.isLet c = true := by simp [Pl.isLet]; omega
      go_enter Tryd.func62, Tryd.ntmps62
      go_wp2
      go_ret
      exact ⟨by first | rfl | (rw [hh]; rfl), rfl⟩
    · have hh : Pl.isLet c = false := by simp [Pl.isLet]; omega
      go_enter Tryd.func62, Tryd.ntmps62
      go_wp2
      go_ret
      exact ⟨by first | rfl | (rw [hh]; rfl), rfl⟩
  · have hh : Pl.isLet c = false := by simp [Pl.isLet]; omega
    go_enter Tryd.func62, Tryd.ntmps62
    go_wp2
    go_ret
    exact ⟨by first | rfl | (rw [hh]; rfl), rfl⟩
set_option maxHeartbeats 400000 in
theorem isDigit_any (c : UInt8) (w : World) :
    Calls Tryd.prog 70 #[.int .u8 c.toNat] w fun e w' => e = .returned (.bool (Pl.isDig c)) ∧ w' = w := by
  have hc := c.toNat_lt
  by_cases h1 : (48 : Int) ≤ (c.toNat : Int)
  · by_cases h2 : (c.toNat : Int) ≤ 57
    · have hh : Pl.isDig c = true := by simp [Pl.isDig]; omega
      go_enter Tryd.func70, Tryd.ntmps70
      go_wp2
      go_ret
      exact ⟨by first | rfl | (rw [hh]; rfl), rfl⟩
    · have hh : Pl.isDig c = false := by simp [Pl.isDig]; omega
      go_enter Tryd.func70, Tryd.ntmps70
      go_wp2
      go_ret
      exact ⟨by first | rfl | (rw [hh]; rfl), rfl⟩
  · have hh : Pl.isDig c = false := by simp [Pl.isDig]; omega
    go_enter Tryd.func70, Tryd.ntmps70
    go_wp2
    go_ret
    exact ⟨by first | rfl | (rw [hh]; rfl), rfl⟩
set_option maxHeartbeats 400000 in
theorem isNameByte_any (c : UInt8) (w : World) :
    Calls Tryd.prog 63 #[.int .u8 c.toNat] w fun e w' => e = .returned (.bool (Pl.isNB c)) ∧ w' = w := by
  cases h1 : Pl.isLet c with
  | true =>
    have hh : Pl.isNB c = true := by simp [Pl.isNB, h1]
    go_enter Tryd.func63, Tryd.ntmps63
    go_wp2_with (first | (go_at_call 62; refine (isLetter_any _ _).mono ?_; rintro e w' ⟨rfl, rfl⟩) | (go_at_call 70; refine (isDigit_any _ _).mono ?_; rintro e w' ⟨rfl, rfl⟩))
    go_ret
    exact ⟨by first | rfl | (rw [hh]; rfl), rfl⟩
  | false =>
    cases h2 : Pl.isDig c with
    | true =>
      have hh : Pl.isNB c = true := by simp [Pl.isNB, h1, h2]
      go_enter Tryd.func63, Tryd.ntmps63
      go_wp2_with (first | (go_at_call 62; refine (isLetter_any _ _).mono ?_; rintro e w' ⟨rfl, rfl⟩) | (go_at_call 70; refine (isDigit_any _ _).mono ?_; rintro e w' ⟨rfl, rfl⟩))
      go_ret
      exact ⟨by first | rfl | (rw [hh]; rfl), rfl⟩
    | false =>
      have HH : Hid (Pl.isNB c = ((c.toNat : Int) == 45)) := by
        unfold Hid; rw [Pl.isNB, h1, h2, Bool.eq_iff_iff]; simp; omega
      go_enter Tryd.func63, Tryd.ntmps63
      go_wp2_with (first | (go_at_call 62; refine (isLetter_any _ _).mono ?_; rintro e w' ⟨rfl, rfl⟩) | (go_at_call 70; refine (isDigit_any _ _).mono ?_; rintro e w' ⟨rfl, rfl⟩))
      go_ret
      exact ⟨by rw [HH.out]; rfl, rfl⟩

theorem all_succ {p : UInt8 → Bool} (l : List UInt8) (k : Nat) (h : k < l.length) (h1 : (l.take k).all p = true) (h2 : p l[k] = true) : (l.take (k + 1)).all p = true := by
  rw [List.take_succ_eq_append_getElem h, List.all_append, h1]; simp [h2]
theorem all_not {p : UInt8 → Bool} (l : List UInt8) (k : Nat) (h : k < l.length) (h2 : p l[k] = false) : l.all p = false := by
  rw [List.all_eq_false]; exact ⟨l[k], List.getElem_mem h, by simp [h2]⟩

set_option maxHeartbeats 400000 in
theorem isName_any (l : List UInt8) (w : World) :
    Calls Tryd.prog 49 #[.string ⟨l.toArray⟩] w fun e w' => e = .returned (.bool (Pl.isName l)) ∧ w' = w := by
  by_cases h0 : l.length < 1
  · have hh : Pl.isName l = false := by
      have : ¬ 1 ≤ l.length := by omega
      simp [Pl.isName, this]
    go_enter Tryd.func49, Tryd.ntmps49
    go_wp2
    go_ret
    exact ⟨by first | rfl | (rw [hh]; rfl), rfl⟩
  · by_cases h12 : 12 < l.length
    · have hh : Pl.isName l = false := by
        have : ¬ l.length ≤ 12 := by omega
        simp [Pl.isName, this]
      go_enter Tryd.func49, Tryd.ntmps49
      go_wp2
      go_ret
      exact ⟨by first | rfl | (rw [hh]; rfl), rfl⟩
    · obtain ⟨c, t, rfl⟩ : ∃ c t, l = c :: t := by
        cases l with
        | nil => simp at h0
        | cons c t => exact ⟨c, t, rfl⟩
      have hlen : t.length ≤ 11 := by simp at h12; omega
      cases hc : Pl.isLet c with
      | false =>
        have hh : Pl.isName (c :: t) = false := by simp [Pl.isName, Pl.headLet, hc]
        have hc' : Pl.isLet ((⟨(c :: t).toArray⟩ : ByteArray)[0]'(Nat.succ_pos _)) = false := hc
        clear h0 h12
        go_enter Tryd.func49, Tryd.ntmps49
        go_wp2_with (go_at_call 62; refine (isLetter_any _ _).mono ?_; rintro e w' ⟨rfl, rfl⟩)
        go_ret
        exact ⟨by first | rfl | (rw [hh]; rfl), rfl⟩
      | true =>
        have HH : Hid (Pl.isName (c :: t) = (c :: t).all Pl.isNB) := by
          unfold Hid
          have h3 : (c :: t).length ≤ 12 := by omega
          simp [Pl.isName, Pl.headLet, hc]; intro _ _; simpa using h3
        have hc' : Pl.isLet ((⟨(c :: t).toArray⟩ : ByteArray)[0]'(Nat.succ_pos _)) = true := hc
        clear h0 h12 hc
        go_enter Tryd.func49, Tryd.ntmps49
        go_wp2_with (go_at_call 62; refine (isLetter_any _ _).mono ?_; rintro e w' ⟨rfl, rfl⟩)
        go_loop [20] (fun i => ∃ k : Nat, k ≤ t.length + 1 ∧ i = .int .i64 k ∧ Hid (((c :: t).take k).all Pl.isNB = true)) (fun i => t.length + 1 - (intOf i).toNat)
        case atStart => exact ⟨0, Nat.zero_le _, rfl, rfl⟩
        case round =>
          obtain ⟨k, hk, rfl, hd⟩ := hrel
          by_cases hlt : k < t.length + 1
          · cases hx : Pl.isNB (c :: t)[k] with
            | true =>
              have hy : Pl.isNB (⟨(c :: t).toArray⟩ : ByteArray)[k] = true := hx
              have HX : Hid _ := hx
              clear hx
              go_wp2_with (go_at_call 63; refine (isNameByte_any _ _).mono ?_; rintro e w' ⟨rfl, rfl⟩)
              go_round
              case rel => exact ⟨k + 1, hlt, by go_num, all_succ (c :: t) k hlt hd.out HX.out⟩
              case measure => simp [intOf]; omega
            | false =>
              have hy : Pl.isNB (⟨(c :: t).toArray⟩ : ByteArray)[k] = false := hx
              have HF : Hid ((c :: t).all Pl.isNB = false) := all_not (c :: t) k hlt hx
              clear hx
              go_wp2_with (go_at_call 63; refine (isNameByte_any _ _).mono ?_; rintro e w' ⟨rfl, rfl⟩)
              go_ret
              exact ⟨by rw [HH.out, HF.out]; rfl, rfl⟩
          · have HF : Hid ((c :: t).all Pl.isNB = true) := by
              have := hd.out
              rwa [List.take_of_length_le (by simp; omega)] at this
            go_wp2
            go_ret
            exact ⟨by rw [HH.out, HF.out]; rfl, rfl⟩

theorem vb_cases (c : UInt8) (h : Pl.isVB c = false) : (c.toNat : Int) < 32 ∨ (¬ (c.toNat : Int) < 32 ∧ 126 < (c.toNat : Int)) ∨ (¬ (c.toNat : Int) < 32 ∧ ¬ 126 < (c.toNat : Int) ∧ ((c.toNat : Int) == 34) = true) := by
  by_cases h1 : (c.toNat : Int) < 32
  · exact Or.inl h1
  · by_cases h2 : 126 < (c.toNat : Int)
    · exact Or.inr (Or.inl ⟨h1, h2⟩)
    · refine Or.inr (Or.inr ⟨h1, h2, ?_⟩)
      have a1 : decide (32 ≤ c.toNat) = true := by simp; omega
      have a2 : decide (c.toNat ≤ 126) = true := by simp; omega
      simp [Pl.isVB, a1, a2] at h
      simp; omega
theorem vb_true (c : UInt8) (h : Pl.isVB c = true) : ¬ (c.toNat : Int) < 32 ∧ ¬ 126 < (c.toNat : Int) ∧ ((c.toNat : Int) == 34) = false := by
  simp [Pl.isVB] at h
  refine ⟨by omega, by omega, ?_⟩
  simp; omega

set_option maxHeartbeats 400000 in
theorem isValue_any (l : List UInt8) (w : World) :
    Calls Tryd.prog 65 #[.string ⟨l.toArray⟩] w fun e w' => e = .returned (.bool (Pl.isValue l)) ∧ w' = w := by
  by_cases h16 : 16 < l.length
  · have hh : Pl.isValue l = false := by
      have : ¬ l.length ≤ 16 := by omega
      simp [Pl.isValue, this]
    go_enter Tryd.func65, Tryd.ntmps65
    go_wp2
    go_ret
    exact ⟨by first | rfl | (rw [hh]; rfl), rfl⟩
  · have hle : l.length ≤ 16 := by omega
    have HH : Hid (Pl.isValue l = l.all Pl.isVB) := by
      unfold Hid; simp [Pl.isValue, hle]
    go_enter Tryd.func65, Tryd.ntmps65
    go_wp2
    go_loop [9] (fun i => ∃ k : Nat, k ≤ l.length ∧ i = .int .i64 k ∧ Hid ((l.take k).all Pl.isVB = true)) (fun i => l.length - (intOf i).toNat)
    case atStart => exact ⟨0, Nat.zero_le _, rfl, rfl⟩
    case round =>
      obtain ⟨k, hk, rfl, hd⟩ := hrel
      by_cases hlt : k < l.length
      · cases hx : Pl.isVB l[k] with
        | true =>
          obtain ⟨b1, b2, b3⟩ := vb_true _ hx
          have y1 : ¬ (((⟨l.toArray⟩ : ByteArray)[k]'hlt).toNat : Int) < 32 := b1
          have y2 : ¬ 126 < (((⟨l.toArray⟩ : ByteArray)[k]'hlt).toNat : Int) := b2
          have y3 : ((((⟨l.toArray⟩ : ByteArray)[k]'hlt).toNat : Int) == 34) = false := b3
          have HX : Hid _ := hx
          clear hx b1 b2 b3
          go_wp2
          go_round
          case rel => exact ⟨k + 1, hlt, by go_num, all_succ l k hlt hd.out HX.out⟩
          case measure => simp [intOf]; omega
        | false =>
          have HF : Hid (l.all Pl.isVB = false) := all_not l k hlt hx
          have hcs := vb_cases _ hx
          clear hx
          have hcs' : (((⟨l.toArray⟩ : ByteArray)[k]'hlt).toNat : Int) < 32 ∨ (¬ (((⟨l.toArray⟩ : ByteArray)[k]'hlt).toNat : Int) < 32 ∧ 126 < (((⟨l.toArray⟩ : ByteArray)[k]'hlt).toNat : Int)) ∨ (¬ (((⟨l.toArray⟩ : ByteArray)[k]'hlt).toNat : Int) < 32 ∧ ¬ 126 < (((⟨l.toArray⟩ : ByteArray)[k]'hlt).toNat : Int) ∧ ((((⟨l.toArray⟩ : ByteArray)[k]'hlt).toNat : Int) == 34) = true) := hcs
          clear hcs
          rcases hcs' with y1 | ⟨y1, y2⟩ | ⟨y1, y2, y3⟩
          all_goals
            go_wp2
            go_ret
            exact ⟨by rw [HH.out, HF.out]; rfl, rfl⟩
      · have HF : Hid (l.all Pl.isVB = true) := by
          have := hd.out
          rwa [List.take_of_length_le (by omega)] at this
        go_wp2
        go_ret
        exact ⟨by rw [HH.out, HF.out]; rfl, rfl⟩
end Go.Proofs.YtephhllfodlfbaaDoor
/-
  How lists of texts, of attributes and of elements lie in memory.
-/
namespace Go.Proofs.YtephhllfodlfbaaDoor
open Go.RowKit

theorem cell_lt {w : World} {p : Addr} {v : Value} (h : w.cell? p = some v) : p.block < w.heap.size := by
  rcases Nat.lt_or_ge p.block w.heap.size with h1 | h1
  · exact h1
  · unfold World.cell? at h
    rw [Array.getElem?_eq_none h1] at h
    cases h
theorem cell_on {w w' : World} {p : Addr} {v : Value} (hb : Below w.heap.size w w') (h : w.cell? p = some v) : w'.cell? p = some v := by
  rw [hb.cell (cell_lt h)]; exact h
/-- the world is the old one below its end -/
theorem on_alloc (w : World) (o : Obj) : Below w.heap.size w (w.alloc o) := (Below.refl _ _).alloc (Nat.le_refl _) o
theorem below_trans {w w1 w2 : World} (h1 : Below w.heap.size w w1) (h2 : Below w1.heap.size w1 w2) : Below w.heap.size w w2 := h1.trans (h2.mono h1.size)
end Go.Proofs.YtephhllfodlfbaaDoor
