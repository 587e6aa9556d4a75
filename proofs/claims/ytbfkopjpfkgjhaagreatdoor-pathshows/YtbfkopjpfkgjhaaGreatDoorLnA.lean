/-
  The document's own reader: names, values, signs.
-/
import Derived.Test.YtbfkopjpfkgjhaaGreatDoorTxC
import Derived.Test.YtbfkopjpfkgjhaaGreatDoorNFrom
namespace Go.Proofs.YtbfkopjpfkgjhaaGreatDoor
open Go.RowKit

namespace Pl
def sg (s l : List UInt8) : List UInt8 := if s.isPrefixOf l = true then l.drop s.length else l
theorem sg_app (s l : List UInt8) : sg s (s ++ l) = l := by
  unfold sg
  rw [if_pos (by simp)]
  simp
theorem sg_len (s l : List UInt8) : (sg s l).length ≤ l.length := by
  unfold sg; split <;> simp
end Pl

def LnAt (b : Nat) (l : List UInt8) (w : World) : Prop := w.heap[b]? = some (.cells #[.string ⟨l.toArray⟩] 68)
theorem LnAt.facts {b : Nat} {l : List UInt8} {w : World} (h : LnAt b l w) : w.cell? ⟨b, 0, none⟩ = some (.string ⟨l.toArray⟩) ∧ w.frozen? ⟨b, 0, none⟩ = false ∧ b < w.heap.size := by
  unfold LnAt at h
  exact ⟨by simp [World.cell?, h], by simp [World.frozen?, h], (Array.getElem?_eq_some_iff.1 h).1⟩
theorem ln_set {b : Nat} {l : List UInt8} {w : World} (h : LnAt b l w) (r : List UInt8) : LnAt b r (w.setCell ⟨b, 0, none⟩ (.string ⟨r.toArray⟩)) ∧ w.grownBy (w.setCell ⟨b, 0, none⟩ (.string ⟨r.toArray⟩)) (some b) := by
  unfold LnAt at *
  refine ⟨by simp [World.setCell, Array.getElem?_modify, h], rfl, rfl, rfl, by simp [World.setCell], fun k _ hk => ?_⟩
  exact Below.heap_setCell _ _ _ _ (by intro e; subst e; exact hk rfl)
theorem LnAt.on {b : Nat} {l : List UInt8} {w w' : World} (h : LnAt b l w) (hb : Below w.heap.size w w') : LnAt b l w' := (hb.block b h.facts.2.2).trans h
theorem ln_far {b M j : Nat} {l : List UInt8} {w : World} (h : LnAt b l w) (hne : M ≠ b) (u : Value) : LnAt b l (w.setCell ⟨M, j, none⟩ u) := by
  unfold LnAt; rw [Below.heap_setCell _ _ _ _ (by exact fun e => hne e.symm)]; exact h
theorem ln_grown {b : Nat} {l : List UInt8} {w w' : World} {g : Option Nat} (h : LnAt b l w) (hg : w.grownBy w' g) (hne : some b ≠ g) : LnAt b l w' := (hg.block b h.facts.2.2 hne).trans h
set_option maxHeartbeats 1000000 in
theorem lnName_any (b : Nat) (l : List UInt8) (w : World) (h : LnAt b l w) (hl : l.length ≤ maxLen) :
    Calls Tryz.prog 69 #[.pointer (some ⟨b, 0, none⟩)] w fun e w' => e = .returned (.string ⟨(l.takeWhile Pl.isNB).toArray⟩) ∧ LnAt b (l.dropWhile Pl.isNB) w' ∧ w.grownBy w' (some b) := by
  unfold maxLen at hl
  obtain ⟨hc, hf, hb⟩ := h.facts
  have HR : Hid _ := ln_set h (l.dropWhile Pl.isNB)
  clear h
  go_enter Tryz.func69, Tryz.ntmps69
  go_wp2
  go_loop [3] (fun n => ∃ k : Nat, k ≤ l.length ∧ n = .int .i64 k ∧ Hid (∀ c ∈ l.take k, Pl.isNB c = true)) (fun n => l.length - (intOf n).toNat)
  case atStart => exact ⟨0, Nat.zero_le _, rfl, by intro c hc; simp at hc⟩
  case round =>
    obtain ⟨k, hk, rfl, hd⟩ := hrel
    by_cases hlt : k < l.length
    · have hcl := nb_class ((⟨l.toArray⟩ : ByteArray)[k]'hlt)
      rcases hcl with ⟨y1, y2, hx⟩ | ⟨y1, y2, y3, y4, y5, hx⟩ | ⟨y1, y2, y3, hx⟩ | ⟨y1, y2, y3, y4, hx⟩ | ⟨y1, y2, y3, hx⟩ | ⟨y1, y2, y3, hx⟩
      case inl | inr.inr.inl | inr.inr.inr.inr.inl =>
        have hx' : Hid (Pl.isNB l[k] = true) := hx
        clear hx
        go_wp2
        go_round
        case rel => exact ⟨k + 1, hlt, by go_num, run_succ l k hlt hd.out hx'.out⟩
        case measure => simp [intOf]; omega
      all_goals
        have hx2 : Pl.isNB l[k] = false := hx
        have hs := scan_stop l k hd.out (by rw [List.drop_eq_getElem_cons hlt]; exact Pl.shut_cons hx2 _)
        have HS : Hid (l.takeWhile Pl.isNB = l.take k ∧ l.dropWhile Pl.isNB = l.drop k) := hs
        clear hx hx2 hs
        go_wp2
        go_ret
        have hR := HR.out
        rw [HS.out.2] at hR
        rw [HS.out.1, HS.out.2]
        refine ⟨by simp [ex_take], ?_⟩
        rw [ex_drop]; exact hR
    · have hs := scan_stop l k hd.out (by rw [List.drop_eq_nil_of_le (by omega)]; exact Pl.shut_nil _)
      have HS : Hid (l.takeWhile Pl.isNB = l.take k ∧ l.dropWhile Pl.isNB = l.drop k) := hs
      clear hs
      go_wp2
      go_ret
      have hR := HR.out
      rw [HS.out.2] at hR
      rw [HS.out.1, HS.out.2]
      refine ⟨by simp [ex_take], ?_⟩
      rw [ex_drop]; exact hR
set_option maxHeartbeats 1000000 in
theorem lnValue_any (b : Nat) (l : List UInt8) (w : World) (h : LnAt b l w) (hl : l.length ≤ maxLen) :
    Calls Tryz.prog 96 #[.pointer (some ⟨b, 0, none⟩)] w fun e w' => e = .returned (.string ⟨(l.takeWhile Pl.notQ).toArray⟩) ∧ LnAt b (l.dropWhile Pl.notQ) w' ∧ w.grownBy w' (some b) := by
  unfold maxLen at hl
  obtain ⟨hc, hf, hb⟩ := h.facts
  have HR : Hid _ := ln_set h (l.dropWhile Pl.notQ)
  clear h
  go_enter Tryz.func96, Tryz.ntmps96
  go_wp2
  go_loop [3] (fun n => ∃ k : Nat, k ≤ l.length ∧ n = .int .i64 k ∧ Hid (∀ c ∈ l.take k, Pl.notQ c = true)) (fun n => l.length - (intOf n).toNat)
  case atStart => exact ⟨0, Nat.zero_le _, rfl, by intro c hc; simp at hc⟩
  case round =>
    obtain ⟨k, hk, rfl, hd⟩ := hrel
    by_cases hlt : k < l.length
    · have hq : Pl.notQ l[k] = ((l[k].toNat : Int) != 34) := by
        unfold Pl.notQ
        rw [Bool.eq_iff_iff]
        simp only [bne_iff_ne, ne_eq]
        constructor
        · intro h e; exact h (UInt8.toNat_inj.1 (by simpa using Int.ofNat.inj e))
        · intro h e; rw [e] at h; exact h rfl
      cases hx : Pl.notQ l[k] with
      | true =>
        have hx' : Hid (Pl.notQ l[k] = true) := hx
        rw [hx] at hq
        have hy : ((((⟨l.toArray⟩ : ByteArray)[k]'hlt).toNat : Int) != 34) = true := hq.symm
        have hz : ((((⟨l.toArray⟩ : ByteArray)[k]'hlt).toNat : Int) == 34) = false := by simpa using hy
        clear hx hq
        go_wp2
        go_round
        case rel => exact ⟨k + 1, hlt, by go_num, run_succ l k hlt hd.out hx'.out⟩
        case measure => simp [intOf]; omega
      | false =>
        have hs := scan_stop l k hd.out (by rw [List.drop_eq_getElem_cons hlt]; exact Pl.shut_cons hx _)
        have HS : Hid (l.takeWhile Pl.notQ = l.take k ∧ l.dropWhile Pl.notQ = l.drop k) := hs
        rw [hx] at hq
        have hy : ((((⟨l.toArray⟩ : ByteArray)[k]'hlt).toNat : Int) != 34) = false := hq.symm
        have hz : ((((⟨l.toArray⟩ : ByteArray)[k]'hlt).toNat : Int) == 34) = true := by simpa using hy
        clear hx hq hs
        go_wp2
        go_ret
        have hR := HR.out
        rw [HS.out.2] at hR
        rw [HS.out.1, HS.out.2]
        refine ⟨by simp [ex_take], ?_⟩
        rw [ex_drop]; exact hR
    · have hs := scan_stop l k hd.out (by rw [List.drop_eq_nil_of_le (by omega)]; exact Pl.shut_nil _)
      have HS : Hid (l.takeWhile Pl.notQ = l.take k ∧ l.dropWhile Pl.notQ = l.drop k) := hs
      clear hs
      go_wp2
      go_ret
      have hR := HR.out
      rw [HS.out.2] at hR
      rw [HS.out.1, HS.out.2]
      refine ⟨by simp [ex_take], ?_⟩
      rw [ex_drop]; exact hR
theorem pre_take (s l : List UInt8) : s.isPrefixOf l = true ↔ s.length ≤ l.length ∧ l.take s.length = s := by
  rw [List.isPrefixOf_iff_prefix]
  constructor
  · intro h; exact ⟨h.length_le, (List.prefix_iff_eq_take.1 h).symm⟩
  · rintro ⟨_, h⟩; exact List.prefix_iff_eq_take.2 h.symm
set_option maxHeartbeats 1000000 in
theorem sign_any (b : Nat) (l s : List UInt8) (w : World) (h : LnAt b l w) :
    Calls Tryz.prog 49 #[.pointer (some ⟨b, 0, none⟩), .string ⟨s.toArray⟩] w fun e w' => e = .returned (.bool (s.isPrefixOf l)) ∧ LnAt b (Pl.sg s l) w' ∧ w.grownBy w' (some b) := by
  obtain ⟨hc, hf, _⟩ := h.facts
  have HR : Hid _ := ln_set h (l.drop s.length)
  have HW : Hid _ := h
  clear h
  by_cases h1 : l.length < s.length
  · have HF : Hid (s.isPrefixOf l = false) := by
      unfold Hid; rw [Bool.eq_false_iff]; intro e; have := ((pre_take s l).1 e).1; omega
    have h1i : (l.length : Int) < (s.length : Int) := by omega
    go_enter Tryz.func49, Tryz.ntmps49
    go_wp2
    go_ret
    refine ⟨by rw [HF.out]; rfl, ?_, World.grownBy.refl _ _⟩
    unfold Pl.sg; rw [if_neg (by rw [HF.out]; simp)]; exact HW.out
  · have h1i : ¬ (l.length : Int) < (s.length : Int) := by omega
    by_cases h2 : l.take s.length = s
    · have HT : Hid (s.isPrefixOf l = true) := (pre_take s l).2 ⟨by omega, h2⟩
      have e2 : (⟨l.toArray⟩ : ByteArray).extract 0 s.length = ⟨s.toArray⟩ := by rw [ex_take, h2]
      clear h2
      go_enter Tryz.func49, Tryz.ntmps49
      go_wp2
      go_ret
      refine ⟨by rw [HT.out]; rfl, ?_⟩
      unfold Pl.sg; rw [if_pos HT.out, ex_drop]; exact HR.out
    · have HF : Hid (s.isPrefixOf l = false) := by
        unfold Hid; rw [Bool.eq_false_iff]; intro e; exact h2 ((pre_take s l).1 e).2
      have e2 : ¬ (⟨l.toArray⟩ : ByteArray).extract 0 s.length = ⟨s.toArray⟩ := by
        rw [ex_take]
        intro e
        apply h2
        have := congrArg (fun x : ByteArray => x.data.toList) e
        simpa using this
      have e3 : (((⟨l.toArray⟩ : ByteArray).extract 0 s.length).toList == s) = false := by
        rw [ex_take, ByteArray.toList_mk]
        simpa using h2
      clear h2
      go_enter Tryz.func49, Tryz.ntmps49
      go_wp2
      go_ret
      refine ⟨by rw [HF.out]; rfl, ?_, World.grownBy.refl _ _⟩
      unfold Pl.sg; rw [if_neg (by rw [HF.out]; simp)]; exact HW.out
end Go.Proofs.YtbfkopjpfkgjhaaGreatDoor
