/-
  The document's own reader of texts: a name, a sign, a value.
-/
import Derived.Test.YthlpcmgeelkncaaLnP
import Derived.Test.YthlpcmgeelkncaaRdl
import Derived.Test.YthlpcmgeelkncaaRefN
import Derived.Test.YthlpcmgeelkncaaRdm
namespace Go.Proofs.Ythlpcmgeelkncaa
open Go.RowKit

def LnAt (b : Nat) (l : List UInt8) (w : World) : Prop := w.heap[b]? = some (.cells #[.string ⟨l.toArray⟩] 92)
theorem LnAt.facts {b : Nat} {l : List UInt8} {w : World} (h : LnAt b l w) : w.cell? ⟨b, 0, none⟩ = some (.string ⟨l.toArray⟩) ∧ w.frozen? ⟨b, 0, none⟩ = false ∧ b < w.heap.size := by
  unfold LnAt at h
  exact ⟨by simp [World.cell?, h], by simp [World.frozen?, h], (Array.getElem?_eq_some_iff.1 h).1⟩
theorem ln_set {b : Nat} {l : List UInt8} {w : World} (h : LnAt b l w) (r : List UInt8) : LnAt b r (w.setCell ⟨b, 0, none⟩ (.string ⟨r.toArray⟩)) ∧ w.grownBy (w.setCell ⟨b, 0, none⟩ (.string ⟨r.toArray⟩)) (some b) := by
  unfold LnAt at *
  refine ⟨by simp [World.setCell, Array.getElem?_modify, h], rfl, rfl, rfl, by simp [World.setCell], fun k _ hk => ?_⟩
  exact Below.heap_setCell _ _ _ _ (by intro e; subst e; exact hk rfl)
theorem LnAt.on {b : Nat} {l : List UInt8} {w w' : World} (h : LnAt b l w) (hb : Below w.heap.size w w') : LnAt b l w' := (hb.block b h.facts.2.2).trans h
theorem ln_far {b M j : Nat} {l : List UInt8} {w : World} (h : LnAt b l w) (hne : M ≠ b) (u : Value) : LnAt b l (w.setCell ⟨M, j, none⟩ u) := by
  unfold LnAt; rw [Below.heap_setCell _ _ _ _ (by exact fun e => hne e.symm)]; exact h
theorem ln_grown {b : Nat} {l : List UInt8} {w w' : World} {g : Option Nat} (h : LnAt b l w) (hg : w.grownBy w' g) (hne : some b ≠ g) : LnAt b l w' := (hg.block b h.facts.2.2 hne).trans h
set_option maxHeartbeats 1000000 in
theorem lnName_any (b : Nat) (l : List UInt8) (w : World) (h : LnAt b l w) (hl : l.length ≤ maxLen) :
    Calls Try.prog 81 #[.pointer (some ⟨b, 0, none⟩)] w fun e w' => e = .returned (.string ⟨(l.takeWhile Pl.isNB).toArray⟩) ∧ LnAt b (l.dropWhile Pl.isNB) w' ∧ w.grownBy w' (some b) := by
  unfold maxLen at hl
  obtain ⟨hc, hf, hb⟩ := h.facts
  have HR : Hid _ := ln_set h (l.dropWhile Pl.isNB)
  clear h
  go_enter Try.func81, Try.ntmps81
  go_wp2
  go_loop [3] (fun n => ∃ k : Nat, k ≤ l.length ∧ n = .int .i64 k ∧ Hid (∀ c ∈ l.take k, Pl.isNB c = true)) (fun n => l.length - (intOf n).toNat)
  case atStart => exact ⟨0, Nat.zero_le _, rfl, by intro c hc; simp at hc⟩
  case round =>
    obtain ⟨k, hk, rfl, hd⟩ := hrel
    by_cases hlt : k < l.length
    · have hcl := nb_class ((⟨l.toArray⟩ : ByteArray)[k]'hlt)
      rcases hcl with ⟨y1, y2, hx⟩ | ⟨y1, y2, y3, y4, y5, hx⟩ | ⟨y1, y2, y3, hx⟩ | ⟨y1, y2, y3, y4, hx⟩ | ⟨y1, y2, y3, hx⟩ | ⟨y1, y2, y3, hx⟩
      case inl | inr.inr.inl | inr.inr.inr.inr.inl =>
        have hx' : Hid (Pl.isNB l[k] = true) := hx
        clear hx
        go_wp2
        go_round
        case rel => exact ⟨k + 1, hlt, by go_num, run_succ l k hlt hd.out hx'.out⟩
        case measure => simp [intOf]; omega
      all_goals
        have hx2 : Pl.isNB l[k] = false := hx
        have hs := scan_stop l k hd.out (by rw [List.drop_eq_getElem_cons hlt]; exact Pl.shut_cons hx2 _)
        have HS : Hid (l.takeWhile Pl.isNB = l.take k ∧ l.dropWhile Pl.isNB = l.drop k) := hs
        clear hx hx2 hs
        go_wp2
        go_ret
        have hR := HR.out
        rw [HS.out.2] at hR
        rw [HS.out.1, HS.out.2]
        refine ⟨by simp [ex_take], ?_⟩
        rw [ex_drop]; exact hR
    · have hs := scan_stop l k hd.out (by rw [List.drop_eq_nil_of_le (by omega)]; exact Pl.shut_nil _)
      have HS : Hid (l.takeWhile Pl.isNB = l.take k ∧ l.dropWhile Pl.isNB = l.drop k) := hs
      clear hs
      go_wp2
      go_ret
      have hR := HR.out
      rw [HS.out.2] at hR
      rw [HS.out.1, HS.out.2]
      refine ⟨by simp [ex_take], ?_⟩
      rw [ex_drop]; exact hR
set_option maxHeartbeats 1000000 in
theorem lnValue_any (b : Nat) (l : List UInt8) (w : World) (h : LnAt b l w) (hl : l.length ≤ maxLen) :
    Calls Try.prog 83 #[.pointer (some ⟨b, 0, none⟩)] w fun e w' => e = .returned (.string ⟨(l.takeWhile Pl.notQ).toArray⟩) ∧ LnAt b (l.dropWhile Pl.notQ) w' ∧ w.grownBy w' (some b) := by
  unfold maxLen at hl
  obtain ⟨hc, hf, hb⟩ := h.facts
  have HR : Hid _ := ln_set h (l.dropWhile Pl.notQ)
  clear h
  go_enter Try.func83, Try.ntmps83
  go_wp2
  go_loop [3] (fun n => ∃ k : Nat, k ≤ l.length ∧ n = .int .i64 k ∧ Hid (∀ c ∈ l.take k, Pl.notQ c = true)) (fun n => l.length - (intOf n).toNat)
  case atStart => exact ⟨0, Nat.zero_le _, rfl, by intro c hc; simp at hc⟩
  case round =>
    obtain ⟨k, hk, rfl, hd⟩ := hrel
    by_cases hlt : k < l.length
    · have hq : Pl.notQ l[k] = ((l[k].toNat : Int) != 34) := by
        unfold Pl.notQ
        rw [Bool.eq_iff_iff]
        simp only [bne_iff_ne, ne_eq]
        constructor
        · intro h e; exact h (UInt8.toNat_inj.1 (by simpa using Int.ofNat.inj e))
        · intro h e; rw [e] at h; exact h rfl
      cases hx : Pl.notQ l[k] with
      | true =>
        have hx' : Hid (Pl.notQ l[k] = true) := hx
        rw [hx] at hq
        have hy : ((((⟨l.toArray⟩ : ByteArray)[k]'hlt).toNat : Int) != 34) = true := hq.symm
        have hz : ((((⟨l.toArray⟩ : ByteArray)[k]'hlt).toNat : Int) == 34) = false := by simpa using hy
        clear hx hq
        go_wp2
        go_round
        case rel => exact ⟨k + 1, hlt, by go_num, run_succ l k hlt hd.out hx'.out⟩
        case measure => simp [intOf]; omega
      | false =>
        have hs := scan_stop l k hd.out (by rw [List.drop_eq_getElem_cons hlt]; exact Pl.shut_cons hx _)
        have HS : Hid (l.takeWhile Pl.notQ = l.take k ∧ l.dropWhile Pl.notQ = l.drop k) := hs
        rw [hx] at hq
        have hy : ((((⟨l.toArray⟩ : ByteArray)[k]'hlt).toNat : Int) != 34) = false := hq.symm
        have hz : ((((⟨l.toArray⟩ : ByteArray)[k]'hlt).toNat : Int) == 34) = true := by simpa using hy
        clear hx hq hs
        go_wp2
        go_ret
        have hR := HR.out
        rw [HS.out.2] at hR
        rw [HS.out.1, HS.out.2]
        refine ⟨by simp [ex_take], ?_⟩
        rw [ex_drop]; exact hR
    · have hs := scan_stop l k hd.out (by rw [List.drop_eq_nil_of_le (by omega)]; exact Pl.shut_nil _)
      have HS : Hid (l.takeWhile Pl.notQ = l.take k ∧ l.dropWhile Pl.notQ = l.drop k) := hs
      clear hs
      go_wp2
      go_ret
      have hR := HR.out
      rw [HS.out.2] at hR
      rw [HS.out.1, HS.out.2]
      refine ⟨by simp [ex_take], ?_⟩
      rw [ex_drop]; exact hR
theorem pre_take (s l : List UInt8) : s.isPrefixOf l = true ↔ s.length ≤ l.length ∧ l.take s.length = s := by
  rw [List.isPrefixOf_iff_prefix]
  constructor
  · intro h; exact ⟨h.length_le, (List.prefix_iff_eq_take.1 h).symm⟩
  · rintro ⟨_, h⟩; exact List.prefix_iff_eq_take.2 h.symm
set_option maxHeartbeats 1000000 in
theorem sign_any (b : Nat) (l s : List UInt8) (w : World) (h : LnAt b l w) :
    Calls Try.prog 82 #[.pointer (some ⟨b, 0, none⟩), .string ⟨s.toArray⟩] w fun e w' => e = .returned (.bool (s.isPrefixOf l)) ∧ LnAt b (Pl.sg s l) w' ∧ w.grownBy w' (some b) := by
  obtain ⟨hc, hf, _⟩ := h.facts
  have HR : Hid _ := ln_set h (l.drop s.length)
  have HW : Hid _ := h
  clear h
  by_cases h1 : l.length < s.length
  · have HF : Hid (s.isPrefixOf l = false) := by
      unfold Hid; rw [Bool.eq_false_iff]; intro e; have := ((pre_take s l).1 e).1; omega
    have h1i : (l.length : Int) < (s.length : Int) := by omega
    go_enter Try.func82, Try.ntmps82
    go_wp2
    go_ret
    refine ⟨by rw [HF.out]; rfl, ?_, World.grownBy.refl _ _⟩
    unfold Pl.sg; rw [if_neg (by rw [HF.out]; simp)]; exact HW.out
  · have h1i : ¬ (l.length : Int) < (s.length : Int) := by omega
    by_cases h2 : l.take s.length = s
    · have HT : Hid (s.isPrefixOf l = true) := (pre_take s l).2 ⟨by omega, h2⟩
      have e2 : (⟨l.toArray⟩ : ByteArray).extract 0 s.length = ⟨s.toArray⟩ := by rw [ex_take, h2]
      clear h2
      go_enter Try.func82, Try.ntmps82
      go_wp2
      go_ret
      refine ⟨by rw [HT.out]; rfl, ?_⟩
      unfold Pl.sg; rw [if_pos HT.out, ex_drop]; exact HR.out
    · have HF : Hid (s.isPrefixOf l = false) := by
        unfold Hid; rw [Bool.eq_false_iff]; intro e; exact h2 ((pre_take s l).1 e).2
      have e2 : ¬ (⟨l.toArray⟩ : ByteArray).extract 0 s.length = ⟨s.toArray⟩ := by
        rw [ex_take]
        intro e
        apply h2
        have := congrArg (fun x : ByteArray => x.data.toList) e
        simpa using this
      have e3 : (((⟨l.toArray⟩ : ByteArray).extract 0 s.length).toList == s) = false := by
        rw [ex_take, ByteArray.toList_mk]
        simpa using h2
      clear h2
      go_enter Try.func82, Try.ntmps82
      go_wp2
      go_ret
      refine ⟨by rw [HF.out]; rfl, ?_, World.grownBy.refl _ _⟩
      unfold Pl.sg; rw [if_neg (by rw [HF.out]; simp)]; exact HW.out
end Go.Proofs.Ythlpcmgeelkncaa
/-
  The document's own reader of texts: what reading an element leans on.
-/
namespace Go.Proofs.Ythlpcmgeelkncaa
open Go.RowKit

namespace Pl
theorem sg_ge (s l : List UInt8) : (sg s l).length ≤ l.length := sg_len s l
theorem run_ge {p : UInt8 → Bool} (l : List UInt8) : (l.dropWhile p).length ≤ l.length := (List.dropWhile_sublist p).length_le
theorem need_lt {c : UInt8} {l r : List UInt8} (h : need c l = some r) : r.length < l.length := by
  rw [(need_iff _ _ _).1 h]; simp
theorem lnAttr_ge (l : List UInt8) : (lnAttr l).2.length ≤ l.length := by
  unfold lnAttr
  exact Nat.le_trans (sg_len _ _) (Nat.le_trans (run_ge _) (Nat.le_trans (sg_len _ _) (run_ge _)))
theorem lnCls_ge : ∀ (n : Nat) (l : List UInt8), (lnCls n l).2.length ≤ l.length
  | 0, _ => Nat.le_refl _
  | n + 1, l => by
    unfold lnCls
    cases h : need 46 l with
    | none => exact Nat.le_refl _
    | some l1 =>
      have := lnCls_ge n (l1.dropWhile isNB)
      have := run_ge (p := isNB) l1
      have := need_lt h
      simp only
      omega
theorem lnAts_ge : ∀ (n : Nat) (l : List UInt8), (lnAts n l).2.length ≤ l.length
  | 0, _ => Nat.le_refl _
  | n + 1, l => by
    unfold lnAts
    cases h : need 91 l with
    | none => exact Nat.le_refl _
    | some l1 =>
      have := lnAts_ge n (lnAttr l1).2
      have := lnAttr_ge l1
      have := need_lt h
      simp only
      omega
theorem lnId_ge (l : List UInt8) : (lnId l).2.length ≤ l.length := by
  unfold lnId
  cases h : need 35 l with
  | none => exact Nat.le_refl _
  | some l2 =>
    have := run_ge (p := isNB) l2
    have := need_lt h
    simp only
    omega
theorem lnNode_ge (up : Int) (l : List UInt8) : (lnNode up l).2.length ≤ l.length := by
  unfold lnNode lnMk
  exact Nat.le_trans (lnAts_ge _ _) (Nat.le_trans (lnCls_ge _ _) (Nat.le_trans (lnId_ge _) (run_ge _)))
theorem ln_ge : ∀ (f : Nat), (∀ ns up l, (lnEl f ns up l).2.length ≤ l.length) ∧ (∀ ns n l, (lnKids f ns n l).2.length ≤ l.length) := by
  intro f
  induction f with
  | zero => exact ⟨fun _ _ _ => by simp [lnEl], fun _ _ _ => by simp [lnKids]⟩
  | succ f ih =>
    refine ⟨fun ns up l => ?_, fun ns n l => ?_⟩
    · unfold lnEl
      have h1 := lnNode_ge up l
      split
      · exact h1
      · rename_i l2 h
        have := ih.2 (ns ++ [(lnNode up l).1]) ns.length l2
        have := need_lt h
        omega
    · unfold lnKids
      have h1 := ih.1 ns n l
      split
      · split
        · rename_i l2 h
          have := ih.2 (lnEl f ns n l).1 n l2
          have := need_lt h
          omega
        · have := sg_len [41] (lnEl f ns n l).2
          simp only
          omega
      · exact sg_len _ _
def preD {α : Type} (cs : List α) (p : List α × List UInt8) : List α × List UInt8 := (cs ++ p.1, p.2)
theorem lnCls_stop {n : Nat} {l : List UInt8} (h : need 46 l = none) : lnCls n l = ([], l) := by
  cases n with
  | zero => rfl
  | succ n => unfold lnCls; rw [h]
theorem lnCls_go {n : Nat} {l l1 c r : List UInt8} (cs : List (List UInt8)) (h : need 46 l = some l1) (h1 : l1.takeWhile isNB = c) (h2 : l1.dropWhile isNB = r) : preD cs (lnCls (n + 1) l) = preD (cs ++ [c]) (lnCls n r) := by
  conv => lhs; unfold lnCls
  rw [h]; simp only; rw [h1, h2]
  simp [preD]
theorem lnAts_stop {n : Nat} {l : List UInt8} (h : need 91 l = none) : lnAts n l = ([], l) := by
  cases n with
  | zero => rfl
  | succ n => unfold lnAts; rw [h]
theorem lnAts_go {n : Nat} {l l1 : List UInt8} {c : List UInt8 × List UInt8} {r : List UInt8} (cs : List (List UInt8 × List UInt8)) (h : need 91 l = some l1) (h1 : lnAttr l1 = (c, r)) : preD cs (lnAts (n + 1) l) = preD (cs ++ [c]) (lnAts n r) := by
  conv => lhs; unfold lnAts
  rw [h]; simp only; rw [h1]
  simp [preD]
theorem lnKids_in {f : Nat} {ns : List Nd} {n : Int} {l : List UInt8} (h : ns.length ≤ 64) : lnKids (f + 1) ns n l = match need 32 (lnEl f ns n l).2 with
      | some l2 => lnKids f (lnEl f ns n l).1 n l2
      | none => ((lnEl f ns n l).1, sg [41] (lnEl f ns n l).2) := by
  conv => lhs; unfold lnKids
  rw [if_pos h]
  rfl
theorem lnKids_out {f : Nat} {ns : List Nd} {n : Int} {l : List UInt8} (h : ¬ ns.length ≤ 64) : lnKids (f + 1) ns n l = (ns, sg [41] l) := by
  conv => lhs; unfold lnKids
  rw [if_neg h]
theorem lnEl_kids {f : Nat} {ns : List Nd} {up : Int} {l l1 l2 : List UInt8} {x : Nd} (hn : lnNode up l = (x, l1)) (h40 : need 40 l1 = some l2) : lnEl (f + 1) ns up l = lnKids f (ns ++ [x]) ns.length l2 := by
  conv => lhs; unfold lnEl
  rw [hn]
  simp only
  rw [h40]
theorem lnEl_leaf {f : Nat} {ns : List Nd} {up : Int} {l l1 : List UInt8} {x : Nd} (hn : lnNode up l = (x, l1)) (h40 : need 40 l1 = none) : lnEl (f + 1) ns up l = (ns ++ [x], l1) := by
  conv => lhs; unfold lnEl
  rw [hn]
  simp only
  rw [h40]
theorem lnNode_mk {up : Int} {l tag l1 idn l3 t u : List UInt8} {cs : List (List UInt8)} {ats : List (List UInt8 × List UInt8)} (h1 : l.takeWhile isNB = tag) (h2 : l.dropWhile isNB = l1) (h3 : lnId l1 = (idn, l3)) (h4 : lnCls l3.length l3 = (cs, t)) (h5 : lnAts t.length t = (ats, u)) : lnNode up l = (⟨up, tag, idn, cs, ats⟩, u) := by
  unfold lnNode
  rw [h1, h2, h3]
  simp only
  rw [h4]
  simp only
  rw [h5]
  rfl
end Pl
/-- how long the text in a cell is -/
def textAt (w : World) (a : Addr) : Nat := match w.cell? a with | some (.string s) => s.data.size | _ => 0
theorem textAt_eq {b : Nat} {l : List UInt8} {w : World} (h : LnAt b l w) : textAt w ⟨b, 0, none⟩ = l.length := by
  unfold textAt; rw [h.facts.1]; simp
theorem lnName_at (b : Nat) (l s r : List UInt8) (w : World) (h : LnAt b l w) (hl : l.length ≤ 1048576) (h1 : l.takeWhile Pl.isNB = s) (h2 : l.dropWhile Pl.isNB = r) :
    Calls Try.prog 81 #[.pointer (some ⟨b, 0, none⟩)] w fun e w' => e = .returned (.string ⟨s.toArray⟩) ∧ LnAt b r w' ∧ w.grownBy w' (some b) := by
  subst h1 h2
  exact lnName_any b l w h (by unfold maxLen; omega)
theorem lnValue_at (b : Nat) (l s r : List UInt8) (w : World) (h : LnAt b l w) (hl : l.length ≤ 1048576) (h1 : l.takeWhile Pl.notQ = s) (h2 : l.dropWhile Pl.notQ = r) :
    Calls Try.prog 83 #[.pointer (some ⟨b, 0, none⟩)] w fun e w' => e = .returned (.string ⟨s.toArray⟩) ∧ LnAt b r w' ∧ w.grownBy w' (some b) := by
  subst h1 h2
  exact lnValue_any b l w h (by unfold maxLen; omega)
theorem sign_yes (b : Nat) (l r : List UInt8) (c : UInt8) (w : World) (h : LnAt b l w) (hn : Pl.need c l = some r) :
    Calls Try.prog 82 #[.pointer (some ⟨b, 0, none⟩), .string ⟨#[c]⟩] w fun e w' => e = .returned (.bool true) ∧ LnAt b r w' ∧ w.grownBy w' (some b) := by
  have := sign_any b l [c] w h
  rw [(Pl.sg_one c l).1, (Pl.sg_one c l).2, hn] at this
  exact this
theorem sign_no (b : Nat) (l : List UInt8) (c : UInt8) (w : World) (h : LnAt b l w) (hn : Pl.need c l = none) :
    Calls Try.prog 82 #[.pointer (some ⟨b, 0, none⟩), .string ⟨#[c]⟩] w fun e w' => e = .returned (.bool false) ∧ LnAt b l w' ∧ w.grownBy w' (some b) := by
  have := sign_any b l [c] w h
  rw [(Pl.sg_one c l).1, (Pl.sg_one c l).2, hn] at this
  exact this
/-- a sign, where no one asks whether it stood there -/
theorem sign_at (b : Nat) (l s r : List UInt8) (w : World) (h : LnAt b l w) (hr : Pl.sg s l = r) :
    Calls Try.prog 82 #[.pointer (some ⟨b, 0, none⟩), .string ⟨s.toArray⟩] w fun e w' => ∃ t, e = .returned (.bool t) ∧ LnAt b r w' ∧ w.grownBy w' (some b) := by
  subst hr
  refine (sign_any b l s w h).mono ?_
  rintro e w' ⟨rfl, h1, h2⟩
  exact ⟨_, rfl, h1, h2⟩
theorem own_setne {w : World} {B M j : Nat} {e : TypeId} {size : Nat} {v u : Value} {n : Nat} {xs : List Value} (h : w.ownsRow B e size v n xs) (hM : ∀ k, v.ownBlock = some k → k ≠ M) : (w.setCell ⟨M, j, none⟩ u).ownsRow B e size v n xs := by
  refine ⟨h.1, ?_⟩
  rcases h.2 with h1 | ⟨g, cap, cur, e1, e2, e3, e4⟩
  · exact Or.inl h1
  · exact Or.inr ⟨g, cap, cur, e1, e2, by rw [Below.heap_setCell _ _ _ _ (by show g ≠ M; exact hM g (by rw [e1]; rfl))]; exact e3, e4⟩
/-- one text more, at the step that appends it -/
theorem step_sadd2 {ops : Array Oper} {o : Oper} {a : Act} {K : Act → World → Prop} {Q : Exit → Act → World → Prop} {E : Prop} {B : Nat} {w2 : World} {v : Value} {cs : List (List UInt8)} {c : List UInt8} (hgd : o.guard = none) (s t : Operand)
    (ho : o.op = .call { callee := .builtin .append, args := #[s, t], argTypes := #[44, 44] }) (hs : a.eval s = v) (hx : a.eval t = .slice (some ⟨w2.heap.size, 0, none⟩) 1 1)
    (hown : w2.ownsRow B 9 1 v cs.length (strCells cs)) (hlen : cs.length + 1 ≤ 2097152) (hB : B ≤ w2.heap.size)
    (h : ∀ g cap w', w'.ownsRow B 9 1 (.slice (some ⟨g, 0, none⟩) (cs.length + 1) cap) (cs.length + 1) (strCells (cs ++ [c])) → (w2.alloc (.cells #[.string ⟨c.toArray⟩] 9)).grownBy w' v.ownBlock → K (a.put o.dst (.slice (some ⟨g, 0, none⟩) (cs.length + 1) cap)) w') :
    if Region.wanted o (yielded ops a.tmps) = true then Oper.wp Try.prog o a (w2.alloc (.cells #[.string ⟨c.toArray⟩] 9)) K Q else E := by
  obtain ⟨i0, hi, hz0, hz1, hz2⟩ := info_parts Try.info9
  refine step_append_lies _ hgd s t 44 ho B 9 i0 _ 1 16 Try.underlying44 hi hz0 hz1 hz2 rfl (by decide) v cs.length (strCells cs) hs (own_on hown (on_alloc _ _)) ⟨w2.heap.size, 0, none⟩ 1 1 [.string ⟨c.toArray⟩] hx rfl ?_ ?_ (by decide) (by unfold maxLen; omega) (by omega) (by simp; omega) _ rfl ?_
  · exact World.news_of_block (heap_alloc_new w2 _)
  · intro u hu
    simp only [List.mem_cons, List.not_mem_nil, or_false] at hu
    subst hu
    rfl
  · intro g cap w' h1 h2 _ _
    exact h g cap w' (by have e : strCells (cs ++ [c]) = strCells cs ++ [.string ⟨c.toArray⟩] := by simp [strCells]
                         rw [e]; exact h1) h2
/-- one attribute more -/
theorem wpList_aadd2 {ops : Array Oper} {rest : List Oper} {o : Oper} {a : Act} {Q : Exit → Act → World → Prop} {B : Nat} {w2 : World} {v : Value} {cs : List (List UInt8 × List UInt8)} {c : List UInt8 × List UInt8} (hgd : o.guard = none) (s t : Operand)
    (ho : o.op = .call { callee := .builtin .append, args := #[s, t], argTypes := #[45, 45] }) (hs : a.eval s = v) (hx : a.eval t = .slice (some ⟨w2.heap.size, 0, none⟩) 1 1)
    (hown : w2.ownsRow B 95 2 v cs.length (atCells cs)) (hlen : cs.length + 1 ≤ 2097152) (hB : B ≤ w2.heap.size)
    (h : ∀ g cap w', w'.ownsRow B 95 2 (.slice (some ⟨g, 0, none⟩) (cs.length + 1) cap) (cs.length + 1) (atCells (cs ++ [c])) → (w2.alloc (.cells #[.string ⟨c.1.toArray⟩, .string ⟨c.2.toArray⟩] 95)).grownBy w' v.ownBlock → wpList Try.prog ops Q rest (a.put o.dst (.slice (some ⟨g, 0, none⟩) (cs.length + 1) cap)) w') :
    wpList Try.prog ops Q (o :: rest) a (w2.alloc (.cells #[.string ⟨c.1.toArray⟩, .string ⟨c.2.toArray⟩] 95)) := by
  obtain ⟨i0, hi, hz0, hz1, hz2⟩ := info_parts Try.info95
  refine wpList_append_lies _ hgd s t 45 ho B 95 i0 _ 2 32 Try.underlying45 hi hz0 hz1 hz2 rfl (by decide) v cs.length (atCells cs) hs (own_on hown (on_alloc _ _)) ⟨w2.heap.size, 0, none⟩ 1 1 [.string ⟨c.1.toArray⟩, .string ⟨c.2.toArray⟩] hx rfl ?_ ?_ (by decide) (by unfold maxLen; omega) (by omega) (by simp; omega) _ rfl ?_
  · exact World.news_of_block (heap_alloc_new w2 _)
  · intro u hu
    simp only [List.mem_cons, List.not_mem_nil, or_false] at hu
    rcases hu with rfl | rfl <;> rfl
  · intro g cap w' h1 h2 _ _
    exact h g cap w' (by rw [atCells_snoc]; exact h1) h2
/-- one element more (up to 65), at the step that appends it -/
theorem wpList_nadd2 {ops : Array Oper} {rest : List Oper} {o : Oper} {a : Act} {Q : Exit → Act → World → Prop} {B : Nat} {w2 : World} {v : Value} {ns : List Pl.Nd} {x : Pl.Nd} {vc va : Value} (hgd : o.guard = none) (s t : Operand)
    (ho : o.op = .call { callee := .builtin .append, args := #[s, t], argTypes := #[22, 22] }) (hs : a.eval s = v) (hx : a.eval t = .slice (some ⟨w2.heap.size, 0, none⟩) 1 1)
    (hr : NRow B w2 v ns) (hlen : ns.length + 1 ≤ 65) (hB : B ≤ w2.heap.size) (hvc : StrsP (fun j => B ≤ j ∧ some j ≠ v.ownBlock) w2 vc x.cls) (hva : AtsP (fun j => B ≤ j ∧ some j ≠ v.ownBlock) w2 va x.ats)
    (h : ∀ g cap w', NRow B w' (.slice (some ⟨g, 0, none⟩) (ns.length + 1) cap) (ns ++ [x]) → (w2.alloc (.cells #[.int .i64 x.up, .string ⟨x.tag.toArray⟩, .string ⟨x.id.toArray⟩, vc, va] 47)).grownBy w' v.ownBlock → wpList Try.prog ops Q rest (a.put o.dst (.slice (some ⟨g, 0, none⟩) (ns.length + 1) cap)) w') :
    wpList Try.prog ops Q (o :: rest) a (w2.alloc (.cells #[.int .i64 x.up, .string ⟨x.tag.toArray⟩, .string ⟨x.id.toArray⟩, vc, va] 47)) := by
  obtain ⟨i0, hi, hz0, hz1, hz2⟩ := info_parts Try.info47
  obtain ⟨xs, hown, hcs⟩ := hr
  obtain ⟨_, _, e3, _⟩ := id hvc
  obtain ⟨_, _, e4, _⟩ := id hva
  have hm : Mv (fun j => B ≤ j ∧ some j ≠ v.ownBlock) w2 (fun j => B ≤ j ∧ some j ≠ v.ownBlock) (w2.alloc (.cells #[.int .i64 x.up, .string ⟨x.tag.toArray⟩, .string ⟨x.id.toArray⟩, vc, va] 47)) := fun j hj hl => ⟨hj, (on_alloc _ _).block j hl⟩
  refine wpList_append_lies _ hgd s t 22 ho B 47 i0 _ 5 88 Try.underlying22 hi hz0 hz1 hz2 rfl (by decide) v ns.length xs hs (own_on hown (on_alloc _ _)) ⟨w2.heap.size, 0, none⟩ 1 1 [.int .i64 x.up, .string ⟨x.tag.toArray⟩, .string ⟨x.id.toArray⟩, vc, va] hx rfl ?_ ?_ (by decide) (by unfold maxLen; omega) (by omega) (by simp; omega) _ rfl ?_
  · exact World.news_of_block (heap_alloc_new w2 _)
  · intro u hu
    simp only [List.mem_cons, List.not_mem_nil, or_false] at hu
    rcases hu with rfl | rfl | rfl | rfl | rfl
    · rfl
    · rfl
    · rfl
    · rw [e3]; rfl
    · rw [e4]; rfl
  · intro g cap w' h1 h2 h3 _
    refine h g cap w' ⟨_, by rw [List.length_append]; exact h1, ?_⟩ h2
    have hm2 : Mv (fun j => B ≤ j ∧ some j ≠ v.ownBlock) (w2.alloc (.cells #[.int .i64 x.up, .string ⟨x.tag.toArray⟩, .string ⟨x.id.toArray⟩, vc, va] 47)) (fun j => B ≤ j ∧ some j ≠ (Value.slice (some ⟨g, 0, none⟩) (ns.length + 1) cap).ownBlock) w' := by
      intro j hj hl
      refine ⟨⟨hj.1, fun e => ?_⟩, h2.block j hl hj.2⟩
      have e2 : j = g := by simpa [Value.ownBlock] using e
      rcases h3 with h | h
      · rw [h] at hj; exact hj.2 (by rw [e2])
      · omega
    exact NCells.append ns _ _ _ (NCells.to hm2 ns _ (NCells.to hm ns _ hcs)) ⟨⟨rfl, rfl, rfl, (hvc.to hm).to hm2, (hva.to hm).to hm2⟩, trivial⟩
end Go.Proofs.Ythlpcmgeelkncaa
