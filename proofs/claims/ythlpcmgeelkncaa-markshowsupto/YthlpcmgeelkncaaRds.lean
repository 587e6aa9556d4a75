/-
  The strict reader of texts: a sign, a name, a value, an attribute.
-/
import Derived.Test.YthlpcmgeelkncaaShelf
import Derived.Test.YthlpcmgeelkncaaMkB
import Derived.Test.YthlpcmgeelkncaaTxt
namespace Go.Proofs.Ythlpcmgeelkncaa
open Go.RowKit

/-- how a text is left that is not as it must be -/
abbrev Left : List PanicEntry := [{ v := .iface 26 (.int .i64 1), recovered := false }]
/-- a reader, and what is left of its text -/
def RdAt (b : Nat) (l : List UInt8) (w : World) : Prop := w.heap[b]? = some (.cells #[.string ⟨l.toArray⟩] 110)
theorem RdAt.facts {b : Nat} {l : List UInt8} {w : World} (h : RdAt b l w) : w.cell? ⟨b, 0, none⟩ = some (.string ⟨l.toArray⟩) ∧ w.frozen? ⟨b, 0, none⟩ = false ∧ b < w.heap.size := by
  unfold RdAt at h
  exact ⟨by simp [World.cell?, h], by simp [World.frozen?, h], (Array.getElem?_eq_some_iff.1 h).1⟩
theorem rd_set {b : Nat} {l : List UInt8} {w : World} (h : RdAt b l w) (r : List UInt8) : RdAt b r (w.setCell ⟨b, 0, none⟩ (.string ⟨r.toArray⟩)) ∧ w.grownBy (w.setCell ⟨b, 0, none⟩ (.string ⟨r.toArray⟩)) (some b) := by
  unfold RdAt at *
  refine ⟨by simp [World.setCell, Array.getElem?_modify, h], rfl, rfl, rfl, by simp [World.setCell], fun k _ hk => ?_⟩
  exact Below.heap_setCell _ _ _ _ (by intro e; subst e; exact hk rfl)
theorem gb_chain {g : Option Nat} {a b c : World} (h : a.grownBy b g) (k : b.grownBy c g) : a.grownBy c g :=
  ⟨k.os.trans h.os, k.tape.trans h.tape, k.output.trans h.output, Nat.le_trans h.size k.size, fun j hj hn => (k.block j (Nat.lt_of_lt_of_le hj h.size) hn).trans (h.block j hj hn)⟩
theorem gb_on {g : Option Nat} {a b c : World} (h : a.grownBy b g) (k : Below b.heap.size b c) : a.grownBy c g :=
  ⟨k.os.trans h.os, k.tape.trans h.tape, k.output.trans h.output, Nat.le_trans h.size k.size, fun j hj hn => (k.block j (Nat.lt_of_lt_of_le hj h.size)).trans (h.block j hj hn)⟩
theorem RdAt.on {b : Nat} {l : List UInt8} {w w' : World} (h : RdAt b l w) (hb : Below w.heap.size w w') : RdAt b l w' := (hb.block b h.facts.2.2).trans h
set_option maxHeartbeats 400000 in
theorem refuse_any (w : World) : Calls Try.prog 79 #[] w fun e w' => e = .panicked Left ∧ w' = w := by
  go_enter Try.func79, Try.ntmps79
  go_wp2
  exact ⟨rfl, rfl, rfl⟩
theorem hasPrefix_one (c : UInt8) (l : List UInt8) : Lib.hasPrefix l [c] = (Pl.need c l).isSome := by
  cases l with
  | nil => simp [Lib.hasPrefix, Pl.need]
  | cons x r =>
    by_cases h : x = c
    · subst h; simp [Lib.hasPrefix, Pl.need, List.isPrefixOf]
    · have h2 : c ≠ x := fun e => h e.symm
      simp [Lib.hasPrefix, Pl.need, List.isPrefixOf, h, h2]
theorem trimPrefix_one (c : UInt8) (l : List UInt8) : Lib.trimPrefix l [c] = (Pl.need c l).getD l := by
  rw [Lib.trimPrefix, hasPrefix_one]
  cases l with
  | nil => simp [Pl.need]
  | cons x r =>
    by_cases h : x = c
    · subst h; simp [Pl.need]
    · simp [Pl.need, h]
set_option maxHeartbeats 400000 in
theorem take_any (b : Nat) (l : List UInt8) (c : UInt8) (w : World) (h : RdAt b l w) :
    Calls Try.prog 91 #[.pointer (some ⟨b, 0, none⟩), .string ⟨#[c]⟩] w fun e w' => e = .returned (.bool (Pl.need c l).isSome) ∧ RdAt b ((Pl.need c l).getD l) w' ∧ w.grownBy w' (some b) := by
  obtain ⟨hc, hf, _⟩ := h.facts
  have HR : Hid _ := rd_set h ((Pl.need c l).getD l)
  clear h
  go_enter Try.func91, Try.ntmps91
  go_wp2_with (go_at_call 97; refine (Try.strings_CutPrefix _ _ _).mono ?_; rintro e w' ⟨rfl, rfl⟩)
  go_ret
  rw [hasPrefix_one, trimPrefix_one]
  exact ⟨rfl, HR.out⟩
theorem take_yes (b : Nat) (l r : List UInt8) (c : UInt8) (w : World) (h : RdAt b l w) (hn : Pl.need c l = some r) :
    Calls Try.prog 91 #[.pointer (some ⟨b, 0, none⟩), .string ⟨#[c]⟩] w fun e w' => e = .returned (.bool true) ∧ RdAt b r w' ∧ w.grownBy w' (some b) := by
  have := take_any b l c w h
  rw [hn] at this
  exact this
theorem take_no (b : Nat) (l : List UInt8) (c : UInt8) (w : World) (h : RdAt b l w) (hn : Pl.need c l = none) :
    Calls Try.prog 91 #[.pointer (some ⟨b, 0, none⟩), .string ⟨#[c]⟩] w fun e w' => e = .returned (.bool false) ∧ RdAt b l w' ∧ w.grownBy w' (some b) := by
  have := take_any b l c w h
  rw [hn] at this
  exact this
set_option maxHeartbeats 400000 in
theorem need_yes (b : Nat) (l r : List UInt8) (c : UInt8) (w : World) (h : RdAt b l w) (hn : Pl.need c l = some r) :
    Calls Try.prog 92 #[.pointer (some ⟨b, 0, none⟩), .string ⟨#[c]⟩] w fun e w' => e = .returned (.tuple #[]) ∧ RdAt b r w' ∧ w.grownBy w' (some b) := by
  go_enter Try.func92, Try.ntmps92
  go_wp2_with fail
  refine (take_yes b l r c _ h hn).mono ?_
  rintro e w1 ⟨rfl, h1, g1⟩
  go_wp2
  go_end0
  exact ⟨rfl, h1, g1⟩
set_option maxHeartbeats 400000 in
theorem need_no (b : Nat) (l : List UInt8) (c : UInt8) (w : World) (h : RdAt b l w) (hn : Pl.need c l = none) :
    Calls Try.prog 92 #[.pointer (some ⟨b, 0, none⟩), .string ⟨#[c]⟩] w fun e w' => e = .panicked Left ∧ w.grownBy w' (some b) := by
  go_enter Try.func92, Try.ntmps92
  go_wp2_with fail
  refine (take_no b l c _ h hn).mono ?_
  rintro e w1 ⟨rfl, h1, g1⟩
  go_wp2_with (go_at_call 79; refine (refuse_any _).mono ?_; rintro e w' ⟨rfl, rfl⟩)
  exact ⟨rfl, rfl, g1⟩
theorem ex_take (l : List UInt8) (k : Nat) : (⟨l.toArray⟩ : ByteArray).extract 0 k = ⟨(l.take k).toArray⟩ := by
  rw [Lib.extract_eq]; simp
theorem ex_drop (l : List UInt8) (k : Nat) : (⟨l.toArray⟩ : ByteArray).extract k l.length = ⟨(l.drop k).toArray⟩ := by
  rw [Lib.extract_eq]; congr 2; exact List.take_of_length_le (by simp)
theorem scan_stop {p : UInt8 → Bool} (l : List UInt8) (k : Nat) (h1 : ∀ c ∈ l.take k, p c = true) (h2 : Pl.Shut p (l.drop k)) : l.takeWhile p = l.take k ∧ l.dropWhile p = l.drop k := by
  have := Pl.run_app (l.take k) (l.drop k) h1 h2
  rwa [List.take_append_drop] at this
theorem run_succ {p : UInt8 → Bool} (l : List UInt8) (k : Nat) (h : k < l.length) (h1 : ∀ c ∈ l.take k, p c = true) (h2 : p l[k] = true) : ∀ c ∈ l.take (k + 1), p c = true := by
  intro c hc
  rw [List.take_succ_eq_append_getElem h, List.mem_append, List.mem_singleton] at hc
  rcases hc with hc | rfl
  · exact h1 c hc
  · exact h2
set_option maxHeartbeats 400000 in
theorem notQ_any (c : UInt8) (w : World) : Calls Try.prog 101 #[.int .u8 c.toNat] w fun e w' => e = .returned (.bool (Pl.notQ c)) ∧ w' = w := by
  have hc := c.toNat_lt
  have hq : Pl.notQ c = ((c.toNat : Int) != 34) := by
    unfold Pl.notQ
    rw [Bool.eq_iff_iff]
    simp only [bne_iff_ne, ne_eq]
    constructor
    · intro h e; exact h (UInt8.toNat_inj.1 (by simpa using Int.ofNat.inj e))
    · intro h e; subst e; exact h rfl
  have HQ : Hid _ := hq
  clear hq
  go_enter Try.func101, Try.ntmps101
  go_wp2
  go_ret
  rw [HQ.out]
  exact ⟨rfl, rfl⟩
set_option maxHeartbeats 400000 in
theorem runName_any (b : Nat) (l : List UInt8) (w : World) (h : RdAt b l w) (hl : l.length ≤ maxLen) :
    Calls Try.prog 98 #[.pointer (some ⟨b, 0, none⟩), .func (.func 85) #[] #[]] w fun e w' => e = .returned (.string ⟨(l.takeWhile Pl.isNB).toArray⟩) ∧ RdAt b (l.dropWhile Pl.isNB) w' ∧ w.grownBy w' (some b) := by
  unfold maxLen at hl
  obtain ⟨hc, hf, hb⟩ := h.facts
  have HR : Hid _ := rd_set h (l.dropWhile Pl.isNB)
  clear h
  go_enter Try.func98, Try.ntmps98
  go_wp2
  go_loop [5] (fun n => ∃ k : Nat, k ≤ l.length ∧ n = .int .i64 k ∧ Hid (∀ c ∈ l.take k, Pl.isNB c = true)) (fun n => l.length - (intOf n).toNat)
  case atStart => exact ⟨0, Nat.zero_le _, rfl, by intro c hc; simp at hc⟩
  case round =>
    obtain ⟨k, hk, rfl, hd⟩ := hrel
    by_cases hlt : k < l.length
    · cases hx : Pl.isNB l[k] with
      | true =>
        have hx' : Hid (Pl.isNB l[k] = true) := hx
        have hy : Pl.isNB (⟨l.toArray⟩ : ByteArray)[k] = true := hx
        clear hx
        go_wp2_with (go_at_call 85; refine (isNameByte_any _ _).mono ?_; rintro e w' ⟨rfl, rfl⟩)
        go_round
        case rel => exact ⟨k + 1, hlt, by go_num, run_succ l k hlt hd.out hx'.out⟩
        case measure => simp [intOf]; omega
      | false =>
        have hs := scan_stop l k hd.out (by rw [List.drop_eq_getElem_cons hlt]; exact Pl.shut_cons hx _)
        have HS : Hid (l.takeWhile Pl.isNB = l.take k ∧ l.dropWhile Pl.isNB = l.drop k) := hs
        have hy : Pl.isNB (⟨l.toArray⟩ : ByteArray)[k] = false := hx
        clear hx hs
        go_wp2_with (go_at_call 85; refine (isNameByte_any _ _).mono ?_; rintro e w' ⟨rfl, rfl⟩)
        go_ret
        have hR := HR.out
        rw [HS.out.2] at hR
        rw [HS.out.1, HS.out.2]
        refine ⟨by simp [ex_take], ?_⟩
        rw [ex_drop]; exact hR
    · have hs := scan_stop l k hd.out (by rw [List.drop_eq_nil_of_le (by omega)]; exact Pl.shut_nil _)
      have HS : Hid (l.takeWhile Pl.isNB = l.take k ∧ l.dropWhile Pl.isNB = l.drop k) := hs
      clear hs
      go_wp2
      go_ret
      have hR := HR.out
      rw [HS.out.2] at hR
      rw [HS.out.1, HS.out.2]
      refine ⟨by simp [ex_take], ?_⟩
      rw [ex_drop]; exact hR
set_option maxHeartbeats 400000 in
theorem runVal_any (b : Nat) (l : List UInt8) (w : World) (h : RdAt b l w) (hl : l.length ≤ maxLen) :
    Calls Try.prog 98 #[.pointer (some ⟨b, 0, none⟩), .func (.func 101) #[] #[]] w fun e w' => e = .returned (.string ⟨(l.takeWhile Pl.notQ).toArray⟩) ∧ RdAt b (l.dropWhile Pl.notQ) w' ∧ w.grownBy w' (some b) := by
  unfold maxLen at hl
  obtain ⟨hc, hf, hb⟩ := h.facts
  have HR : Hid _ := rd_set h (l.dropWhile Pl.notQ)
  clear h
  go_enter Try.func98, Try.ntmps98
  go_wp2
  go_loop [5] (fun n => ∃ k : Nat, k ≤ l.length ∧ n = .int .i64 k ∧ Hid (∀ c ∈ l.take k, Pl.notQ c = true)) (fun n => l.length - (intOf n).toNat)
  case atStart => exact ⟨0, Nat.zero_le _, rfl, by intro c hc; simp at hc⟩
  case round =>
    obtain ⟨k, hk, rfl, hd⟩ := hrel
    by_cases hlt : k < l.length
    · cases hx : Pl.notQ l[k] with
      | true =>
        have hx' : Hid (Pl.notQ l[k] = true) := hx
        have hy : Pl.notQ (⟨l.toArray⟩ : ByteArray)[k] = true := hx
        clear hx
        go_wp2_with (go_at_call 101; refine (notQ_any _ _).mono ?_; rintro e w' ⟨rfl, rfl⟩)
        go_round
        case rel => exact ⟨k + 1, hlt, by go_num, run_succ l k hlt hd.out hx'.out⟩
        case measure => simp [intOf]; omega
      | false =>
        have hs := scan_stop l k hd.out (by rw [List.drop_eq_getElem_cons hlt]; exact Pl.shut_cons hx _)
        have HS : Hid (l.takeWhile Pl.notQ = l.take k ∧ l.dropWhile Pl.notQ = l.drop k) := hs
        have hy : Pl.notQ (⟨l.toArray⟩ : ByteArray)[k] = false := hx
        clear hx hs
        go_wp2_with (go_at_call 101; refine (notQ_any _ _).mono ?_; rintro e w' ⟨rfl, rfl⟩)
        go_ret
        have hR := HR.out
        rw [HS.out.2] at hR
        rw [HS.out.1, HS.out.2]
        refine ⟨by simp [ex_take], ?_⟩
        rw [ex_drop]; exact hR
    · have hs := scan_stop l k hd.out (by rw [List.drop_eq_nil_of_le (by omega)]; exact Pl.shut_nil _)
      have HS : Hid (l.takeWhile Pl.notQ = l.take k ∧ l.dropWhile Pl.notQ = l.drop k) := hs
      clear hs
      go_wp2
      go_ret
      have hR := HR.out
      rw [HS.out.2] at hR
      rw [HS.out.1, HS.out.2]
      refine ⟨by simp [ex_take], ?_⟩
      rw [ex_drop]; exact hR
end Go.Proofs.Ythlpcmgeelkncaa
/-
  The strict reader of texts: a name, a value, an attribute.
-/
namespace Go.Proofs.Ythlpcmgeelkncaa
open Go.RowKit

theorem drop_len {p : UInt8 → Bool} (l : List UInt8) : (l.dropWhile p).length ≤ l.length := (List.dropWhile_sublist p).length_le
theorem need_len {c : UInt8} {l r : List UInt8} (h : Pl.need c l = some r) : r.length ≤ l.length := by
  rw [(Pl.need_iff _ _ _).1 h]; simp
theorem name_rest {l s r : List UInt8} (h : Pl.rdName l = some (s, r)) : r.length ≤ l.length := by
  rw [((Pl.rdName_iff _ _ _).1 h).2.1]; simp
theorem value_rest {l s r : List UInt8} (h : Pl.rdValue l = some (s, r)) : r.length ≤ l.length := by
  rw [((Pl.rdValue_iff _ _ _).1 h).2]; simp; omega
theorem attr_rest {l : List UInt8} {a : List UInt8 × List UInt8} {r : List UInt8} (h : Pl.rdAttr l = some (a, r)) : r.length ≤ l.length := by
  rw [((Pl.rdAttr_iff _ _ _).1 h).2.2]; simp; omega
set_option maxHeartbeats 400000 in
theorem name_any (b : Nat) (l : List UInt8) (w : World) (h : RdAt b l w) (hl : l.length ≤ maxLen) :
    Calls Try.prog 95 #[.pointer (some ⟨b, 0, none⟩)] w fun e w' => (Pl.rdName l = none ∧ e = .panicked Left ∧ w.grownBy w' (some b)) ∨ (∃ s r, Pl.rdName l = some (s, r) ∧ e = .returned (.string ⟨s.toArray⟩) ∧ RdAt b r w' ∧ w.grownBy w' (some b)) := by
  cases hn : Pl.isName (l.takeWhile Pl.isNB) with
  | true =>
    have HN : Hid (Pl.rdName l = some (l.takeWhile Pl.isNB, l.dropWhile Pl.isNB)) := by unfold Hid Pl.rdName; rw [if_pos hn]
    go_enter Try.func95, Try.ntmps95
    go_wp2_with fail
    refine (runName_any b l _ h hl).mono ?_
    rintro e w1 ⟨rfl, h1, g1⟩
    go_wp2_with (go_at_call 66; refine (isName_any _ _).mono ?_; rintro e w' ⟨rfl, rfl⟩)
    go_ret
    exact Or.inr ⟨_, _, HN.out, rfl, h1, g1⟩
  | false =>
    have HN : Hid (Pl.rdName l = none) := by unfold Hid Pl.rdName; rw [if_neg (by rw [hn]; simp)]
    go_enter Try.func95, Try.ntmps95
    go_wp2_with fail
    refine (runName_any b l _ h hl).mono ?_
    rintro e w1 ⟨rfl, h1, g1⟩
    go_wp2_with (first | (go_at_call 66; refine (isName_any _ _).mono ?_; rintro e w' ⟨rfl, rfl⟩) | (go_at_call 79; refine (refuse_any _).mono ?_; rintro e w' ⟨rfl, rfl⟩))
    exact ⟨rfl, Or.inl ⟨HN.out, rfl, g1⟩⟩
set_option maxHeartbeats 800000 in
theorem value_any (b : Nat) (l : List UInt8) (w : World) (h : RdAt b l w) (hl : l.length ≤ maxLen) :
    Calls Try.prog 99 #[.pointer (some ⟨b, 0, none⟩)] w fun e w' => (Pl.rdValue l = none ∧ e = .panicked Left ∧ w.grownBy w' (some b)) ∨ (∃ s r, Pl.rdValue l = some (s, r) ∧ e = .returned (.string ⟨s.toArray⟩) ∧ RdAt b r w' ∧ w.grownBy w' (some b)) := by
  cases h1 : Pl.need 34 l with
  | none =>
    have HN : Hid (Pl.rdValue l = none) := by unfold Hid Pl.rdValue; rw [h1]
    go_enter Try.func99, Try.ntmps99
    go_wp2_with fail
    refine (need_no b l 34 _ h h1).mono ?_
    rintro e w1 ⟨rfl, g1⟩
    go_wp2
    exact ⟨rfl, Or.inl ⟨HN.out, rfl, g1⟩⟩
  | some l1 =>
    have hl1 := Nat.le_trans (need_len h1) hl
    cases h2 : Pl.need 34 (l1.dropWhile Pl.notQ) with
    | none =>
      have HN : Hid (Pl.rdValue l = none) := by unfold Hid Pl.rdValue; rw [h1]; simp only; rw [h2]
      go_enter Try.func99, Try.ntmps99
      go_wp2_with fail
      refine (need_yes b l l1 34 _ h h1).mono ?_
      rintro e w1 ⟨rfl, r1, g1⟩
      go_wp2_with fail
      refine (runVal_any b l1 _ r1 hl1).mono ?_
      rintro e w2 ⟨rfl, r2, g2⟩
      go_wp2_with fail
      refine (need_no b _ 34 _ r2 h2).mono ?_
      rintro e w3 ⟨rfl, g3⟩
      have G3 : Hid _ := gb_chain (gb_chain g1 g2) g3
      go_wp2
      exact ⟨rfl, Or.inl ⟨HN.out, rfl, G3.out⟩⟩
    | some l2 =>
      cases hv : Pl.isValue (l1.takeWhile Pl.notQ) with
      | true =>
        have HN : Hid (Pl.rdValue l = some (l1.takeWhile Pl.notQ, l2)) := by unfold Hid Pl.rdValue; rw [h1]; simp only; rw [h2]; simp only; rw [if_pos hv]
        go_enter Try.func99, Try.ntmps99
        go_wp2_with fail
        refine (need_yes b l l1 34 _ h h1).mono ?_
        rintro e w1 ⟨rfl, r1, g1⟩
        go_wp2_with fail
        refine (runVal_any b l1 _ r1 hl1).mono ?_
        rintro e w2 ⟨rfl, r2, g2⟩
        go_wp2_with fail
        refine (need_yes b _ l2 34 _ r2 h2).mono ?_
        rintro e w3 ⟨rfl, r3, g3⟩
        have G3 : Hid _ := gb_chain (gb_chain g1 g2) g3
        clear g1 g2 g3 r1 r2
        go_wp2_with (go_at_call 88; refine (isValue_any _ _).mono ?_; rintro e w' ⟨rfl, rfl⟩)
        go_ret
        exact Or.inr ⟨_, _, HN.out, rfl, r3, G3.out⟩
      | false =>
        have HN : Hid (Pl.rdValue l = none) := by unfold Hid Pl.rdValue; rw [h1]; simp only; rw [h2]; simp only; rw [if_neg (by rw [hv]; simp)]
        go_enter Try.func99, Try.ntmps99
        go_wp2_with fail
        refine (need_yes b l l1 34 _ h h1).mono ?_
        rintro e w1 ⟨rfl, r1, g1⟩
        go_wp2_with fail
        refine (runVal_any b l1 _ r1 hl1).mono ?_
        rintro e w2 ⟨rfl, r2, g2⟩
        go_wp2_with fail
        refine (need_yes b _ l2 34 _ r2 h2).mono ?_
        rintro e w3 ⟨rfl, r3, g3⟩
        have G3 : Hid _ := gb_chain (gb_chain g1 g2) g3
        clear g1 g2 g3 r1 r2
        go_wp2_with (first | (go_at_call 88; refine (isValue_any _ _).mono ?_; rintro e w' ⟨rfl, rfl⟩) | (go_at_call 79; refine (refuse_any _).mono ?_; rintro e w' ⟨rfl, rfl⟩))
        exact ⟨rfl, Or.inl ⟨HN.out, rfl, G3.out⟩⟩
theorem box_kept {w w' : World} {b N : Nat} {c : Array Value} {T : TypeId} (h : w.heap[N]? = some (.cells c T)) (hg : w.grownBy w' (some b)) (hne : N ≠ b) : w'.heap[N]? = some (.cells c T) :=
  (hg.block N (Array.getElem?_eq_some_iff.1 h).1 (by intro e; injection e with e; exact hne e)).trans h
set_option maxHeartbeats 1600000 in
theorem attr_any (b : Nat) (l : List UInt8) (w : World) (h : RdAt b l w) (hl : l.length ≤ maxLen) :
    Calls Try.prog 96 #[.pointer (some ⟨b, 0, none⟩)] w fun e w' => (Pl.rdAttr l = none ∧ e = .panicked Left ∧ w.grownBy w' (some b)) ∨ (∃ a r, Pl.rdAttr l = some (a, r) ∧ e = .returned (.agg #[.string ⟨a.1.toArray⟩, .string ⟨a.2.toArray⟩]) ∧ RdAt b r w' ∧ w.grownBy w' (some b)) := by
  have hb := h.facts.2.2
  have h0 := h.on (on_alloc w (.cells #[.string ⟨#[]⟩, .string ⟨#[]⟩] 95))
  have g0 : w.grownBy (w.alloc (.cells #[.string ⟨#[]⟩, .string ⟨#[]⟩] 95)) (some b) := gb_on (World.grownBy.refl w _) (on_alloc _ _)
  have x0 : (w.alloc (.cells #[.string ⟨#[]⟩, .string ⟨#[]⟩] 95)).heap[w.heap.size]? = some (.cells #[.string ⟨#[]⟩, .string ⟨#[]⟩] 95) := heap_alloc_new w _
  have hne : w.heap.size ≠ b := by omega
  go_enter Try.func96, Try.ntmps96
  go_wp2_with fail
  generalize w.alloc (.cells #[.string ⟨#[]⟩, .string ⟨#[]⟩] 95) = w0 at *
  refine (name_any b l _ h0 hl).mono ?_
  rintro e w1 (⟨hn, rfl, g1⟩ | ⟨s, r, hn, rfl, r1, g1⟩)
  · have G1 : Hid _ := gb_chain g0 g1
    go_wp2
    exact ⟨rfl, Or.inl ⟨by unfold Pl.rdAttr; rw [hn], rfl, G1.out⟩⟩
  have G1 : Hid _ := gb_chain g0 g1
  have X1 := box_kept x0 g1 hne
  have hl1 := Nat.le_trans (name_rest hn) hl
  have HN : Hid _ := hn
  clear hn g0 g1 h0 x0
  go_wp2_with fail
  cases h2 : Pl.need 61 r with
  | none =>
    refine (need_no b r 61 _ r1 h2).mono ?_
    rintro e w2 ⟨rfl, g2⟩
    have G2 : Hid _ := gb_chain G1.out g2
    go_wp2
    exact ⟨rfl, Or.inl ⟨by unfold Pl.rdAttr; rw [HN.out]; simp only; rw [h2], rfl, G2.out⟩⟩
  | some l2 =>
  have H2 : Hid _ := h2
  refine (need_yes b r l2 61 _ r1 h2).mono ?_
  rintro e w2 ⟨rfl, r2, g2⟩
  have G2 : Hid _ := gb_chain G1.out g2
  have X2 := box_kept X1 g2 hne
  have hl2 := Nat.le_trans (need_len h2) hl1
  clear g2 r1 X1 h2
  go_wp2_with fail
  refine (value_any b l2 _ r2 hl2).mono ?_
  rintro e w3 (⟨hn, rfl, g3⟩ | ⟨v, l3, hn, rfl, r3, g3⟩)
  · have G3 : Hid _ := gb_chain G2.out g3
    go_wp2
    exact ⟨rfl, Or.inl ⟨by unfold Pl.rdAttr; rw [HN.out]; simp only; rw [H2.out]; simp only; rw [hn], rfl, G3.out⟩⟩
  have G3 : Hid _ := gb_chain G2.out g3
  have X3 := box_kept X2 g3 hne
  have hl3 := Nat.le_trans (value_rest hn) hl2
  have H3 : Hid _ := hn
  clear g3 r2 X2 hn
  go_wp2_with fail
  cases h4 : Pl.need 93 l3 with
  | none =>
    refine (need_no b l3 93 _ r3 h4).mono ?_
    rintro e w4 ⟨rfl, g4⟩
    have G4 : Hid _ := gb_chain G3.out g4
    go_wp2
    exact ⟨rfl, Or.inl ⟨by unfold Pl.rdAttr; rw [HN.out]; simp only; rw [H2.out]; simp only; rw [H3.out]; simp only; rw [h4], rfl, G4.out⟩⟩
  | some l4 =>
  have H4 : Hid (Pl.rdAttr l = some ((s, v), l4)) := by unfold Hid Pl.rdAttr; rw [HN.out]; simp only; rw [H2.out]; simp only; rw [H3.out]; simp only; rw [h4]
  refine (need_yes b l3 l4 93 _ r3 h4).mono ?_
  rintro e w4 ⟨rfl, r4, g4⟩
  have G4 : Hid _ := gb_chain G3.out g4
  have X4 := box_kept X3 g4 hne
  have c0 : w4.cell? ⟨w.heap.size, 0, none⟩ = some (.string ⟨#[]⟩) := by simp [World.cell?, X4]
  have c1 : w4.cell? ⟨w.heap.size, 1, none⟩ = some (.string ⟨#[]⟩) := by simp [World.cell?, X4]
  have f : ∀ i, w4.frozen? ⟨w.heap.size, i, none⟩ = false := fun i => by simp [World.frozen?, X4]
  have XF : Hid (((w4.setCell ⟨w.heap.size, 0, none⟩ (.string ⟨s.toArray⟩)).setCell ⟨w.heap.size, 1, none⟩ (.string ⟨v.toArray⟩)).heap[w.heap.size]? = some (.cells #[.string ⟨s.toArray⟩, .string ⟨v.toArray⟩] 95)) := by
    unfold Hid; simp [World.setCell, Array.getElem?_modify, X4]
  have hRF : RdAt b l4 ((w4.setCell ⟨w.heap.size, 0, none⟩ (.string ⟨s.toArray⟩)).setCell ⟨w.heap.size, 1, none⟩ (.string ⟨v.toArray⟩)) := by
    unfold RdAt; rw [Below.heap_setCell _ _ _ _ (by exact fun e => hne e.symm), Below.heap_setCell _ _ _ _ (by exact fun e => hne e.symm)]; exact r4
  have HRF : Hid _ := hRF
  have hGF : w.grownBy ((w4.setCell ⟨w.heap.size, 0, none⟩ (.string ⟨s.toArray⟩)).setCell ⟨w.heap.size, 1, none⟩ (.string ⟨v.toArray⟩)) (some b) :=
    ⟨G4.out.os, G4.out.tape, G4.out.output, by have := G4.out.size; simpa [World.setCell] using this, fun j hj hn => by
      rw [Below.heap_setCell _ _ _ _ (by show j ≠ w.heap.size; omega), Below.heap_setCell _ _ _ _ (by show j ≠ w.heap.size; omega)]; exact G4.out.block j hj hn⟩
  have HGF : Hid _ := hGF
  clear g4 r3 X3 h4 hRF hGF X4
  go_wp2_with fail
  generalize (w4.setCell ⟨w.heap.size, 0, none⟩ (.string ⟨s.toArray⟩)).setCell ⟨w.heap.size, 1, none⟩ (.string ⟨v.toArray⟩) = wF at *
  have q0 : wF.cell? ⟨w.heap.size, 0, none⟩ = some (.string ⟨s.toArray⟩) := by simp [World.cell?, XF.out]
  have q1 : wF.cell? ⟨w.heap.size, 1, none⟩ = some (.string ⟨v.toArray⟩) := by simp [World.cell?, XF.out]
  exact bodyPost_ret (v := .agg #[.string ⟨s.toArray⟩, .string ⟨v.toArray⟩]) (by simp [results, Try.results96, go_sem, q0, q1]) rfl (Or.inr ⟨(s, v), l4, H4.out, rfl, HRF.out, HGF.out⟩)
end Go.Proofs.Ythlpcmgeelkncaa
