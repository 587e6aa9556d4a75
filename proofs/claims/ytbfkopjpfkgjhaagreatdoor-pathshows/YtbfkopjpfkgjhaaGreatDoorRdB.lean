/-
  Reading texts strictly, in plain form: a text that must come next, a name, a value; the pieces of paths.
-/
import Derived.Test.YtbfkopjpfkgjhaaGreatDoorShA
import Derived.Test.YtbfkopjpfkgjhaaGreatDoorRcE
namespace Go.Proofs.YtbfkopjpfkgjhaaGreatDoor.Pl

def need (c : UInt8) : List UInt8 → Option (List UInt8)
  | [] => none
  | x :: r => if x = c then some r else none
theorem need_iff (c : UInt8) (l r : List UInt8) : need c l = some r ↔ l = c :: r := by
  cases l with
  | nil => simp [need]
  | cons x t =>
    unfold need
    by_cases h : x = c
    · subst h; simp
    · simp [h]
theorem need_none {c : UInt8} {l : List UInt8} (h : ∀ r, l ≠ c :: r) : need c l = none := by
  cases hn : need c l with
  | none => rfl
  | some r => exact absurd ((need_iff c l r).1 hn) (h r)
theorem need_cons (c : UInt8) (r : List UInt8) : need c (c :: r) = some r := (need_iff _ _ _).2 rfl
/-- it does not open with a byte of p -/
def Shut (p : UInt8 → Bool) (l : List UInt8) : Prop := ∀ c r, l = c :: r → p c = false
theorem shut_nil (p : UInt8 → Bool) : Shut p [] := fun c r h => by cases h
theorem shut_cons {p : UInt8 → Bool} {c : UInt8} (h : p c = false) (r : List UInt8) : Shut p (c :: r) := fun d t e => by
  injection e with e1 e2; rw [← e1]; exact h
theorem run_app {p : UInt8 → Bool} : ∀ (l r : List UInt8), (∀ c ∈ l, p c = true) → Shut p r → (l ++ r).takeWhile p = l ∧ (l ++ r).dropWhile p = r
  | [], [], _, _ => by simp
  | [], x :: r, _, h => by
    have := h x r rfl
    simp [this]
  | y :: l, r, hd, h => by
    have := run_app l r (fun c hc => hd c (List.mem_cons_of_mem _ hc)) h
    have hy := hd y (by simp)
    simp [hy, this]
theorem run_shut {p : UInt8 → Bool} : ∀ l : List UInt8, Shut p (l.dropWhile p)
  | [] => shut_nil p
  | x :: l => by
    rw [List.dropWhile_cons]
    by_cases h : p x = true
    · rw [if_pos h]; exact run_shut l
    · rw [if_neg h]; exact shut_cons (by simpa using h) l
theorem run_all {p : UInt8 → Bool} : ∀ (l : List UInt8), ∀ c ∈ l.takeWhile p, p c = true
  | [], c, h => by simp at h
  | x :: l, c, h => by
    rw [List.takeWhile_cons] at h
    by_cases hx : p x = true
    · rw [if_pos hx, List.mem_cons] at h
      rcases h with rfl | h
      · exact hx
      · exact run_all l c h
    · rw [if_neg hx] at h; simp at h
theorem name_all {s : List UInt8} (h : isName s = true) : (∀ c ∈ s, isNB c = true) ∧ s ≠ [] := by
  unfold isName at h
  simp only [Bool.and_eq_true, List.all_eq_true, decide_eq_true_eq] at h
  exact ⟨h.2, fun e => by subst e; simp at h⟩
def rdName (l : List UInt8) : Option (List UInt8 × List UInt8) := if isName (l.takeWhile isNB) = true then some (l.takeWhile isNB, l.dropWhile isNB) else none
theorem rdName_iff (l s r : List UInt8) : rdName l = some (s, r) ↔ isName s = true ∧ l = s ++ r ∧ Shut isNB r := by
  unfold rdName
  constructor
  · intro h
    split at h
    · rename_i hn
      simp only [Option.some.injEq, Prod.mk.injEq] at h
      obtain ⟨rfl, rfl⟩ := h
      exact ⟨hn, (List.takeWhile_append_dropWhile).symm, run_shut l⟩
    · cases h
  · rintro ⟨hn, rfl, hs⟩
    obtain ⟨h1, h2⟩ := run_app s r (name_all hn).1 hs
    rw [h1, h2, if_pos hn]
def notQ (c : UInt8) : Bool := c != 34
theorem value_all {s : List UInt8} (h : isValue s = true) : ∀ c ∈ s, notQ c = true := by
  unfold isValue at h
  simp only [Bool.and_eq_true, List.all_eq_true, decide_eq_true_eq] at h
  intro c hc
  have := h.2 c hc
  unfold isVB at this
  simp only [Bool.and_eq_true, decide_eq_true_eq, Bool.not_eq_true', beq_eq_false_iff_ne] at this
  unfold notQ
  simp only [bne_iff_ne]
  intro e
  subst e
  exact this.2 rfl
def rdValue (l : List UInt8) : Option (List UInt8 × List UInt8) :=
  match need 34 l with
  | none => none
  | some l1 => match need 34 (l1.dropWhile notQ) with
    | none => none
    | some l2 => if isValue (l1.takeWhile notQ) = true then some (l1.takeWhile notQ, l2) else none
theorem rdValue_iff (l v r : List UInt8) : rdValue l = some (v, r) ↔ isValue v = true ∧ l = 34 :: (v ++ 34 :: r) := by
  unfold rdValue
  constructor
  · intro h
    split at h
    · cases h
    · rename_i l1 h1
      split at h
      · cases h
      · rename_i l2 h2
        split at h
        · rename_i hv
          simp only [Option.some.injEq, Prod.mk.injEq] at h
          obtain ⟨rfl, rfl⟩ := h
          have e1 := (need_iff _ _ _).1 h1
          have e2 := (need_iff _ _ _).1 h2
          refine ⟨hv, ?_⟩
          rw [e1, ← e2, List.takeWhile_append_dropWhile]
        · cases h
  · rintro ⟨hv, rfl⟩
    obtain ⟨h1, h2⟩ := run_app v (34 :: r) (value_all hv) (shut_cons rfl r)
    rw [need_cons]
    simp only
    rw [h2, need_cons]
    simp only
    rw [h1, if_pos hv]
/-- behind s, if s comes next -/
def tk (s l : List UInt8) : Option (List UInt8) := if s.isPrefixOf l = true then some (l.drop s.length) else none
theorem tk_iff (s l r : List UInt8) : tk s l = some r ↔ l = s ++ r := by
  unfold tk
  constructor
  · intro h
    split at h
    · rename_i hp
      obtain ⟨t, rfl⟩ := List.isPrefixOf_iff_prefix.1 hp
      simp at h
      rw [h]
    · cases h
  · rintro rfl
    rw [if_pos (List.isPrefixOf_iff_prefix.2 ⟨r, rfl⟩)]
    simp
theorem tk_app (s r : List UInt8) : tk s (s ++ r) = some r := (tk_iff _ _ _).2 rfl
theorem tk_len {s l r : List UInt8} (h : tk s l = some r) : r.length ≤ l.length := by
  rw [(tk_iff _ _ _).1 h]; simp
def rdLinkFrom : Nat → List UInt8 → Option (Nat × List UInt8)
  | 0, _ => none
  | k + 1, l => match tk (lnk (k + 1)) l with
    | some r => some (k + 1, r)
    | none => rdLinkFrom k l
def rdLink (l : List UInt8) : Option (Nat × List UInt8) := rdLinkFrom 4 l
/-- the first kind from 16 - f on whose tests begin so -/
def rdBeginFrom : Nat → List UInt8 → Option (Nat × List UInt8)
  | 0, _ => none
  | f + 1, l => match tk (fBegin (15 - f)) l with
    | some r => some (15 - f, r)
    | none => rdBeginFrom f l
def rdBegin (l : List UInt8) : Option (Nat × List UInt8) := rdBeginFrom 15 l
/-- the first kind from 16 - f on that begins like k and whose sign comes next -/
def rdSignFrom (k : Nat) : Nat → List UInt8 → Option (Nat × List UInt8)
  | 0, _ => none
  | f + 1, l => if fBegin (15 - f) = fBegin k then (match tk (fSign (15 - f)) l with
    | some r => some (15 - f, r)
    | none => rdSignFrom k f l) else none
def rdSign (k : Nat) (l : List UInt8) : Option (Nat × List UInt8) := rdSignFrom k (16 - k) l
def notE (c : UInt8) : Bool := c != 41
/-- a count, up to the bracket that shuts it -/
def rdNth (l : List UInt8) : Option ((Int × Int) × List UInt8) :=
  if (l.dropWhile notE).isEmpty = true then none else match Nt.Pl.read (l.takeWhile notE) with
    | some x => some (x, l.dropWhile notE)
    | none => none
def rdT1 (k : Nat) (l : List UInt8) : Option (List UInt8 × List UInt8) := if kName k = true then rdName l else some ([], l)
def rdT2 (k : Nat) (l : List UInt8) : Option (List UInt8 × List UInt8) := if kValue k = true then rdValue l else some ([], l)
def rdT3 (k : Nat) (l : List UInt8) : Option ((Int × Int) × List UInt8) := if kNth k = true then rdNth l else some ((0, 0), l)
def rdT4 {α : Type} (rl : List UInt8 → Option (List α × List UInt8)) (k : Nat) (l : List UInt8) : Option (List α × List UInt8) := if kList k = true then rl l else some ([], l)
def rdTest {α : Type} (rl : List UInt8 → Option (List α × List UInt8)) (k : Nat) (l : List UInt8) : Option (Tst α × List UInt8) :=
  match rdT1 k l with
  | none => none
  | some (name, l1) => match rdSign k l1 with
    | none => none
    | some (m, l2) => match rdT2 m l2 with
      | none => none
      | some (value, l3) => match rdT3 m l3 with
        | none => none
        | some (x, l4) => match rdT4 rl m l4 with
          | none => none
          | some (list, l5) => match tk (fEnd m) l5 with
            | none => none
            | some l6 => some (⟨m, name, value, x.1, x.2, list⟩, l6)
def rdTests {α : Type} (rl : List UInt8 → Option (List α × List UInt8)) : Nat → List UInt8 → Option (List (Tst α) × List UInt8)
  | 0, l => some ([], l)
  | n + 1, l => match rdBegin l with
    | none => some ([], l)
    | some (k, l1) => match rdTest rl k l1 with
      | none => none
      | some (t, l2) => match rdTests rl n l2 with
        | none => none
        | some (ts, l3) => some (t :: ts, l3)
def rdTag (l : List UInt8) : Option (List UInt8 × List UInt8) := match tk [42] l with
  | some r => some ([], r)
  | none => rdName l
def rdStep {α : Type} (rl : List UInt8 → Option (List α × List UInt8)) (l : List UInt8) : Option (Stp α × List UInt8) := match rdTag l with
  | none => none
  | some (tag, l1) => match rdTests rl 6 l1 with
    | none => none
    | some (ts, l2) => some (⟨tag, ts⟩, l2)
def rdSteps {α : Type} (rl : List UInt8 → Option (List α × List UInt8)) : Nat → List UInt8 → Option (List (Stp α) × List Int × List UInt8)
  | 0, l => some ([], [], l)
  | n + 1, l => match rdLink l with
    | none => some ([], [], l)
    | some (k, l1) => match rdStep rl l1 with
      | none => none
      | some (s, l2) => match rdSteps rl n l2 with
        | none => none
        | some (ss, ks, l3) => some (s :: ss, (k : Int) :: ks, l3)
def rdPath {α : Type} (rl : List UInt8 → Option (List α × List UInt8)) (l : List UInt8) : Option (Pth α × List UInt8) := match rdStep rl l with
  | none => none
  | some (s, l1) => match rdSteps rl 4 l1 with
    | none => none
    | some (ss, ks, l2) => some (⟨s :: ss, ks⟩, l2)
def rdPaths {α : Type} (rl : List UInt8 → Option (List α × List UInt8)) : Nat → List UInt8 → Option (List (Pth α) × List UInt8)
  | 0, l => some ([], l)
  | n + 1, l => match tk [44, 32] l with
    | none => some ([], l)
    | some l1 => match rdPath rl l1 with
      | none => none
      | some (p, l2) => match rdPaths rl n l2 with
        | none => none
        | some (ps, l3) => some (p :: ps, l3)
def rdList {α : Type} (rl : List UInt8 → Option (List α × List UInt8)) (l : List UInt8) : Option (List (Pth α) × List UInt8) := match rdPath rl l with
  | none => none
  | some (p, l1) => match rdPaths rl 4 l1 with
    | none => none
    | some (ps, l2) => some (p :: ps, l2)
def rd0 : List UInt8 → Option (List Unit × List UInt8) := fun _ => none
def rd1 : List UInt8 → Option (List D1 × List UInt8) := rdList rd0
def rd2 : List UInt8 → Option (List D2 × List UInt8) := rdList rd1
def rd3 : List UInt8 → Option (List D3 × List UInt8) := rdList rd2
/-- all of a text -/
def rdAll (s : List UInt8) : Option (List D3) := match rd3 s with
  | some (l, []) => some l
  | _ => none
end Go.Proofs.YtbfkopjpfkgjhaaGreatDoor.Pl
/-
  The strict reader of texts: a sign, a name, a value.
-/
namespace Go.Proofs.YtbfkopjpfkgjhaaGreatDoor
open Go.RowKit

/-- how a text is left that is not as it must be -/
abbrev Left : List PanicEntry := [{ v := .iface 23 (.int .i64 1), recovered := false }]
/-- a reader, and what is left of its text -/
def RdAt (b : Nat) (l : List UInt8) (w : World) : Prop := w.heap[b]? = some (.cells #[.string ⟨l.toArray⟩] 87)
theorem RdAt.facts {b : Nat} {l : List UInt8} {w : World} (h : RdAt b l w) : w.cell? ⟨b, 0, none⟩ = some (.string ⟨l.toArray⟩) ∧ w.frozen? ⟨b, 0, none⟩ = false ∧ b < w.heap.size := by
  unfold RdAt at h
  exact ⟨by simp [World.cell?, h], by simp [World.frozen?, h], (Array.getElem?_eq_some_iff.1 h).1⟩
theorem rd_set {b : Nat} {l : List UInt8} {w : World} (h : RdAt b l w) (r : List UInt8) : RdAt b r (w.setCell ⟨b, 0, none⟩ (.string ⟨r.toArray⟩)) ∧ w.grownBy (w.setCell ⟨b, 0, none⟩ (.string ⟨r.toArray⟩)) (some b) := by
  unfold RdAt at *
  refine ⟨by simp [World.setCell, Array.getElem?_modify, h], rfl, rfl, rfl, by simp [World.setCell], fun k _ hk => ?_⟩
  exact Below.heap_setCell _ _ _ _ (by intro e; subst e; exact hk rfl)
theorem gb_chain {g : Option Nat} {a b c : World} (h : a.grownBy b g) (k : b.grownBy c g) : a.grownBy c g :=
  ⟨k.os.trans h.os, k.tape.trans h.tape, k.output.trans h.output, Nat.le_trans h.size k.size, fun j hj hn => (k.block j (Nat.lt_of_lt_of_le hj h.size) hn).trans (h.block j hj hn)⟩
theorem gb_on {g : Option Nat} {a b c : World} (h : a.grownBy b g) (k : Below b.heap.size b c) : a.grownBy c g :=
  ⟨k.os.trans h.os, k.tape.trans h.tape, k.output.trans h.output, Nat.le_trans h.size k.size, fun j hj hn => (k.block j (Nat.lt_of_lt_of_le hj h.size)).trans (h.block j hj hn)⟩
theorem RdAt.on {b : Nat} {l : List UInt8} {w w' : World} (h : RdAt b l w) (hb : Below w.heap.size w w') : RdAt b l w' := (hb.block b h.facts.2.2).trans h
set_option maxHeartbeats 400000 in
theorem refuse_any (w : World) : Calls Tryz.prog 45 #[] w fun e w' => e = .panicked Left ∧ w' = w := by
  go_enter Tryz.func45, Tryz.ntmps45
  go_wp2
  exact ⟨rfl, rfl, rfl⟩
theorem hasPrefix_one (c : UInt8) (l : List UInt8) : Lib.hasPrefix l [c] = (Pl.need c l).isSome := by
  cases l with
  | nil => simp [Lib.hasPrefix, Pl.need]
  | cons x r =>
    by_cases h : x = c
    · subst h; simp [Lib.hasPrefix, Pl.need, List.isPrefixOf]
    · have h2 : c ≠ x := fun e => h e.symm
      simp [Lib.hasPrefix, Pl.need, List.isPrefixOf, h, h2]
theorem trimPrefix_one (c : UInt8) (l : List UInt8) : Lib.trimPrefix l [c] = (Pl.need c l).getD l := by
  rw [Lib.trimPrefix, hasPrefix_one]
  cases l with
  | nil => simp [Pl.need]
  | cons x r =>
    by_cases h : x = c
    · subst h; simp [Pl.need]
    · simp [Pl.need, h]
set_option maxHeartbeats 400000 in
theorem take_any (b : Nat) (l : List UInt8) (c : UInt8) (w : World) (h : RdAt b l w) :
    Calls Tryz.prog 47 #[.pointer (some ⟨b, 0, none⟩), .string ⟨#[c]⟩] w fun e w' => e = .returned (.bool (Pl.need c l).isSome) ∧ RdAt b ((Pl.need c l).getD l) w' ∧ w.grownBy w' (some b) := by
  obtain ⟨hc, hf, _⟩ := h.facts
  have HR : Hid _ := rd_set h ((Pl.need c l).getD l)
  clear h
  go_enter Tryz.func47, Tryz.ntmps47
  go_wp2_with (go_at_call 68; refine (Tryz.strings_CutPrefix _ _ _).mono ?_; rintro e w' ⟨rfl, rfl⟩)
  go_ret
  rw [hasPrefix_one, trimPrefix_one]
  exact ⟨rfl, HR.out⟩
theorem take_yes (b : Nat) (l r : List UInt8) (c : UInt8) (w : World) (h : RdAt b l w) (hn : Pl.need c l = some r) :
    Calls Tryz.prog 47 #[.pointer (some ⟨b, 0, none⟩), .string ⟨#[c]⟩] w fun e w' => e = .returned (.bool true) ∧ RdAt b r w' ∧ w.grownBy w' (some b) := by
  have := take_any b l c w h
  rw [hn] at this
  exact this
theorem take_no (b : Nat) (l : List UInt8) (c : UInt8) (w : World) (h : RdAt b l w) (hn : Pl.need c l = none) :
    Calls Tryz.prog 47 #[.pointer (some ⟨b, 0, none⟩), .string ⟨#[c]⟩] w fun e w' => e = .returned (.bool false) ∧ RdAt b l w' ∧ w.grownBy w' (some b) := by
  have := take_any b l c w h
  rw [hn] at this
  exact this
set_option maxHeartbeats 400000 in
theorem need_yes (b : Nat) (l r : List UInt8) (c : UInt8) (w : World) (h : RdAt b l w) (hn : Pl.need c l = some r) :
    Calls Tryz.prog 94 #[.pointer (some ⟨b, 0, none⟩), .string ⟨#[c]⟩] w fun e w' => e = .returned (.tuple #[]) ∧ RdAt b r w' ∧ w.grownBy w' (some b) := by
  go_enter Tryz.func94, Tryz.ntmps94
  go_wp2_with fail
  refine (take_yes b l r c _ h hn).mono ?_
  rintro e w1 ⟨rfl, h1, g1⟩
  go_wp2
  go_end0
  exact ⟨rfl, h1, g1⟩
set_option maxHeartbeats 400000 in
theorem need_no (b : Nat) (l : List UInt8) (c : UInt8) (w : World) (h : RdAt b l w) (hn : Pl.need c l = none) :
    Calls Tryz.prog 94 #[.pointer (some ⟨b, 0, none⟩), .string ⟨#[c]⟩] w fun e w' => e = .panicked Left ∧ w.grownBy w' (some b) := by
  go_enter Tryz.func94, Tryz.ntmps94
  go_wp2_with fail
  refine (take_no b l c _ h hn).mono ?_
  rintro e w1 ⟨rfl, h1, g1⟩
  go_wp2_with (go_at_call 45; refine (refuse_any _).mono ?_; rintro e w' ⟨rfl, rfl⟩)
  exact ⟨rfl, rfl, g1⟩
theorem ex_take (l : List UInt8) (k : Nat) : (⟨l.toArray⟩ : ByteArray).extract 0 k = ⟨(l.take k).toArray⟩ := by
  rw [Lib.extract_eq]; simp
theorem ex_drop (l : List UInt8) (k : Nat) : (⟨l.toArray⟩ : ByteArray).extract k l.length = ⟨(l.drop k).toArray⟩ := by
  rw [Lib.extract_eq]; congr 2; exact List.take_of_length_le (by simp)
theorem scan_stop {p : UInt8 → Bool} (l : List UInt8) (k : Nat) (h1 : ∀ c ∈ l.take k, p c = true) (h2 : Pl.Shut p (l.drop k)) : l.takeWhile p = l.take k ∧ l.dropWhile p = l.drop k := by
  have := Pl.run_app (l.take k) (l.drop k) h1 h2
  rwa [List.take_append_drop] at this
theorem run_succ {p : UInt8 → Bool} (l : List UInt8) (k : Nat) (h : k < l.length) (h1 : ∀ c ∈ l.take k, p c = true) (h2 : p l[k] = true) : ∀ c ∈ l.take (k + 1), p c = true := by
  intro c hc
  rw [List.take_succ_eq_append_getElem h, List.mem_append, List.mem_singleton] at hc
  rcases hc with hc | rfl
  · exact h1 c hc
  · exact h2
set_option maxHeartbeats 400000 in
theorem notQ_any (c : UInt8) (w : World) : Calls Tryz.prog 101 #[.int .u8 c.toNat] w fun e w' => e = .returned (.bool (Pl.notQ c)) ∧ w' = w := by
  have hc := c.toNat_lt
  have hq : Pl.notQ c = ((c.toNat : Int) != 34) := by
    unfold Pl.notQ
    rw [Bool.eq_iff_iff]
    simp only [bne_iff_ne, ne_eq]
    constructor
    · intro h e; exact h (UInt8.toNat_inj.1 (by simpa using Int.ofNat.inj e))
    · intro h e; subst e; exact h rfl
  have HQ : Hid _ := hq
  clear hq
  go_enter Tryz.func101, Tryz.ntmps101
  go_wp2
  go_ret
  rw [HQ.out]
  exact ⟨rfl, rfl⟩
set_option maxHeartbeats 400000 in
theorem runName_any (b : Nat) (l : List UInt8) (w : World) (h : RdAt b l w) (hl : l.length ≤ maxLen) :
    Calls Tryz.prog 90 #[.pointer (some ⟨b, 0, none⟩), .func (.func 73) #[] #[]] w fun e w' => e = .returned (.string ⟨(l.takeWhile Pl.isNB).toArray⟩) ∧ RdAt b (l.dropWhile Pl.isNB) w' ∧ w.grownBy w' (some b) := by
  unfold maxLen at hl
  obtain ⟨hc, hf, hb⟩ := h.facts
  have HR : Hid _ := rd_set h (l.dropWhile Pl.isNB)
  clear h
  go_enter Tryz.func90, Tryz.ntmps90
  go_wp2
  go_loop [5] (fun n => ∃ k : Nat, k ≤ l.length ∧ n = .int .i64 k ∧ Hid (∀ c ∈ l.take k, Pl.isNB c = true)) (fun n => l.length - (intOf n).toNat)
  case atStart => exact ⟨0, Nat.zero_le _, rfl, by intro c hc; simp at hc⟩
  case round =>
    obtain ⟨k, hk, rfl, hd⟩ := hrel
    by_cases hlt : k < l.length
    · cases hx : Pl.isNB l[k] with
      | true =>
        have hx' : Hid (Pl.isNB l[k] = true) := hx
        have hy : Pl.isNB (⟨l.toArray⟩ : ByteArray)[k] = true := hx
        clear hx
        go_wp2_with (go_at_call 73; refine (isNameByte_any _ _).mono ?_; rintro e w' ⟨rfl, rfl⟩)
        go_round
        case rel => exact ⟨k + 1, hlt, by go_num, run_succ l k hlt hd.out hx'.out⟩
        case measure => simp [intOf]; omega
      | false =>
        have hs := scan_stop l k hd.out (by rw [List.drop_eq_getElem_cons hlt]; exact Pl.shut_cons hx _)
        have HS : Hid (l.takeWhile Pl.isNB = l.take k ∧ l.dropWhile Pl.isNB = l.drop k) := hs
        have hy : Pl.isNB (⟨l.toArray⟩ : ByteArray)[k] = false := hx
        clear hx hs
        go_wp2_with (go_at_call 73; refine (isNameByte_any _ _).mono ?_; rintro e w' ⟨rfl, rfl⟩)
        go_ret
        have hR := HR.out
        rw [HS.out.2] at hR
        rw [HS.out.1, HS.out.2]
        refine ⟨by simp [ex_take], ?_⟩
        rw [ex_drop]; exact hR
    · have hs := scan_stop l k hd.out (by rw [List.drop_eq_nil_of_le (by omega)]; exact Pl.shut_nil _)
      have HS : Hid (l.takeWhile Pl.isNB = l.take k ∧ l.dropWhile Pl.isNB = l.drop k) := hs
      clear hs
      go_wp2
      go_ret
      have hR := HR.out
      rw [HS.out.2] at hR
      rw [HS.out.1, HS.out.2]
      refine ⟨by simp [ex_take], ?_⟩
      rw [ex_drop]; exact hR
set_option maxHeartbeats 400000 in
theorem runVal_any (b : Nat) (l : List UInt8) (w : World) (h : RdAt b l w) (hl : l.length ≤ maxLen) :
    Calls Tryz.prog 90 #[.pointer (some ⟨b, 0, none⟩), .func (.func 101) #[] #[]] w fun e w' => e = .returned (.string ⟨(l.takeWhile Pl.notQ).toArray⟩) ∧ RdAt b (l.dropWhile Pl.notQ) w' ∧ w.grownBy w' (some b) := by
  unfold maxLen at hl
  obtain ⟨hc, hf, hb⟩ := h.facts
  have HR : Hid _ := rd_set h (l.dropWhile Pl.notQ)
  clear h
  go_enter Tryz.func90, Tryz.ntmps90
  go_wp2
  go_loop [5] (fun n => ∃ k : Nat, k ≤ l.length ∧ n = .int .i64 k ∧ Hid (∀ c ∈ l.take k, Pl.notQ c = true)) (fun n => l.length - (intOf n).toNat)
  case atStart => exact ⟨0, Nat.zero_le _, rfl, by intro c hc; simp at hc⟩
  case round =>
    obtain ⟨k, hk, rfl, hd⟩ := hrel
    by_cases hlt : k < l.length
    · cases hx : Pl.notQ l[k] with
      | true =>
        have hx' : Hid (Pl.notQ l[k] = true) := hx
        have hy : Pl.notQ (⟨l.toArray⟩ : ByteArray)[k] = true := hx
        clear hx
        go_wp2_with (go_at_call 101; refine (notQ_any _ _).mono ?_; rintro e w' ⟨rfl, rfl⟩)
        go_round
        case rel => exact ⟨k + 1, hlt, by go_num, run_succ l k hlt hd.out hx'.out⟩
        case measure => simp [intOf]; omega
      | false =>
        have hs := scan_stop l k hd.out (by rw [List.drop_eq_getElem_cons hlt]; exact Pl.shut_cons hx _)
        have HS : Hid (l.takeWhile Pl.notQ = l.take k ∧ l.dropWhile Pl.notQ = l.drop k) := hs
        have hy : Pl.notQ (⟨l.toArray⟩ : ByteArray)[k] = false := hx
        clear hx hs
        go_wp2_with (go_at_call 101; refine (notQ_any _ _).mono ?_; rintro e w' ⟨rfl, rfl⟩)
        go_ret
        have hR := HR.out
        rw [HS.out.2] at hR
        rw [HS.out.1, HS.out.2]
        refine ⟨by simp [ex_take], ?_⟩
        rw [ex_drop]; exact hR
    · have hs := scan_stop l k hd.out (by rw [List.drop_eq_nil_of_le (by omega)]; exact Pl.shut_nil _)
      have HS : Hid (l.takeWhile Pl.notQ = l.take k ∧ l.dropWhile Pl.notQ = l.drop k) := hs
      clear hs
      go_wp2
      go_ret
      have hR := HR.out
      rw [HS.out.2] at hR
      rw [HS.out.1, HS.out.2]
      refine ⟨by simp [ex_take], ?_⟩
      rw [ex_drop]; exact hR
end Go.Proofs.YtbfkopjpfkgjhaaGreatDoor
/-
  The strict reader of texts: a name, a value, an attribute.
-/
namespace Go.Proofs.YtbfkopjpfkgjhaaGreatDoor
open Go.RowKit

theorem drop_len {p : UInt8 → Bool} (l : List UInt8) : (l.dropWhile p).length ≤ l.length := (List.dropWhile_sublist p).length_le
theorem need_len {c : UInt8} {l r : List UInt8} (h : Pl.need c l = some r) : r.length ≤ l.length := by
  rw [(Pl.need_iff _ _ _).1 h]; simp
theorem name_rest {l s r : List UInt8} (h : Pl.rdName l = some (s, r)) : r.length ≤ l.length := by
  rw [((Pl.rdName_iff _ _ _).1 h).2.1]; simp
theorem value_rest {l s r : List UInt8} (h : Pl.rdValue l = some (s, r)) : r.length ≤ l.length := by
  rw [((Pl.rdValue_iff _ _ _).1 h).2]; simp; omega

set_option maxHeartbeats 400000 in
theorem name_any (b : Nat) (l : List UInt8) (w : World) (h : RdAt b l w) (hl : l.length ≤ maxLen) :
    Calls Tryz.prog 81 #[.pointer (some ⟨b, 0, none⟩)] w fun e w' => (Pl.rdName l = none ∧ e = .panicked Left ∧ w.grownBy w' (some b)) ∨ (∃ s r, Pl.rdName l = some (s, r) ∧ e = .returned (.string ⟨s.toArray⟩) ∧ RdAt b r w' ∧ w.grownBy w' (some b)) := by
  cases hn : Pl.isName (l.takeWhile Pl.isNB) with
  | true =>
    have HN : Hid (Pl.rdName l = some (l.takeWhile Pl.isNB, l.dropWhile Pl.isNB)) := by unfold Hid Pl.rdName; rw [if_pos hn]
    go_enter Tryz.func81, Tryz.ntmps81
    go_wp2_with fail
    refine (runName_any b l _ h hl).mono ?_
    rintro e w1 ⟨rfl, h1, g1⟩
    go_wp2_with (go_at_call 55; refine (isName_any _ _).mono ?_; rintro e w' ⟨rfl, rfl⟩)
    go_ret
    exact Or.inr ⟨_, _, HN.out, rfl, h1, g1⟩
  | false =>
    have HN : Hid (Pl.rdName l = none) := by unfold Hid Pl.rdName; rw [if_neg (by rw [hn]; simp)]
    go_enter Tryz.func81, Tryz.ntmps81
    go_wp2_with fail
    refine (runName_any b l _ h hl).mono ?_
    rintro e w1 ⟨rfl, h1, g1⟩
    go_wp2_with (first | (go_at_call 55; refine (isName_any _ _).mono ?_; rintro e w' ⟨rfl, rfl⟩) | (go_at_call 45; refine (refuse_any _).mono ?_; rintro e w' ⟨rfl, rfl⟩))
    exact ⟨rfl, Or.inl ⟨HN.out, rfl, g1⟩⟩
set_option maxHeartbeats 800000 in
theorem value_any (b : Nat) (l : List UInt8) (w : World) (h : RdAt b l w) (hl : l.length ≤ maxLen) :
    Calls Tryz.prog 92 #[.pointer (some ⟨b, 0, none⟩)] w fun e w' => (Pl.rdValue l = none ∧ e = .panicked Left ∧ w.grownBy w' (some b)) ∨ (∃ s r, Pl.rdValue l = some (s, r) ∧ e = .returned (.string ⟨s.toArray⟩) ∧ RdAt b r w' ∧ w.grownBy w' (some b)) := by
  cases h1 : Pl.need 34 l with
  | none =>
    have HN : Hid (Pl.rdValue l = none) := by unfold Hid Pl.rdValue; rw [h1]
    go_enter Tryz.func92, Tryz.ntmps92
    go_wp2_with fail
    refine (need_no b l 34 _ h h1).mono ?_
    rintro e w1 ⟨rfl, g1⟩
    go_wp2
    exact ⟨rfl, Or.inl ⟨HN.out, rfl, g1⟩⟩
  | some l1 =>
    have hl1 := Nat.le_trans (need_len h1) hl
    cases h2 : Pl.need 34 (l1.dropWhile Pl.notQ) with
    | none =>
      have HN : Hid (Pl.rdValue l = none) := by unfold Hid Pl.rdValue; rw [h1]; simp only; rw [h2]
      go_enter Tryz.func92, Tryz.ntmps92
      go_wp2_with fail
      refine (need_yes b l l1 34 _ h h1).mono ?_
      rintro e w1 ⟨rfl, r1, g1⟩
      go_wp2_with fail
      refine (runVal_any b l1 _ r1 hl1).mono ?_
      rintro e w2 ⟨rfl, r2, g2⟩
      go_wp2_with fail
      refine (need_no b _ 34 _ r2 h2).mono ?_
      rintro e w3 ⟨rfl, g3⟩
      have G3 : Hid _ := gb_chain (gb_chain g1 g2) g3
      go_wp2
      exact ⟨rfl, Or.inl ⟨HN.out, rfl, G3.out⟩⟩
    | some l2 =>
      cases hv : Pl.isValue (l1.takeWhile Pl.notQ) with
      | true =>
        have HN : Hid (Pl.rdValue l = some (l1.takeWhile Pl.notQ, l2)) := by unfold Hid Pl.rdValue; rw [h1]; simp only; rw [h2]; simp only; rw [if_pos hv]
        go_enter Tryz.func92, Tryz.ntmps92
        go_wp2_with fail
        refine (need_yes b l l1 34 _ h h1).mono ?_
        rintro e w1 ⟨rfl, r1, g1⟩
        go_wp2_with fail
        refine (runVal_any b l1 _ r1 hl1).mono ?_
        rintro e w2 ⟨rfl, r2, g2⟩
        go_wp2_with fail
        refine (need_yes b _ l2 34 _ r2 h2).mono ?_
        rintro e w3 ⟨rfl, r3, g3⟩
        have G3 : Hid _ := gb_chain (gb_chain g1 g2) g3
        clear g1 g2 g3 r1 r2
        go_wp2_with (go_at_call 75; refine (isValue_any _ _).mono ?_; rintro e w' ⟨rfl, rfl⟩)
        go_ret
        exact Or.inr ⟨_, _, HN.out, rfl, r3, G3.out⟩
      | false =>
        have HN : Hid (Pl.rdValue l = none) := by unfold Hid Pl.rdValue; rw [h1]; simp only; rw [h2]; simp only; rw [if_neg (by rw [hv]; simp)]
        go_enter Tryz.func92, Tryz.ntmps92
        go_wp2_with fail
        refine (need_yes b l l1 34 _ h h1).mono ?_
        rintro e w1 ⟨rfl, r1, g1⟩
        go_wp2_with fail
        refine (runVal_any b l1 _ r1 hl1).mono ?_
        rintro e w2 ⟨rfl, r2, g2⟩
        go_wp2_with fail
        refine (need_yes b _ l2 34 _ r2 h2).mono ?_
        rintro e w3 ⟨rfl, r3, g3⟩
        have G3 : Hid _ := gb_chain (gb_chain g1 g2) g3
        clear g1 g2 g3 r1 r2
        go_wp2_with (first | (go_at_call 75; refine (isValue_any _ _).mono ?_; rintro e w' ⟨rfl, rfl⟩) | (go_at_call 45; refine (refuse_any _).mono ?_; rintro e w' ⟨rfl, rfl⟩))
        exact ⟨rfl, Or.inl ⟨HN.out, rfl, G3.out⟩⟩
theorem box_kept {w w' : World} {b N : Nat} {c : Array Value} {T : TypeId} (h : w.heap[N]? = some (.cells c T)) (hg : w.grownBy w' (some b)) (hne : N ≠ b) : w'.heap[N]? = some (.cells c T) :=
  (hg.block N (Array.getElem?_eq_some_iff.1 h).1 (by intro e; injection e with e; exact hne e)).trans h
end Go.Proofs.YtbfkopjpfkgjhaaGreatDoor
