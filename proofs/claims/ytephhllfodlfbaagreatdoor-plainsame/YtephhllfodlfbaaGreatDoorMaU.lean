/-
  A text's pieces between blanks, in plain lists. No program in this text.
-/
import Derived.Test.YtephhllfodlfbaaGreatDoorRefN
import Derived.Test.YtephhllfodlfbaaGreatDoorMaK
import Derived.Test.YtephhllfodlfbaaGreatDoorShelf
import Derived.Test.YtephhllfodlfbaaGreatDoorMaS
namespace Go.Proofs.YtephhllfodlfbaaGreatDoor.Pl

def nb (c : UInt8) : Bool := !(c == 32)
def rest : List UInt8 → List (List UInt8)
  | [] => []
  | c :: r => if (c == 32) = true then r.takeWhile nb :: rest r else rest r
/-- the pieces between blanks -/
def pieces (s : List UInt8) : List (List UInt8) := s.takeWhile nb :: rest s
theorem mem_rest {t : List UInt8} : ∀ {s : List UInt8}, t ∈ rest s ↔ ∃ a b, s = a ++ 32 :: b ∧ t = b.takeWhile nb
  | [] => by
    constructor
    · intro h
      cases h
    · rintro ⟨a, b, h, -⟩
      cases a <;> cases h
  | c :: r => by
    have ih := @mem_rest t r
    cases hc : (c == 32) with
    | true =>
      have e : c = 32 := by simpa using hc
      subst e
      rw [rest, if_pos hc, List.mem_cons, ih]
      constructor
      · rintro (h | ⟨a, b, h, h2⟩)
        · exact ⟨[], r, rfl, h⟩
        · exact ⟨32 :: a, b, by rw [h]; rfl, h2⟩
      · rintro ⟨a, b, h, h2⟩
        cases a with
        | nil =>
          cases h
          exact Or.inl h2
        | cons x a =>
          cases h
          exact Or.inr ⟨a, b, rfl, h2⟩
    | false =>
      rw [rest, if_neg (by rw [hc]; simp), ih]
      constructor
      · rintro ⟨a, b, h, h2⟩
        exact ⟨c :: a, b, by rw [h]; rfl, h2⟩
      · rintro ⟨a, b, h, h2⟩
        cases a with
        | nil =>
          cases h
          simp at hc
        | cons x a =>
          cases h
          exact ⟨a, b, rfl, h2⟩
/-- a blank is cut out: what is ahead of it is a piece -/
theorem pieces_cut {a b : List UInt8} (h : a.all nb = true) : pieces (a ++ 32 :: b) = a :: pieces b := by
  induction a with
  | nil => rfl
  | cons c r ih =>
    rw [List.all_cons, Bool.and_eq_true] at h
    have ih := ih h.2
    unfold pieces at ih ⊢
    have hc : (c == 32) = false := by
      have := h.1
      unfold nb at this
      simpa using this
    rw [List.cons_append, List.takeWhile_cons, if_pos h.1, rest, if_neg (by rw [hc]; simp)]
    have h1 := (List.cons.inj ih).1
    have h2 := (List.cons.inj ih).2
    rw [h1, h2]
theorem pieces_last {a : List UInt8} (h : a.all nb = true) : pieces a = [a] := by
  induction a with
  | nil => rfl
  | cons c r ih =>
    rw [List.all_cons, Bool.and_eq_true] at h
    have ih := ih h.2
    unfold pieces at ih ⊢
    have hc : (c == 32) = false := by
      have := h.1
      unfold nb at this
      simpa using this
    rw [List.takeWhile_cons, if_pos h.1, rest, if_neg (by rw [hc]; simp)]
    have h1 := (List.cons.inj ih).1
    have h2 := (List.cons.inj ih).2
    rw [h1, h2]
/-- what stands at a place and ends there is what is taken up to the next blank -/
theorem taken {t e : List UInt8} (h : t.all nb = true) (he : e = [] ∨ ∃ r, e = 32 :: r) : (t ++ e).takeWhile nb = t := by
  induction t with
  | nil =>
    rcases he with rfl | ⟨r, rfl⟩ <;> rfl
  | cons c r ih =>
    rw [List.all_cons, Bool.and_eq_true] at h
    rw [List.cons_append, List.takeWhile_cons, if_pos h.1, ih h.2]
theorem taken_ends (s : List UInt8) : ∃ e, s = s.takeWhile nb ++ e ∧ (e = [] ∨ ∃ r, e = 32 :: r) ∧ (s.takeWhile nb).all nb = true := by
  induction s with
  | nil => exact ⟨[], rfl, Or.inl rfl, rfl⟩
  | cons c r ih =>
    obtain ⟨e, h1, h2, h3⟩ := ih
    cases hc : nb c with
    | true =>
      rw [List.takeWhile_cons, if_pos hc]
      exact ⟨e, by rw [List.cons_append, ← h1], h2, by rw [List.all_cons, hc, h3]; rfl⟩
    | false =>
      rw [List.takeWhile_cons, if_neg (by rw [hc]; simp)]
      refine ⟨c :: r, rfl, Or.inr ⟨r, ?_⟩, rfl⟩
      have : c = 32 := by
        unfold nb at hc
        simpa using hc
      rw [this]
theorem wordAt_iff {s t : List UInt8} {i : Nat} : wordAt s t i = true ↔ ∃ a e, s = a ++ (t ++ e) ∧ a.length = i ∧ (a = [] ∨ ∃ a', a = a' ++ [32]) ∧ (e = [] ∨ ∃ r, e = 32 :: r) := by
  unfold wordAt stands
  simp only [Bool.and_eq_true, Bool.or_eq_true, decide_eq_true_eq, Int.toNat_natCast, beq_iff_eq]
  constructor
  · rintro ⟨⟨-, h1, h2⟩, h3, h4⟩
    refine ⟨s.take i, s.drop (i + t.length), ?_, ?_, ?_, ?_⟩
    · conv => lhs; rw [← List.take_append_drop i s, ← List.take_append_drop t.length (s.drop i), h2, List.drop_drop]
    · rw [List.length_take]
      omega
    · rcases h3 with rfl | h3
      · exact Or.inl rfl
      · cases i with
        | zero => exact Or.inl rfl
        | succ k =>
          rw [Nat.add_sub_cancel] at h3
          obtain ⟨hk, hk2⟩ := List.getElem?_eq_some_iff.1 h3
          exact Or.inr ⟨s.take k, by rw [List.take_succ_eq_append_getElem hk]; exact congrArg (fun x => s.take k ++ [x]) hk2⟩
    · rcases h4 with h4 | h4
      · exact Or.inl (by rw [h4]; simp)
      · obtain ⟨hk, hk2⟩ := List.getElem?_eq_some_iff.1 h4
        exact Or.inr ⟨s.drop (i + t.length + 1), by rw [List.drop_eq_getElem_cons hk, hk2]⟩
  · rintro ⟨a, e, rfl, rfl, h3, h4⟩
    refine ⟨⟨by omega, by simp; omega, by simp⟩, ?_, ?_⟩
    · rcases h3 with rfl | ⟨a', rfl⟩
      · exact Or.inl rfl
      · exact Or.inr (by simp)
    · rcases h4 with rfl | ⟨r, rfl⟩
      · exact Or.inl (by simp)
      · exact Or.inr (by simp)
theorem word_pieces {s t : List UInt8} (ht : t.isEmpty = false) : word s t = (pieces s).any (· == t) := by
  rw [Bool.eq_iff_iff]
  unfold word
  rw [ht, List.any_eq_true]
  simp only [Bool.not_false, Bool.true_and, Bool.and_eq_true, List.any_eq_true, List.mem_range]
  constructor
  · rintro ⟨h1, i, hi, h2⟩
    obtain ⟨a, e, rfl, -, h3, h4⟩ := wordAt_iff.1 h2
    refine ⟨t, ?_, by simp⟩
    have h5 := taken (t := t) (e := e) h1 h4
    unfold pieces
    rw [List.mem_cons]
    rcases h3 with rfl | ⟨a', rfl⟩
    · exact Or.inl h5.symm
    · exact Or.inr (mem_rest.2 ⟨a', t ++ e, by simp, h5.symm⟩)
  · rintro ⟨p, hp, he⟩
    obtain rfl : p = t := by simpa using he
    unfold pieces at hp
    rw [List.mem_cons] at hp
    rcases hp with hp | hp
    · obtain ⟨e, h1, h2, h3⟩ := taken_ends s
      rw [← hp] at h1 h3
      exact ⟨h3, 0, by omega, wordAt_iff.2 ⟨[], e, h1, rfl, Or.inl rfl, h2⟩⟩
    · obtain ⟨a, b, rfl, hb⟩ := mem_rest.1 hp
      obtain ⟨e, h1, h2, h3⟩ := taken_ends b
      rw [← hb] at h1 h3
      exact ⟨h3, a.length + 1, by simp, wordAt_iff.2 ⟨a ++ [32], e, by rw [h1]; simp, by simp, Or.inr ⟨a, rfl⟩, h2⟩⟩
end Go.Proofs.YtephhllfodlfbaaGreatDoor.Pl
/-
  strings.Contains, off the shelf.
-/
namespace Go.Proofs.YtephhllfodlfbaaGreatDoor
open Go.RowKit

theorem stands_zero (s t : List UInt8) : Pl.stands s t 0 = t.isPrefixOf s := by
  rw [Bool.eq_iff_iff, List.isPrefixOf_iff_prefix]
  unfold Pl.stands
  simp only [Bool.and_eq_true, decide_eq_true_eq, beq_iff_eq, Int.toNat_zero, List.drop_zero]
  constructor
  · rintro ⟨-, -, h⟩
    rw [← h]
    exact List.take_prefix _ _
  · intro h
    have := h.length_le
    exact ⟨by omega, by omega, (List.prefix_iff_eq_take.1 h).symm⟩
theorem stands_succ (c : UInt8) (s t : List UInt8) (i : Nat) : Pl.stands (c :: s) t ((i + 1 : Nat) : Int) = Pl.stands s t (i : Int) := by
  unfold Pl.stands
  rw [Int.toNat_natCast, Int.toNat_natCast, List.drop_succ_cons, decide_eq_true (by omega : (0 : Int) ≤ ((i + 1 : Nat) : Int)), decide_eq_true (by omega : (0 : Int) ≤ (i : Int)), List.length_cons]
  have e : decide (((i + 1 : Nat) : Int) + t.length ≤ ((s.length + 1 : Nat) : Int)) = decide ((i : Int) + t.length ≤ s.length) := by
    rw [decide_eq_decide]
    omega
  rw [e]
theorem contains_stands {t : List UInt8} (ht : t.isEmpty = false) : ∀ s : List UInt8, Lib.contains s t = (List.range s.length).any fun i => Pl.stands s t (i : Int)
  | [] => by
    unfold Lib.contains Lib.index
    rw [ht]
    rfl
  | c :: s => by
    have ih := contains_stands ht s
    rw [List.length_cons, List.range_succ_eq_map, List.any_cons, List.any_map]
    have e : ((fun i : Nat => Pl.stands (c :: s) t (i : Int)) ∘ Nat.succ) = fun i : Nat => Pl.stands s t (i : Int) := by
      funext i
      exact stands_succ c s t i
    rw [e, ← ih]
    have z : Pl.stands (c :: s) t ((0 : Nat) : Int) = t.isPrefixOf (c :: s) := stands_zero _ _
    rw [z]
    unfold Lib.contains
    rw [Lib.index]
    have hge := Lib.index_ge s t
    cases hp : t.isPrefixOf (c :: s) with
    | true => simp
    | false =>
      simp only [Bool.false_eq_true, if_false, Bool.false_or]
      by_cases h : Lib.index s t = -1
      · rw [h]
        rfl
      · rw [if_neg (by simpa using h), decide_eq_decide]
        omega
theorem con_any : CON := fun s t w hG hs _ ht => by
  obtain ⟨m, hm⟩ := hG
  refine (Tryz.strings_Contains ⟨s.toArray⟩ ⟨t.toArray⟩ m w (by show s.toArray.size < 4294967281; simp; omega) hm).mono ?_
  rintro e w' ⟨rfl, rfl⟩
  exact ⟨by rw [← contains_stands ht s], Below.refl _ _⟩
end Go.Proofs.YtephhllfodlfbaaGreatDoor
/-
  hasWord, and the iterator of strings.SplitSeq at one blank.
-/
namespace Go.Proofs.YtephhllfodlfbaaGreatDoor
open Go.RowKit Go.Shelf

attribute [local go_sem] Oper.semAt_some

theorem sx_take (l : List UInt8) (k : Nat) : (⟨l.toArray⟩ : ByteArray).extract 0 k = ⟨(l.take k).toArray⟩ := by
  rw [Lib.extract_eq]; simp
theorem sx_drop (l : List UInt8) (k : Nat) : (⟨l.toArray⟩ : ByteArray).extract k l.length = ⟨(l.drop k).toArray⟩ := by
  rw [Lib.extract_eq]; congr 2; exact List.take_of_length_le (by simp)
theorem blank_cut : ∀ s : List UInt8, (Lib.indexByte s 32 = -1 ∧ s.all Pl.nb = true) ∨ ∃ a b, s = a ++ 32 :: b ∧ a.all Pl.nb = true ∧ Lib.indexByte s 32 = (a.length : Int)
  | [] => Or.inl ⟨rfl, rfl⟩
  | c :: r => by
    rcases blank_cut r with ⟨h1, h2⟩ | ⟨a, b, h1, h2, h3⟩
    · cases hc : (c == 32) with
      | true =>
        have e : c = 32 := by simpa using hc
        subst e
        exact Or.inr ⟨[], r, rfl, rfl, by simp [Lib.indexByte]⟩
      | false =>
        refine Or.inl ⟨?_, by rw [List.all_cons, h2]; simp [Pl.nb, hc]⟩
        simp [Lib.indexByte, hc, h1]
    · cases hc : (c == 32) with
      | true =>
        have e : c = 32 := by simpa using hc
        subst e
        exact Or.inr ⟨[], r, rfl, rfl, by simp [Lib.indexByte]⟩
      | false =>
        refine Or.inr ⟨c :: a, b, by rw [h1]; rfl, by rw [List.all_cons, h2]; simp [Pl.nb, hc], ?_⟩
        have h4 : ¬ (a.length : Int) = -1 := by omega
        simp [Lib.indexByte, hc, h3, h4]
/-- the iterator's boxes -/
def BX (Bs : Nat) (r : List UInt8) (W : World) : Prop := Boxed W Bs 9 (.string ⟨r.toArray⟩) ∧ Boxed W (Bs + 1) 9 (.string ⟨#[32]⟩) ∧ Boxed W (Bs + 2) 3 (.int .i64 0)
def KpB (Bs : Nat) (W W' : World) : Prop := ∀ k o, (k = Bs ∨ k = Bs + 1 ∨ k = Bs + 2) → W.heap[k]? = some o → W'.heap[k]? = some o
theorem BX.keep {Bs : Nat} {r : List UInt8} {W W' : World} (h : BX Bs r W) (hk : KpB Bs W W') : BX Bs r W' := ⟨hk _ _ (Or.inl rfl) h.1, hk _ _ (Or.inr (Or.inl rfl)) h.2.1, hk _ _ (Or.inr (Or.inr rfl)) h.2.2⟩
theorem BX.set {Bs : Nat} {r : List UInt8} {W : World} (h : BX Bs r W) (r' : List UInt8) : BX Bs r' (W.setCell ⟨Bs, 0, none⟩ (.string ⟨r'.toArray⟩)) := ⟨h.1.set _, h.2.1.other (by omega) _, h.2.2.other (by omega) _⟩
theorem BX.on {Bs : Nat} {r : List UInt8} {W W' : World} (h : BX Bs r W) (hb : Below W.heap.size W W') : BX Bs r W' := ⟨(hb.block _ h.1.lt).trans h.1, (hb.block _ h.2.1.lt).trans h.2.1, (hb.block _ h.2.2.lt).trans h.2.2⟩
def lenAt (W : World) (B : Nat) : Nat := match W.cell? ⟨B, 0, none⟩ with | some (.string b) => b.size | _ => 0
theorem BX.len {Bs : Nat} {r : List UInt8} {W : World} (h : BX Bs r W) : lenAt W Bs = r.length := by
  unfold lenAt
  rw [h.1.cell]
  simp [ByteArray.size]
set_option maxRecDepth 100000 in
set_option maxHeartbeats 4000000 in
theorem split_goes (Bs : Nat) (s : List UInt8) (w : World) (hbx : BX Bs s w) (hs : s.length ≤ 1048576) :
    SeqX Tryz.prog 225 #[.pointer (some ⟨Bs + 1, 0, none⟩), .pointer (some ⟨Bs, 0, none⟩), .pointer (some ⟨Bs + 2, 0, none⟩)] (fun x : List UInt8 => #[.string ⟨x.toArray⟩]) (KpB Bs) (fun r => r = Bs) (fun ys => ys = Pl.pieces s) (fun pre => pre <+: Pl.pieces s) w := by
  intro l J Jx W hW hJ hJx hY h0
  have HY : Hid (∀ pre x W1, J pre W1 → YieldAt Fence.wide 0 Tryz.prog l #[.string ⟨x.toArray⟩] W1 fun e W' => KeepsFrom W.heap.size W1 W' ∧ ((e = .returned (.bool true) ∧ J (pre ++ [x]) W' ∧ KpB Bs W1 W') ∨ (e = .returned (.bool false) ∧ Jx (pre ++ [x]) W'))) := hY
  have HJ : Hid (Bears (fun r => r = Bs) W.heap.size J) := hJ
  have HB : Hid (BX Bs s W) := hbx.on hW
  have H0 : Hid (J [] W) := h0
  have c1 := HB.out.2.1.cell
  obtain ⟨P, hP⟩ : ∃ P, P = Pl.pieces s := ⟨_, rfl⟩
  have HP : Hid (Pl.pieces s = P) := hP.symm
  rw [← hP]
  clear hY hJ hJx hW hbx h0 hP
  refine (callsIn_wide (n := 6)).1 ?_
  refine callsIn_of_wp Tryz.func225 rfl trivial ?_ rfl
  simp only [Tryz.ntmps225, List.size_toArray, List.length_cons, List.length_nil, Nat.reduceAdd, Nat.reduceSub, Array.replicate_succ, Array.replicate_zero, List.push_toArray, List.append_toArray, List.nil_append, List.cons_append]
  gi_wp2
  clear c1
  gi_loopw [7] (fun _ wr => ∃ (pre : List (List UInt8)) (r : List UInt8), Hid (J pre wr) ∧ Hid (BX Bs r wr) ∧ Hid (pre ++ Pl.pieces r = P) ∧ r.length ≤ s.length) (fun _ wr => lenAt wr Bs)
  case atStart => exact ⟨[], s, H0, HB, HP, Nat.le_refl _⟩
  case round =>
    obtain ⟨pre, r, HJr, HBr, HPr, hrs⟩ := hrel
    have b0 := HBr.out.1.cell
    have b1 := HBr.out.2.1.cell
    have b2 := HBr.out.2.2.cell
    have f0 := HBr.out.1.frozen
    rcases blank_cut r with ⟨h1, h2⟩ | ⟨a, b, hr, h2, h3⟩
    · have HI : Lib.indexByte (ByteArray.mk r.toArray).data.toList 32 = -1 := h1
      have HPL : Hid (pre ++ [r] = P) := by
        unfold Hid
        rw [← HPr.out, Pl.pieces_last h2]
      obtain ⟨fn, tmps, assign, body, hy, hR⟩ := HY.out pre r wr HJr.out
      have HRR : Hid (RoundIn Fence.wide 0 Tryz.prog l fn tmps assign body wr _) := hR
      clear hR h1 h2
      gi_wp2_with (refine ⟨trivial, ?_⟩; gi_at_call 217; refine (callsIn_wide.2 (Tryz.strings_Index_one _ _ _)).mono ?_; rintro e w' ⟨rfl, rfl⟩; rw [HI])
      refine (round_wide HRR.out).mono ?_
      rintro e W3 ⟨-, (⟨rfl, hJ3, -⟩ | ⟨rfl, hJ3⟩)⟩
      · have HZ : Hid (J (pre ++ [r]) W3) := hJ3
        clear hJ3
        gi_wp2
        go_end0
        exact ⟨⟨_, rfl⟩, .inl ⟨_, HPL.out, HZ.out⟩⟩
      · have HZ : Hid (Jx (pre ++ [r]) W3) := hJ3
        clear hJ3
        gi_wp2
        go_end0
        exact ⟨⟨_, rfl⟩, .inr ⟨_, by rw [HPL.out]; exact List.prefix_refl _, HZ.out⟩⟩
    · have HI : Lib.indexByte (ByteArray.mk r.toArray).data.toList 32 = (a.length : Int) := h3
      have HPL : Hid (pre ++ [a] ++ Pl.pieces b = P) := by
        unfold Hid
        rw [← HPr.out, hr, Pl.pieces_cut h2, List.append_assoc]
        rfl
      have HLN : Hid (r.length = a.length + 1 + b.length) := by
        unfold Hid
        rw [hr]
        simp
        omega
      have HX1 : (⟨r.toArray⟩ : ByteArray).extract 0 a.length = ⟨a.toArray⟩ := by
        rw [sx_take, hr]
        simp
      have HX2 : (⟨r.toArray⟩ : ByteArray).extract (a.length + 1) r.length = ⟨b.toArray⟩ := by
        rw [sx_drop, hr]
        simp
      obtain ⟨fn, tmps, assign, body, hy, hR⟩ := HY.out pre a wr HJr.out
      have HRR : Hid (RoundIn Fence.wide 0 Tryz.prog l fn tmps assign body wr _) := hR
      have l1 : (0 : Int) ≤ (a.length : Int) := by omega
      have l2 : a.length ≤ r.length := by have := HLN.out; omega
      have l3 : (a.length : Int) ≤ (r.length : Int) := by omega
      have l4 : a.length + 1 ≤ r.length := by have := HLN.out; omega
      have l5 : (a.length : Int) + 1 ≤ (r.length : Int) := by omega
      have w1 : wrap64 ((a.length : Int) + 1) = (a.length : Int) + 1 := IntWalk.wrap64_in _ ⟨by omega, by omega⟩
      have w2 : wrap64 (a.length : Int) = (a.length : Int) := IntWalk.wrap64_in _ ⟨by omega, by omega⟩
      clear hR h2 h3 hr
      gi_wp2_with (refine ⟨trivial, ?_⟩; gi_at_call 217; refine (callsIn_wide.2 (Tryz.strings_Index_one _ _ _)).mono ?_; rintro e w' ⟨rfl, rfl⟩; rw [HI])
      refine (round_wide HRR.out).mono ?_
      rintro e W3 ⟨-, (⟨rfl, hJ3, hk3⟩ | ⟨rfl, hJ3⟩)⟩
      · have HLA : Hid (lenAt w' Bs = a.length + 1 + b.length) := by
          unfold Hid
          rw [HBr.out.len, HLN.out]
        have HB3 : Hid (BX Bs r W3) := HBr.out.keep hk3
        have HB4 : Hid (BX Bs b (W3.setCell ⟨Bs, 0, none⟩ (.string ⟨b.toArray⟩))) := HB3.out.set b
        have HJ4 : Hid (J (pre ++ [a]) (W3.setCell ⟨Bs, 0, none⟩ (.string ⟨b.toArray⟩))) := HJ.out _ _ _ hJ3 (Turns.box (X := fun r => r = Bs) rfl _)
        clear b0 b1 b2 f0 hJ3 hk3 HRR HBr HJr hy
        have b0 := HB3.out.1.cell
        have b1 := HB3.out.2.1.cell
        have f0 := HB3.out.1.frozen
        gi_wp2
        go_roundw
        case rel => exact ⟨pre ++ [a], b, HJ4, HB4, HPL, by have := HLN.out; omega⟩
        case measure =>
          rw [HB4.out.len, HLA.out]
          omega
      · have HZ : Hid (Jx (pre ++ [a]) W3) := hJ3
        clear hJ3
        gi_wp2
        refine bodyPost_ret (results_none rfl _ _ _) rfl ?_
        exact ⟨⟨_, rfl⟩, .inr ⟨_, by rw [← HPL.out]; exact List.prefix_append _ _, HZ.out⟩⟩
def splitBox (w : World) (s : List UInt8) : World := ((w.alloc (.cells #[.string ⟨s.toArray⟩] 9)).alloc (.cells #[.string ⟨#[32]⟩] 9)).alloc (.cells #[.int .i64 0] 3)
theorem splitBox_on (w : World) (s : List UInt8) : Below w.heap.size w (splitBox w s) := below_trans (below_trans (on_alloc _ _) (on_alloc _ _)) (on_alloc _ _)
theorem splitBox_bx (w : World) (s : List UInt8) : BX w.heap.size s (splitBox w s) := by
  have h1 := ((Boxed.new w 9 (.string ⟨s.toArray⟩)).alloc (.cells #[.string ⟨#[32]⟩] 9)).alloc (.cells #[.int .i64 0] 3)
  have h2 := (Boxed.new (w.alloc (.cells #[.string ⟨s.toArray⟩] 9)) 9 (.string ⟨#[32]⟩)).alloc (.cells #[.int .i64 0] 3)
  have h3 := Boxed.new ((w.alloc (.cells #[.string ⟨s.toArray⟩] 9)).alloc (.cells #[.string ⟨#[32]⟩] 9)) 3 (.int .i64 0)
  simp only [World.size_alloc] at h2 h3
  exact ⟨h1, h2, h3⟩
theorem split_call (s : List UInt8) (w : World) : Calls Tryz.prog 220 #[.string ⟨s.toArray⟩, .string ⟨#[32]⟩, .int .i64 0] w fun e w' => e = .returned (.func (.func 225) #[] #[.pointer (some ⟨w.heap.size + 1, 0, none⟩), .pointer (some ⟨w.heap.size, 0, none⟩), .pointer (some ⟨w.heap.size + 2, 0, none⟩)]) ∧ w' = splitBox w s := by
  go_enter Tryz.func220, Tryz.ntmps220
  go_wp2
  go_ret
  exact ⟨by simp, rfl⟩
theorem splitSeq_call (s : List UInt8) (w : World) : Calls Tryz.prog 218 #[.string ⟨s.toArray⟩, .string ⟨#[32]⟩] w fun e w' => e = .returned (.func (.func 225) #[] #[.pointer (some ⟨w.heap.size + 1, 0, none⟩), .pointer (some ⟨w.heap.size, 0, none⟩), .pointer (some ⟨w.heap.size + 2, 0, none⟩)]) ∧ w' = splitBox w s := by
  go_enter Tryz.func218, Tryz.ntmps218
  go_wp2_with (go_at_call 220; refine (split_call _ _).mono ?_; rintro e w' ⟨rfl, rfl⟩)
  go_ret
  exact ⟨rfl, rfl⟩
set_option maxRecDepth 100000 in
set_option maxHeartbeats 4000000 in
theorem hasWord_any : WRD := by
  intro s t w _ hs _ ht
  have HWP : Hid (Pl.word s t = (Pl.pieces s).any (· == t)) := Pl.word_pieces ht
  have HB0 : Hid (Below w.heap.size w ((w.alloc (.cells #[.string ⟨t.toArray⟩] 9)).alloc (.cells #[.bool false] 4))) := below_trans (on_alloc _ _) (on_alloc _ _)
  have HBA : Hid (Boxed ((w.alloc (.cells #[.string ⟨t.toArray⟩] 9)).alloc (.cells #[.bool false] 4)) w.heap.size 9 (.string ⟨t.toArray⟩)) := (Boxed.new w 9 _).alloc _
  have HBB : Hid (Boxed ((w.alloc (.cells #[.string ⟨t.toArray⟩] 9)).alloc (.cells #[.bool false] 4)) (w.heap.size + 1) 4 (.bool false)) := by
    have := Boxed.new (w.alloc (.cells #[.string ⟨t.toArray⟩] 9)) 4 (.bool false)
    rw [World.size_alloc] at this
    exact this
  have hs1 : ((w.alloc (.cells #[.string ⟨t.toArray⟩] 9)).alloc (.cells #[.bool false] 4)).heap.size = w.heap.size + 2 := by simp
  obtain ⟨EV, hEV⟩ : ∃ x, Pl.word s t = x := ⟨_, rfl⟩
  rw [hEV] at HWP ⊢
  clear hEV
  refine (callsIn_wide (n := 6)).1 ?_
  refine callsIn_of_wp_marks Tryz.func210 rfl trivial ?_ rfl
  simp only [Tryz.ntmps210, List.size_toArray, List.length_cons, List.length_nil, Nat.reduceAdd, Nat.reduceSub, Array.replicate_succ, Array.replicate_zero, List.push_toArray, List.append_toArray, List.nil_append, List.cons_append]
  gi_wp2_with fail
  generalize (w.alloc (.cells #[.string ⟨t.toArray⟩] 9)).alloc (.cells #[.bool false] 4) = W1 at *
  refine ⟨trivial, (callsIn_wide.2 (splitSeq_call s W1)).mono ?_⟩
  rintro e w' ⟨rfl, rfl⟩
  rw [hs1]
  have HX : Hid (BX (w.heap.size + 2) s (splitBox W1 s)) := by
    have := splitBox_bx W1 s
    rw [hs1] at this
    exact this
  have hbs := splitBox_on W1 s
  have HB2 : Hid (Below w.heap.size w (splitBox W1 s)) := below_trans HB0.out hbs
  have HA2 : Hid (Boxed (splitBox W1 s) w.heap.size 9 (.string ⟨t.toArray⟩)) := (hbs.block _ HBA.out.lt).trans HBA.out
  have HR2 : Hid (Boxed (splitBox W1 s) (w.heap.size + 1) 4 (.bool false)) := (hbs.block _ HBB.out.lt).trans HBB.out
  have hs2 : (splitBox W1 s).heap.size = w.heap.size + 5 := by unfold splitBox; simp [hs1]
  clear hbs HBA HBB HB0 hs1
  generalize splitBox W1 s = W2 at *
  gi_wp2_with fail
  refine range_own (n := 6) (gf := 225) (lb := #[.pointer (some ⟨w.heap.size + 2 + 1, 0, none⟩), .pointer (some ⟨w.heap.size + 2, 0, none⟩), .pointer (some ⟨w.heap.size + 2 + 2, 0, none⟩)]) rfl (enters_of Tryz.func225 (by kernel_rfl) rfl)
    (split_goes (w.heap.size + 2) s W2 HX.out hs) (fun r h => by subst h; omega) (fun h1 h2 k o h h3 => h2 k o h (h1 k o h h3)) (fun W l ob o' hl _ _ k o2 hk h => (World.putObj_heap_other (by omega)).trans h) (fun _ => rfl)
    (fun pre W => ((pre.any (· == t) = false ∧ Boxed W w.heap.size 9 (.string ⟨t.toArray⟩)) ∧ Boxed W (w.heap.size + 1) 4 (.bool false)) ∧ Below w.heap.size w W)
    (fun c pre W => ((c = .ret ∧ pre.any (· == t) = true) ∧ Boxed W (w.heap.size + 1) 4 (.bool true)) ∧ Below w.heap.size w W)
    (fun p A A' h hT => ⟨⟨⟨h.1.1.1, hT.cells h.1.1.2 rfl (by omega)⟩, hT.cells h.1.2 rfl (by omega)⟩, hT.below (by omega) (fun r hr => by subst hr; omega) h.2 h.2.size⟩)
    (fun c p A A' h hT => ⟨⟨h.1.1, hT.cells h.1.2 rfl (by omega)⟩, hT.below (by omega) (fun r hr => by subst hr; omega) h.2 h.2.size⟩)
    ⟨⟨⟨rfl, HA2.out⟩, HR2.out⟩, HB2.out⟩
    (fun x a' W => a' = { tmps := #[.string ⟨s.toArray⟩, .string ⟨t.toArray⟩, undef, .pointer (some ⟨w.heap.size, 0, none⟩), .pointer (some ⟨w.heap.size + 1, 0, none⟩), .string ⟨x.toArray⟩, .string ⟨s.toArray⟩, .func (.func 225) #[] #[.pointer (some ⟨w.heap.size + 2 + 1, 0, none⟩), .pointer (some ⟨w.heap.size + 2, 0, none⟩), .pointer (some ⟨w.heap.size + 2 + 2, 0, none⟩)], .string ⟨x.toArray⟩, undef, undef, undef], defers := [] }) (fun x a' W l ob o' _ _ _ h => h) ?assign ?body ?done ?stop
  case assign =>
    rintro lo pre x W K hI hK
    dsimp only
    gi_wp2
    exact hK _ _ (KeepsFrom.refl _ _) (fun _ _ _ h => h) hI rfl
  case body =>
    rintro lo pre x a' W hl ⟨⟨⟨hp, hA⟩, hR⟩, hB⟩ rfl
    have c0 := hA.cell
    have c1 := hR.cell
    have c2 := hR.frozen
    have HI : Hid (((pre.any (· == t) = false ∧ Boxed W w.heap.size 9 (.string ⟨t.toArray⟩)) ∧ Boxed W (w.heap.size + 1) 4 (.bool false)) ∧ Below w.heap.size w W) := ⟨⟨⟨hp, hA⟩, hR⟩, hB⟩
    clear hp hA hR hB
    by_cases he : x = t
    · subst he
      gi_wp2
      exact ⟨(KeepsOthers.setCell _ _ _).from _, ⟨⟨rfl, by rw [List.any_append]; simp⟩, HI.out.1.2.set _⟩, HI.out.2.setCell (p := ⟨w.heap.size + 1, 0, none⟩) (by simp) _⟩
    · have h1 : (x == t) = false := by simpa using he
      gi_wp2
      exact ⟨KeepsFrom.refl _ _, fun _ _ _ h => h, ⟨⟨by rw [List.any_append, HI.out.1.1.1]; simpa using he, HI.out.1.1.2⟩, HI.out.1.2⟩, HI.out.2⟩
  case done =>
    rintro D ys W hD hys ⟨⟨⟨hp, hA⟩, hR⟩, hB⟩ hK
    have HE : Hid (EV = false) := by
      unfold Hid
      rw [HWP.out, ← hys]
      exact hp
    have c1 := hR.cell
    have c2 := hR.frozen
    clear hp hys hA
    gi_wp2
    have hK' := (KeepsOthers.setCell W ⟨w.heap.size + 1, 0, none⟩ (.bool false)).same D _ hK rfl
    refine leaves_marks (Nat.le_refl _) [D] _ (by simp) (fun E hE => ?_) fun W' hb hc => ⟨.bool false, ?_, by rw [HE.out], (hB.setCell (p := ⟨w.heap.size + 1, 0, none⟩) (by simp) _).trans hb⟩
    · rcases List.mem_singleton.1 hE with rfl
      exact ⟨by omega, hK'⟩
    · have hc5 := hc ⟨w.heap.size + 1, 0, none⟩ _ (hR.set (.bool false)).cell
      simp [results, Tryz.results210, go_sem, hc5]
  case stop =>
    rintro D c pre W hD hpre ⟨⟨⟨rfl, hp⟩, hR⟩, hB⟩ hK
    have HE : Hid (EV = true) := by
      obtain ⟨r, hr⟩ := hpre
      unfold Hid
      rw [HWP.out, ← hr, List.any_append, hp]
      rfl
    clear hp hpre
    gi_wp2
    refine leaves_marks (Nat.le_refl _) [D] _ (by simp) (fun E hE => ?_) fun W' hb hc => ⟨.bool true, ?_, by rw [HE.out], hB.trans hb⟩
    · rcases List.mem_singleton.1 hE with rfl
      exact ⟨by omega, hK⟩
    · have hc5 := hc ⟨w.heap.size + 1, 0, none⟩ _ hR.cell
      simp [results, Tryz.results210, go_sem, hc5]
end Go.Proofs.YtephhllfodlfbaaGreatDoor
/-
  grow: the tree of a right document.
-/
namespace Go.Proofs.YtephhllfodlfbaaGreatDoor
open Go.RowKit

/-- a row of numbers in a block of its own -/
def IRow (w : World) (g : Nat) (is : List Int) : Prop := w.heap[g]? = some (.cells (is.map (Value.int .i64)).toArray 3)
section
variable {w w' : World} {g : Nat} {is : List Int}
theorem IRow.lt (h : IRow w g is) : g < w.heap.size := (Array.getElem?_eq_some_iff.1 h).1
theorem IRow.cell (h : IRow w g is) {i : Nat} (hi : i < is.length) : w.cell? ⟨g, i, none⟩ = some (.int .i64 is[i]) := by
  unfold IRow at h
  unfold World.cell?
  dsimp only
  rw [h]
  simp [hi]
theorem IRow.frozen (h : IRow w g is) (i : Nat) : w.frozen? ⟨g, i, none⟩ = false := by
  unfold IRow at h
  simp [World.frozen?, h]
theorem IRow.on (h : IRow w g is) (hb : Below w.heap.size w w') : IRow w' g is := (hb.block g h.lt).trans h
theorem IRow.other (h : IRow w g is) {M i : Nat} (hne : g ≠ M) (v : Value) : IRow (w.setCell ⟨M, i, none⟩ v) g is := by
  unfold IRow
  rw [Below.heap_setCell _ _ _ _ (by exact hne)]
  exact h
theorem IRow.set (h : IRow w g is) (i : Nat) (x : Int) : IRow (w.setCell ⟨g, i, none⟩ (.int .i64 x)) g (is.set i x) := by
  unfold IRow at *
  simp [World.setCell, Array.getElem?_modify, h, List.map_set]
end
theorem info3 : (Tryz.prog.info? 3).map (fun i => (i.zero, i.size, i.bytes)) = some (some (.int .i64 0), 1, 8) := by kernel_rfl
theorem make_ints (N : Nat) (hN : N ≤ 64) (w : World) : (Instr.makeSlice 40 (.int .i64 N) (.int .i64 N)).run Tryz.prog w = .ok (.slice (some ⟨w.heap.size, 0, none⟩) N N) (w.alloc (.cells ((List.replicate N (0 : Int)).map (Value.int .i64)).toArray 3)) := by
  obtain ⟨i0, hi, hz0, hz1, hz2⟩ := info_parts info3
  have := run_make (P := Tryz.prog) (w := w) 40 3 i0 (.int .i64 0) Tryz.underlying40 hi hz0 .i64 .i64 (N : Int) (N : Int) (by omega) (by omega) (by rw [hz2]; omega) (by omega)
  rw [this, hz1, Int.toNat_natCast, made_one _ rfl]
  simp
/-- a tree that is being grown -/
structure GT (w W : World) (t0 : Value) (N bk bn bl bt : Nat) (ks nm ls : List Int) : Prop where
  bel : Below w.heap.size w W
  res : W.heap[w.heap.size]? = some (.cells #[.slice none 0 0, .slice none 0 0, .slice none 0 0, .slice none 0 0] 92)
  kid : IRow W bk ks
  num : IRow W bn nm
  lst : IRow W bl ls
  box : W.heap[bt]? = some (.cells #[t0, .slice (some ⟨bk, 0, none⟩) N N, .slice (some ⟨bn, 0, none⟩) N N, .slice (some ⟨bl, 0, none⟩) N N] 92)
  apart : (w.heap.size < bk ∧ w.heap.size < bn ∧ w.heap.size < bl ∧ w.heap.size < bt) ∧ bk ≠ bn ∧ bk ≠ bl ∧ bn ≠ bl ∧ bt ≠ bk ∧ bt ≠ bn ∧ bt ≠ bl
section
variable {w W W' : World} {t0 : Value} {N bk bn bl bt : Nat} {ks nm ls : List Int}
theorem GT.on (h : GT w W t0 N bk bn bl bt ks nm ls) (hb : Below W.heap.size W W') : GT w W' t0 N bk bn bl bt ks nm ls := ⟨below_trans h.bel hb, (hb.block _ (Array.getElem?_eq_some_iff.1 h.res).1).trans h.res, h.kid.on hb, h.num.on hb, h.lst.on hb, (hb.block _ (Array.getElem?_eq_some_iff.1 h.box).1).trans h.box, h.apart⟩
theorem GT.setK (h : GT w W t0 N bk bn bl bt ks nm ls) (i : Nat) (x : Int) : GT w (W.setCell ⟨bk, i, none⟩ (.int .i64 x)) t0 N bk bn bl bt (ks.set i x) nm ls := by
  obtain ⟨⟨a1, a2, a3, a4⟩, a5, a6, a7, a8, a9, a10⟩ := h.apart
  exact ⟨h.bel.setCell (p := ⟨bk, i, none⟩) (by show w.heap.size ≤ bk; omega) _, by rw [Below.heap_setCell _ _ _ _ (by show w.heap.size ≠ bk; omega)]; exact h.res, h.kid.set i x, h.num.other (Ne.symm a5) _, h.lst.other (Ne.symm a6) _, by rw [Below.heap_setCell _ _ _ _ a8]; exact h.box, h.apart⟩
theorem GT.setN (h : GT w W t0 N bk bn bl bt ks nm ls) (i : Nat) (x : Int) : GT w (W.setCell ⟨bn, i, none⟩ (.int .i64 x)) t0 N bk bn bl bt ks (nm.set i x) ls := by
  obtain ⟨⟨a1, a2, a3, a4⟩, a5, a6, a7, a8, a9, a10⟩ := h.apart
  exact ⟨h.bel.setCell (p := ⟨bn, i, none⟩) (by show w.heap.size ≤ bn; omega) _, by rw [Below.heap_setCell _ _ _ _ (by show w.heap.size ≠ bn; omega)]; exact h.res, h.kid.other a5 _, h.num.set i x, h.lst.other (Ne.symm a7) _, by rw [Below.heap_setCell _ _ _ _ a9]; exact h.box, h.apart⟩
theorem GT.setL (h : GT w W t0 N bk bn bl bt ks nm ls) (i : Nat) (x : Int) : GT w (W.setCell ⟨bl, i, none⟩ (.int .i64 x)) t0 N bk bn bl bt ks nm (ls.set i x) := by
  obtain ⟨⟨a1, a2, a3, a4⟩, a5, a6, a7, a8, a9, a10⟩ := h.apart
  exact ⟨h.bel.setCell (p := ⟨bl, i, none⟩) (by show w.heap.size ≤ bl; omega) _, by rw [Below.heap_setCell _ _ _ _ (by show w.heap.size ≠ bl; omega)]; exact h.res, h.kid.other a6 _, h.num.other a7 _, h.lst.set i x, by rw [Below.heap_setCell _ _ _ _ a10]; exact h.box, h.apart⟩
end
theorem gt_chain (w : World) (R O1 O2 O3 O4 : Obj) : (((((w.alloc R).alloc O1).alloc O2).alloc O3).alloc O4).drew.heap[w.heap.size]? = some R ∧ (((((w.alloc R).alloc O1).alloc O2).alloc O3).alloc O4).drew.heap[w.heap.size + 1]? = some O1 ∧ (((((w.alloc R).alloc O1).alloc O2).alloc O3).alloc O4).drew.heap[w.heap.size + 1 + 1]? = some O2 ∧ (((((w.alloc R).alloc O1).alloc O2).alloc O3).alloc O4).drew.heap[w.heap.size + 1 + 1 + 1]? = some O3 ∧ (((((w.alloc R).alloc O1).alloc O2).alloc O3).alloc O4).drew.heap[w.heap.size + 1 + 1 + 1 + 1]? = some O4 ∧ Below w.heap.size w (((((w.alloc R).alloc O1).alloc O2).alloc O3).alloc O4).drew := by
  have b1 := on_alloc w R
  have b2 := on_alloc (w.alloc R) O1
  have b3 := on_alloc ((w.alloc R).alloc O1) O2
  have b4 := on_alloc (((w.alloc R).alloc O1).alloc O2) O3
  have b5 := on_alloc ((((w.alloc R).alloc O1).alloc O2).alloc O3) O4
  have b6 : Below (((((w.alloc R).alloc O1).alloc O2).alloc O3).alloc O4).heap.size (((((w.alloc R).alloc O1).alloc O2).alloc O3).alloc O4) (((((w.alloc R).alloc O1).alloc O2).alloc O3).alloc O4).drew := (Below.refl _ _).drew
  have e0 := World.alloc_heap_new w R
  have e1 := World.alloc_heap_new (w.alloc R) O1
  have e2 := World.alloc_heap_new ((w.alloc R).alloc O1) O2
  have e3 := World.alloc_heap_new (((w.alloc R).alloc O1).alloc O2) O3
  have e4 := World.alloc_heap_new ((((w.alloc R).alloc O1).alloc O2).alloc O3) O4
  have f4 := blkOn b6 e4
  have f3 := blkOn b6 (blkOn b5 e3)
  have f2 := blkOn b6 (blkOn b5 (blkOn b4 e2))
  have f1 := blkOn b6 (blkOn b5 (blkOn b4 (blkOn b3 e1)))
  have f0 := blkOn b6 (blkOn b5 (blkOn b4 (blkOn b3 (blkOn b2 e0))))
  simp only [World.size_alloc] at f1 f2 f3 f4
  exact ⟨f0, f1, f2, f3, f4, below_trans b1 (below_trans b2 (below_trans b3 (below_trans b4 (below_trans b5 b6))))⟩
theorem gt_mk {w W : World} {t0 : Value} {N bk bn bl bt : Nat} {IZ : Array Value} (hz : ((List.replicate N (0 : Int)).map (Value.int .i64)).toArray = IZ) (hb : Below w.heap.size w W) (hr : W.heap[w.heap.size]? = some (.cells #[.slice none 0 0, .slice none 0 0, .slice none 0 0, .slice none 0 0] 92))
    (hbox : W.heap[bt]? = some (.cells #[t0, .slice (some ⟨bk, 0, none⟩) N N, .slice (some ⟨bn, 0, none⟩) N N, .slice (some ⟨bl, 0, none⟩) N N] 92)) (hk : W.heap[bk]? = some (.cells IZ 3)) (hn : W.heap[bn]? = some (.cells IZ 3)) (hl : W.heap[bl]? = some (.cells IZ 3))
    (ha : (w.heap.size < bk ∧ w.heap.size < bn ∧ w.heap.size < bl ∧ w.heap.size < bt) ∧ bk ≠ bn ∧ bk ≠ bl ∧ bn ≠ bl ∧ bt ≠ bk ∧ bt ≠ bn ∧ bt ≠ bl) : GT w W t0 N bk bn bl bt (List.replicate N 0) (List.replicate N 0) (List.replicate N 0) :=
  ⟨hb, hr, by unfold IRow; rw [hz]; exact hk, by unfold IRow; rw [hz]; exact hn, by unfold IRow; rw [hz]; exact hl, hbox, ha⟩
/-- what is counted once those ahead of m are gone through -/
def kdL (ns : List Pl.Nd) (m : Nat) : List Int := (List.range ns.length).map fun i : Nat => ((Pl.kidsTo ns (i : Int) m).length : Int)
def nmL (ns : List Pl.Nd) (m : Nat) : List Int := (List.range ns.length).map fun i : Nat => if i < m then plc (famOf ns i) (i : Int) + 1 else 0
def lsL (ns : List Pl.Nd) (m : Nat) : List Int := (List.range ns.length).map fun i : Nat => if i < m then ((famOf ns i).length : Int) - plc (famOf ns i) (i : Int) else 0
theorem zeros (N : Nat) : List.replicate N (0 : Int) = (List.range N).map fun _ => (0 : Int) := by
  rw [List.map_const']
  simp
theorem kd_one {ns : List Pl.Nd} (h : Pl.GoodTo ns ns.length) (h1 : 1 ≤ ns.length) : List.replicate ns.length 0 = kdL ns 1 := by
  rw [zeros]
  unfold kdL
  apply List.map_congr_left
  intro i _
  have hu := (h 0 (by omega)).1 rfl
  rw [Pl.kidsTo_miss ns (i : Int) 0 (by rw [hu]; simp)]
  rfl
theorem set_zero {N : Nat} (f : Nat → Int) (h : f 0 = 1) : (List.replicate N (0 : Int)).set 0 1 = (List.range N).map fun i => if i < 1 then f i else 0 := by
  apply List.ext_getElem
  · simp
  · intro i h1 h2
    rw [List.getElem_set]
    simp only [List.getElem_map, List.getElem_range, List.getElem_replicate]
    by_cases e : i = 0
    · subst e
      rw [if_pos rfl, if_pos (by omega), h]
    · rw [if_neg (Ne.symm e), if_neg (by omega)]
theorem nm_one (ns : List Pl.Nd) : (List.replicate ns.length (0 : Int)).set 0 1 = nmL ns 1 := set_zero (fun i => plc (famOf ns i) (i : Int) + 1) (by rw [num_zero]; rfl)
theorem ls_one (ns : List Pl.Nd) : (List.replicate ns.length (0 : Int)).set 0 1 = lsL ns 1 := set_zero (fun i => ((famOf ns i).length : Int) - plc (famOf ns i) (i : Int)) (by rw [num_zero]; rfl)
theorem set_next {N m : Nat} (f : Nat → Int) (_hm : m < N) : ((List.range N).map fun i => if i < m then f i else 0).set m (f m) = (List.range N).map fun i => if i < m + 1 then f i else 0 := by
  apply List.ext_getElem
  · simp
  · intro i h1 h2
    rw [List.getElem_set]
    simp only [List.getElem_map, List.getElem_range]
    by_cases e : m = i
    · subst e
      rw [if_pos rfl, if_pos (by omega)]
    · rw [if_neg e]
      by_cases e2 : i < m
      · rw [if_pos e2, if_pos (by omega)]
      · rw [if_neg e2, if_neg (by omega)]
theorem kd_get {ns : List Pl.Nd} {m u : Nat} (h : u < (kdL ns m).length) : (kdL ns m)[u] = ((Pl.kidsTo ns (u : Int) m).length : Int) := by simp [kdL]
theorem kd_len (ns : List Pl.Nd) (m : Nat) : (kdL ns m).length = ns.length := by simp [kdL]
theorem nm_len (ns : List Pl.Nd) (m : Nat) : (nmL ns m).length = ns.length := by simp [nmL]
theorem ls_len (ns : List Pl.Nd) (m : Nat) : (lsL ns m).length = ns.length := by simp [lsL]
theorem kd_step {ns : List Pl.Nd} {m u : Nat} (hu : Pl.upOf ns m = (u : Int)) : (kdL ns m).set u (((Pl.kidsTo ns (u : Int) m).length : Int) + 1) = kdL ns (m + 1) := by
  apply List.ext_getElem
  · simp [kdL]
  · intro i h1 h2
    rw [List.getElem_set, kd_get h2]
    by_cases e : u = i
    · subst e
      rw [if_pos rfl, Pl.kidsTo_hit ns (u : Int) m (by rw [hu]; simp)]
      simp
    · rw [if_neg e, kd_get (by simpa using h1), Pl.kidsTo_miss ns (i : Int) m (by rw [hu]; simp; omega)]
theorem nm_step {ns : List Pl.Nd} {m u : Nat} (hu : Pl.upOf ns m = (u : Int)) (h0 : m ≠ 0) (hm : m < ns.length) : (nmL ns m).set m ((Pl.kidsTo ns (u : Int) (m + 1)).length : Int) = nmL ns (m + 1) := by
  have := set_next (N := ns.length) (fun i => plc (famOf ns i) (i : Int) + 1) hm
  rw [num_eq hm h0, hu] at this
  exact this
theorem ls_step {ns : List Pl.Nd} {m u : Nat} (hu : Pl.upOf ns m = (u : Int)) (h0 : m ≠ 0) (hm : m < ns.length) : (lsL ns m).set m (((Pl.kidsTo ns (u : Int) ns.length).length : Int) - (plc (famOf ns m) (m : Int) + 1) + 1) = lsL ns (m + 1) := by
  have := set_next (N := ns.length) (fun i => ((famOf ns i).length : Int) - plc (famOf ns i) (i : Int)) hm
  have e : ((famOf ns m).length : Int) - plc (famOf ns m) (m : Int) = ((Pl.kidsTo ns (u : Int) ns.length).length : Int) - (plc (famOf ns m) (m : Int) + 1) + 1 := by
    rw [famOf_pos h0, hu, List.length_map]
    omega
  rw [← e]
  exact this
theorem nm_get {ns : List Pl.Nd} {i : Nat} (h : i < (nmL ns ns.length).length) : (nmL ns ns.length)[i] = plc (famOf ns i) (i : Int) + 1 := by
  have : i < ns.length := by simpa [nmL] using h
  simp [nmL, this]
theorem ls_get {ns : List Pl.Nd} {i : Nat} (h : i < (lsL ns ns.length).length) : (lsL ns ns.length)[i] = ((famOf ns i).length : Int) - plc (famOf ns i) (i : Int) := by
  have : i < ns.length := by simpa [lsL] using h
  simp [lsL, this]
theorem gt_end {w W : World} {b o cap bk bn bl bt : Nat} {ns : List Pl.Nd} (h : GT w W (.slice (some ⟨b, o, none⟩) ns.length cap) ns.length bk bn bl bt (kdL ns ns.length) (nmL ns ns.length) (lsL ns ns.length)) (hD : RD w b o ns) (hG : Glob w) :
    TR ((((W.setCell ⟨w.heap.size, 0, none⟩ (.slice (some ⟨b, o, none⟩) ns.length cap)).setCell ⟨w.heap.size, 1, none⟩ (.slice (some ⟨bk, 0, none⟩) ns.length ns.length)).setCell ⟨w.heap.size, 2, none⟩ (.slice (some ⟨bn, 0, none⟩) ns.length ns.length)).setCell ⟨w.heap.size, 3, none⟩ (.slice (some ⟨bl, 0, none⟩) ns.length ns.length)) b o bk bn bl ns ∧ Below w.heap.size w ((((W.setCell ⟨w.heap.size, 0, none⟩ (.slice (some ⟨b, o, none⟩) ns.length cap)).setCell ⟨w.heap.size, 1, none⟩ (.slice (some ⟨bk, 0, none⟩) ns.length ns.length)).setCell ⟨w.heap.size, 2, none⟩ (.slice (some ⟨bn, 0, none⟩) ns.length ns.length)).setCell ⟨w.heap.size, 3, none⟩ (.slice (some ⟨bl, 0, none⟩) ns.length ns.length)) ∧ ((((W.setCell ⟨w.heap.size, 0, none⟩ (.slice (some ⟨b, o, none⟩) ns.length cap)).setCell ⟨w.heap.size, 1, none⟩ (.slice (some ⟨bk, 0, none⟩) ns.length ns.length)).setCell ⟨w.heap.size, 2, none⟩ (.slice (some ⟨bn, 0, none⟩) ns.length ns.length)).setCell ⟨w.heap.size, 3, none⟩ (.slice (some ⟨bl, 0, none⟩) ns.length ns.length)).heap[w.heap.size]? = some (.cells #[.slice (some ⟨b, o, none⟩) ns.length cap, .slice (some ⟨bk, 0, none⟩) ns.length ns.length, .slice (some ⟨bn, 0, none⟩) ns.length ns.length, .slice (some ⟨bl, 0, none⟩) ns.length ns.length] 92) := by
  have hb : Below w.heap.size w ((((W.setCell ⟨w.heap.size, 0, none⟩ (.slice (some ⟨b, o, none⟩) ns.length cap)).setCell ⟨w.heap.size, 1, none⟩ (.slice (some ⟨bk, 0, none⟩) ns.length ns.length)).setCell ⟨w.heap.size, 2, none⟩ (.slice (some ⟨bn, 0, none⟩) ns.length ns.length)).setCell ⟨w.heap.size, 3, none⟩ (.slice (some ⟨bl, 0, none⟩) ns.length ns.length)) := (((h.bel.setCell (p := ⟨w.heap.size, 0, none⟩) (Nat.le_refl _) _).setCell (p := ⟨w.heap.size, 1, none⟩) (Nat.le_refl _) _).setCell (p := ⟨w.heap.size, 2, none⟩) (Nat.le_refl _) _).setCell (p := ⟨w.heap.size, 3, none⟩) (Nat.le_refl _) _
  obtain ⟨⟨a1, a2, a3, a4⟩, -⟩ := h.apart
  have k1 : IRow ((((W.setCell ⟨w.heap.size, 0, none⟩ (.slice (some ⟨b, o, none⟩) ns.length cap)).setCell ⟨w.heap.size, 1, none⟩ (.slice (some ⟨bk, 0, none⟩) ns.length ns.length)).setCell ⟨w.heap.size, 2, none⟩ (.slice (some ⟨bn, 0, none⟩) ns.length ns.length)).setCell ⟨w.heap.size, 3, none⟩ (.slice (some ⟨bl, 0, none⟩) ns.length ns.length)) bk (kdL ns ns.length) := (((h.kid.other (by omega) _).other (by omega) _).other (by omega) _).other (by omega) _
  have k2 : IRow ((((W.setCell ⟨w.heap.size, 0, none⟩ (.slice (some ⟨b, o, none⟩) ns.length cap)).setCell ⟨w.heap.size, 1, none⟩ (.slice (some ⟨bk, 0, none⟩) ns.length ns.length)).setCell ⟨w.heap.size, 2, none⟩ (.slice (some ⟨bn, 0, none⟩) ns.length ns.length)).setCell ⟨w.heap.size, 3, none⟩ (.slice (some ⟨bl, 0, none⟩) ns.length ns.length)) bn (nmL ns ns.length) := (((h.num.other (by omega) _).other (by omega) _).other (by omega) _).other (by omega) _
  have k3 : IRow ((((W.setCell ⟨w.heap.size, 0, none⟩ (.slice (some ⟨b, o, none⟩) ns.length cap)).setCell ⟨w.heap.size, 1, none⟩ (.slice (some ⟨bk, 0, none⟩) ns.length ns.length)).setCell ⟨w.heap.size, 2, none⟩ (.slice (some ⟨bn, 0, none⟩) ns.length ns.length)).setCell ⟨w.heap.size, 3, none⟩ (.slice (some ⟨bl, 0, none⟩) ns.length ns.length)) bl (lsL ns ns.length) := (((h.lst.other (by omega) _).other (by omega) _).other (by omega) _).other (by omega) _
  refine ⟨⟨hG.on hb, hD.on hb, fun i hi => ?_, fun i hi => ?_, fun i hi => ?_⟩, hb, ?_⟩
  · have := k1.cell (i := i) (by rw [kd_len]; exact hi)
    rw [kd_get] at this
    exact this
  · have := k2.cell (i := i) (by rw [nm_len]; exact hi)
    rw [nm_get] at this
    exact this
  · have := k3.cell (i := i) (by rw [ls_len]; exact hi)
    rw [ls_get] at this
    exact this
  · have hr := h.res
    simp [World.setCell, Array.getElem?_modify, hr]
theorem cells_frozen {W : World} {g : Nat} {cs : Array Value} {T : TypeId} (h : W.heap[g]? = some (.cells cs T)) (i : Nat) : W.frozen? ⟨g, i, none⟩ = false := by simp [World.frozen?, h]
end Go.Proofs.YtephhllfodlfbaaGreatDoor
