/-
  The document's own reader: what stands in brackets.
-/
import Derived.Test.YtbfkopjpfkgjhaaGreatDoorLnC
namespace Go.Proofs.YtbfkopjpfkgjhaaGreatDoor
open Go.RowKit

namespace Pl
def sgn : Nat → List UInt8
  | 0 => [61, 34] | 1 => [94, 61, 34] | 2 => [36, 61, 34] | 3 => [42, 61, 34] | 4 => [126, 61, 34]
  | _ => []
/-- kind, value and what is left, when the first i signs have been asked for -/
def atTo (l : List UInt8) : Nat → Int × List UInt8 × List UInt8
  | 0 => (3, [], l)
  | i + 1 => if ((atTo l i).1 == 3 && (sgn i).isPrefixOf (atTo l i).2.2) = true then (4 + (i : Int), (sg (sgn i) (atTo l i).2.2).takeWhile notQ, sg [34] ((sg (sgn i) (atTo l i).2.2).dropWhile notQ)) else atTo l i
def lnAttr {α : Type} (l : List UInt8) : Tst α × List UInt8 := (⟨(atTo (l.dropWhile isNB) 5).1, l.takeWhile isNB, (atTo (l.dropWhile isNB) 5).2.1, 0, 0, []⟩, sg [93] (atTo (l.dropWhile isNB) 5).2.2)
theorem atTo_succ (l : List UInt8) (i : Nat) : atTo l (i + 1) = if ((atTo l i).1 == 3 && (sgn i).isPrefixOf (atTo l i).2.2) = true then (4 + (i : Int), (sg (sgn i) (atTo l i).2.2).takeWhile notQ, sg [34] ((sg (sgn i) (atTo l i).2.2).dropWhile notQ)) else atTo l i := rfl
theorem atTo_len (l : List UInt8) : ∀ i, (atTo l i).2.2.length ≤ l.length
  | 0 => Nat.le_refl _
  | i + 1 => by
    have ih := atTo_len l i
    unfold atTo
    split
    · have a := sg_len (sgn i) (atTo l i).2.2
      have b := (List.dropWhile_sublist notQ (l := sg (sgn i) (atTo l i).2.2)).length_le
      have c := sg_len [34] ((sg (sgn i) (atTo l i).2.2).dropWhile notQ)
      show (sg [34] _).length ≤ _
      omega
    · exact ih
end Pl
def SgAt (W : World) (B : Nat) : Prop := W.heap[B]? = some (.cells #[.string ⟨#[61, 34]⟩, .string ⟨#[94, 61, 34]⟩, .string ⟨#[36, 61, 34]⟩, .string ⟨#[42, 61, 34]⟩, .string ⟨#[126, 61, 34]⟩] 9)
theorem SgAt.cell {W : World} {B : Nat} (hs : SgAt W B) (n : Nat) (h : n < 5) : W.cell? ⟨B, n, none⟩ = some (.string ⟨(Pl.sgn n).toArray⟩) := by
  unfold SgAt at hs
  have : n = 0 ∨ n = 1 ∨ n = 2 ∨ n = 3 ∨ n = 4 := by omega
  rcases this with rfl | rfl | rfl | rfl | rfl <;> simp [World.cell?, hs, Pl.sgn]
theorem SgAt.gb {W W' : World} {B b : Nat} (h : SgAt W B) (hg : W.grownBy W' (some b)) (hne : B ≠ b) : SgAt W' B := box_kept h hg hne
theorem SgAt.other {W : World} {B M j : Nat} (h : SgAt W B) (hne : B ≠ M) (u : Value) : SgAt (W.setCell ⟨M, j, none⟩ u) B := by
  unfold SgAt at *
  rw [Below.heap_setCell _ _ _ _ (by exact hne)]
  exact h
/-- a test in a block of its own -/
def Bx6 (W : World) (B : Nat) (k : Int) (nm vl : List UInt8) : Prop := W.heap[B]? = some (.cells #[.int .i64 k, .string ⟨nm.toArray⟩, .string ⟨vl.toArray⟩, .int .i64 0, .int .i64 0, .slice none 0 0] 61)
theorem Bx6.cells {W : World} {B : Nat} {k : Int} {nm vl : List UInt8} (h : Bx6 W B k nm vl) : W.cell? ⟨B, 0, none⟩ = some (.int .i64 k) ∧ W.cell? ⟨B, 1, none⟩ = some (.string ⟨nm.toArray⟩) ∧ W.cell? ⟨B, 2, none⟩ = some (.string ⟨vl.toArray⟩) ∧ W.cell? ⟨B, 3, none⟩ = some (.int .i64 0) ∧ W.cell? ⟨B, 4, none⟩ = some (.int .i64 0) ∧ W.cell? ⟨B, 5, none⟩ = some (.slice none 0 0) := by
  unfold Bx6 at h
  refine ⟨?_, ?_, ?_, ?_, ?_, ?_⟩ <;> simp [World.cell?, h]
theorem Bx6.frozen {W : World} {B : Nat} {k : Int} {nm vl : List UInt8} (h : Bx6 W B k nm vl) : W.frozen? ⟨B, 0, none⟩ = false ∧ W.frozen? ⟨B, 2, none⟩ = false := by
  unfold Bx6 at h
  refine ⟨?_, ?_⟩ <;> simp [World.frozen?, h]
theorem Bx6.gb {W W' : World} {B b : Nat} {k : Int} {nm vl : List UInt8} (h : Bx6 W B k nm vl) (hg : W.grownBy W' (some b)) (hne : B ≠ b) : Bx6 W' B k nm vl := box_kept h hg hne
theorem Bx6.setK {W : World} {B : Nat} {k : Int} {nm vl : List UInt8} (h : Bx6 W B k nm vl) (n : Int) : Bx6 (W.setCell ⟨B, 0, none⟩ (.int .i64 n)) B n nm vl := by
  unfold Bx6 at *
  simp [World.setCell, Array.getElem?_modify, h]
theorem Bx6.setV {W : World} {B : Nat} {k : Int} {nm vl : List UInt8} (h : Bx6 W B k nm vl) (v : List UInt8) : Bx6 (W.setCell ⟨B, 2, none⟩ (.string ⟨v.toArray⟩)) B k nm v := by
  unfold Bx6 at *
  simp [World.setCell, Array.getElem?_modify, h]
theorem Bx6.other {W : World} {B M j : Nat} {k : Int} {nm vl : List UInt8} (h : Bx6 W B k nm vl) (hne : B ≠ M) (u : Value) : Bx6 (W.setCell ⟨M, j, none⟩ u) B k nm vl := by
  unfold Bx6 at *
  rw [Below.heap_setCell _ _ _ _ (by exact hne)]
  exact h
theorem Bx6.setAll {W : World} {B : Nat} {k0 : Int} {n0 v0 : List UInt8} (h : Bx6 W B k0 n0 v0) (k : Int) (nm vl : List UInt8) : Bx6 ((((((W.setCell ⟨B, 0, none⟩ (.int .i64 k)).setCell ⟨B, 1, none⟩ (.string ⟨nm.toArray⟩)).setCell ⟨B, 2, none⟩ (.string ⟨vl.toArray⟩)).setCell ⟨B, 3, none⟩ (.int .i64 0)).setCell ⟨B, 4, none⟩ (.int .i64 0)).setCell ⟨B, 5, none⟩ (.slice none 0 0)) B k nm vl := by
  unfold Bx6 at *
  simp [World.setCell, Array.getElem?_modify, h]
theorem results_b6 {fn : Func} {p : Tmp} (h : fn.results = #[.cell p 61]) (tmps : Array Value) (W : World) (B : Nat) (k : Int) (nm vl : List UInt8) (hp : tmps[p]?.getD undef = .pointer (some ⟨B, 0, none⟩)) (hb : Bx6 W B k nm vl) : (results fn tmps).run Tryz.prog W = .ok (.agg #[.int .i64 k, .string ⟨nm.toArray⟩, .string ⟨vl.toArray⟩, .int .i64 0, .int .i64 0, .slice none 0 0]) W := by
  obtain ⟨h0, h1, h2, h3, h4, h5⟩ := hb.cells
  simp [results, h, hp, go_sem, h0, h1, h2, h3, h4, h5]
theorem Bx6.froz {W : World} {B : Nat} {k : Int} {nm vl : List UInt8} (h : Bx6 W B k nm vl) : W.frozen? ⟨B, 0, none⟩ = false ∧ W.frozen? ⟨B, 1, none⟩ = false ∧ W.frozen? ⟨B, 2, none⟩ = false ∧ W.frozen? ⟨B, 3, none⟩ = false ∧ W.frozen? ⟨B, 4, none⟩ = false ∧ W.frozen? ⟨B, 5, none⟩ = false := by
  unfold Bx6 at h
  refine ⟨?_, ?_, ?_, ?_, ?_, ?_⟩ <;> simp [World.frozen?, h]
/-- what stands while the signs are asked for: the reader, the test T, the result N, the signs S -/
structure AtW (w W : World) (b T N S : Nat) (l nm : List UInt8) (x : Int × List UInt8 × List UInt8) : Prop where
  ln : LnAt b x.2.2 W
  tst : Bx6 W T x.1 nm x.2.1
  res : Bx6 W N 0 [] []
  sgs : SgAt W S
  grown : w.grownBy W (some b)
theorem LnAt.other {b M j : Nat} {l : List UInt8} {w : World} (h : LnAt b l w) (hne : b ≠ M) (u : Value) : LnAt b l (w.setCell ⟨M, j, none⟩ u) := by
  unfold LnAt at *
  rw [Below.heap_setCell _ _ _ _ (by exact hne)]
  exact h
set_option maxRecDepth 100000 in
set_option maxHeartbeats 2000000 in
theorem lnAttr_any (b : Nat) (l : List UInt8) (w : World) (h : LnAt b l w) (hl : l.length ≤ maxLen) :
    Calls Tryz.prog 85 #[.pointer (some ⟨b, 0, none⟩)] w fun e w' => e = .returned (.agg #[.int .i64 (Pl.atTo (l.dropWhile Pl.isNB) 5).1, .string ⟨(l.takeWhile Pl.isNB).toArray⟩, .string ⟨(Pl.atTo (l.dropWhile Pl.isNB) 5).2.1.toArray⟩, .int .i64 0, .int .i64 0, .slice none 0 0]) ∧ LnAt b (Pl.sg [93] (Pl.atTo (l.dropWhile Pl.isNB) 5).2.2) w' ∧ w.grownBy w' (some b) := by
  have hb := h.facts.2.2
  have h0 := h.on (on_alloc w (.cells #[.int .i64 0, .string ⟨#[]⟩, .string ⟨#[]⟩, .int .i64 0, .int .i64 0, .slice none 0 0] 61))
  have g0 := World.grownBy_alloc w (.cells #[.int .i64 0, .string ⟨#[]⟩, .string ⟨#[]⟩, .int .i64 0, .int .i64 0, .slice none 0 0] 61) (some b)
  have r0 : Bx6 _ w.heap.size 0 [] [] := World.alloc_heap_new w _
  clear h
  have HNM : Hid (Calls Tryz.prog 69 _ _ _) := lnName_any b l _ h0 hl
  have hl1 : (l.dropWhile Pl.isNB).length ≤ maxLen := Nat.le_trans (drop_len l) hl
  generalize l.dropWhile Pl.isNB = l1 at *
  generalize l.takeWhile Pl.isNB = nm at *
  go_enter Tryz.func85, Tryz.ntmps85
  go_wp2_with fail
  generalize w.alloc (.cells #[.int .i64 0, .string ⟨#[]⟩, .string ⟨#[]⟩, .int .i64 0, .int .i64 0, .slice none 0 0] 61) = W0 at *
  refine HNM.out.mono ?_
  rintro e w1 ⟨rfl, h1, g1⟩
  have R1 := Bx6.gb r0 g1 (by omega)
  have G1 := gb_chain g0 g1
  clear r0 g0 g1 h0 HNM
  have a1 := on_alloc w1 (.cells #[.int .i64 3, .string ⟨nm.toArray⟩, .string ⟨#[]⟩, .int .i64 0, .int .i64 0, .slice none 0 0] 61)
  have a2 := on_alloc (w1.alloc (.cells #[.int .i64 3, .string ⟨nm.toArray⟩, .string ⟨#[]⟩, .int .i64 0, .int .i64 0, .slice none 0 0] 61)) (.cells #[.string ⟨#[61, 34]⟩, .string ⟨#[94, 61, 34]⟩, .string ⟨#[36, 61, 34]⟩, .string ⟨#[42, 61, 34]⟩, .string ⟨#[126, 61, 34]⟩] 9)
  have t1 : Bx6 _ w1.heap.size 3 nm [] := World.alloc_heap_new w1 _
  have s1 : SgAt ((w1.alloc (.cells #[.int .i64 3, .string ⟨nm.toArray⟩, .string ⟨#[]⟩, .int .i64 0, .int .i64 0, .slice none 0 0] 61)).alloc (.cells #[.string ⟨#[61, 34]⟩, .string ⟨#[94, 61, 34]⟩, .string ⟨#[36, 61, 34]⟩, .string ⟨#[42, 61, 34]⟩, .string ⟨#[126, 61, 34]⟩] 9)) (w1.heap.size + 1) := by
    have := World.alloc_heap_new (w1.alloc (.cells #[.int .i64 3, .string ⟨nm.toArray⟩, .string ⟨#[]⟩, .int .i64 0, .int .i64 0, .slice none 0 0] 61)) (.cells #[.string ⟨#[61, 34]⟩, .string ⟨#[94, 61, 34]⟩, .string ⟨#[36, 61, 34]⟩, .string ⟨#[42, 61, 34]⟩, .string ⟨#[126, 61, 34]⟩] 9)
    simp only [World.size_alloc] at this
    exact this
  have hw1 : w.heap.size < w1.heap.size := (Array.getElem?_eq_some_iff.1 R1).1
  have HS : Hid (AtW w _ b w1.heap.size w.heap.size (w1.heap.size + 1) l1 nm (Pl.atTo l1 0)) := ⟨(h1.on a1).on a2, t1.gb (World.grownBy_alloc _ _ (some b)) (by omega), ((below_trans a1 a2).block _ hw1).trans R1, s1, gb_on G1 (below_trans a1 a2)⟩
  clear a1 a2 t1 s1 R1 G1 h1
  go_wp2_with fail
  generalize (w1.alloc (.cells #[.int .i64 3, .string ⟨nm.toArray⟩, .string ⟨#[]⟩, .int .i64 0, .int .i64 0, .slice none 0 0] 61)).alloc (.cells #[.string ⟨#[61, 34]⟩, .string ⟨#[94, 61, 34]⟩, .string ⟨#[36, 61, 34]⟩, .string ⟨#[42, 61, 34]⟩, .string ⟨#[126, 61, 34]⟩] 9) = W1 at *
  generalize w1.heap.size = B1 at *
  go_loopw [5] (fun i wr => ∃ k : Nat, k ≤ 5 ∧ i = .int .i64 k ∧ Hid (AtW w wr b B1 w.heap.size (B1 + 1) l1 nm (Pl.atTo l1 k))) (fun i _ => 5 - (intOf i).toNat)
  case atStart => exact ⟨0, by omega, rfl, HS⟩
  case round =>
    obtain ⟨k, hk, rfl, HR⟩ := hrel
    clear HS
    by_cases hk5 : k < 5
    · have sc := HR.out.sgs.cell k hk5
      obtain ⟨c0, c1, c2, c3, c4, c5⟩ := HR.out.tst.cells
      obtain ⟨f0, f2⟩ := HR.out.tst.frozen
      have k1 : (0 : Int) ≤ (k : Int) := by omega
      have k2 : (k : Int) < 5 := by omega
      have hlr : (Pl.atTo l1 k).2.2.length ≤ maxLen := Nat.le_trans (Pl.atTo_len l1 k) hl1
      have HN : Hid (_ = _) := Pl.atTo_succ l1 k
      generalize Pl.atTo l1 k = x at *
      obtain ⟨kd, vl, rs⟩ := x
      simp only at HN c0 c2 hlr
      have hB : B1 ≠ b := by omega
      have hB2 : B1 + 1 ≠ b := by omega
      have hwb : w.heap.size ≠ b := by omega
      by_cases h3 : kd = 3
      · subst h3
        cases hp : (Pl.sgn k).isPrefixOf rs with
        | false =>
          have HE : Hid (Pl.atTo l1 (k + 1) = (3, vl, rs)) := by
            unfold Hid
            rw [HN.out, hp]
            rfl
          have HSG : Hid (Pl.sg (Pl.sgn k) rs = rs) := by
            unfold Hid Pl.sg
            rw [if_neg (by rw [hp]; simp)]
          clear HN
          go_wp2_with fail
          refine (sign_any b rs (Pl.sgn k) _ HR.out.ln).mono ?_
          rintro e w3 ⟨rfl, R3, G3⟩
          rw [hp]
          have HR3 : Hid (AtW w w3 b B1 w.heap.size (B1 + 1) l1 nm (3, vl, rs)) := ⟨by rw [HSG.out] at R3; exact R3, HR.out.tst.gb G3 hB, HR.out.res.gb G3 hwb, HR.out.sgs.gb G3 hB2, gb_chain HR.out.grown G3⟩
          clear R3 G3 c0 c1 c2 c3 c4 c5 f0 f2 sc
          go_wp2
          exact ⟨⟨k + 1, hk5, by go_num, by rw [HE.out]; exact HR3⟩, by simp [intOf]; omega⟩
        | true =>
          have HE : Hid (Pl.atTo l1 (k + 1) = (4 + (k : Int), (Pl.sg (Pl.sgn k) rs).takeWhile Pl.notQ, Pl.sg [34] ((Pl.sg (Pl.sgn k) rs).dropWhile Pl.notQ))) := by
            unfold Hid
            rw [HN.out, hp]
            rfl
          have hl2 : (Pl.sg (Pl.sgn k) rs).length ≤ maxLen := Nat.le_trans (Pl.sg_len _ _) hlr
          clear HN
          go_wp2_with fail
          refine (sign_any b rs (Pl.sgn k) _ HR.out.ln).mono ?_
          rintro e w3 ⟨rfl, R3, G3⟩
          rw [hp]
          have T3 := HR.out.tst.gb G3 hB
          have N3 := HR.out.res.gb G3 hwb
          have S3 := HR.out.sgs.gb G3 hB2
          have G4 := gb_chain HR.out.grown G3
          clear G3 c0 c1 c2 c3 c4 c5 f0 f2 sc HR
          generalize Pl.sg (Pl.sgn k) rs = r2 at *
          obtain ⟨c0, c1, c2, c3, c4, c5⟩ := T3.cells
          obtain ⟨f0, f2⟩ := T3.frozen
          have T4 := T3.setK (4 + (k : Int))
          have N4 := N3.other (j := 0) (M := B1) (by omega) (.int .i64 (4 + (k : Int)))
          have S4 := S3.other (j := 0) (M := B1) (by omega) (.int .i64 (4 + (k : Int)))
          have L4 := R3.other (j := 0) (M := B1) (by omega) (.int .i64 (4 + (k : Int)))
          have G5 := gb_set G4 (M := B1) (by omega) 0 (.int .i64 (4 + (k : Int)))
          have HALL : Hid (Bx6 _ B1 _ _ _ ∧ Bx6 _ w.heap.size 0 [] [] ∧ SgAt _ (B1 + 1) ∧ LnAt b r2 _ ∧ w.grownBy _ (some b)) := ⟨T4, N4, S4, L4, G5⟩
          clear T3 N3 S3 R3 G4 T4 N4 S4 L4 G5
          go_wp2_with fail
          obtain ⟨T4, N4, S4, L4, G5⟩ := HALL.out
          refine (lnValue_any b r2 _ L4 hl2).mono ?_
          rintro e w5 ⟨rfl, L5, G6⟩
          have T5 := T4.gb G6 hB
          have N5 := N4.gb G6 hwb
          have S5 := S4.gb G6 hB2
          have G7 := gb_chain G5 G6
          clear T4 N4 S4 L4 G5 G6 HALL c0 c1 c2 c3 c4 c5 f0 f2
          generalize r2.dropWhile Pl.notQ = r3 at *
          generalize r2.takeWhile Pl.notQ = v3 at *
          obtain ⟨c0, c1, c2, c3, c4, c5⟩ := T5.cells
          obtain ⟨f0, f2⟩ := T5.frozen
          have HALL : Hid (Bx6 _ B1 _ _ _ ∧ Bx6 _ w.heap.size 0 [] [] ∧ SgAt _ (B1 + 1) ∧ LnAt b r3 _ ∧ w.grownBy _ (some b)) := ⟨T5.setV v3, N5.other (j := 2) (M := B1) (by omega) (.string ⟨v3.toArray⟩), S5.other (j := 2) (M := B1) (by omega) (.string ⟨v3.toArray⟩), L5.other (j := 2) (M := B1) (by omega) (.string ⟨v3.toArray⟩), gb_set G7 (M := B1) (by omega) 2 (.string ⟨v3.toArray⟩)⟩
          clear T5 N5 S5 L5 G7
          go_wp2_with fail
          obtain ⟨T6, N6, S6, L6, G8⟩ := HALL.out
          refine (sign_any b r3 [34] _ L6).mono ?_
          rintro e w6 ⟨rfl, L7, G9⟩
          have HR7 : Hid (AtW w w6 b B1 w.heap.size (B1 + 1) l1 nm (4 + (k : Int), v3, Pl.sg [34] r3)) := ⟨L7, T6.gb G9 hB, N6.gb G9 hwb, S6.gb G9 hB2, gb_chain G8 G9⟩
          clear T6 N6 S6 L6 G8 L7 G9 HALL c0 c1 c2 c3 c4 c5 f0 f2
          go_wp2
          exact ⟨⟨k + 1, hk5, by go_num, by rw [HE.out]; exact HR7⟩, by simp [intOf]; omega⟩
      · have HE : Hid (Pl.atTo l1 (k + 1) = (kd, vl, rs)) := by
          unfold Hid
          rw [HN.out, if_neg (by simp [h3])]
        clear HN
        go_wp2
        exact ⟨⟨k + 1, hk5, by go_num, by rw [HE.out]; exact HR⟩, by simp [intOf]; omega⟩
    · have hkt : k = 5 := by omega
      subst hkt
      have hB : B1 ≠ b := by omega
      have hwb : w.heap.size ≠ b := by omega
      go_wp2_with fail
      refine (sign_any b _ [93] _ HR.out.ln).mono ?_
      rintro e w3 ⟨rfl, R3, G3⟩
      have T3 := HR.out.tst.gb G3 hB
      have N3 := HR.out.res.gb G3 hwb
      have G4 := gb_chain HR.out.grown G3
      clear G3 HR
      obtain ⟨x, hx⟩ : ∃ x, Pl.atTo l1 5 = x := ⟨_, rfl⟩
      rw [hx] at T3 R3
      obtain ⟨kd, vl, rs⟩ := x
      have HX : Hid (Pl.atTo l1 5 = (kd, vl, rs)) := hx
      clear hx
      simp only at T3 R3
      obtain ⟨c0, c1, c2, c3, c4, c5⟩ := T3.cells
      obtain ⟨d0, d1, d2, d3, d4, d5⟩ := N3.cells
      obtain ⟨f0, f1, f2, f3, f4, f5⟩ := N3.froz
      have HN : Hid (Bx6 _ w.heap.size kd nm vl) := N3.setAll kd nm vl
      have HG : Hid (w.grownBy _ (some b)) := gb_set (gb_set (gb_set (gb_set (gb_set (gb_set G4 (Nat.le_refl _) 0 (.int .i64 kd)) (Nat.le_refl _) 1 (.string ⟨nm.toArray⟩)) (Nat.le_refl _) 2 (.string ⟨vl.toArray⟩)) (Nat.le_refl _) 3 (.int .i64 0)) (Nat.le_refl _) 4 (.int .i64 0)) (Nat.le_refl _) 5 (.slice none 0 0)
      have HLN : Hid (LnAt b (Pl.sg [93] rs) _) := (((((R3.other (j := 0) (Ne.symm hwb) (.int .i64 kd)).other (j := 1) (Ne.symm hwb) (.string ⟨nm.toArray⟩)).other (j := 2) (Ne.symm hwb) (.string ⟨vl.toArray⟩)).other (j := 3) (Ne.symm hwb) (.int .i64 0)).other (j := 4) (Ne.symm hwb) (.int .i64 0)).other (j := 5) (Ne.symm hwb) (.slice none 0 0)
      clear T3 N3 G4 R3
      go_wp2
      exact bodyPost_ret (results_b6 rfl _ _ w.heap.size kd nm vl rfl HN.out) rfl ⟨by rw [HX.out], by rw [HX.out]; exact HLN.out, HG.out⟩
end Go.Proofs.YtbfkopjpfkgjhaaGreatDoor
/-
  The document's own reader of lists, in plain form: level by level. Whatever can't be is left standing.
-/
namespace Go.Proofs.YtbfkopjpfkgjhaaGreatDoor
namespace Pl

/-- what there is of a test; none: none -/
def lnTest {α : Type} (g : List UInt8 → List α × List UInt8) (l : List UInt8) : Option (Tst α × List UInt8) :=
  if (fBegin 1).isPrefixOf l = true then some (⟨1, (sg (fBegin 1) l).takeWhile isNB, [], 0, 0, []⟩, (sg (fBegin 1) l).dropWhile isNB)
  else if (fBegin 2).isPrefixOf l = true then some (⟨2, (sg (fBegin 2) l).takeWhile isNB, [], 0, 0, []⟩, (sg (fBegin 2) l).dropWhile isNB)
  else if [91].isPrefixOf l = true then some (lnAttr (sg [91] l))
  else if (fBegin 9).isPrefixOf l = true then some (⟨9, [], [], (lnNth (sg (fBegin 9) l)).1.1, (lnNth (sg (fBegin 9) l)).1.2, []⟩, sg [41] (lnNth (sg (fBegin 9) l)).2)
  else if (fBegin 10).isPrefixOf l = true then some (⟨10, [], [], (lnNth (sg (fBegin 10) l)).1.1, (lnNth (sg (fBegin 10) l)).1.2, []⟩, sg [41] (lnNth (sg (fBegin 10) l)).2)
  else if (fBegin 11).isPrefixOf l = true then some (⟨11, [], [], 0, 0, []⟩, sg (fBegin 11) l)
  else if (fBegin 12).isPrefixOf l = true then some (⟨12, [], [], 0, 0, []⟩, sg (fBegin 12) l)
  else if (fBegin 13).isPrefixOf l = true then some (⟨13, [], [], 0, 0, (g (sg (fBegin 13) l)).1⟩, sg [41] (g (sg (fBegin 13) l)).2)
  else if (fBegin 14).isPrefixOf l = true then some (⟨14, [], [], 0, 0, (g (sg (fBegin 14) l)).1⟩, sg [41] (g (sg (fBegin 14) l)).2)
  else if (fBegin 15).isPrefixOf l = true then some (⟨15, [], [], 0, 0, (g (sg (fBegin 15) l)).1⟩, sg [41] (g (sg (fBegin 15) l)).2)
  else none
def lnTests {α : Type} (g : List UInt8 → List α × List UInt8) : Nat → List UInt8 → List (Tst α) × List UInt8
  | 0, l => ([], l)
  | f + 1, l => match lnTest g l with
    | none => ([], l)
    | some (t, r) => (t :: (lnTests g f r).1, (lnTests g f r).2)
def lnStep {α : Type} (g : List UInt8 → List α × List UInt8) (l : List UInt8) : Stp α × List UInt8 := (⟨l.takeWhile isNB, (lnTests g 7 (sg [42] (l.dropWhile isNB))).1⟩, (lnTests g 7 (sg [42] (l.dropWhile isNB))).2)
def lnLink (l : List UInt8) : Option (Int × List UInt8) :=
  if (lnk 2).isPrefixOf l = true then some (2, sg (lnk 2) l)
  else if (lnk 3).isPrefixOf l = true then some (3, sg (lnk 3) l)
  else if (lnk 4).isPrefixOf l = true then some (4, sg (lnk 4) l)
  else if (lnk 1).isPrefixOf l = true then some (1, sg (lnk 1) l)
  else none
def lnSteps {α : Type} (g : List UInt8 → List α × List UInt8) : Nat → List UInt8 → (List Int × List (Stp α)) × List UInt8
  | 0, l => (([], []), l)
  | f + 1, l => match lnLink l with
    | none => (([], []), l)
    | some (k, r) => ((k :: (lnSteps g f (lnStep g r).2).1.1, (lnStep g r).1 :: (lnSteps g f (lnStep g r).2).1.2), (lnSteps g f (lnStep g r).2).2)
def lnPath {α : Type} (g : List UInt8 → List α × List UInt8) (l : List UInt8) : Pth α × List UInt8 := (⟨(lnStep g l).1 :: (lnSteps g 5 (lnStep g l).2).1.2, (lnSteps g 5 (lnStep g l).2).1.1⟩, (lnSteps g 5 (lnStep g l).2).2)
def lnPaths {α : Type} (g : List UInt8 → List α × List UInt8) : Nat → List UInt8 → List (Pth α) × List UInt8
  | 0, l => ([], l)
  | f + 1, l => if [44, 32].isPrefixOf (lnPath g l).2 = true then ((lnPath g l).1 :: (lnPaths g f (sg [44, 32] (lnPath g l).2)).1, (lnPaths g f (sg [44, 32] (lnPath g l).2)).2) else ([(lnPath g l).1], (lnPath g l).2)
def ln0 : List UInt8 → List Unit × List UInt8 := fun l => ([], l)
def ln1 : List UInt8 → List D1 × List UInt8 := lnPaths ln0 6
def ln2 : List UInt8 → List D2 × List UInt8 := lnPaths ln1 6
def ln3 : List UInt8 → List D3 × List UInt8 := lnPaths ln2 6
/-- what is read is no longer than what was there -/
def Short {α : Type} (g : List UInt8 → List α × List UInt8) : Prop := ∀ l, (g l).2.length ≤ l.length
theorem lnNth_len (l : List UInt8) : (lnNth l).2.length ≤ l.length := by
  have a := sg_len [45] l
  have b := Nt.lnum_len 8 0 (sg [45] l)
  have c := sg_len [110] (Nt.Pl.lnum 8 0 (sg [45] l)).2
  have d := sg_len [45] (sg [110] (Nt.Pl.lnum 8 0 (sg [45] l)).2)
  have e := sg_len [43] (sg [45] (sg [110] (Nt.Pl.lnum 8 0 (sg [45] l)).2))
  have f := Nt.lnum_len 8 0 (sg [43] (sg [45] (sg [110] (Nt.Pl.lnum 8 0 (sg [45] l)).2)))
  show (Nt.Pl.lnum 8 0 (sg [43] (sg [45] (sg [110] (Nt.Pl.lnum 8 0 (sg [45] l)).2)))).2.length ≤ _
  omega
theorem lnAttr_len {α : Type} (l : List UInt8) : (lnAttr (α := α) l).2.length ≤ l.length := by
  have a := atTo_len (l.dropWhile isNB) 5
  have b := sg_len [93] (atTo (l.dropWhile isNB) 5).2.2
  have c := (List.dropWhile_sublist isNB (l := l)).length_le
  show (sg [93] _).length ≤ _
  omega
theorem lnTest_len {α : Type} {g : List UInt8 → List α × List UInt8} (hg : Short g) {l r : List UInt8} {t : Tst α} (h : lnTest g l = some (t, r)) : r.length ≤ l.length := by
  have n (s : List UInt8) : ((sg s l).dropWhile isNB).length ≤ l.length := Nat.le_trans (List.dropWhile_sublist isNB (l := sg s l)).length_le (sg_len s l)
  have q (s : List UInt8) : (sg [41] (lnNth (sg s l)).2).length ≤ l.length := Nat.le_trans (sg_len _ _) (Nat.le_trans (lnNth_len _) (sg_len s l))
  have i (s : List UInt8) : (sg [41] (g (sg s l)).2).length ≤ l.length := Nat.le_trans (sg_len _ _) (Nat.le_trans (hg _) (sg_len s l))
  have a : (lnAttr (α := α) (sg [91] l)).2.length ≤ l.length := Nat.le_trans (lnAttr_len _) (sg_len _ _)
  unfold lnTest at h
  split at h
  · have e := congrArg Prod.snd (Option.some.inj h)
    rw [← show _ = r from e]
    exact n (fBegin 1)
  split at h
  · have e := congrArg Prod.snd (Option.some.inj h)
    rw [← show _ = r from e]
    exact n (fBegin 2)
  split at h
  · have e := congrArg Prod.snd (Option.some.inj h)
    rw [← show _ = r from e]
    exact a
  split at h
  · have e := congrArg Prod.snd (Option.some.inj h)
    rw [← show _ = r from e]
    exact q (fBegin 9)
  split at h
  · have e := congrArg Prod.snd (Option.some.inj h)
    rw [← show _ = r from e]
    exact q (fBegin 10)
  split at h
  · have e := congrArg Prod.snd (Option.some.inj h)
    rw [← show _ = r from e]
    exact sg_len (fBegin 11) l
  split at h
  · have e := congrArg Prod.snd (Option.some.inj h)
    rw [← show _ = r from e]
    exact sg_len (fBegin 12) l
  split at h
  · have e := congrArg Prod.snd (Option.some.inj h)
    rw [← show _ = r from e]
    exact i (fBegin 13)
  split at h
  · have e := congrArg Prod.snd (Option.some.inj h)
    rw [← show _ = r from e]
    exact i (fBegin 14)
  split at h
  · have e := congrArg Prod.snd (Option.some.inj h)
    rw [← show _ = r from e]
    exact i (fBegin 15)
  cases h
theorem lnTests_len {α : Type} {g : List UInt8 → List α × List UInt8} (hg : Short g) : ∀ (f : Nat) (l : List UInt8), (lnTests g f l).2.length ≤ l.length
  | 0, _ => Nat.le_refl _
  | f + 1, l => by
    unfold lnTests
    split
    · exact Nat.le_refl _
    · rename_i t r h
      exact Nat.le_trans (lnTests_len hg f r) (lnTest_len hg h)
theorem lnStep_len {α : Type} {g : List UInt8 → List α × List UInt8} (hg : Short g) (l : List UInt8) : (lnStep g l).2.length ≤ l.length :=
  Nat.le_trans (lnTests_len hg 7 _) (Nat.le_trans (sg_len _ _) (List.dropWhile_sublist isNB (l := l)).length_le)
theorem lnLink_len {l r : List UInt8} {k : Int} (h : lnLink l = some (k, r)) : r.length ≤ l.length := by
  have a (s : List UInt8) := sg_len s l
  unfold lnLink at h
  split at h
  · have e := congrArg Prod.snd (Option.some.inj h)
    rw [← show _ = r from e]
    exact a (lnk 2)
  split at h
  · have e := congrArg Prod.snd (Option.some.inj h)
    rw [← show _ = r from e]
    exact a (lnk 3)
  split at h
  · have e := congrArg Prod.snd (Option.some.inj h)
    rw [← show _ = r from e]
    exact a (lnk 4)
  split at h
  · have e := congrArg Prod.snd (Option.some.inj h)
    rw [← show _ = r from e]
    exact a (lnk 1)
  cases h
theorem lnSteps_len {α : Type} {g : List UInt8 → List α × List UInt8} (hg : Short g) : ∀ (f : Nat) (l : List UInt8), (lnSteps g f l).2.length ≤ l.length
  | 0, _ => Nat.le_refl _
  | f + 1, l => by
    unfold lnSteps
    split
    · exact Nat.le_refl _
    · rename_i k r h
      exact Nat.le_trans (lnSteps_len hg f _) (Nat.le_trans (lnStep_len hg r) (lnLink_len h))
theorem lnPath_len {α : Type} {g : List UInt8 → List α × List UInt8} (hg : Short g) (l : List UInt8) : (lnPath g l).2.length ≤ l.length :=
  Nat.le_trans (lnSteps_len hg 5 _) (lnStep_len hg l)
theorem lnPaths_len {α : Type} {g : List UInt8 → List α × List UInt8} (hg : Short g) : ∀ (f : Nat), Short (lnPaths g f)
  | 0, _ => Nat.le_refl _
  | f + 1, l => by
    unfold lnPaths
    split
    · exact Nat.le_trans (lnPaths_len hg f _) (Nat.le_trans (sg_len _ _) (lnPath_len hg l))
    · exact lnPath_len hg l
theorem short_0 : Short ln0 := fun _ => Nat.le_refl _
theorem short_1 : Short ln1 := lnPaths_len short_0 6
theorem short_2 : Short ln2 := lnPaths_len short_1 6
theorem short_3 : Short ln3 := lnPaths_len short_2 6
end Pl
end Go.Proofs.YtbfkopjpfkgjhaaGreatDoor
