/-
  The document's own reader: numbers and counts.
-/
import Derived.Test.YtbfkopjpfkgjhaaGreatDoorLnA
import Derived.Test.YtbfkopjpfkgjhaaGreatDoorRdH
namespace Go.Proofs.YtbfkopjpfkgjhaaGreatDoor
open Go.RowKit

set_option maxHeartbeats 400000 in
theorem lnNumber_any (b : Nat) (l : List UInt8) (w : World) (h : LnAt b l w) (_hl : l.length ≤ maxLen) :
    Calls Tryz.prog 97 #[.pointer (some ⟨b, 0, none⟩)] w fun e w' => e = .returned (.int .i64 ((Nt.Pl.lnum 8 0 l).1 : Int)) ∧ LnAt b (Nt.Pl.lnum 8 0 l).2 w' ∧ w.grownBy w' (some b) := by
  unfold maxLen at _hl
  have R0 : LnAt b l w ∧ w.grownBy w (some b) := ⟨h, World.grownBy.refl _ _⟩
  obtain ⟨hc, hf, -⟩ := h.facts
  go_enter Tryz.func97, Tryz.ntmps97
  go_wp2
  go_loopw [3, 4] (fun n i wr => ∃ (k m : Nat) (r : List UInt8), k ≤ 8 ∧ i = .int .i64 k ∧ n = .int .i64 m ∧ m < 10 ^ k ∧ Hid (Nt.Pl.lnum (8 - k) m r = Nt.Pl.lnum 8 0 l) ∧ r.length ≤ l.length ∧ Hid (LnAt b r wr ∧ w.grownBy wr (some b))) (fun _ i _ => 8 - (intOf i).toNat)
  case atStart => exact ⟨0, 0, l, by omega, rfl, rfl, by simp, rfl, Nat.le_refl _, R0⟩
  case round =>
    obtain ⟨k, m, r, hk, rfl, rfl, hm, hL, hrl, R⟩ := hrel
    obtain ⟨hc1, hf1, -⟩ := R.out.1.facts
    clear hc hf R0 h
    by_cases hk8 : k < 8
    · cases r with
      | nil =>
        have hE : Hid (Nt.Pl.lnum 8 0 l = (m, [])) := by
          unfold Hid; rw [← hL.out]
          obtain ⟨f, hf⟩ : ∃ f, 8 - k = f + 1 := ⟨7 - k, by omega⟩
          rw [hf]; rfl
        clear hL
        go_wp2
        go_ret
        rw [hE.out]
        exact ⟨rfl, R.out⟩
      | cons c t =>
        cases hd : Nt.Pl.isDig c with
        | false =>
          have hE : Hid (Nt.Pl.lnum 8 0 l = (m, c :: t)) := by
            unfold Hid; rw [← hL.out]
            obtain ⟨f, hf⟩ : ∃ f, 8 - k = f + 1 := ⟨7 - k, by omega⟩
            rw [hf]; simp [Nt.Pl.lnum, hd]
          clear hL
          have hcase : ((((⟨(c :: t).toArray⟩ : ByteArray)[0]'(Nat.succ_pos _)).toNat : Int) < 48) ∨ (48 ≤ (((⟨(c :: t).toArray⟩ : ByteArray)[0]'(Nat.succ_pos _)).toNat : Int) ∧ 57 < (((⟨(c :: t).toArray⟩ : ByteArray)[0]'(Nat.succ_pos _)).toNat : Int)) := by
            show ((c.toNat : Int) < 48) ∨ (48 ≤ (c.toNat : Int) ∧ 57 < (c.toNat : Int))
            simp [Nt.Pl.isDig] at hd; omega
          clear hd
          rcases hcase with h1 | ⟨h1, h2⟩
          · go_wp2
            go_ret
            rw [hE.out]
            exact ⟨rfl, R.out⟩
          · go_wp2
            go_ret
            rw [hE.out]
            exact ⟨rfl, R.out⟩
        | true =>
          have hdd := (Nt.Pl.dig_iff c).1 hd
          have hE : Hid (Nt.Pl.lnum (8 - (k + 1)) (10 * m + (c.toNat - 48)) t = Nt.Pl.lnum 8 0 l) := by
            unfold Hid; rw [← hL.out]
            rw [show 8 - k = (8 - (k + 1)) + 1 by omega]; simp [Nt.Pl.lnum, hd]
          obtain ⟨hp, hm8⟩ := Nt.pow_lt m k hm hk8 (c.toNat - 48) (by omega)
          have h1 : 48 ≤ (((⟨(c :: t).toArray⟩ : ByteArray)[0]'(Nat.succ_pos _)).toNat : Int) := by show 48 ≤ (c.toNat : Int); omega
          have h2 : (((⟨(c :: t).toArray⟩ : ByteArray)[0]'(Nat.succ_pos _)).toNat : Int) ≤ 57 := by show (c.toNat : Int) ≤ 57; omega
          have HV : Hid ((10 : Int) * (m : Int) + ((((⟨(c :: t).toArray⟩ : ByteArray)[0]'(Nat.succ_pos _)).toNat : Int) - 48) = ((10 * m + (c.toNat - 48) : Nat) : Int)) := by
            unfold Hid; show (10 : Int) * (m : Int) + ((c.toNat : Int) - 48) = _; omega
          have HP : Hid (10 * m + (c.toNat - 48) < 10 ^ (k + 1)) := hp
          have HT : Hid (({ data := (c :: t).toArray } : ByteArray).extract 1 (t.length + 1) = ⟨t.toArray⟩) := Nt.ex_drop (c :: t) 1
          clear hd hdd hL hp hm
          have hrl' : t.length ≤ l.length := by simp at hrl; omega
          go_wp2
          rw [HT.out]
          exact ⟨⟨k + 1, _, t, hk8, by go_num, by rw [HV.out], HP.out, hE, hrl', ⟨(ln_set R.out.1 t).1, gb_chain R.out.2 (ln_set R.out.1 t).2⟩⟩, by simp [intOf]; omega⟩
    · have hE : Hid (Nt.Pl.lnum 8 0 l = (m, r)) := by
        unfold Hid; rw [← hL.out, show 8 - k = 0 by omega]; rfl
      clear hL
      go_wp2
      go_ret
      rw [hE.out]
      exact ⟨rfl, R.out⟩

end Go.Proofs.YtbfkopjpfkgjhaaGreatDoor
/-
  The document's own reader: a count.
-/
namespace Go.Proofs.YtbfkopjpfkgjhaaGreatDoor
open Go.RowKit

namespace Pl
/-- what there is of a count, and what is left -/
def lnNth (l : List UInt8) : (Int × Int) × List UInt8 :=
  let p := Nt.Pl.lnum 8 0 (sg [45] l)
  let a : Int := if [45].isPrefixOf l = true then -(p.1 : Int) else (p.1 : Int)
  let r := sg [110] p.2
  let q := Nt.Pl.lnum 8 0 (sg [43] (sg [45] r))
  ((a, if [45].isPrefixOf r = true then -(q.1 : Int) else (q.1 : Int)), q.2)
end Pl
/-- the reader in block b, the result's box at w's end, the count's box behind it -/
structure NB (w wi : World) (b : Nat) (l : List UInt8) (x y : Int) : Prop where
  ln : LnAt b l wi
  res : wi.heap[w.heap.size]? = some (.cells #[.int .i64 0, .int .i64 0] 59)
  box : wi.heap[w.heap.size + 1]? = some (.cells #[.int .i64 x, .int .i64 y] 59)
  grown : w.grownBy wi (some b)
  lt : b < w.heap.size
theorem NB.step {w wi wj : World} {b : Nat} {l r : List UInt8} {x y : Int} (h : NB w wi b l x y) (h1 : LnAt b r wj) (hg : wi.grownBy wj (some b)) : NB w wj b r x y :=
  ⟨h1, box_kept h.res hg (by have := h.lt; omega), box_kept h.box hg (by have := h.lt; omega), gb_chain h.grown hg, h.lt⟩
theorem NB.setA {w wi : World} {b : Nat} {l : List UInt8} {x y : Int} (h : NB w wi b l x y) (v : Int) : NB w (wi.setCell ⟨w.heap.size + 1, 0, none⟩ (.int .i64 v)) b l v y := by
  obtain ⟨h1, h2, h3, h4, h5⟩ := h
  refine ⟨?_, ?_, ?_, gb_set h4 (by omega) _ _, h5⟩
  · unfold LnAt at *
    rw [Below.heap_setCell _ _ _ _ (by show b ≠ w.heap.size + 1; omega)]
    exact h1
  · rw [Below.heap_setCell _ _ _ _ (by show w.heap.size ≠ w.heap.size + 1; omega)]
    exact h2
  · simp [World.setCell, Array.getElem?_modify, h3]
theorem NB.setB {w wi : World} {b : Nat} {l : List UInt8} {x y : Int} (h : NB w wi b l x y) (v : Int) : NB w (wi.setCell ⟨w.heap.size + 1, 1, none⟩ (.int .i64 v)) b l x v := by
  obtain ⟨h1, h2, h3, h4, h5⟩ := h
  refine ⟨?_, ?_, ?_, gb_set h4 (by omega) _ _, h5⟩
  · unfold LnAt at *
    rw [Below.heap_setCell _ _ _ _ (by show b ≠ w.heap.size + 1; omega)]
    exact h1
  · rw [Below.heap_setCell _ _ _ _ (by show w.heap.size ≠ w.heap.size + 1; omega)]
    exact h2
  · simp [World.setCell, Array.getElem?_modify, h3]
theorem NB.cells {w wi : World} {b : Nat} {l : List UInt8} {x y : Int} (h : NB w wi b l x y) : (wi.cell? ⟨w.heap.size, 0, none⟩ = some (.int .i64 0) ∧ wi.cell? ⟨w.heap.size, 1, none⟩ = some (.int .i64 0) ∧ wi.frozen? ⟨w.heap.size, 0, none⟩ = false ∧ wi.frozen? ⟨w.heap.size, 1, none⟩ = false) ∧
    (wi.cell? ⟨w.heap.size + 1, 0, none⟩ = some (.int .i64 x) ∧ wi.cell? ⟨w.heap.size + 1, 1, none⟩ = some (.int .i64 y) ∧ wi.frozen? ⟨w.heap.size + 1, 0, none⟩ = false ∧ wi.frozen? ⟨w.heap.size + 1, 1, none⟩ = false) := by
  refine ⟨⟨?_, ?_, ?_, ?_⟩, ?_, ?_, ?_, ?_⟩ <;> simp [World.cell?, World.frozen?, h.res, h.box]
theorem NB.new {w : World} {b : Nat} {l : List UInt8} (h : LnAt b l w) : NB w ((w.alloc (.cells #[.int .i64 0, .int .i64 0] 59)).alloc (.cells #[.int .i64 0, .int .i64 0] 59)) b l 0 0 := by
  have hb := h.facts.2.2
  have g1 := World.grownBy_alloc w (.cells #[.int .i64 0, .int .i64 0] 59) (some b)
  have g2 := World.grownBy_alloc (w.alloc (.cells #[.int .i64 0, .int .i64 0] 59)) (.cells #[.int .i64 0, .int .i64 0] 59) (some b)
  refine ⟨(h.on (on_alloc _ _)).on (on_alloc _ _), ?_, ?_, gb_chain g1 g2, hb⟩
  · exact box_kept (World.alloc_heap_new w _) g2 (by omega)
  · have := World.alloc_heap_new (w.alloc (.cells #[.int .i64 0, .int .i64 0] 59)) (.cells #[.int .i64 0, .int .i64 0] 59)
    simp only [World.size_alloc] at this
    exact this
set_option maxRecDepth 100000 in
set_option maxHeartbeats 2000000 in
theorem lnNth_any (b : Nat) (l : List UInt8) (w : World) (h : LnAt b l w) (hl : l.length ≤ maxLen) :
    Calls Tryz.prog 86 #[.pointer (some ⟨b, 0, none⟩)] w fun e w' => e = .returned (.agg #[.int .i64 (Pl.lnNth l).1.1, .int .i64 (Pl.lnNth l).1.2]) ∧ LnAt b (Pl.lnNth l).2 w' ∧ w.grownBy w' (some b) := by
  have S0 := NB.new h
  have hl1 : (Pl.sg [45] l).length ≤ maxLen := Nat.le_trans (Pl.sg_len _ _) hl
  have hl2 : (Nt.Pl.lnum 8 0 (Pl.sg [45] l)).2.length ≤ maxLen := Nat.le_trans (Nt.lnum_len _ _ _) hl1
  have hn := Nt.lnum_lt 8 0 0 (Pl.sg [45] l) (by omega)
  have HN : Hid (Pl.lnNth l = (((if [45].isPrefixOf l = true then -((Nt.Pl.lnum 8 0 (Pl.sg [45] l)).1 : Int) else ((Nt.Pl.lnum 8 0 (Pl.sg [45] l)).1 : Int)),
    (if [45].isPrefixOf (Pl.sg [110] (Nt.Pl.lnum 8 0 (Pl.sg [45] l)).2) = true then -((Nt.Pl.lnum 8 0 (Pl.sg [43] (Pl.sg [45] (Pl.sg [110] (Nt.Pl.lnum 8 0 (Pl.sg [45] l)).2)))).1 : Int) else ((Nt.Pl.lnum 8 0 (Pl.sg [43] (Pl.sg [45] (Pl.sg [110] (Nt.Pl.lnum 8 0 (Pl.sg [45] l)).2)))).1 : Int))), (Nt.Pl.lnum 8 0 (Pl.sg [43] (Pl.sg [45] (Pl.sg [110] (Nt.Pl.lnum 8 0 (Pl.sg [45] l)).2)))).2)) := rfl
  clear h
  generalize hp : Nt.Pl.lnum 8 0 (Pl.sg [45] l) = p at *
  obtain ⟨n, r⟩ := p
  have Hp : Hid (Nt.Pl.lnum 8 0 (Pl.sg [45] l) = (n, r)) := hp
  clear hp
  simp only at hl2 hn HN
  have hn8 : n < 100000000 := by simpa using hn
  clear hn
  have hl3 : (Pl.sg [110] r).length ≤ maxLen := Nat.le_trans (Pl.sg_len _ _) hl2
  have hl4 : (Pl.sg [45] (Pl.sg [110] r)).length ≤ maxLen := Nat.le_trans (Pl.sg_len _ _) hl3
  have hl5 : (Pl.sg [43] (Pl.sg [45] (Pl.sg [110] r))).length ≤ maxLen := Nat.le_trans (Pl.sg_len _ _) hl4
  have hm := Nt.lnum_lt 8 0 0 (Pl.sg [43] (Pl.sg [45] (Pl.sg [110] r))) (by omega)
  generalize hq : Nt.Pl.lnum 8 0 (Pl.sg [43] (Pl.sg [45] (Pl.sg [110] r))) = q at *
  obtain ⟨m, t⟩ := q
  have Hq : Hid (Nt.Pl.lnum 8 0 (Pl.sg [43] (Pl.sg [45] (Pl.sg [110] r))) = (m, t)) := hq
  clear hq
  simp only at hm HN
  have hm8 : m < 100000000 := by simpa using hm
  clear hm
  cases t1 : [45].isPrefixOf l with
  | false =>
    cases t2 : [45].isPrefixOf (Pl.sg [110] r) with
    | false =>
      rw [t1, t2] at HN
      go_enter Tryz.func86, Tryz.ntmps86
      obtain ⟨c1, c2, -⟩ := S0.ln.facts
      go_wp2_with fail
      refine (sign_any b l [45] _ S0.ln).mono ?_
      rintro e w1 ⟨rfl, R1, G1⟩
      rw [t1]
      have S1 := S0.step R1 G1
      clear S0 R1 G1 c1 c2
      go_wp2_with fail
      refine (lnNumber_any b _ _ S1.ln hl1).mono ?_
      rintro e w2 ⟨rfl, R2, G2⟩
      rw [Hp.out] at R2
      rw [Hp.out]
      have S2 := S1.step R2 G2
      clear S1 R2 G2
      obtain ⟨⟨p1, p2, p3, p4⟩, q1, q2, q3, q4⟩ := S2.cells
      go_wp2_with fail
      clear p1 p2 p3 p4 q1 q2 q3 q4
      have S3 := S2.setA (n : Int)
      refine (sign_any b _ [110] _ S3.ln).mono ?_
      rintro e w3 ⟨rfl, R3, G3⟩
      have S4 := S3.step R3 G3
      clear S2 S3 R3 G3
      go_wp2_with fail
      refine (sign_any b _ [45] _ S4.ln).mono ?_
      rintro e w4 ⟨rfl, R4, G4⟩
      rw [t2]
      have S5 := S4.step R4 G4
      clear S4 R4 G4
      go_wp2_with fail
      refine (sign_any b _ [43] _ S5.ln).mono ?_
      rintro e w5 ⟨rfl, R5, G5⟩
      have S51 := S5.step R5 G5
      clear S5 R5 G5
      go_wp2_with fail
      refine (lnNumber_any b _ _ S51.ln hl5).mono ?_
      rintro e w6 ⟨rfl, R6, G6⟩
      rw [Hq.out] at R6
      rw [Hq.out]
      have S6 := S51.step R6 G6
      clear S51 R6 G6
      obtain ⟨⟨p1, p2, p3, p4⟩, q1, q2, q3, q4⟩ := S6.cells
      have S7 := S6.setB (m : Int)
      go_wp2_with fail
      obtain ⟨⟨h1, h2, h3, h4⟩, -⟩ := S7.cells
      have e1 := Nt.set_same (a := ⟨w.heap.size, 1, none⟩) (.int .i64 (m : Int)) (Nt.still_some ⟨w.heap.size, 0, none⟩ (.int .i64 (n : Int)) ⟨_, h2⟩)
      have hlt := S7.lt
      rw [HN.out]
      exact bodyPost_ret (v := .agg #[.int .i64 (n : Int), .int .i64 (m : Int)]) (by simp [results, Tryz.results86, go_sem, h1, e1]) rfl
        ⟨rfl, by unfold LnAt; rw [Below.heap_setCell _ _ _ _ (by show b ≠ w.heap.size; omega), Below.heap_setCell _ _ _ _ (by show b ≠ w.heap.size; omega)]; exact S7.ln, gb_set (gb_set S7.grown (Nat.le_refl _) _ _) (Nat.le_refl _) _ _⟩
    | true =>
      rw [t1, t2] at HN
      go_enter Tryz.func86, Tryz.ntmps86
      obtain ⟨c1, c2, -⟩ := S0.ln.facts
      go_wp2_with fail
      refine (sign_any b l [45] _ S0.ln).mono ?_
      rintro e w1 ⟨rfl, R1, G1⟩
      rw [t1]
      have S1 := S0.step R1 G1
      clear S0 R1 G1 c1 c2
      go_wp2_with fail
      refine (lnNumber_any b _ _ S1.ln hl1).mono ?_
      rintro e w2 ⟨rfl, R2, G2⟩
      rw [Hp.out] at R2
      rw [Hp.out]
      have S2 := S1.step R2 G2
      clear S1 R2 G2
      obtain ⟨⟨p1, p2, p3, p4⟩, q1, q2, q3, q4⟩ := S2.cells
      go_wp2_with fail
      clear p1 p2 p3 p4 q1 q2 q3 q4
      have S3 := S2.setA (n : Int)
      refine (sign_any b _ [110] _ S3.ln).mono ?_
      rintro e w3 ⟨rfl, R3, G3⟩
      have S4 := S3.step R3 G3
      clear S2 S3 R3 G3
      go_wp2_with fail
      refine (sign_any b _ [45] _ S4.ln).mono ?_
      rintro e w4 ⟨rfl, R4, G4⟩
      rw [t2]
      have S5 := S4.step R4 G4
      clear S4 R4 G4
      go_wp2_with fail
      refine (sign_any b _ [43] _ S5.ln).mono ?_
      rintro e w5 ⟨rfl, R5, G5⟩
      have S51 := S5.step R5 G5
      clear S5 R5 G5
      go_wp2_with fail
      refine (lnNumber_any b _ _ S51.ln hl5).mono ?_
      rintro e w6 ⟨rfl, R6, G6⟩
      rw [Hq.out] at R6
      rw [Hq.out]
      have S6 := S51.step R6 G6
      clear S51 R6 G6
      obtain ⟨⟨p1, p2, p3, p4⟩, q1, q2, q3, q4⟩ := S6.cells
      have S7 := (S6.setB (m : Int)).setB (-(m : Int))
      go_wp2_with fail
      obtain ⟨⟨h1, h2, h3, h4⟩, -⟩ := S7.cells
      have e1 := Nt.set_same (a := ⟨w.heap.size, 1, none⟩) (.int .i64 (-(m : Int))) (Nt.still_some ⟨w.heap.size, 0, none⟩ (.int .i64 (n : Int)) ⟨_, h2⟩)
      have hlt := S7.lt
      rw [HN.out]
      exact bodyPost_ret (v := .agg #[.int .i64 (n : Int), .int .i64 (-(m : Int))]) (by simp [results, Tryz.results86, go_sem, h1, e1]) rfl
        ⟨rfl, by unfold LnAt; rw [Below.heap_setCell _ _ _ _ (by show b ≠ w.heap.size; omega), Below.heap_setCell _ _ _ _ (by show b ≠ w.heap.size; omega)]; exact S7.ln, gb_set (gb_set S7.grown (Nat.le_refl _) _ _) (Nat.le_refl _) _ _⟩
  | true =>
    cases t2 : [45].isPrefixOf (Pl.sg [110] r) with
    | false =>
      rw [t1, t2] at HN
      go_enter Tryz.func86, Tryz.ntmps86
      obtain ⟨c1, c2, -⟩ := S0.ln.facts
      go_wp2_with fail
      refine (sign_any b l [45] _ S0.ln).mono ?_
      rintro e w1 ⟨rfl, R1, G1⟩
      rw [t1]
      have S1 := S0.step R1 G1
      clear S0 R1 G1 c1 c2
      go_wp2_with fail
      refine (lnNumber_any b _ _ S1.ln hl1).mono ?_
      rintro e w2 ⟨rfl, R2, G2⟩
      rw [Hp.out] at R2
      rw [Hp.out]
      have S2 := S1.step R2 G2
      clear S1 R2 G2
      obtain ⟨⟨p1, p2, p3, p4⟩, q1, q2, q3, q4⟩ := S2.cells
      go_wp2_with fail
      clear p1 p2 p3 p4 q1 q2 q3 q4
      have S3 := (S2.setA (n : Int)).setA (-(n : Int))
      refine (sign_any b _ [110] _ S3.ln).mono ?_
      rintro e w3 ⟨rfl, R3, G3⟩
      have S4 := S3.step R3 G3
      clear S2 S3 R3 G3
      go_wp2_with fail
      refine (sign_any b _ [45] _ S4.ln).mono ?_
      rintro e w4 ⟨rfl, R4, G4⟩
      rw [t2]
      have S5 := S4.step R4 G4
      clear S4 R4 G4
      go_wp2_with fail
      refine (sign_any b _ [43] _ S5.ln).mono ?_
      rintro e w5 ⟨rfl, R5, G5⟩
      have S51 := S5.step R5 G5
      clear S5 R5 G5
      go_wp2_with fail
      refine (lnNumber_any b _ _ S51.ln hl5).mono ?_
      rintro e w6 ⟨rfl, R6, G6⟩
      rw [Hq.out] at R6
      rw [Hq.out]
      have S6 := S51.step R6 G6
      clear S51 R6 G6
      obtain ⟨⟨p1, p2, p3, p4⟩, q1, q2, q3, q4⟩ := S6.cells
      have S7 := S6.setB (m : Int)
      go_wp2_with fail
      obtain ⟨⟨h1, h2, h3, h4⟩, -⟩ := S7.cells
      have e1 := Nt.set_same (a := ⟨w.heap.size, 1, none⟩) (.int .i64 (m : Int)) (Nt.still_some ⟨w.heap.size, 0, none⟩ (.int .i64 (-(n : Int))) ⟨_, h2⟩)
      have hlt := S7.lt
      rw [HN.out]
      exact bodyPost_ret (v := .agg #[.int .i64 (-(n : Int)), .int .i64 (m : Int)]) (by simp [results, Tryz.results86, go_sem, h1, e1]) rfl
        ⟨rfl, by unfold LnAt; rw [Below.heap_setCell _ _ _ _ (by show b ≠ w.heap.size; omega), Below.heap_setCell _ _ _ _ (by show b ≠ w.heap.size; omega)]; exact S7.ln, gb_set (gb_set S7.grown (Nat.le_refl _) _ _) (Nat.le_refl _) _ _⟩
    | true =>
      rw [t1, t2] at HN
      go_enter Tryz.func86, Tryz.ntmps86
      obtain ⟨c1, c2, -⟩ := S0.ln.facts
      go_wp2_with fail
      refine (sign_any b l [45] _ S0.ln).mono ?_
      rintro e w1 ⟨rfl, R1, G1⟩
      rw [t1]
      have S1 := S0.step R1 G1
      clear S0 R1 G1 c1 c2
      go_wp2_with fail
      refine (lnNumber_any b _ _ S1.ln hl1).mono ?_
      rintro e w2 ⟨rfl, R2, G2⟩
      rw [Hp.out] at R2
      rw [Hp.out]
      have S2 := S1.step R2 G2
      clear S1 R2 G2
      obtain ⟨⟨p1, p2, p3, p4⟩, q1, q2, q3, q4⟩ := S2.cells
      go_wp2_with fail
      clear p1 p2 p3 p4 q1 q2 q3 q4
      have S3 := (S2.setA (n : Int)).setA (-(n : Int))
      refine (sign_any b _ [110] _ S3.ln).mono ?_
      rintro e w3 ⟨rfl, R3, G3⟩
      have S4 := S3.step R3 G3
      clear S2 S3 R3 G3
      go_wp2_with fail
      refine (sign_any b _ [45] _ S4.ln).mono ?_
      rintro e w4 ⟨rfl, R4, G4⟩
      rw [t2]
      have S5 := S4.step R4 G4
      clear S4 R4 G4
      go_wp2_with fail
      refine (sign_any b _ [43] _ S5.ln).mono ?_
      rintro e w5 ⟨rfl, R5, G5⟩
      have S51 := S5.step R5 G5
      clear S5 R5 G5
      go_wp2_with fail
      refine (lnNumber_any b _ _ S51.ln hl5).mono ?_
      rintro e w6 ⟨rfl, R6, G6⟩
      rw [Hq.out] at R6
      rw [Hq.out]
      have S6 := S51.step R6 G6
      clear S51 R6 G6
      obtain ⟨⟨p1, p2, p3, p4⟩, q1, q2, q3, q4⟩ := S6.cells
      have S7 := (S6.setB (m : Int)).setB (-(m : Int))
      go_wp2_with fail
      obtain ⟨⟨h1, h2, h3, h4⟩, -⟩ := S7.cells
      have e1 := Nt.set_same (a := ⟨w.heap.size, 1, none⟩) (.int .i64 (-(m : Int))) (Nt.still_some ⟨w.heap.size, 0, none⟩ (.int .i64 (-(n : Int))) ⟨_, h2⟩)
      have hlt := S7.lt
      rw [HN.out]
      exact bodyPost_ret (v := .agg #[.int .i64 (-(n : Int)), .int .i64 (-(m : Int))]) (by simp [results, Tryz.results86, go_sem, h1, e1]) rfl
        ⟨rfl, by unfold LnAt; rw [Below.heap_setCell _ _ _ _ (by show b ≠ w.heap.size; omega), Below.heap_setCell _ _ _ _ (by show b ≠ w.heap.size; omega)]; exact S7.ln, gb_set (gb_set S7.grown (Nat.le_refl _) _ _) (Nat.le_refl _) _ _⟩
end Go.Proofs.YtbfkopjpfkgjhaaGreatDoor
