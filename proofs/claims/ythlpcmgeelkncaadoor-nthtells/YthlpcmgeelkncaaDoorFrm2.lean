/-
  The document's own reader of counts: a whole count.
-/
import Derived.Test.YthlpcmgeelkncaaDoorFrom
namespace Go.Proofs.YthlpcmgeelkncaaDoor
open Go.RowKit

set_option maxHeartbeats 1000000 in
theorem rnth_any (b : Nat) (l : List UInt8) (w : World) (hbs : b < w.heap.size) (hc : w.cell? ⟨b, 0, none⟩ = some (.string ⟨l.toArray⟩)) (hf : w.frozen? ⟨b, 0, none⟩ = false) (hl : l.length ≤ maxLen) :
    Calls Tryd.prog 20 #[.pointer (some ⟨b, 0, none⟩)] w fun e w' => e = .returned (.agg #[.int .i64 (Pl.lnth l).1, .int .i64 (Pl.lnth l).2]) ∧ Below b w w' := by
  have S0 := NS.new hbs hc hf
  have hl1 : (Pl.left 45 l).length ≤ maxLen := Nat.le_trans (left_len _ _) hl
  have hl2 : (Pl.lnum 8 0 (Pl.left 45 l)).2.length ≤ maxLen := Nat.le_trans (lnum_len _ _ _) hl1
  have hn := lnum_lt 8 0 0 (Pl.left 45 l) (by omega)
  have HN : Hid (Pl.lnth l = ((if Pl.took 45 l = true then -((Pl.lnum 8 0 (Pl.left 45 l)).1 : Int) else ((Pl.lnum 8 0 (Pl.left 45 l)).1 : Int)),
    (if Pl.took 45 (Pl.left 110 (Pl.lnum 8 0 (Pl.left 45 l)).2) = true then -((Pl.lnum 8 0 (Pl.left 43 (Pl.left 45 (Pl.left 110 (Pl.lnum 8 0 (Pl.left 45 l)).2)))).1 : Int) else ((Pl.lnum 8 0 (Pl.left 43 (Pl.left 45 (Pl.left 110 (Pl.lnum 8 0 (Pl.left 45 l)).2)))).1 : Int)))) := rfl
  clear hc hf
  generalize hp : Pl.lnum 8 0 (Pl.left 45 l) = p at *
  obtain ⟨n, r⟩ := p
  have Hp : Hid (Pl.lnum 8 0 (Pl.left 45 l) = (n, r)) := hp
  clear hp
  simp only at hl2 hn HN
  have hn8 : n < 100000000 := by simpa using hn
  clear hn
  have hl3 : (Pl.left 110 r).length ≤ maxLen := Nat.le_trans (left_len _ _) hl2
  have hl4 : (Pl.left 45 (Pl.left 110 r)).length ≤ maxLen := Nat.le_trans (left_len _ _) hl3
  have hl5 : (Pl.left 43 (Pl.left 45 (Pl.left 110 r))).length ≤ maxLen := Nat.le_trans (left_len _ _) hl4
  have hm := lnum_lt 8 0 0 (Pl.left 43 (Pl.left 45 (Pl.left 110 r))) (by omega)
  generalize hq : Pl.lnum 8 0 (Pl.left 43 (Pl.left 45 (Pl.left 110 r))) = q at *
  obtain ⟨m, t⟩ := q
  have Hq : Hid (Pl.lnum 8 0 (Pl.left 43 (Pl.left 45 (Pl.left 110 r))) = (m, t)) := hq
  clear hq
  simp only at hm HN
  have hm8 : m < 100000000 := by simpa using hm
  clear hm
  cases t1 : Pl.took 45 l with
  | false =>
    cases t2 : Pl.took 45 (Pl.left 110 r) with
    | false =>
      rw [t1, t2] at HN
      go_enter Tryd.func20, Tryd.ntmps20
      go_wp2_with fail
      refine (sign_any b l 45 _ S0.1.1 S0.1.2 hl).mono ?_
      rintro e w1 ⟨rfl, R1⟩
      have S1 := S0.step R1
      clear S0 R1
      go_wp2_with fail
      refine (rnumber_any b _ _ S1.1.1 S1.1.2 hl1).mono ?_
      rintro e w2 ⟨rfl, R2⟩
      rw [Hp.out] at R2
      rw [Hp.out]
      have S2 := S1.step R2
      clear S1 R2
      obtain ⟨⟨r1, r2⟩, ⟨p1, p2, p3, p4⟩, ⟨q1, q2, q3, q4⟩, _, _⟩ := id S2
      go_wp2_with fail
      clear r1 r2 p1 p2 p3 p4 q1 q2 q3 q4
      have S3 := S2.setA (n : Int)
      refine (sign_any b _ 110 _ S3.1.1 S3.1.2 hl2).mono ?_
      rintro e w3 ⟨rfl, R3⟩
      have S4 := S3.step R3
      clear S2 S3 R3
      go_wp2_with fail
      refine (sign_any b _ 45 _ S4.1.1 S4.1.2 hl3).mono ?_
      rintro e w4 ⟨rfl, R4⟩
      have S5 := S4.step R4
      clear S4 R4
      go_wp2_with fail
      refine (sign_any b _ 43 _ S5.1.1 S5.1.2 hl4).mono ?_
      rintro e w5 ⟨rfl, R5⟩
      have S51 := S5.step R5
      clear S5 R5
      go_wp2_with fail
      refine (rnumber_any b _ _ S51.1.1 S51.1.2 hl5).mono ?_
      rintro e w6 ⟨rfl, R6⟩
      rw [Hq.out] at R6
      rw [Hq.out]
      have S6 := S51.step R6
      clear S51 R6
      obtain ⟨⟨r1, r2⟩, ⟨p1, p2, p3, p4⟩, ⟨q1, q2, q3, q4⟩, hb, hB⟩ := id S6
      have S7 := S6.setB (m : Int)
      go_wp2_with fail
      obtain ⟨⟨g1, g2⟩, ⟨h1, h2, h3, h4⟩, ⟨k1, k2, k3, k4⟩, hb7, hB7⟩ := S7
      have e1 := set_same (a := ⟨w.heap.size, 1, none⟩) (.int .i64 (m : Int)) (still_some ⟨w.heap.size, 0, none⟩ (.int .i64 (n : Int)) ⟨_, h2⟩)
      rw [HN.out]
      exact bodyPost_ret (v := .agg #[.int .i64 (n : Int), .int .i64 (m : Int)]) (by simp [results, Tryd.results20, go_sem, h1, e1]) rfl
        ⟨rfl, (hB7.setCell (p := ⟨w.heap.size, 0, none⟩) (Nat.le_of_lt hb7) _).setCell (p := ⟨w.heap.size, 1, none⟩) (Nat.le_of_lt hb7) _⟩
    | true =>
      rw [t1, t2] at HN
      go_enter Tryd.func20, Tryd.ntmps20
      go_wp2_with fail
      refine (sign_any b l 45 _ S0.1.1 S0.1.2 hl).mono ?_
      rintro e w1 ⟨rfl, R1⟩
      have S1 := S0.step R1
      clear S0 R1
      go_wp2_with fail
      refine (rnumber_any b _ _ S1.1.1 S1.1.2 hl1).mono ?_
      rintro e w2 ⟨rfl, R2⟩
      rw [Hp.out] at R2
      rw [Hp.out]
      have S2 := S1.step R2
      clear S1 R2
      obtain ⟨⟨r1, r2⟩, ⟨p1, p2, p3, p4⟩, ⟨q1, q2, q3, q4⟩, _, _⟩ := id S2
      go_wp2_with fail
      clear r1 r2 p1 p2 p3 p4 q1 q2 q3 q4
      have S3 := S2.setA (n : Int)
      refine (sign_any b _ 110 _ S3.1.1 S3.1.2 hl2).mono ?_
      rintro e w3 ⟨rfl, R3⟩
      have S4 := S3.step R3
      clear S2 S3 R3
      go_wp2_with fail
      refine (sign_any b _ 45 _ S4.1.1 S4.1.2 hl3).mono ?_
      rintro e w4 ⟨rfl, R4⟩
      have S5 := S4.step R4
      clear S4 R4
      go_wp2_with fail
      refine (sign_any b _ 43 _ S5.1.1 S5.1.2 hl4).mono ?_
      rintro e w5 ⟨rfl, R5⟩
      have S51 := S5.step R5
      clear S5 R5
      go_wp2_with fail
      refine (rnumber_any b _ _ S51.1.1 S51.1.2 hl5).mono ?_
      rintro e w6 ⟨rfl, R6⟩
      rw [Hq.out] at R6
      rw [Hq.out]
      have S6 := S51.step R6
      clear S51 R6
      obtain ⟨⟨r1, r2⟩, ⟨p1, p2, p3, p4⟩, ⟨q1, q2, q3, q4⟩, hb, hB⟩ := id S6
      have S7 := (S6.setB (m : Int)).setB (-(m : Int))
      go_wp2_with fail
      obtain ⟨⟨g1, g2⟩, ⟨h1, h2, h3, h4⟩, ⟨k1, k2, k3, k4⟩, hb7, hB7⟩ := S7
      have e1 := set_same (a := ⟨w.heap.size, 1, none⟩) (.int .i64 (-(m : Int))) (still_some ⟨w.heap.size, 0, none⟩ (.int .i64 (n : Int)) ⟨_, h2⟩)
      rw [HN.out]
      exact bodyPost_ret (v := .agg #[.int .i64 (n : Int), .int .i64 (-(m : Int))]) (by simp [results, Tryd.results20, go_sem, h1, e1]) rfl
        ⟨rfl, (hB7.setCell (p := ⟨w.heap.size, 0, none⟩) (Nat.le_of_lt hb7) _).setCell (p := ⟨w.heap.size, 1, none⟩) (Nat.le_of_lt hb7) _⟩
  | true =>
    cases t2 : Pl.took 45 (Pl.left 110 r) with
    | false =>
      rw [t1, t2] at HN
      go_enter Tryd.func20, Tryd.ntmps20
      go_wp2_with fail
      refine (sign_any b l 45 _ S0.1.1 S0.1.2 hl).mono ?_
      rintro e w1 ⟨rfl, R1⟩
      have S1 := S0.step R1
      clear S0 R1
      go_wp2_with fail
      refine (rnumber_any b _ _ S1.1.1 S1.1.2 hl1).mono ?_
      rintro e w2 ⟨rfl, R2⟩
      rw [Hp.out] at R2
      rw [Hp.out]
      have S2 := S1.step R2
      clear S1 R2
      obtain ⟨⟨r1, r2⟩, ⟨p1, p2, p3, p4⟩, ⟨q1, q2, q3, q4⟩, _, _⟩ := id S2
      go_wp2_with fail
      clear r1 r2 p1 p2 p3 p4 q1 q2 q3 q4
      have S3 := (S2.setA (n : Int)).setA (-(n : Int))
      refine (sign_any b _ 110 _ S3.1.1 S3.1.2 hl2).mono ?_
      rintro e w3 ⟨rfl, R3⟩
      have S4 := S3.step R3
      clear S2 S3 R3
      go_wp2_with fail
      refine (sign_any b _ 45 _ S4.1.1 S4.1.2 hl3).mono ?_
      rintro e w4 ⟨rfl, R4⟩
      have S5 := S4.step R4
      clear S4 R4
      go_wp2_with fail
      refine (sign_any b _ 43 _ S5.1.1 S5.1.2 hl4).mono ?_
      rintro e w5 ⟨rfl, R5⟩
      have S51 := S5.step R5
      clear S5 R5
      go_wp2_with fail
      refine (rnumber_any b _ _ S51.1.1 S51.1.2 hl5).mono ?_
      rintro e w6 ⟨rfl, R6⟩
      rw [Hq.out] at R6
      rw [Hq.out]
      have S6 := S51.step R6
      clear S51 R6
      obtain ⟨⟨r1, r2⟩, ⟨p1, p2, p3, p4⟩, ⟨q1, q2, q3, q4⟩, hb, hB⟩ := id S6
      have S7 := S6.setB (m : Int)
      go_wp2_with fail
      obtain ⟨⟨g1, g2⟩, ⟨h1, h2, h3, h4⟩, ⟨k1, k2, k3, k4⟩, hb7, hB7⟩ := S7
      have e1 := set_same (a := ⟨w.heap.size, 1, none⟩) (.int .i64 (m : Int)) (still_some ⟨w.heap.size, 0, none⟩ (.int .i64 (-(n : Int))) ⟨_, h2⟩)
      rw [HN.out]
      exact bodyPost_ret (v := .agg #[.int .i64 (-(n : Int)), .int .i64 (m : Int)]) (by simp [results, Tryd.results20, go_sem, h1, e1]) rfl
        ⟨rfl, (hB7.setCell (p := ⟨w.heap.size, 0, none⟩) (Nat.le_of_lt hb7) _).setCell (p := ⟨w.heap.size, 1, none⟩) (Nat.le_of_lt hb7) _⟩
    | true =>
      rw [t1, t2] at HN
      go_enter Tryd.func20, Tryd.ntmps20
      go_wp2_with fail
      refine (sign_any b l 45 _ S0.1.1 S0.1.2 hl).mono ?_
      rintro e w1 ⟨rfl, R1⟩
      have S1 := S0.step R1
      clear S0 R1
      go_wp2_with fail
      refine (rnumber_any b _ _ S1.1.1 S1.1.2 hl1).mono ?_
      rintro e w2 ⟨rfl, R2⟩
      rw [Hp.out] at R2
      rw [Hp.out]
      have S2 := S1.step R2
      clear S1 R2
      obtain ⟨⟨r1, r2⟩, ⟨p1, p2, p3, p4⟩, ⟨q1, q2, q3, q4⟩, _, _⟩ := id S2
      go_wp2_with fail
      clear r1 r2 p1 p2 p3 p4 q1 q2 q3 q4
      have S3 := (S2.setA (n : Int)).setA (-(n : Int))
      refine (sign_any b _ 110 _ S3.1.1 S3.1.2 hl2).mono ?_
      rintro e w3 ⟨rfl, R3⟩
      have S4 := S3.step R3
      clear S2 S3 R3
      go_wp2_with fail
      refine (sign_any b _ 45 _ S4.1.1 S4.1.2 hl3).mono ?_
      rintro e w4 ⟨rfl, R4⟩
      have S5 := S4.step R4
      clear S4 R4
      go_wp2_with fail
      refine (sign_any b _ 43 _ S5.1.1 S5.1.2 hl4).mono ?_
      rintro e w5 ⟨rfl, R5⟩
      have S51 := S5.step R5
      clear S5 R5
      go_wp2_with fail
      refine (rnumber_any b _ _ S51.1.1 S51.1.2 hl5).mono ?_
      rintro e w6 ⟨rfl, R6⟩
      rw [Hq.out] at R6
      rw [Hq.out]
      have S6 := S51.step R6
      clear S51 R6
      obtain ⟨⟨r1, r2⟩, ⟨p1, p2, p3, p4⟩, ⟨q1, q2, q3, q4⟩, hb, hB⟩ := id S6
      have S7 := (S6.setB (m : Int)).setB (-(m : Int))
      go_wp2_with fail
      obtain ⟨⟨g1, g2⟩, ⟨h1, h2, h3, h4⟩, ⟨k1, k2, k3, k4⟩, hb7, hB7⟩ := S7
      have e1 := set_same (a := ⟨w.heap.size, 1, none⟩) (.int .i64 (-(m : Int))) (still_some ⟨w.heap.size, 0, none⟩ (.int .i64 (-(n : Int))) ⟨_, h2⟩)
      rw [HN.out]
      exact bodyPost_ret (v := .agg #[.int .i64 (-(n : Int)), .int .i64 (-(m : Int))]) (by simp [results, Tryd.results20, go_sem, h1, e1]) rfl
        ⟨rfl, (hB7.setCell (p := ⟨w.heap.size, 0, none⟩) (Nat.le_of_lt hb7) _).setCell (p := ⟨w.heap.size, 1, none⟩) (Nat.le_of_lt hb7) _⟩
end Go.Proofs.YthlpcmgeelkncaaDoor
