/-
  The strict reader's counts: a whole count.
-/
import Derived.Test.YthlpcmgeelkncaaDoorNth
namespace Go.Proofs.YthlpcmgeelkncaaDoor
open Go.RowKit

theorem left_len (c : UInt8) (l : List UInt8) : (Pl.left c l).length ≤ l.length := by
  cases l with
  | nil => simp [Pl.left]
  | cons x r => simp only [Pl.left]; split <;> simp
theorem readNum_len {m : Bool} {l r : List UInt8} {x : Int} (h : Pl.readNum m l = some (x, r)) : r.length ≤ l.length := by
  have := ((Pl.readNum_iff _ _ _ _).1 h).2.2.2
  rw [this]; simp

theorem step_world {w : World} {b : Nat} {u : Value} (v : Value) (hbs : b < w.heap.size) (hc : w.cell? ⟨b, 0, none⟩ = some u) (hf : w.frozen? ⟨b, 0, none⟩ = false) :
    ∃ w2, w.setCell ⟨b, 0, none⟩ v = w2 ∧ b < w2.heap.size ∧ w2.cell? ⟨b, 0, none⟩ = some v ∧ w2.frozen? ⟨b, 0, none⟩ = false ∧ w2.heap.size = w.heap.size ∧ Below b w w2 :=
  ⟨_, rfl, by simpa [World.setCell] using hbs, World.cell?_setCell_same _ _ _ hc, by rw [World.frozen?_setCell]; exact hf, by simp [World.setCell], (Below.refl _ _).setCell (p := ⟨b, 0, none⟩) (Nat.le_refl _) _⟩
theorem past_cell {w : World} {b : Nat} {u : Value} (o : Obj) (hbs : b < w.heap.size) (hc : w.cell? ⟨b, 0, none⟩ = some u) : (w.alloc o).cell? ⟨b, 0, none⟩ = some u := by
  rw [World.cell?_alloc_past _ _ _ hbs]; exact hc
theorem past_frozen {w : World} {b : Nat} (o : Obj) (hbs : b < w.heap.size) (hf : w.frozen? ⟨b, 0, none⟩ = false) : (w.alloc o).frozen? ⟨b, 0, none⟩ = false := by
  rw [World.frozen?_alloc_past _ _ _ hbs]; exact hf
theorem past_below {w w1 : World} {b : Nat} (o : Obj) (hbs : b < w.heap.size) (h : Below b (w.alloc o) w1) : Below b w w1 :=
  ((Below.refl _ _).alloc (Nat.le_of_lt hbs) _).trans h

set_option maxHeartbeats 400000 in
theorem readNth_any (b : Nat) (l : List UInt8) (w : World) (hbs : b < w.heap.size) (hc : w.cell? ⟨b, 0, none⟩ = some (.string ⟨l.toArray⟩)) (hf : w.frozen? ⟨b, 0, none⟩ = false) (hl : l.length ≤ maxLen) :
    Calls Tryd.prog 19 #[.pointer (some ⟨b, 0, none⟩)] w fun e w' => (Pl.readNth l = none ∧ e = .panicked [{ v := .iface 24 (.int .i64 1), recovered := false }] ∧ Below b w w') ∨
      (∃ x y r, Pl.readNth l = some (x, y, r) ∧ e = .returned (.agg #[.int .i64 x, .int .i64 y]) ∧ w'.cell? ⟨b, 0, none⟩ = some (.string ⟨r.toArray⟩) ∧ Below b w w') := by
  go_enter Tryd.func19, Tryd.ntmps19
  go_wp2_with fail
  refine (take_any b l 45 _ (past_cell _ hbs hc) (past_frozen _ hbs hf)).mono ?_
  rintro e w' ⟨rfl, rfl⟩
  go_wp2_with fail
  obtain ⟨w2, hw2, hbs2, hc2, hf2, hsz2, hB2⟩ := step_world (.string ⟨(Pl.left 45 l).toArray⟩) hbs hc hf
  rw [hw2]
  clear hw2 hc hf
  have hl2 : (Pl.left 45 l).length ≤ maxLen := Nat.le_trans (left_len _ _) hl
  refine (readNum_any b _ _ _ (past_cell _ hbs2 hc2) (past_frozen _ hbs2 hf2) hl2).mono ?_
  rintro e w' (⟨h, rfl, hb⟩ | ⟨x, r, h, rfl, rfl⟩)
  · go_wp2
    exact ⟨rfl, Or.inl ⟨by simp [Pl.readNth, h], rfl, hB2.trans (past_below _ hbs2 hb)⟩⟩
  have hl3 : r.length ≤ maxLen := Nat.le_trans (readNum_len h) hl2
  have H1 : Hid (Pl.readNth l = Pl.readRest x r) := by simp [Hid, Pl.readNth, h]
  have hbx := ((Pl.readNum_iff _ _ _ _).1 h).1
  clear h hl2
  obtain ⟨w3, hw3, hbs3, hc3, hf3, hsz3, hB3⟩ := step_world (.string ⟨r.toArray⟩) hbs2 hc2 hf2
  have hB3' := hB2.trans hB3
  have hsz3' := hsz3.trans hsz2
  clear hc2 hf2 hB3 hsz3
  go_wp2_with fail
  clear hw3 hB2 hsz2 hbs2
  have hl4 : (Pl.left 110 r).length ≤ maxLen := Nat.le_trans (left_len _ _) hl3
  cases h110 : Pl.took 110 r with
  | false =>
    refine (need_no b _ _ _ (past_cell _ hbs3 hc3) (past_frozen _ hbs3 hf3) h110).mono ?_
    rintro e w' ⟨rfl, hb⟩
    go_wp2
    exact ⟨rfl, Or.inl ⟨H1.out.trans (by simp [Pl.readRest, h110]), rfl, hB3'.trans (past_below _ hbs3 hb)⟩⟩
  | true =>
    refine (need_yes b _ _ _ (past_cell _ hbs3 hc3) (past_frozen _ hbs3 hf3) h110).mono ?_
    rintro e w' ⟨rfl, rfl⟩
    obtain ⟨w4, hw4, hbs4, hc4, hf4, hsz4, hB4⟩ := step_world (.string ⟨(Pl.left 110 r).toArray⟩) hbs3 hc3 hf3
    have hB4' := hB3'.trans hB4
    have hsz4' := hsz4.trans hsz3'
    clear hc3 hf3 hB4 hsz4 hB3'
    go_wp2_with fail
    clear hw4 hbs3 hsz3'
    refine (take_any b _ 45 _ (past_cell _ hbs4 hc4) (past_frozen _ hbs4 hf4)).mono ?_
    rintro e w' ⟨rfl, rfl⟩
    obtain ⟨w5, hw5, hbs5, hc5, hf5, hsz5, hB5⟩ := step_world (.string ⟨(Pl.left 45 (Pl.left 110 r)).toArray⟩) hbs4 hc4 hf4
    have hB5' := hB4'.trans hB5
    have hsz5' := hsz5.trans hsz4'
    clear hc4 hf4 hB5 hsz5 hB4'
    cases h45 : Pl.took 45 (Pl.left 110 r) with
    | true =>
      have hl5 : (Pl.left 45 (Pl.left 110 r)).length ≤ maxLen := Nat.le_trans (left_len _ _) hl4
      have H2 : Hid (Pl.readNth l = (Pl.readNum true (Pl.left 45 (Pl.left 110 r))).map fun p => (x, p.1, p.2)) := H1.out.trans (by simp [Pl.readRest, h110, h45])
      go_wp2_with fail
      refine (readNum_any b _ _ _ (past_cell _ hbs5 hc5) (past_frozen _ hbs5 hf5) hl5).mono ?_
      rintro e w' (⟨h, rfl, hb⟩ | ⟨y, r', h, rfl, rfl⟩)
      · go_wp2
        exact ⟨rfl, Or.inl ⟨by rw [H2.out, h]; rfl, rfl, hB5'.trans (past_below _ hbs5 hb)⟩⟩
      obtain ⟨w6, hw6, hbs6, hc6, hf6, hsz6, hB6⟩ := step_world (.string ⟨r'.toArray⟩) hbs5 hc5 hf5
      have hB6' := hB5'.trans hB6
      have hsz6' := hsz6.trans hsz5'
      clear hc5 hf5 hB6 hsz6 hB5'
      have H3 : Hid (Pl.readNth l = some (x, y, r')) := by rw [Hid, H2.out, h]; rfl
      clear h hsz4' hbs4 h110 h45 H1 H2
      go_wp2_with fail
      exact bodyPost_ret (v := .agg #[.int .i64 x, .int .i64 y]) (by simp [results, Tryd.results19, go_sem, hsz6']) rfl (Or.inr ⟨x, y, r', H3.out, rfl, past_cell _ hbs6 hc6, hB6'.alloc (Nat.le_of_lt hbs6) _⟩)
    | false =>
      rw [Pl.left_not h45] at hw5 hc5
      rw [Pl.left_not h45]
      have hl5 : (Pl.left 43 (Pl.left 110 r)).length ≤ maxLen := Nat.le_trans (left_len _ _) hl4
      go_wp2_with fail
      cases h43 : Pl.took 43 (Pl.left 110 r) with
      | false =>
        refine (need_no b _ _ _ (past_cell _ hbs5 hc5) (past_frozen _ hbs5 hf5) h43).mono ?_
        rintro e w' ⟨rfl, hb⟩
        go_wp2
        exact ⟨rfl, Or.inl ⟨H1.out.trans (by simp [Pl.readRest, h110, h45, h43]), rfl, hB5'.trans (past_below _ hbs5 hb)⟩⟩
      | true =>
        have H2 : Hid (Pl.readNth l = (Pl.readNum false (Pl.left 43 (Pl.left 110 r))).map fun p => (x, p.1, p.2)) := H1.out.trans (by simp [Pl.readRest, h110, h45, h43])
        refine (need_yes b _ _ _ (past_cell _ hbs5 hc5) (past_frozen _ hbs5 hf5) h43).mono ?_
        rintro e w' ⟨rfl, rfl⟩
        obtain ⟨w7, hw7, hbs7, hc7, hf7, hsz7, hB7⟩ := step_world (.string ⟨(Pl.left 43 (Pl.left 110 r)).toArray⟩) hbs5 hc5 hf5
        have hB7' := hB5'.trans hB7
        have hsz7' := hsz7.trans hsz5'
        clear hc5 hf5 hB7 hsz7 hB5' h110 h45 h43 hw5 H1
        go_wp2_with fail
        clear hw7 hbs5 hsz5' hbs4 hsz4'
        refine (readNum_any b _ _ _ (past_cell _ hbs7 hc7) (past_frozen _ hbs7 hf7) hl5).mono ?_
        rintro e w' (⟨h, rfl, hb⟩ | ⟨y, r', h, rfl, rfl⟩)
        · go_wp2
          exact ⟨rfl, Or.inl ⟨by rw [H2.out, h]; rfl, rfl, hB7'.trans (past_below _ hbs7 hb)⟩⟩
        obtain ⟨w6, hw6, hbs6, hc6, hf6, hsz6, hB6⟩ := step_world (.string ⟨r'.toArray⟩) hbs7 hc7 hf7
        have hB6' := hB7'.trans hB6
        have hsz6' := hsz6.trans hsz7'
        clear hc7 hf7 hB6 hsz6 hB7'
        have H3 : Hid (Pl.readNth l = some (x, y, r')) := by rw [Hid, H2.out, h]; rfl
        clear h H2
        go_wp2_with fail
        exact bodyPost_ret (v := .agg #[.int .i64 x, .int .i64 y]) (by simp [results, Tryd.results19, go_sem, hsz6']) rfl (Or.inr ⟨x, y, r', H3.out, rfl, past_cell _ hbs6 hc6, hB6'.alloc (Nat.le_of_lt hbs6) _⟩)
end Go.Proofs.YthlpcmgeelkncaaDoor
