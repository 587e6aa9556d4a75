/-
  The document's own reader: a test is read.
-/
import Derived.Test.YtbfkopjpfkgjhaaGreatDoorLnT
namespace Go.Proofs.YtbfkopjpfkgjhaaGreatDoor
open Go.RowKit

theorem sign_yes (b : Nat) (s l : List UInt8) (w : World) (h : LnAt b l w) (hn : s.isPrefixOf l = true) :
    Calls Tryz.prog 49 #[.pointer (some ⟨b, 0, none⟩), .string ⟨s.toArray⟩] w fun e w' => e = .returned (.bool true) ∧ LnAt b (Pl.sg s l) w' ∧ w.grownBy w' (some b) := by
  have := sign_any b l s w h
  rw [hn] at this
  exact this
theorem sign_no (b : Nat) (s l : List UInt8) (w : World) (h : LnAt b l w) (hn : s.isPrefixOf l = false) :
    Calls Tryz.prog 49 #[.pointer (some ⟨b, 0, none⟩), .string ⟨s.toArray⟩] w fun e w' => e = .returned (.bool false) ∧ LnAt b l w' ∧ w.grownBy w' (some b) := by
  have := sign_any b l s w h
  have e : Pl.sg s l = l := by
    unfold Pl.sg
    rw [if_neg (by rw [hn]; simp)]
  rw [hn, e] at this
  exact this
/-- what the lenient reader tells of a level's lists -/
def LnSays {α : Type} (A : MemL α) (g : List UInt8 → List α × List UInt8) (b : Nat) (l : List UInt8) (w : World) (e : Ending) (w' : World) : Prop :=
  ∃ (x : List α) (r : List UInt8) (au : Option Addr) (cu : Nat), g l = (x, r) ∧ e = .returned (.slice au x.length cu) ∧ A (mask (frm w.heap.size) w') (.slice au x.length cu) x ∧ LnAt b r w' ∧ w.grownBy w' (some b)
def LnReads {α : Type} (A : MemL α) (g : List UInt8 → List α × List UInt8) (d : Int) : Prop := ∀ b l w, LnAt b l w → l.length ≤ maxLen → Calls Tryz.prog 26 #[.pointer (some ⟨b, 0, none⟩), .int .i64 d] w (LnSays A g b l w)
def LTSays {α : Type} (A : MemL α) (g : List UInt8 → List α × List UInt8) (b : Nat) (l : List UInt8) (w : World) (e : Ending) (w' : World) : Prop :=
  (Pl.lnTest g l = none ∧ e = .returned (.tuple #[.agg #[.int .i64 0, .string ⟨#[]⟩, .string ⟨#[]⟩, .int .i64 0, .int .i64 0, .slice none 0 0], .bool false]) ∧ LnAt b l w' ∧ w.grownBy w' (some b)) ∨
  (∃ (t : Pl.Tst α) (r : List UInt8) (au : Option Addr) (cu : Nat), Pl.lnTest g l = some (t, r) ∧ e = .returned (.tuple #[.agg #[.int .i64 t.kind, .string ⟨t.name.toArray⟩, .string ⟨t.value.toArray⟩, .int .i64 t.a, .int .i64 t.b, .slice au t.list.length cu], .bool true]) ∧ A (mask (frm w.heap.size) w') (.slice au t.list.length cu) t.list ∧ LnAt b r w' ∧ w.grownBy w' (some b))
/-- six cells of a block are set -/
def put6 (W : World) (N : Nat) (c0 c1 c2 c3 c4 c5 : Value) : World := (((((W.setCell ⟨N, 0, none⟩ c0).setCell ⟨N, 1, none⟩ c1).setCell ⟨N, 2, none⟩ c2).setCell ⟨N, 3, none⟩ c3).setCell ⟨N, 4, none⟩ c4).setCell ⟨N, 5, none⟩ c5
section
variable {W : World} {N : Nat} {c0 c1 c2 c3 c4 c5 : Value} (d0 d1 d2 d3 d4 d5 : Value)
theorem put6_own (h : W.heap[N]? = some (.cells #[c0, c1, c2, c3, c4, c5] 61)) : (put6 W N d0 d1 d2 d3 d4 d5).heap[N]? = some (.cells #[d0, d1, d2, d3, d4, d5] 61) :=
  set6_5 (set6_4 (set6_3 (set6_2 (set6_1 (set6_0 h d0) d1) d2) d3) d4) d5
theorem put6_other {M : Nat} {o : Obj} (h : W.heap[M]? = some o) (hne : M ≠ N) : (put6 W N d0 d1 d2 d3 d4 d5).heap[M]? = some o :=
  blk_set_other _ (blk_set_other _ (blk_set_other _ (blk_set_other _ (blk_set_other _ (blk_set_other _ h hne) hne) hne) hne) hne) hne
theorem put6_cell {M o : Nat} {x : Value} (h : W.cell? ⟨M, o, none⟩ = some x) (hne : M ≠ N) : (put6 W N d0 d1 d2 d3 d4 d5).cell? ⟨M, o, none⟩ = some x :=
  cell_apart (cell_apart (cell_apart (cell_apart (cell_apart (cell_apart h hne) hne) hne) hne) hne) hne
theorem put6_gb {w : World} {b : Nat} (h : w.grownBy W (some b)) (hN : w.heap.size ≤ N) : w.grownBy (put6 W N d0 d1 d2 d3 d4 d5) (some b) :=
  gb_set (gb_set (gb_set (gb_set (gb_set (gb_set h hN 0 d0) hN 1 d1) hN 2 d2) hN 3 d3) hN 4 d4) hN 5 d5
theorem put6_size : (put6 W N d0 d1 d2 d3 d4 d5).heap.size = W.heap.size := by simp [put6, World.setCell]
end
/-- the reader, and the boxes in which the test is made -/
structure LT (b : Nat) (l : List UInt8) (w W : World) (c0 c1 c2 c3 c4 c5 : Value) : Prop where
  ln : LnAt b l W
  bx : W.heap[w.heap.size + 1]? = some (.cells #[c0, c1, c2, c3, c4, c5] 61)
  rs : W.heap[w.heap.size]? = some (.cells #[.int .i64 0, .string ⟨#[]⟩, .string ⟨#[]⟩, .int .i64 0, .int .i64 0, .slice none 0 0] 61)
  gb : w.grownBy W (some b)
section
variable {b : Nat} {l l' : List UInt8} {w W W' : World} {c0 c1 c2 c3 c4 c5 : Value}
theorem LT.step (h : LT b l w W c0 c1 c2 c3 c4 c5) (hb : b < w.heap.size) (hg : W.grownBy W' (some b)) (hr : LnAt b l' W') : LT b l' w W' c0 c1 c2 c3 c4 c5 :=
  ⟨hr, gb_block h.bx hg (by omega), gb_block h.rs hg (by omega), gb_chain h.gb hg⟩
theorem LT.frozen (h : LT b l w W c0 c1 c2 c3 c4 c5) (i : Nat) : W.frozen? ⟨w.heap.size + 1, i, none⟩ = false := by simp [World.frozen?, h.bx]
theorem LT.frozenR (h : LT b l w W c0 c1 c2 c3 c4 c5) (i : Nat) : W.frozen? ⟨w.heap.size, i, none⟩ = false := by simp [World.frozen?, h.rs]
theorem LT.all (h : LT b l w W c0 c1 c2 c3 c4 c5) (hb : b < w.heap.size) (d0 d1 d2 d3 d4 d5 : Value) : LT b l w (put6 W (w.heap.size + 1) d0 d1 d2 d3 d4 d5) d0 d1 d2 d3 d4 d5 :=
  ⟨put6_other _ _ _ _ _ _ h.ln (by omega), put6_own _ _ _ _ _ _ h.bx, put6_other _ _ _ _ _ _ h.rs (by omega), put6_gb _ _ _ _ _ _ h.gb (by omega)⟩
theorem LT.put (h : LT b l w W c0 c1 c2 c3 c4 c5) (hb : b < w.heap.size) (i : Nat) (v : Value) {d0 d1 d2 d3 d4 d5 : Value} (hd : (W.setCell ⟨w.heap.size + 1, i, none⟩ v).heap[w.heap.size + 1]? = some (.cells #[d0, d1, d2, d3, d4, d5] 61)) : LT b l w (W.setCell ⟨w.heap.size + 1, i, none⟩ v) d0 d1 d2 d3 d4 d5 :=
  ⟨h.ln.other (by omega) v, hd, by rw [Below.heap_setCell _ _ _ _ (by show w.heap.size ≠ w.heap.size + 1; omega)]; exact h.rs, gb_set h.gb (by omega) i v⟩
/-- when the result is laid -/
structure LE (b : Nat) (l : List UInt8) (w W W' : World) (c0 c1 c2 c3 c4 c5 : Value) : Prop where
  ln : LnAt b l W'
  rs : W'.heap[w.heap.size]? = some (.cells #[c0, c1, c2, c3, c4, c5] 61)
  gb : w.grownBy W' (some b)
  far : ∀ j o x, w.heap.size + 2 ≤ j → W.cell? ⟨j, o, none⟩ = some x → W'.cell? ⟨j, o, none⟩ = some x
theorem LT.fin (h : LT b l w W c0 c1 c2 c3 c4 c5) (hb : b < w.heap.size) (d0 d1 d2 d3 d4 d5 : Value) : LE b l w W (put6 W w.heap.size d0 d1 d2 d3 d4 d5) d0 d1 d2 d3 d4 d5 :=
  ⟨put6_other _ _ _ _ _ _ h.ln (by omega), put6_own _ _ _ _ _ _ h.rs, put6_gb _ _ _ _ _ _ h.gb (Nat.le_refl _), fun _ _ _ hj hx => put6_cell _ _ _ _ _ _ hx (by omega)⟩
theorem LE.back (h : LE b l w W W' c0 c1 c2 c3 c4 c5) {W0 : World} (hf : ∀ j o x, w.heap.size + 2 ≤ j → W0.cell? ⟨j, o, none⟩ = some x → W.cell? ⟨j, o, none⟩ = some x) : LE b l w W0 W' c0 c1 c2 c3 c4 c5 :=
  ⟨h.ln, h.rs, h.gb, fun j o x hj hx => h.far j o x hj (hf j o x hj hx)⟩
end
theorem results_tb {fn : Func} {p q : Tmp} (h : fn.results = #[.cell p 61, .tmp q]) (tmps : Array Value) (W : World) (B : Nat) {c0 c1 c2 c3 c4 c5 x : Value} (hp : tmps[p]?.getD undef = .pointer (some ⟨B, 0, none⟩)) (hb : W.heap[B]? = some (.cells #[c0, c1, c2, c3, c4, c5] 61)) (hx : tmps[q]?.getD undef = x) : (results fn tmps).run Tryz.prog W = .ok (.tuple #[.agg #[c0, c1, c2, c3, c4, c5], x]) W := by
  obtain ⟨h0, h1, h2, h3, h4, h5⟩ := blk6_cells hb
  simp [results, h, hp, hx, go_sem, h0, h1, h2, h3, h4, h5]
theorem LTSays.mk {α : Type} {A : MemL α} (hS : IsSub A) {g : List UInt8 → List α × List UInt8} {b : Nat} {l r : List UInt8} {w W W' : World} (t : Pl.Tst α) {au : Option Addr} {cu : Nat} (hN : Pl.lnTest g l = some (t, r)) (h : LE b r w W W' (.int .i64 t.kind) (.string ⟨t.name.toArray⟩) (.string ⟨t.value.toArray⟩) (.int .i64 t.a) (.int .i64 t.b) (.slice au t.list.length cu)) (ha : A (mask (frm (w.heap.size + 2)) W) (.slice au t.list.length cu) t.list) :
    LTSays A g b l w (.returned (.tuple #[.agg #[.int .i64 t.kind, .string ⟨t.name.toArray⟩, .string ⟨t.value.toArray⟩, .int .i64 t.a, .int .i64 t.b, .slice au t.list.length cu], .bool true])) W' :=
  Or.inr ⟨t, r, au, cu, hN, rfl, hS.sub ha (incl_mask fun j o x hj hx => by
    simp only [frm, decide_eq_true_eq] at hj ⊢
    exact ⟨by omega, h.far j o x hj hx⟩), h.ln, h.gb⟩

set_option maxRecDepth 100000 in
set_option maxHeartbeats 8000000 in
theorem lnTest_any {α : Type} {A : MemL α} (hA : IsL A) (hS : IsSub A) {g : List UInt8 → List α × List UInt8} {d : Int} (hd : 1 ≤ d ∧ d ≤ 3) (hr : LnReads A g (d + 1)) (b : Nat) (l : List UInt8) (w : World) (h : LnAt b l w) (hl : l.length ≤ maxLen) :
    Calls Tryz.prog 70 #[.pointer (some ⟨b, 0, none⟩), .int .i64 d] w (LTSays A g b l w) := by
  have hbw := h.facts.2.2
  have hba := on_alloc w (.cells #[.int .i64 0, .string ⟨#[]⟩, .string ⟨#[]⟩, .int .i64 0, .int .i64 0, .slice none 0 0] 61)
  have hbb := on_alloc (w.alloc (.cells #[.int .i64 0, .string ⟨#[]⟩, .string ⟨#[]⟩, .int .i64 0, .int .i64 0, .slice none 0 0] 61)) (.cells #[.int .i64 0, .string ⟨#[]⟩, .string ⟨#[]⟩, .int .i64 0, .int .i64 0, .slice none 0 0] 61)
  have HT0 : Hid (LT b l w ((w.alloc (.cells #[.int .i64 0, .string ⟨#[]⟩, .string ⟨#[]⟩, .int .i64 0, .int .i64 0, .slice none 0 0] 61)).alloc (.cells #[.int .i64 0, .string ⟨#[]⟩, .string ⟨#[]⟩, .int .i64 0, .int .i64 0, .slice none 0 0] 61)) (.int .i64 0) (.string ⟨#[]⟩) (.string ⟨#[]⟩) (.int .i64 0) (.int .i64 0) (.slice none 0 0)) := by
    refine ⟨(h.on hba).on hbb, ?_, ?_, gb_on (gb_on (World.grownBy.refl w _) hba) hbb⟩
    · have := World.alloc_heap_new (w.alloc (.cells #[.int .i64 0, .string ⟨#[]⟩, .string ⟨#[]⟩, .int .i64 0, .int .i64 0, .slice none 0 0] 61)) (.cells #[.int .i64 0, .string ⟨#[]⟩, .string ⟨#[]⟩, .int .i64 0, .int .i64 0, .slice none 0 0] 61)
      simp only [World.size_alloc] at this
      exact this
    · exact (hbb.block _ (by simp)).trans (World.alloc_heap_new w _)
  have HR : Hid (LnReads A g (d + 1)) := hr
  have HA : Hid (IsL A) := hA
  have HSUB : Hid (IsSub A) := hS
  have hwr : wrap64 (d + 1) = d + 1 := IntWalk.wrap64_in _ ⟨by omega, by omega⟩
  clear h hba hbb hr hA hS
  go_enter Tryz.func70, Tryz.ntmps70
  go_wp2_with fail
  generalize (w.alloc (.cells #[.int .i64 0, .string ⟨#[]⟩, .string ⟨#[]⟩, .int .i64 0, .int .i64 0, .slice none 0 0] 61)).alloc (.cells #[.int .i64 0, .string ⟨#[]⟩, .string ⟨#[]⟩, .int .i64 0, .int .i64 0, .slice none 0 0] 61) = W0 at *
  cases h0 : (fBegin 1).isPrefixOf l with
  | true =>
    refine (sign_yes b [46] l _ HT0.out.ln h0).mono ?_
    rintro e W1 ⟨rfl, r1, g1⟩
    have HT1' : Hid (LT b (Pl.sg (fBegin 1) l) w W1 (.int .i64 0) (.string ⟨#[]⟩) (.string ⟨#[]⟩) (.int .i64 0) (.int .i64 0) (.slice none 0 0)) := HT0.out.step hbw g1 r1
    have hl1 : (Pl.sg (fBegin 1) l).length ≤ maxLen := Nat.le_trans (Pl.sg_len _ _) hl
    have HN : Hid (Pl.lnTest g l = some (⟨1, (Pl.sg (fBegin 1) l).takeWhile Pl.isNB, [], 0, 0, []⟩, (Pl.sg (fBegin 1) l).dropWhile Pl.isNB)) := by
      unfold Hid Pl.lnTest
      simp only [h0, if_true]
    have HC : Hid (Calls Tryz.prog 69 _ _ _) := lnName_any b (Pl.sg (fBegin 1) l) W1 HT1'.out.ln hl1
    clear r1 g1 HT0 h0 hl1
    generalize (Pl.sg (fBegin 1) l).takeWhile Pl.isNB = nm at *
    generalize (Pl.sg (fBegin 1) l).dropWhile Pl.isNB = rs at *
    go_wp2_with fail
    refine HC.out.mono ?_
    rintro e W2 ⟨rfl, r2, g2⟩
    have HT2 : Hid (LT b rs w W2 _ _ _ _ _ _) := HT1'.out.step hbw g2 r2
    clear r2 g2 HC HT1'
    have HT3 : Hid (LT b rs w _ _ _ _ _ _ _) := HT2.out.all hbw (.int .i64 1) (.string ⟨nm.toArray⟩) (.string ⟨#[]⟩) (.int .i64 0) (.int .i64 0) (.slice none 0 0)
    have HE : Hid (LE b rs w _ _ _ _ _ _ _ _) := HT3.out.fin hbw (.int .i64 1) (.string ⟨nm.toArray⟩) (.string ⟨#[]⟩) (.int .i64 0) (.int .i64 0) (.slice none 0 0)
    obtain ⟨c0, c1, c2, c3, c4, c5⟩ := blk6_cells HT2.out.bx
    have f0 := HT2.out.frozen 0
    have f1 := HT2.out.frozen 1
    have f2 := HT2.out.frozen 2
    have f3 := HT2.out.frozen 3
    have f4 := HT2.out.frozen 4
    have f5 := HT2.out.frozen 5
    obtain ⟨y0, y1, y2, y3, y4, y5⟩ := blk6_cells HT2.out.rs
    have e0 := HT2.out.frozenR 0
    have e1 := HT2.out.frozenR 1
    have e2 := HT2.out.frozenR 2
    have e3 := HT2.out.frozenR 3
    have e4 := HT2.out.frozenR 4
    have e5 := HT2.out.frozenR 5
    clear HT2 HT3
    go_wp2_with fail
    exact bodyPost_ret (results_tb (x := .bool true) rfl _ _ w.heap.size rfl HE.out.rs rfl) rfl (LTSays.mk HSUB.out ⟨1, nm, [], 0, 0, []⟩ HN.out HE.out (HA.out.nil _))
  | false =>
    refine (sign_no b [46] l _ HT0.out.ln h0).mono ?_
    rintro e Wa ⟨rfl, r1, g1⟩
    have HT1 : Hid (LT b l w Wa (.int .i64 0) (.string ⟨#[]⟩) (.string ⟨#[]⟩) (.int .i64 0) (.int .i64 0) (.slice none 0 0)) := HT0.out.step hbw g1 r1
    clear r1 g1 HT0
    go_wp2_with fail
    cases h1 : (fBegin 2).isPrefixOf l with
    | true =>
      refine (sign_yes b [35] l _ HT1.out.ln h1).mono ?_
      rintro e W1 ⟨rfl, r1, g1⟩
      have HT1' : Hid (LT b (Pl.sg (fBegin 2) l) w W1 (.int .i64 0) (.string ⟨#[]⟩) (.string ⟨#[]⟩) (.int .i64 0) (.int .i64 0) (.slice none 0 0)) := HT1.out.step hbw g1 r1
      have hl1 : (Pl.sg (fBegin 2) l).length ≤ maxLen := Nat.le_trans (Pl.sg_len _ _) hl
      have HN : Hid (Pl.lnTest g l = some (⟨2, (Pl.sg (fBegin 2) l).takeWhile Pl.isNB, [], 0, 0, []⟩, (Pl.sg (fBegin 2) l).dropWhile Pl.isNB)) := by
        unfold Hid Pl.lnTest
        simp only [h0, h1, if_true, Bool.false_eq_true, if_false]
      have HC : Hid (Calls Tryz.prog 69 _ _ _) := lnName_any b (Pl.sg (fBegin 2) l) W1 HT1'.out.ln hl1
      clear r1 g1 HT1 h0 h1 hl1
      generalize (Pl.sg (fBegin 2) l).takeWhile Pl.isNB = nm at *
      generalize (Pl.sg (fBegin 2) l).dropWhile Pl.isNB = rs at *
      go_wp2_with fail
      refine HC.out.mono ?_
      rintro e W2 ⟨rfl, r2, g2⟩
      have HT2 : Hid (LT b rs w W2 _ _ _ _ _ _) := HT1'.out.step hbw g2 r2
      clear r2 g2 HC HT1'
      have HT3 : Hid (LT b rs w _ _ _ _ _ _ _) := HT2.out.all hbw (.int .i64 2) (.string ⟨nm.toArray⟩) (.string ⟨#[]⟩) (.int .i64 0) (.int .i64 0) (.slice none 0 0)
      have HE : Hid (LE b rs w _ _ _ _ _ _ _ _) := HT3.out.fin hbw (.int .i64 2) (.string ⟨nm.toArray⟩) (.string ⟨#[]⟩) (.int .i64 0) (.int .i64 0) (.slice none 0 0)
      obtain ⟨c0, c1, c2, c3, c4, c5⟩ := blk6_cells HT2.out.bx
      have f0 := HT2.out.frozen 0
      have f1 := HT2.out.frozen 1
      have f2 := HT2.out.frozen 2
      have f3 := HT2.out.frozen 3
      have f4 := HT2.out.frozen 4
      have f5 := HT2.out.frozen 5
      obtain ⟨y0, y1, y2, y3, y4, y5⟩ := blk6_cells HT2.out.rs
      have e0 := HT2.out.frozenR 0
      have e1 := HT2.out.frozenR 1
      have e2 := HT2.out.frozenR 2
      have e3 := HT2.out.frozenR 3
      have e4 := HT2.out.frozenR 4
      have e5 := HT2.out.frozenR 5
      clear HT2 HT3
      go_wp2_with fail
      exact bodyPost_ret (results_tb (x := .bool true) rfl _ _ w.heap.size rfl HE.out.rs rfl) rfl (LTSays.mk HSUB.out ⟨2, nm, [], 0, 0, []⟩ HN.out HE.out (HA.out.nil _))
    | false =>
      refine (sign_no b [35] l _ HT1.out.ln h1).mono ?_
      rintro e Wb ⟨rfl, r1, g1⟩
      have HT2 : Hid (LT b l w Wb (.int .i64 0) (.string ⟨#[]⟩) (.string ⟨#[]⟩) (.int .i64 0) (.int .i64 0) (.slice none 0 0)) := HT1.out.step hbw g1 r1
      clear r1 g1 HT1
      go_wp2_with fail
      cases h2 : ([91]).isPrefixOf l with
      | true =>
        refine (sign_yes b [91] l _ HT2.out.ln h2).mono ?_
        rintro e W1 ⟨rfl, r1, g1⟩
        have HT1' : Hid (LT b (Pl.sg ([91]) l) w W1 (.int .i64 0) (.string ⟨#[]⟩) (.string ⟨#[]⟩) (.int .i64 0) (.int .i64 0) (.slice none 0 0)) := HT2.out.step hbw g1 r1
        have hl1 : (Pl.sg ([91]) l).length ≤ maxLen := Nat.le_trans (Pl.sg_len _ _) hl
        have HN : Hid (Pl.lnTest g l = some (⟨(Pl.atTo ((Pl.sg [91] l).dropWhile Pl.isNB) 5).1, (Pl.sg [91] l).takeWhile Pl.isNB, (Pl.atTo ((Pl.sg [91] l).dropWhile Pl.isNB) 5).2.1, 0, 0, []⟩, Pl.sg [93] (Pl.atTo ((Pl.sg [91] l).dropWhile Pl.isNB) 5).2.2)) := by
          unfold Hid Pl.lnTest
          simp only [h0, h1, h2, if_true, Bool.false_eq_true, if_false]
          rfl
        have HC : Hid (Calls Tryz.prog 85 _ _ _) := lnAttr_any b (Pl.sg [91] l) W1 HT1'.out.ln hl1
        clear r1 g1 HT2 h0 h1 h2 hl1
        generalize (Pl.sg [91] l).takeWhile Pl.isNB = nm at *
        generalize Pl.sg [93] (Pl.atTo ((Pl.sg [91] l).dropWhile Pl.isNB) 5).2.2 = rs at *
        generalize (Pl.atTo ((Pl.sg [91] l).dropWhile Pl.isNB) 5).2.1 = vl at *
        generalize (Pl.atTo ((Pl.sg [91] l).dropWhile Pl.isNB) 5).1 = kd at *
        go_wp2_with fail
        refine HC.out.mono ?_
        rintro e W2 ⟨rfl, r2, g2⟩
        have HT2 : Hid (LT b rs w W2 _ _ _ _ _ _) := HT1'.out.step hbw g2 r2
        clear r2 g2 HC HT1'
        have HT3 : Hid (LT b rs w _ _ _ _ _ _ _) := HT2.out.all hbw (.int .i64 kd) (.string ⟨nm.toArray⟩) (.string ⟨vl.toArray⟩) (.int .i64 0) (.int .i64 0) (.slice none 0 0)
        have HE : Hid (LE b rs w _ _ _ _ _ _ _ _) := HT3.out.fin hbw (.int .i64 kd) (.string ⟨nm.toArray⟩) (.string ⟨vl.toArray⟩) (.int .i64 0) (.int .i64 0) (.slice none 0 0)
        obtain ⟨c0, c1, c2, c3, c4, c5⟩ := blk6_cells HT2.out.bx
        have f0 := HT2.out.frozen 0
        have f1 := HT2.out.frozen 1
        have f2 := HT2.out.frozen 2
        have f3 := HT2.out.frozen 3
        have f4 := HT2.out.frozen 4
        have f5 := HT2.out.frozen 5
        obtain ⟨y0, y1, y2, y3, y4, y5⟩ := blk6_cells HT2.out.rs
        have e0 := HT2.out.frozenR 0
        have e1 := HT2.out.frozenR 1
        have e2 := HT2.out.frozenR 2
        have e3 := HT2.out.frozenR 3
        have e4 := HT2.out.frozenR 4
        have e5 := HT2.out.frozenR 5
        clear HT2 HT3
        go_wp2_with fail
        exact bodyPost_ret (results_tb (x := .bool true) rfl _ _ w.heap.size rfl HE.out.rs rfl) rfl (LTSays.mk HSUB.out ⟨kd, nm, vl, 0, 0, []⟩ HN.out HE.out (HA.out.nil _))
      | false =>
        refine (sign_no b [91] l _ HT2.out.ln h2).mono ?_
        rintro e Wc ⟨rfl, r1, g1⟩
        have HT3 : Hid (LT b l w Wc (.int .i64 0) (.string ⟨#[]⟩) (.string ⟨#[]⟩) (.int .i64 0) (.int .i64 0) (.slice none 0 0)) := HT2.out.step hbw g1 r1
        clear r1 g1 HT2
        go_wp2_with fail
        cases h3 : (fBegin 9).isPrefixOf l with
        | true =>
          refine (sign_yes b [58, 110, 116, 104, 40] l _ HT3.out.ln h3).mono ?_
          rintro e W1 ⟨rfl, r1, g1⟩
          have HT1' : Hid (LT b (Pl.sg (fBegin 9) l) w W1 (.int .i64 0) (.string ⟨#[]⟩) (.string ⟨#[]⟩) (.int .i64 0) (.int .i64 0) (.slice none 0 0)) := HT3.out.step hbw g1 r1
          have hl1 : (Pl.sg (fBegin 9) l).length ≤ maxLen := Nat.le_trans (Pl.sg_len _ _) hl
          have HN : Hid (Pl.lnTest g l = some (⟨9, [], [], (Pl.lnNth (Pl.sg (fBegin 9) l)).1.1, (Pl.lnNth (Pl.sg (fBegin 9) l)).1.2, []⟩, Pl.sg [41] (Pl.lnNth (Pl.sg (fBegin 9) l)).2)) := by
            unfold Hid Pl.lnTest
            simp only [h0, h1, h2, h3, if_true, Bool.false_eq_true, if_false]
          have HC : Hid (Calls Tryz.prog 86 _ _ _) := lnNth_any b (Pl.sg (fBegin 9) l) W1 HT1'.out.ln hl1
          clear r1 g1 HT3 h0 h1 h2 h3 hl1
          generalize (Pl.lnNth (Pl.sg (fBegin 9) l)).2 = rq at *
          generalize (Pl.lnNth (Pl.sg (fBegin 9) l)).1.1 = x0 at *
          generalize (Pl.lnNth (Pl.sg (fBegin 9) l)).1.2 = x1 at *
          go_wp2_with fail
          refine HC.out.mono ?_
          rintro e W2 ⟨rfl, r2, g2⟩
          have HT2 : Hid (LT b rq w W2 _ _ _ _ _ _) := HT1'.out.step hbw g2 r2
          clear r2 g2 HC HT1'
          have HT3 : Hid (LT b rq w _ _ _ _ _ _ _) := HT2.out.all hbw (.int .i64 9) (.string ⟨#[]⟩) (.string ⟨#[]⟩) (.int .i64 x0) (.int .i64 x1) (.slice none 0 0)
          obtain ⟨c0, c1, c2, c3, c4, c5⟩ := blk6_cells HT2.out.bx
          have f0 := HT2.out.frozen 0
          have f1 := HT2.out.frozen 1
          have f2 := HT2.out.frozen 2
          have f3 := HT2.out.frozen 3
          have f4 := HT2.out.frozen 4
          have f5 := HT2.out.frozen 5
          clear HT2
          go_wp2_with fail
          refine (sign_any b rq [41] _ HT3.out.ln).mono ?_
          rintro e W4 ⟨rfl, r4, g4⟩
          have HT4 : Hid (LT b (Pl.sg [41] rq) w W4 _ _ _ _ _ _) := HT3.out.step hbw g4 r4
          clear r4 g4 HT3 c0 c1 c2 c3 c4 c5 f0 f1 f2 f3 f4 f5
          generalize Pl.sg [41] rq = rs at *
          have HE : Hid (LE b rs w _ _ _ _ _ _ _ _) := HT4.out.fin hbw (.int .i64 9) (.string ⟨#[]⟩) (.string ⟨#[]⟩) (.int .i64 x0) (.int .i64 x1) (.slice none 0 0)
          obtain ⟨c0, c1, c2, c3, c4, c5⟩ := blk6_cells HT4.out.bx
          obtain ⟨y0, y1, y2, y3, y4, y5⟩ := blk6_cells HT4.out.rs
          have e0 := HT4.out.frozenR 0
          have e1 := HT4.out.frozenR 1
          have e2 := HT4.out.frozenR 2
          have e3 := HT4.out.frozenR 3
          have e4 := HT4.out.frozenR 4
          have e5 := HT4.out.frozenR 5
          clear HT4
          go_wp2_with fail
          exact bodyPost_ret (results_tb (x := .bool true) rfl _ _ w.heap.size rfl HE.out.rs rfl) rfl (LTSays.mk HSUB.out ⟨9, [], [], x0, x1, []⟩ HN.out HE.out (HA.out.nil _))
        | false =>
          refine (sign_no b [58, 110, 116, 104, 40] l _ HT3.out.ln h3).mono ?_
          rintro e Wd ⟨rfl, r1, g1⟩
          have HT4 : Hid (LT b l w Wd (.int .i64 0) (.string ⟨#[]⟩) (.string ⟨#[]⟩) (.int .i64 0) (.int .i64 0) (.slice none 0 0)) := HT3.out.step hbw g1 r1
          clear r1 g1 HT3
          go_wp2_with fail
          cases h4 : (fBegin 10).isPrefixOf l with
          | true =>
            refine (sign_yes b [58, 108, 97, 115, 116, 40] l _ HT4.out.ln h4).mono ?_
            rintro e W1 ⟨rfl, r1, g1⟩
            have HT1' : Hid (LT b (Pl.sg (fBegin 10) l) w W1 (.int .i64 0) (.string ⟨#[]⟩) (.string ⟨#[]⟩) (.int .i64 0) (.int .i64 0) (.slice none 0 0)) := HT4.out.step hbw g1 r1
            have hl1 : (Pl.sg (fBegin 10) l).length ≤ maxLen := Nat.le_trans (Pl.sg_len _ _) hl
            have HN : Hid (Pl.lnTest g l = some (⟨10, [], [], (Pl.lnNth (Pl.sg (fBegin 10) l)).1.1, (Pl.lnNth (Pl.sg (fBegin 10) l)).1.2, []⟩, Pl.sg [41] (Pl.lnNth (Pl.sg (fBegin 10) l)).2)) := by
              unfold Hid Pl.lnTest
              simp only [h0, h1, h2, h3, h4, if_true, Bool.false_eq_true, if_false]
            have HC : Hid (Calls Tryz.prog 86 _ _ _) := lnNth_any b (Pl.sg (fBegin 10) l) W1 HT1'.out.ln hl1
            clear r1 g1 HT4 h0 h1 h2 h3 h4 hl1
            generalize (Pl.lnNth (Pl.sg (fBegin 10) l)).2 = rq at *
            generalize (Pl.lnNth (Pl.sg (fBegin 10) l)).1.1 = x0 at *
            generalize (Pl.lnNth (Pl.sg (fBegin 10) l)).1.2 = x1 at *
            go_wp2_with fail
            refine HC.out.mono ?_
            rintro e W2 ⟨rfl, r2, g2⟩
            have HT2 : Hid (LT b rq w W2 _ _ _ _ _ _) := HT1'.out.step hbw g2 r2
            clear r2 g2 HC HT1'
            have HT3 : Hid (LT b rq w _ _ _ _ _ _ _) := HT2.out.all hbw (.int .i64 10) (.string ⟨#[]⟩) (.string ⟨#[]⟩) (.int .i64 x0) (.int .i64 x1) (.slice none 0 0)
            obtain ⟨c0, c1, c2, c3, c4, c5⟩ := blk6_cells HT2.out.bx
            have f0 := HT2.out.frozen 0
            have f1 := HT2.out.frozen 1
            have f2 := HT2.out.frozen 2
            have f3 := HT2.out.frozen 3
            have f4 := HT2.out.frozen 4
            have f5 := HT2.out.frozen 5
            clear HT2
            go_wp2_with fail
            refine (sign_any b rq [41] _ HT3.out.ln).mono ?_
            rintro e W4 ⟨rfl, r4, g4⟩
            have HT4 : Hid (LT b (Pl.sg [41] rq) w W4 _ _ _ _ _ _) := HT3.out.step hbw g4 r4
            clear r4 g4 HT3 c0 c1 c2 c3 c4 c5 f0 f1 f2 f3 f4 f5
            generalize Pl.sg [41] rq = rs at *
            have HE : Hid (LE b rs w _ _ _ _ _ _ _ _) := HT4.out.fin hbw (.int .i64 10) (.string ⟨#[]⟩) (.string ⟨#[]⟩) (.int .i64 x0) (.int .i64 x1) (.slice none 0 0)
            obtain ⟨c0, c1, c2, c3, c4, c5⟩ := blk6_cells HT4.out.bx
            obtain ⟨y0, y1, y2, y3, y4, y5⟩ := blk6_cells HT4.out.rs
            have e0 := HT4.out.frozenR 0
            have e1 := HT4.out.frozenR 1
            have e2 := HT4.out.frozenR 2
            have e3 := HT4.out.frozenR 3
            have e4 := HT4.out.frozenR 4
            have e5 := HT4.out.frozenR 5
            clear HT4
            go_wp2_with fail
            exact bodyPost_ret (results_tb (x := .bool true) rfl _ _ w.heap.size rfl HE.out.rs rfl) rfl (LTSays.mk HSUB.out ⟨10, [], [], x0, x1, []⟩ HN.out HE.out (HA.out.nil _))
          | false =>
            refine (sign_no b [58, 108, 97, 115, 116, 40] l _ HT4.out.ln h4).mono ?_
            rintro e We ⟨rfl, r1, g1⟩
            have HT5 : Hid (LT b l w We (.int .i64 0) (.string ⟨#[]⟩) (.string ⟨#[]⟩) (.int .i64 0) (.int .i64 0) (.slice none 0 0)) := HT4.out.step hbw g1 r1
            clear r1 g1 HT4
            go_wp2_with fail
            cases h5 : (fBegin 11).isPrefixOf l with
            | true =>
              refine (sign_yes b [58, 101, 109, 112, 116, 121] l _ HT5.out.ln h5).mono ?_
              rintro e W1 ⟨rfl, r1, g1⟩
              have HT1' : Hid (LT b (Pl.sg (fBegin 11) l) w W1 (.int .i64 0) (.string ⟨#[]⟩) (.string ⟨#[]⟩) (.int .i64 0) (.int .i64 0) (.slice none 0 0)) := HT5.out.step hbw g1 r1
              have hl1 : (Pl.sg (fBegin 11) l).length ≤ maxLen := Nat.le_trans (Pl.sg_len _ _) hl
              have HN : Hid (Pl.lnTest g l = some (⟨11, [], [], 0, 0, []⟩, Pl.sg (fBegin 11) l)) := by
                unfold Hid Pl.lnTest
                simp only [h0, h1, h2, h3, h4, h5, if_true, Bool.false_eq_true, if_false]
              clear r1 g1 HT5 h0 h1 h2 h3 h4 h5 hl1
              generalize Pl.sg (fBegin 11) l = rs at *
              have HT3 : Hid (LT b rs w (W1.setCell ⟨w.heap.size + 1, 0, none⟩ (.int .i64 11)) (.int .i64 11) (.string ⟨#[]⟩) (.string ⟨#[]⟩) (.int .i64 0) (.int .i64 0) (.slice none 0 0)) := HT1'.out.put hbw 0 _ (set6_0 HT1'.out.bx _)
              have HE : Hid (LE b rs w _ _ _ _ _ _ _ _) := HT3.out.fin hbw (.int .i64 11) (.string ⟨#[]⟩) (.string ⟨#[]⟩) (.int .i64 0) (.int .i64 0) (.slice none 0 0)
              obtain ⟨c0, c1, c2, c3, c4, c5⟩ := blk6_cells HT1'.out.bx
              have f0 := HT1'.out.frozen 0
              obtain ⟨y0, y1, y2, y3, y4, y5⟩ := blk6_cells HT1'.out.rs
              have e0 := HT1'.out.frozenR 0
              have e1 := HT1'.out.frozenR 1
              have e2 := HT1'.out.frozenR 2
              have e3 := HT1'.out.frozenR 3
              have e4 := HT1'.out.frozenR 4
              have e5 := HT1'.out.frozenR 5
              clear HT1' HT3
              go_wp2_with fail
              exact bodyPost_ret (results_tb (x := .bool true) rfl _ _ w.heap.size rfl HE.out.rs rfl) rfl (LTSays.mk HSUB.out ⟨11, [], [], 0, 0, []⟩ HN.out HE.out (HA.out.nil _))
            | false =>
              refine (sign_no b [58, 101, 109, 112, 116, 121] l _ HT5.out.ln h5).mono ?_
              rintro e Wf ⟨rfl, r1, g1⟩
              have HT6 : Hid (LT b l w Wf (.int .i64 0) (.string ⟨#[]⟩) (.string ⟨#[]⟩) (.int .i64 0) (.int .i64 0) (.slice none 0 0)) := HT5.out.step hbw g1 r1
              clear r1 g1 HT5
              go_wp2_with fail
              cases h6 : (fBegin 12).isPrefixOf l with
              | true =>
                refine (sign_yes b [58, 114, 111, 111, 116] l _ HT6.out.ln h6).mono ?_
                rintro e W1 ⟨rfl, r1, g1⟩
                have HT1' : Hid (LT b (Pl.sg (fBegin 12) l) w W1 (.int .i64 0) (.string ⟨#[]⟩) (.string ⟨#[]⟩) (.int .i64 0) (.int .i64 0) (.slice none 0 0)) := HT6.out.step hbw g1 r1
                have hl1 : (Pl.sg (fBegin 12) l).length ≤ maxLen := Nat.le_trans (Pl.sg_len _ _) hl
                have HN : Hid (Pl.lnTest g l = some (⟨12, [], [], 0, 0, []⟩, Pl.sg (fBegin 12) l)) := by
                  unfold Hid Pl.lnTest
                  simp only [h0, h1, h2, h3, h4, h5, h6, if_true, Bool.false_eq_true, if_false]
                clear r1 g1 HT6 h0 h1 h2 h3 h4 h5 h6 hl1
                generalize Pl.sg (fBegin 12) l = rs at *
                have HT3 : Hid (LT b rs w (W1.setCell ⟨w.heap.size + 1, 0, none⟩ (.int .i64 12)) (.int .i64 12) (.string ⟨#[]⟩) (.string ⟨#[]⟩) (.int .i64 0) (.int .i64 0) (.slice none 0 0)) := HT1'.out.put hbw 0 _ (set6_0 HT1'.out.bx _)
                have HE : Hid (LE b rs w _ _ _ _ _ _ _ _) := HT3.out.fin hbw (.int .i64 12) (.string ⟨#[]⟩) (.string ⟨#[]⟩) (.int .i64 0) (.int .i64 0) (.slice none 0 0)
                obtain ⟨c0, c1, c2, c3, c4, c5⟩ := blk6_cells HT1'.out.bx
                have f0 := HT1'.out.frozen 0
                obtain ⟨y0, y1, y2, y3, y4, y5⟩ := blk6_cells HT1'.out.rs
                have e0 := HT1'.out.frozenR 0
                have e1 := HT1'.out.frozenR 1
                have e2 := HT1'.out.frozenR 2
                have e3 := HT1'.out.frozenR 3
                have e4 := HT1'.out.frozenR 4
                have e5 := HT1'.out.frozenR 5
                clear HT1' HT3
                go_wp2_with fail
                exact bodyPost_ret (results_tb (x := .bool true) rfl _ _ w.heap.size rfl HE.out.rs rfl) rfl (LTSays.mk HSUB.out ⟨12, [], [], 0, 0, []⟩ HN.out HE.out (HA.out.nil _))
              | false =>
                refine (sign_no b [58, 114, 111, 111, 116] l _ HT6.out.ln h6).mono ?_
                rintro e Wg ⟨rfl, r1, g1⟩
                have HT7 : Hid (LT b l w Wg (.int .i64 0) (.string ⟨#[]⟩) (.string ⟨#[]⟩) (.int .i64 0) (.int .i64 0) (.slice none 0 0)) := HT6.out.step hbw g1 r1
                clear r1 g1 HT6
                go_wp2_with fail
                cases h7 : (fBegin 13).isPrefixOf l with
                | true =>
                  refine (sign_yes b [58, 110, 111, 116, 40] l _ HT7.out.ln h7).mono ?_
                  rintro e W1 ⟨rfl, r1, g1⟩
                  have HT1' : Hid (LT b (Pl.sg (fBegin 13) l) w W1 (.int .i64 0) (.string ⟨#[]⟩) (.string ⟨#[]⟩) (.int .i64 0) (.int .i64 0) (.slice none 0 0)) := HT7.out.step hbw g1 r1
                  have hl1 : (Pl.sg (fBegin 13) l).length ≤ maxLen := Nat.le_trans (Pl.sg_len _ _) hl
                  have HC : Hid (Calls Tryz.prog 26 _ _ _) := HR.out b (Pl.sg (fBegin 13) l) W1 HT1'.out.ln hl1
                  have HNP : Hid (Pl.lnTest g l = some (⟨13, [], [], 0, 0, (g (Pl.sg (fBegin 13) l)).1⟩, Pl.sg [41] (g (Pl.sg (fBegin 13) l)).2)) := by
                    unfold Hid Pl.lnTest
                    simp only [h0, h1, h2, h3, h4, h5, h6, h7, if_true, Bool.false_eq_true, if_false]
                  clear r1 g1 HT7 h0 h1 h2 h3 h4 h5 h6 h7 hl1
                  go_wp2_with fail
                  refine HC.out.mono ?_
                  rintro e W2 ⟨xs, rq, au, cu, hg2, rfl, ha2, r2, g2⟩
                  have HN : Hid (Pl.lnTest g l = some (⟨13, [], [], 0, 0, xs⟩, Pl.sg [41] rq)) := by
                    unfold Hid
                    rw [HNP.out, hg2]
                  have hs1 : w.heap.size + 2 ≤ W1.heap.size := (Array.getElem?_eq_some_iff.1 HT1'.out.bx).1
                  have HAA : Hid (A (mask (frm (w.heap.size + 2)) W2) (.slice au xs.length cu) xs) := HSUB.out.sub ha2 (incl_mask fun j o x hj hx => by
                    simp only [frm, decide_eq_true_eq] at hj ⊢
                    exact ⟨by omega, hx⟩)
                  have HT2 : Hid (LT b rq w W2 _ _ _ _ _ _) := HT1'.out.step hbw g2 r2
                  clear HNP hg2 ha2 hs1
                  clear r2 g2 HC HT1'
                  have HT3 : Hid (LT b rq w _ _ _ _ _ _ _) := HT2.out.all hbw (.int .i64 13) (.string ⟨#[]⟩) (.string ⟨#[]⟩) (.int .i64 0) (.int .i64 0) (.slice au xs.length cu)
                  have HAB : Hid (A (mask (frm (w.heap.size + 2)) (put6 W2 (w.heap.size + 1) (.int .i64 13) (.string ⟨#[]⟩) (.string ⟨#[]⟩) (.int .i64 0) (.int .i64 0) (.slice au xs.length cu))) (.slice au xs.length cu) xs) := HSUB.out.sub HAA.out (incl_mask fun j o x hj hx => by
                    simp only [frm, decide_eq_true_eq] at hj ⊢
                    exact ⟨by omega, put6_cell _ _ _ _ _ _ hx (by omega)⟩)
                  obtain ⟨c0, c1, c2, c3, c4, c5⟩ := blk6_cells HT2.out.bx
                  have f0 := HT2.out.frozen 0
                  have f1 := HT2.out.frozen 1
                  have f2 := HT2.out.frozen 2
                  have f3 := HT2.out.frozen 3
                  have f4 := HT2.out.frozen 4
                  have f5 := HT2.out.frozen 5
                  clear HT2 HAA
                  go_wp2_with fail
                  refine (sign_any b rq [41] _ HT3.out.ln).mono ?_
                  rintro e W4 ⟨rfl, r4, g4⟩
                  have HT4 : Hid (LT b (Pl.sg [41] rq) w W4 _ _ _ _ _ _) := HT3.out.step hbw g4 r4
                  have HAC : Hid (A (mask (frm (w.heap.size + 2)) W4) (.slice au xs.length cu) xs) := HSUB.out.sub HAB.out (incl_mask fun j o x hj hx => by
                    refine ⟨hj, cell_gb g4 hx ?_⟩
                    simp only [frm, decide_eq_true_eq] at hj
                    omega)
                  clear HAB
                  clear r4 g4 HT3 c0 c1 c2 c3 c4 c5 f0 f1 f2 f3 f4 f5
                  generalize Pl.sg [41] rq = rs at *
                  have HE : Hid (LE b rs w _ _ _ _ _ _ _ _) := HT4.out.fin hbw (.int .i64 13) (.string ⟨#[]⟩) (.string ⟨#[]⟩) (.int .i64 0) (.int .i64 0) (.slice au xs.length cu)
                  obtain ⟨c0, c1, c2, c3, c4, c5⟩ := blk6_cells HT4.out.bx
                  obtain ⟨y0, y1, y2, y3, y4, y5⟩ := blk6_cells HT4.out.rs
                  have e0 := HT4.out.frozenR 0
                  have e1 := HT4.out.frozenR 1
                  have e2 := HT4.out.frozenR 2
                  have e3 := HT4.out.frozenR 3
                  have e4 := HT4.out.frozenR 4
                  have e5 := HT4.out.frozenR 5
                  clear HT4
                  go_wp2_with fail
                  exact bodyPost_ret (results_tb (x := .bool true) rfl _ _ w.heap.size rfl HE.out.rs rfl) rfl (LTSays.mk HSUB.out ⟨13, [], [], 0, 0, xs⟩ HN.out HE.out HAC.out)
                | false =>
                  refine (sign_no b [58, 110, 111, 116, 40] l _ HT7.out.ln h7).mono ?_
                  rintro e Wh ⟨rfl, r1, g1⟩
                  have HT8 : Hid (LT b l w Wh (.int .i64 0) (.string ⟨#[]⟩) (.string ⟨#[]⟩) (.int .i64 0) (.int .i64 0) (.slice none 0 0)) := HT7.out.step hbw g1 r1
                  clear r1 g1 HT7
                  go_wp2_with fail
                  cases h8 : (fBegin 14).isPrefixOf l with
                  | true =>
                    refine (sign_yes b [58, 105, 115, 40] l _ HT8.out.ln h8).mono ?_
                    rintro e W1 ⟨rfl, r1, g1⟩
                    have HT1' : Hid (LT b (Pl.sg (fBegin 14) l) w W1 (.int .i64 0) (.string ⟨#[]⟩) (.string ⟨#[]⟩) (.int .i64 0) (.int .i64 0) (.slice none 0 0)) := HT8.out.step hbw g1 r1
                    have hl1 : (Pl.sg (fBegin 14) l).length ≤ maxLen := Nat.le_trans (Pl.sg_len _ _) hl
                    have HC : Hid (Calls Tryz.prog 26 _ _ _) := HR.out b (Pl.sg (fBegin 14) l) W1 HT1'.out.ln hl1
                    have HNP : Hid (Pl.lnTest g l = some (⟨14, [], [], 0, 0, (g (Pl.sg (fBegin 14) l)).1⟩, Pl.sg [41] (g (Pl.sg (fBegin 14) l)).2)) := by
                      unfold Hid Pl.lnTest
                      simp only [h0, h1, h2, h3, h4, h5, h6, h7, h8, if_true, Bool.false_eq_true, if_false]
                    clear r1 g1 HT8 h0 h1 h2 h3 h4 h5 h6 h7 h8 hl1
                    go_wp2_with fail
                    refine HC.out.mono ?_
                    rintro e W2 ⟨xs, rq, au, cu, hg2, rfl, ha2, r2, g2⟩
                    have HN : Hid (Pl.lnTest g l = some (⟨14, [], [], 0, 0, xs⟩, Pl.sg [41] rq)) := by
                      unfold Hid
                      rw [HNP.out, hg2]
                    have hs1 : w.heap.size + 2 ≤ W1.heap.size := (Array.getElem?_eq_some_iff.1 HT1'.out.bx).1
                    have HAA : Hid (A (mask (frm (w.heap.size + 2)) W2) (.slice au xs.length cu) xs) := HSUB.out.sub ha2 (incl_mask fun j o x hj hx => by
                      simp only [frm, decide_eq_true_eq] at hj ⊢
                      exact ⟨by omega, hx⟩)
                    have HT2 : Hid (LT b rq w W2 _ _ _ _ _ _) := HT1'.out.step hbw g2 r2
                    clear HNP hg2 ha2 hs1
                    clear r2 g2 HC HT1'
                    have HT3 : Hid (LT b rq w _ _ _ _ _ _ _) := HT2.out.all hbw (.int .i64 14) (.string ⟨#[]⟩) (.string ⟨#[]⟩) (.int .i64 0) (.int .i64 0) (.slice au xs.length cu)
                    have HAB : Hid (A (mask (frm (w.heap.size + 2)) (put6 W2 (w.heap.size + 1) (.int .i64 14) (.string ⟨#[]⟩) (.string ⟨#[]⟩) (.int .i64 0) (.int .i64 0) (.slice au xs.length cu))) (.slice au xs.length cu) xs) := HSUB.out.sub HAA.out (incl_mask fun j o x hj hx => by
                      simp only [frm, decide_eq_true_eq] at hj ⊢
                      exact ⟨by omega, put6_cell _ _ _ _ _ _ hx (by omega)⟩)
                    obtain ⟨c0, c1, c2, c3, c4, c5⟩ := blk6_cells HT2.out.bx
                    have f0 := HT2.out.frozen 0
                    have f1 := HT2.out.frozen 1
                    have f2 := HT2.out.frozen 2
                    have f3 := HT2.out.frozen 3
                    have f4 := HT2.out.frozen 4
                    have f5 := HT2.out.frozen 5
                    clear HT2 HAA
                    go_wp2_with fail
                    refine (sign_any b rq [41] _ HT3.out.ln).mono ?_
                    rintro e W4 ⟨rfl, r4, g4⟩
                    have HT4 : Hid (LT b (Pl.sg [41] rq) w W4 _ _ _ _ _ _) := HT3.out.step hbw g4 r4
                    have HAC : Hid (A (mask (frm (w.heap.size + 2)) W4) (.slice au xs.length cu) xs) := HSUB.out.sub HAB.out (incl_mask fun j o x hj hx => by
                      refine ⟨hj, cell_gb g4 hx ?_⟩
                      simp only [frm, decide_eq_true_eq] at hj
                      omega)
                    clear HAB
                    clear r4 g4 HT3 c0 c1 c2 c3 c4 c5 f0 f1 f2 f3 f4 f5
                    generalize Pl.sg [41] rq = rs at *
                    have HE : Hid (LE b rs w _ _ _ _ _ _ _ _) := HT4.out.fin hbw (.int .i64 14) (.string ⟨#[]⟩) (.string ⟨#[]⟩) (.int .i64 0) (.int .i64 0) (.slice au xs.length cu)
                    obtain ⟨c0, c1, c2, c3, c4, c5⟩ := blk6_cells HT4.out.bx
                    obtain ⟨y0, y1, y2, y3, y4, y5⟩ := blk6_cells HT4.out.rs
                    have e0 := HT4.out.frozenR 0
                    have e1 := HT4.out.frozenR 1
                    have e2 := HT4.out.frozenR 2
                    have e3 := HT4.out.frozenR 3
                    have e4 := HT4.out.frozenR 4
                    have e5 := HT4.out.frozenR 5
                    clear HT4
                    go_wp2_with fail
                    exact bodyPost_ret (results_tb (x := .bool true) rfl _ _ w.heap.size rfl HE.out.rs rfl) rfl (LTSays.mk HSUB.out ⟨14, [], [], 0, 0, xs⟩ HN.out HE.out HAC.out)
                  | false =>
                    refine (sign_no b [58, 105, 115, 40] l _ HT8.out.ln h8).mono ?_
                    rintro e Wi ⟨rfl, r1, g1⟩
                    have HT9 : Hid (LT b l w Wi (.int .i64 0) (.string ⟨#[]⟩) (.string ⟨#[]⟩) (.int .i64 0) (.int .i64 0) (.slice none 0 0)) := HT8.out.step hbw g1 r1
                    clear r1 g1 HT8
                    go_wp2_with fail
                    cases h9 : (fBegin 15).isPrefixOf l with
                    | true =>
                      refine (sign_yes b [58, 104, 97, 115, 40] l _ HT9.out.ln h9).mono ?_
                      rintro e W1 ⟨rfl, r1, g1⟩
                      have HT1' : Hid (LT b (Pl.sg (fBegin 15) l) w W1 (.int .i64 0) (.string ⟨#[]⟩) (.string ⟨#[]⟩) (.int .i64 0) (.int .i64 0) (.slice none 0 0)) := HT9.out.step hbw g1 r1
                      have hl1 : (Pl.sg (fBegin 15) l).length ≤ maxLen := Nat.le_trans (Pl.sg_len _ _) hl
                      have HC : Hid (Calls Tryz.prog 26 _ _ _) := HR.out b (Pl.sg (fBegin 15) l) W1 HT1'.out.ln hl1
                      have HNP : Hid (Pl.lnTest g l = some (⟨15, [], [], 0, 0, (g (Pl.sg (fBegin 15) l)).1⟩, Pl.sg [41] (g (Pl.sg (fBegin 15) l)).2)) := by
                        unfold Hid Pl.lnTest
                        simp only [h0, h1, h2, h3, h4, h5, h6, h7, h8, h9, if_true, Bool.false_eq_true, if_false]
                      clear r1 g1 HT9 h0 h1 h2 h3 h4 h5 h6 h7 h8 h9 hl1
                      go_wp2_with fail
                      refine HC.out.mono ?_
                      rintro e W2 ⟨xs, rq, au, cu, hg2, rfl, ha2, r2, g2⟩
                      have HN : Hid (Pl.lnTest g l = some (⟨15, [], [], 0, 0, xs⟩, Pl.sg [41] rq)) := by
                        unfold Hid
                        rw [HNP.out, hg2]
                      have hs1 : w.heap.size + 2 ≤ W1.heap.size := (Array.getElem?_eq_some_iff.1 HT1'.out.bx).1
                      have HAA : Hid (A (mask (frm (w.heap.size + 2)) W2) (.slice au xs.length cu) xs) := HSUB.out.sub ha2 (incl_mask fun j o x hj hx => by
                        simp only [frm, decide_eq_true_eq] at hj ⊢
                        exact ⟨by omega, hx⟩)
                      have HT2 : Hid (LT b rq w W2 _ _ _ _ _ _) := HT1'.out.step hbw g2 r2
                      clear HNP hg2 ha2 hs1
                      clear r2 g2 HC HT1'
                      have HT3 : Hid (LT b rq w _ _ _ _ _ _ _) := HT2.out.all hbw (.int .i64 15) (.string ⟨#[]⟩) (.string ⟨#[]⟩) (.int .i64 0) (.int .i64 0) (.slice au xs.length cu)
                      have HAB : Hid (A (mask (frm (w.heap.size + 2)) (put6 W2 (w.heap.size + 1) (.int .i64 15) (.string ⟨#[]⟩) (.string ⟨#[]⟩) (.int .i64 0) (.int .i64 0) (.slice au xs.length cu))) (.slice au xs.length cu) xs) := HSUB.out.sub HAA.out (incl_mask fun j o x hj hx => by
                        simp only [frm, decide_eq_true_eq] at hj ⊢
                        exact ⟨by omega, put6_cell _ _ _ _ _ _ hx (by omega)⟩)
                      obtain ⟨c0, c1, c2, c3, c4, c5⟩ := blk6_cells HT2.out.bx
                      have f0 := HT2.out.frozen 0
                      have f1 := HT2.out.frozen 1
                      have f2 := HT2.out.frozen 2
                      have f3 := HT2.out.frozen 3
                      have f4 := HT2.out.frozen 4
                      have f5 := HT2.out.frozen 5
                      clear HT2 HAA
                      go_wp2_with fail
                      refine (sign_any b rq [41] _ HT3.out.ln).mono ?_
                      rintro e W4 ⟨rfl, r4, g4⟩
                      have HT4 : Hid (LT b (Pl.sg [41] rq) w W4 _ _ _ _ _ _) := HT3.out.step hbw g4 r4
                      have HAC : Hid (A (mask (frm (w.heap.size + 2)) W4) (.slice au xs.length cu) xs) := HSUB.out.sub HAB.out (incl_mask fun j o x hj hx => by
                        refine ⟨hj, cell_gb g4 hx ?_⟩
                        simp only [frm, decide_eq_true_eq] at hj
                        omega)
                      clear HAB
                      clear r4 g4 HT3 c0 c1 c2 c3 c4 c5 f0 f1 f2 f3 f4 f5
                      generalize Pl.sg [41] rq = rs at *
                      have HE : Hid (LE b rs w _ _ _ _ _ _ _ _) := HT4.out.fin hbw (.int .i64 15) (.string ⟨#[]⟩) (.string ⟨#[]⟩) (.int .i64 0) (.int .i64 0) (.slice au xs.length cu)
                      obtain ⟨c0, c1, c2, c3, c4, c5⟩ := blk6_cells HT4.out.bx
                      obtain ⟨y0, y1, y2, y3, y4, y5⟩ := blk6_cells HT4.out.rs
                      have e0 := HT4.out.frozenR 0
                      have e1 := HT4.out.frozenR 1
                      have e2 := HT4.out.frozenR 2
                      have e3 := HT4.out.frozenR 3
                      have e4 := HT4.out.frozenR 4
                      have e5 := HT4.out.frozenR 5
                      clear HT4
                      go_wp2_with fail
                      exact bodyPost_ret (results_tb (x := .bool true) rfl _ _ w.heap.size rfl HE.out.rs rfl) rfl (LTSays.mk HSUB.out ⟨15, [], [], 0, 0, xs⟩ HN.out HE.out HAC.out)
                    | false =>
                      refine (sign_no b [58, 104, 97, 115, 40] l _ HT9.out.ln h9).mono ?_
                      rintro e Wj ⟨rfl, r1, g1⟩
                      have HT10 : Hid (LT b l w Wj (.int .i64 0) (.string ⟨#[]⟩) (.string ⟨#[]⟩) (.int .i64 0) (.int .i64 0) (.slice none 0 0)) := HT9.out.step hbw g1 r1
                      clear r1 g1 HT9
                      have HN : Hid (Pl.lnTest g l = none) := by
                        unfold Hid Pl.lnTest
                        simp only [h0, h1, h2, h3, h4, h5, h6, h7, h8, h9, Bool.false_eq_true, if_false]
                      clear h0 h1 h2 h3 h4 h5 h6 h7 h8 h9
                      have HE : Hid (LE b l w _ _ _ _ _ _ _ _) := HT10.out.fin hbw (.int .i64 0) (.string ⟨#[]⟩) (.string ⟨#[]⟩) (.int .i64 0) (.int .i64 0) (.slice none 0 0)
                      obtain ⟨c0, c1, c2, c3, c4, c5⟩ := blk6_cells HT10.out.bx
                      obtain ⟨y0, y1, y2, y3, y4, y5⟩ := blk6_cells HT10.out.rs
                      have e0 := HT10.out.frozenR 0
                      have e1 := HT10.out.frozenR 1
                      have e2 := HT10.out.frozenR 2
                      have e3 := HT10.out.frozenR 3
                      have e4 := HT10.out.frozenR 4
                      have e5 := HT10.out.frozenR 5
                      clear HT10
                      go_wp2_with fail
                      exact bodyPost_ret (results_tb (x := .bool false) rfl _ _ w.heap.size rfl HE.out.rs rfl) rfl (Or.inl ⟨HN.out, rfl, HE.out.ln, HE.out.gb⟩)
end Go.Proofs.YtbfkopjpfkgjhaaGreatDoor
