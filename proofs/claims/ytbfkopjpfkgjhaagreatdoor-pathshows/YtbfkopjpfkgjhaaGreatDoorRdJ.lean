/-
  The strict reader of paths: a step is read.
-/
import Derived.Test.YtbfkopjpfkgjhaaGreatDoorRdH
namespace Go.Proofs.YtbfkopjpfkgjhaaGreatDoor
open Go.RowKit

def preT {β : Type} (ts : List β) (o : Option (List β × List UInt8)) : Option (List β × List UInt8) := o.map fun p => (ts ++ p.1, p.2)
section
variable {α : Type} {rl : List UInt8 → Option (List α × List UInt8)}
theorem rdTests_stop {n : Nat} {l : List UInt8} (h : Pl.rdBegin l = none) : Pl.rdTests rl n l = some ([], l) := by
  cases n with
  | zero => rfl
  | succ n => unfold Pl.rdTests; rw [h]
theorem rdTests_bad {n k : Nat} {l l1 : List UInt8} (h : Pl.rdBegin l = some (k, l1)) (h2 : Pl.rdTest rl k l1 = none) : Pl.rdTests rl (n + 1) l = none := by
  unfold Pl.rdTests; rw [h]; simp only; rw [h2]
theorem rdTests_go {n k : Nat} {l l1 r : List UInt8} {t : Pl.Tst α} (ts : List (Pl.Tst α)) (h : Pl.rdBegin l = some (k, l1)) (h2 : Pl.rdTest rl k l1 = some (t, r)) : preT ts (Pl.rdTests rl (n + 1) l) = preT (ts ++ [t]) (Pl.rdTests rl n r) := by
  conv => lhs; unfold Pl.rdTests
  rw [h]; simp only; rw [h2]; simp only
  cases Pl.rdTests rl n r with
  | none => rfl
  | some p => obtain ⟨a, b⟩ := p; simp [preT]
theorem shr_tests (hr : Shrinks rl) : ∀ n, Shrinks (Pl.rdTests rl n)
  | 0 => fun l x r h => by
    simp only [Pl.rdTests, Option.some.injEq, Prod.mk.injEq] at h
    rw [h.2]
    exact Nat.le_refl _
  | n + 1 => fun l x r h => by
    unfold Pl.rdTests at h
    split at h
    · simp only [Option.some.injEq, Prod.mk.injEq] at h
      rw [h.2]
      exact Nat.le_refl _
    · rename_i k l1 e1
      split at h
      · cases h
      rename_i t l2 e2
      split at h
      · cases h
      rename_i ts l3 e3
      simp only [Option.some.injEq, Prod.mk.injEq] at h
      have a1 := shr_begin _ _ _ _ e1
      have a2 := shr_test hr _ _ _ _ e2
      have a3 := shr_tests hr n _ _ _ e3
      rw [← h.2]
      omega
theorem shr_tag : Shrinks Pl.rdTag := fun l x r h => by
  unfold Pl.rdTag at h
  split at h
  · rename_i e1
    simp only [Option.some.injEq, Prod.mk.injEq] at h
    rw [← h.2]
    exact Pl.tk_len e1
  · exact shr_name _ _ _ h
theorem shr_step (hr : Shrinks rl) : Shrinks (Pl.rdStep rl) := fun l x r h => by
  unfold Pl.rdStep at h
  split at h
  · cases h
  rename_i tag l1 e1
  split at h
  · cases h
  rename_i ts l2 e2
  simp only [Option.some.injEq, Prod.mk.injEq] at h
  have a1 := shr_tag _ _ _ e1
  have a2 := shr_tests hr _ _ _ _ e2
  rw [← h.2]
  omega
theorem test_none {A : MemL α} {b k : Nat} {l : List UInt8} {w : World} {args : Array Value} (hc : Calls Tryz.prog 83 args w (TestSays A rl b k l w)) (h : Pl.rdTest rl k l = none) : Calls Tryz.prog 83 args w fun e w' => e = .panicked Left ∧ w.grownBy w' (some b) := by
  refine hc.mono ?_
  rintro e w' (⟨_, h2⟩ | ⟨t, r, au, cu, h1, _⟩)
  · exact h2
  · rw [h] at h1; cases h1
theorem test_some {A : MemL α} {b k : Nat} {l r : List UInt8} {t : Pl.Tst α} {w : World} {args : Array Value} (hc : Calls Tryz.prog 83 args w (TestSays A rl b k l w)) (h : Pl.rdTest rl k l = some (t, r)) : Calls Tryz.prog 83 args w fun e w' => ∃ (au : Option Addr) (cu : Nat), e = .returned (.agg #[.int .i64 t.kind, .string ⟨t.name.toArray⟩, .string ⟨t.value.toArray⟩, .int .i64 t.a, .int .i64 t.b, .slice au t.list.length cu]) ∧ A (mask (frm w.heap.size) w') (.slice au t.list.length cu) t.list ∧ RdAt b r w' ∧ w.grownBy w' (some b) := by
  refine hc.mono ?_
  rintro e w' (⟨h1, _⟩ | ⟨t', r', au, cu, h1, h2⟩)
  · rw [h] at h1; cases h1
  · rw [h] at h1
    simp only [Option.some.injEq, Prod.mk.injEq] at h1
    obtain ⟨rfl, rfl⟩ := h1
    exact ⟨au, cu, h2⟩
end
def StepSays {α : Type} (A : MemL α) (rl : List UInt8 → Option (List α × List UInt8)) (b : Nat) (l : List UInt8) (w : World) (e : Ending) (w' : World) : Prop :=
  (Pl.rdStep rl l = none ∧ e = .panicked Left ∧ w.grownBy w' (some b)) ∨
  (∃ (s : Pl.Stp α) (r : List UInt8) (au : Option Addr) (cu : Nat), Pl.rdStep rl l = some (s, r) ∧ e = .returned (.agg #[.string ⟨s.tag.toArray⟩, .slice au s.tests.length cu]) ∧ RowAt (TstAt A) 6 (mask (frm w.heap.size) w') (.slice au s.tests.length cu) s.tests ∧ RdAt b r w' ∧ w.grownBy w' (some b))
/-- the reader, and the boxes of a step -/
structure SB (b : Nat) (l : List UInt8) (w W : World) (c0 c1 : Value) : Prop where
  rd : RdAt b l W
  bx : W.heap[w.heap.size + 1]? = some (.cells #[c0, c1] 56)
  rs : W.heap[w.heap.size]? = some (.cells #[.string ⟨#[]⟩, .slice none 0 0] 56)
  gb : w.grownBy W (some b)
theorem SB.step {b : Nat} {l l' : List UInt8} {w W W' : World} {c0 c1 : Value} (h : SB b l w W c0 c1) (hb : b < w.heap.size) (hg : W.grownBy W' (some b)) (hr : RdAt b l' W') : SB b l' w W' c0 c1 :=
  ⟨hr, gb_block h.bx hg (by omega), gb_block h.rs hg (by omega), gb_chain h.gb hg⟩
theorem SB.on {b : Nat} {l : List UInt8} {w W W' : World} {c0 c1 : Value} (h : SB b l w W c0 c1) (hb : Below W.heap.size W W') : SB b l w W' c0 c1 :=
  ⟨h.rd.on hb, (hb.block _ (Array.getElem?_eq_some_iff.1 h.bx).1).trans h.bx, (hb.block _ (Array.getElem?_eq_some_iff.1 h.rs).1).trans h.rs, gb_on h.gb hb⟩
theorem SB.frozen {b : Nat} {l : List UInt8} {w W : World} {c0 c1 : Value} (h : SB b l w W c0 c1) (i : Nat) : W.frozen? ⟨w.heap.size + 1, i, none⟩ = false := by simp [World.frozen?, h.bx]
theorem SB.put {b : Nat} {l : List UInt8} {w W : World} {c0 c1 : Value} (h : SB b l w W c0 c1) (hb : b < w.heap.size) (i : Nat) (v : Value) {d0 d1 : Value} (hd : (W.setCell ⟨w.heap.size + 1, i, none⟩ v).heap[w.heap.size + 1]? = some (.cells #[d0, d1] 56)) : SB b l w (W.setCell ⟨w.heap.size + 1, i, none⟩ v) d0 d1 :=
  ⟨rd_apart h.rd (by omega) v, hd, by rw [Below.heap_setCell _ _ _ _ (by show w.heap.size ≠ w.heap.size + 1; omega)]; exact h.rs, gb_set h.gb (by omega) i v⟩
/-- behind an append to memory of the call's own -/
theorem SB.grown {b : Nat} {l : List UInt8} {w W W' : World} {c0 c1 : Value} {g : Option Nat} (h : SB b l w W c0 c1) (hb : b < w.heap.size) (hg : W.grownBy W' g) (hn : ∀ k, g = some k → w.heap.size + 2 ≤ k) : SB b l w W' c0 c1 :=
  ⟨rd_grown h.rd hg (fun e => by have := hn b e.symm; omega), blk_grown h.bx hg (fun e => by have := hn _ e.symm; omega), blk_grown h.rs hg (fun e => by have := hn _ e.symm; omega), gb_new h.gb hg (fun k hk => by have := hn k hk; omega)⟩
theorem set2_0 {W : World} {N : Nat} {T : TypeId} {c0 c1 : Value} (h : W.heap[N]? = some (.cells #[c0, c1] T)) (v : Value) : (W.setCell ⟨N, 0, none⟩ v).heap[N]? = some (.cells #[v, c1] T) := by simp [World.setCell, Array.getElem?_modify, h]
theorem set2_1 {W : World} {N : Nat} {T : TypeId} {c0 c1 : Value} (h : W.heap[N]? = some (.cells #[c0, c1] T)) (v : Value) : (W.setCell ⟨N, 1, none⟩ v).heap[N]? = some (.cells #[c0, v] T) := by simp [World.setCell, Array.getElem?_modify, h]
theorem blk2c {W : World} {N : Nat} {T : TypeId} {u0 u1 : Value} (h : W.heap[N]? = some (.cells #[u0, u1] T)) : W.cell? ⟨N, 0, none⟩ = some u0 ∧ W.cell? ⟨N, 1, none⟩ = some u1 := by
  refine ⟨?_, ?_⟩ <;> simp [World.cell?, h]
theorem results_2 {fn : Func} {p : Tmp} {T : TypeId} (h : fn.results = #[.cell p T]) (hT : T = 56 ∨ T = 38) (tmps : Array Value) (W : World) (B : Nat) {c0 c1 : Value} (hp : tmps[p]?.getD undef = .pointer (some ⟨B, 0, none⟩)) (hb : W.heap[B]? = some (.cells #[c0, c1] T)) : (results fn tmps).run Tryz.prog W = .ok (.agg #[c0, c1]) W := by
  obtain ⟨h0, h1⟩ := blk2c hb
  rcases hT with rfl | rfl <;> simp [results, h, hp, go_sem, h0, h1]
end Go.Proofs.YtbfkopjpfkgjhaaGreatDoor
/-
  The strict reader of paths: a step is read.
-/
namespace Go.Proofs.YtbfkopjpfkgjhaaGreatDoor
open Go.RowKit

theorem Grow.lt {β : Type} {P : Nat → Bool} {B : Nat} {e : TypeId} {k : Nat} {V : World → List Value → β → Prop} {w : World} {v : Value} {l : List β} (h : Grow P B e k V w v l) : ∀ g, v.ownBlock = some g → g < w.heap.size := by
  obtain ⟨xs, hown, _, _⟩ := h
  intro g hg
  rcases hown.2 with ⟨rfl, _⟩ | ⟨g', cap, cur, rfl, e2, e3, _⟩
  · simp [Value.ownBlock] at hg
  · simp [Value.ownBlock] at hg
    subst hg
    exact (Array.getElem?_eq_some_iff.1 e3).1
set_option maxRecDepth 100000 in
set_option maxHeartbeats 8000000 in
theorem readStep_any {α : Type} {A : MemL α} (hA : IsL A) (hS : IsSub A) {rl : List UInt8 → Option (List α × List UInt8)} {d : Int} (hd : 1 ≤ d ∧ d ≤ 3) (hr : Reads A rl (d + 1)) (hrs : Shrinks rl) (b : Nat) (l : List UInt8) (w : World) (h : RdAt b l w) (hl : l.length ≤ maxLen) (hL : Lf w) (hb : 2 ≤ b) :
    Calls Tryz.prog 66 #[.pointer (some ⟨b, 0, none⟩), .int .i64 d] w (StepSays A rl b l w) := by
  have hbw := h.facts.2.2
  have hba := on_alloc w (.cells #[.string ⟨#[]⟩, .slice none 0 0] 56)
  have hbb := on_alloc (w.alloc (.cells #[.string ⟨#[]⟩, .slice none 0 0] 56)) (.cells #[.string ⟨#[]⟩, .slice none 0 0] 56)
  have HS1 : Hid (SB b l w ((w.alloc (.cells #[.string ⟨#[]⟩, .slice none 0 0] 56)).alloc (.cells #[.string ⟨#[]⟩, .slice none 0 0] 56)) (.string ⟨#[]⟩) (.slice none 0 0)) := by
    refine ⟨(h.on hba).on hbb, ?_, ?_, gb_on (gb_on (World.grownBy.refl w _) hba) hbb⟩
    · have := World.alloc_heap_new (w.alloc (.cells #[.string ⟨#[]⟩, .slice none 0 0] 56)) (.cells #[.string ⟨#[]⟩, .slice none 0 0] 56)
      simp only [World.size_alloc] at this
      exact this
    · exact (hbb.block _ (by simp)).trans (World.alloc_heap_new w _)
  have HL : Hid (Lf w) := hL
  have HTS : Hid (∀ (k : Nat) (t1 : List UInt8) (W : World), 1 ≤ k ∧ k ≤ 15 → RdAt b t1 W → t1.length ≤ maxLen → Lf W → Calls Tryz.prog 83 #[.pointer (some ⟨b, 0, none⟩), .int .i64 k, .int .i64 d] W (TestSays A rl b k t1 W)) := fun k t1 W hk hr1 hl1 hL1 => readTest_any hA hS hd hr hrs b k hk t1 W hr1 hl1 hL1 hb
  have HRS : Hid (Shrinks rl) := hrs
  have HSUB : Hid (IsSub A) := hS
  have hl2 := hl
  unfold maxLen at hl2
  clear h hba hbb hL hr hrs hA hS
  rcases htk : Pl.tk [42] l with _ | l1
  case' none =>
    have HE1 : Hid (Pl.rdTag l = Pl.rdName l) := by
      unfold Hid Pl.rdTag
      rw [htk]
    go_enter Tryz.func66, Tryz.ntmps66
    go_wp2_with fail
    generalize ((w.alloc (.cells #[.string ⟨#[]⟩, .slice none 0 0] 56)).alloc (.cells #[.string ⟨#[]⟩, .slice none 0 0] 56)) = W1 at *
    refine (takeS_no b [42] l _ HS1.out.rd htk).mono ?_
    rintro e Wa ⟨rfl, ra, ga⟩
    have HSa : Hid (SB b l w Wa (.string ⟨#[]⟩) (.slice none 0 0)) := HS1.out.step hbw ga ra
    clear ga ra HS1
    go_wp2_with fail
    refine (name_any b l _ HSa.out.rd hl).mono ?_
    rintro e Wb (⟨hn, rfl, gb⟩ | ⟨tag, l1, hn, rfl, rb, gb⟩)
    · have G2 : Hid (w.grownBy Wb (some b)) := gb_chain HSa.out.gb gb
      have HN : Hid (Pl.rdStep rl l = none) := by
        unfold Hid Pl.rdStep
        rw [HE1.out, hn]
      go_wp2
      exact ⟨rfl, Or.inl ⟨HN.out, rfl, G2.out⟩⟩
    have HSb : Hid (SB b l1 w Wb (.string ⟨#[]⟩) (.slice none 0 0)) := HSa.out.step hbw gb rb
    obtain ⟨y0, y1⟩ := blk2c HSb.out.bx
    have f0 := HSb.out.frozen 0
    have HSc : Hid (SB b l1 w (Wb.setCell ⟨w.heap.size + 1, 0, none⟩ (.string ⟨tag.toArray⟩)) (.string ⟨tag.toArray⟩) (.slice none 0 0)) := HSb.out.put hbw 0 _ (set2_0 HSb.out.bx _)
    have HTAG : Hid (Pl.rdTag l = some (tag, l1)) := HE1.out.trans hn
    have hle1 := name_rest hn
    clear HSa HSb gb rb hn HE1
    go_wp2_with fail
    clear y0 y1 f0
    generalize Wb.setCell ⟨w.heap.size + 1, 0, none⟩ (.string ⟨tag.toArray⟩) = W2 at *
    have hall : ∃ tag l1, Hid (Pl.rdTag l = some (tag, l1)) ∧ l1.length ≤ l.length ∧ Hid (SB b l1 w W2 (.string ⟨tag.toArray⟩) (.slice none 0 0)) := ⟨tag, l1, HTAG, hle1, HSc⟩
    clear HTAG hle1 HSc
  case' some =>
    have HE1 : Hid (Pl.rdTag l = some ([], l1)) := by
      unfold Hid Pl.rdTag
      rw [htk]
    have hle0 := Pl.tk_len htk
    go_enter Tryz.func66, Tryz.ntmps66
    go_wp2_with fail
    generalize ((w.alloc (.cells #[.string ⟨#[]⟩, .slice none 0 0] 56)).alloc (.cells #[.string ⟨#[]⟩, .slice none 0 0] 56)) = W1 at *
    refine (takeS_yes b [42] l l1 _ HS1.out.rd htk).mono ?_
    rintro e W2 ⟨rfl, ra, ga⟩
    have HSa : Hid (SB b l1 w W2 (.string ⟨#[]⟩) (.slice none 0 0)) := HS1.out.step hbw ga ra
    clear ga ra HS1
    have hall : ∃ tag l1, Hid (Pl.rdTag l = some (tag, l1)) ∧ l1.length ≤ l.length ∧ Hid (SB b l1 w W2 (.string ⟨tag.toArray⟩) (.slice none 0 0)) := ⟨[], l1, HE1, hle0, HSa⟩
    clear HE1 HSa hle0
    go_wp2_with fail
  all_goals
    obtain ⟨tag, l1', HTAG, hle1, HS2⟩ := hall
    go_loopw [15] (fun _ wr => ∃ (ts : List (Pl.Tst α)) (t : List UInt8) (v : Value), ts.length ≤ 6 ∧ Hid (Pl.rdTests rl 6 l1' = preT ts (Pl.rdTests rl (6 - ts.length) t)) ∧ Hid (Grow (frm (w.heap.size + 2)) (w.heap.size + 2) 61 6 (VT A) wr v ts) ∧ Hid (SB b t w wr (.string ⟨tag.toArray⟩) v) ∧ t.length ≤ l.length) (fun _ wr => 6 - lenAt wr ⟨w.heap.size + 1, 1, none⟩)
    case atStart => exact ⟨[], l1', _, by simp, by unfold Hid preT; cases Pl.rdTests rl 6 l1' <;> simp, Grow.nil _ _ _ _ _ _, HS2, hle1⟩
    case round =>
      obtain ⟨ts, t, v, hc6, HCL, HGR, HSR, hlt⟩ := hrel
      obtain ⟨av, cv, rfl⟩ := HGR.out.form
      obtain ⟨y0, y1⟩ := blk2c HSR.out.bx
      clear HS2
      have hsr : w.heap.size + 2 ≤ wr.heap.size := (Array.getElem?_eq_some_iff.1 HSR.out.bx).1
      by_cases h6 : ts.length < 6
      · have h6i : (ts.length : Int) < 6 := by omega
        go_wp2_with fail
        refine (readBegin_any b t _ HSR.out.rd (HL.out.gb HSR.out.gb hb) hb).mono ?_
        rintro e w5 (⟨hbg, rfl, r5, g5⟩ | ⟨k, t1, hbg, hk1, hk15, rfl, r5, g5⟩)
        · obtain ⟨wM, hwM⟩ : ∃ q, q = w5 := ⟨_, rfl⟩
          subst hwM
          have HC : Hid (Pl.rdTests rl 6 l1' = some (ts, t)) := by
            unfold Hid
            rw [HCL.out, rdTests_stop hbg]
            simp [preT]
          have HG : Hid (Grow (frm (w.heap.size + 2)) (w.heap.size + 2) 61 6 (VT A) wM (.slice av ts.length cv) ts) := HGR.out.move (isV_t HSUB.out) fun j hj hjs => ⟨hj, g5.block j hjs (fun e => by injection e with e; simp only [frm, decide_eq_true_eq] at hj; omega)⟩
          have HSB : Hid (SB b t w wM (.string ⟨tag.toArray⟩) (.slice av ts.length cv)) := HSR.out.step hbw g5 r5
          clear HGR HSR HCL g5 r5 hbg y0 y1
          obtain ⟨y0, y1⟩ := blk2c HSB.out.bx
          obtain ⟨q0, q1⟩ := blk2c HSB.out.rs
          have hfz : ∀ i, wM.frozen? ⟨w.heap.size, i, none⟩ = false := fun i => by simp [World.frozen?, HSB.out.rs]
          have f0 := hfz 0
          have f1 := hfz 1
          have HRES : Hid (_ = _) := set2_1 (set2_0 HSB.out.rs (.string ⟨tag.toArray⟩)) (.slice av ts.length cv)
          have HGF : Hid (w.grownBy _ (some b)) := gb_set (M := w.heap.size) (gb_set (M := w.heap.size) HSB.out.gb (Nat.le_refl _) 0 (.string ⟨tag.toArray⟩)) (Nat.le_refl _) 1 (.slice av ts.length cv)
          have HRF : Hid (RdAt b t _) := rd_apart (M := w.heap.size) (j := 1) (rd_apart (M := w.heap.size) (j := 0) HSB.out.rd (by omega) (.string ⟨tag.toArray⟩)) (by omega) (.slice av ts.length cv)
          have HROW : Hid (RowAt (TstAt A) 6 (mask (frm w.heap.size) ((wM.setCell ⟨w.heap.size, 0, none⟩ (.string ⟨tag.toArray⟩)).setCell ⟨w.heap.size, 1, none⟩ (.slice av ts.length cv))) (.slice av ts.length cv) ts) := (Grow.row (isV_t HSUB.out) HG.out (by unfold maxLen; omega)).map fun b o x hx => hx.sub HSUB.out (incl_mask fun j o x hj hx => by
            simp only [frm, decide_eq_true_eq] at hj ⊢
            exact ⟨by omega, cell_apart (cell_apart hx (by omega)) (by omega)⟩)
          have HN : Hid (Pl.rdStep rl l = some (⟨tag, ts⟩, t)) := by
            unfold Hid Pl.rdStep
            rw [HTAG.out]
            dsimp only
            rw [HC.out]
          clear hfz HSB HG HC
          go_wp2_with fail
          exact bodyPost_ret (results_2 rfl (Or.inl rfl) _ _ w.heap.size rfl HRES.out) rfl (Or.inr ⟨⟨tag, ts⟩, t, av, cv, HN.out, rfl, HROW.out, HRF.out, HGF.out⟩)
        · have hle2 := shr_begin _ _ _ _ hbg
          have hl5 : t1.length ≤ maxLen := Nat.le_trans (Nat.le_trans hle2 hlt) hl
          have HS5 : Hid (SB b t1 w w5 (.string ⟨tag.toArray⟩) (.slice av ts.length cv)) := HSR.out.step hbw g5 r5
          have HG5 : Hid (Grow (frm (w.heap.size + 2)) (w.heap.size + 2) 61 6 (VT A) w5 (.slice av ts.length cv) ts) := HGR.out.move (isV_t HSUB.out) fun j hj hjs => ⟨hj, g5.block j hjs (fun e => by injection e with e; simp only [frm, decide_eq_true_eq] at hj; omega)⟩
          have HTT := HTS.out k t1 w5.drew ⟨hk1, hk15⟩ HS5.out.rd hl5 (HL.out.gb (gb_drew HS5.out.gb) hb)
          have hs5 : w.heap.size + 2 ≤ w5.heap.size := (Array.getElem?_eq_some_iff.1 HS5.out.bx).1
          obtain ⟨z0, z1⟩ := blk2c HS5.out.bx
          have zd : w5.drew.cell? ⟨w.heap.size + 1, 1, none⟩ = some (.slice av ts.length cv) := z1
          have hm0 : lenAt wr ⟨w.heap.size + 1, 1, none⟩ = ts.length := lenAt_eq y1
          clear g5 r5 y0 y1 HGR HSR z0
          rcases hnm : Pl.rdTest rl k t1 with _ | ⟨tt, t2⟩
          · have HC : Hid (Pl.rdStep rl l = none) := by
              unfold Hid Pl.rdStep
              rw [HTAG.out]
              dsimp only
              rw [HCL.out, show 6 - ts.length = (5 - ts.length) + 1 by omega, rdTests_bad hbg hnm]
              rfl
            have HTN : Hid (Calls Tryz.prog 83 _ _ _) := test_none HTT hnm
            have HG5w : Hid (w.grownBy w5 (some b)) := HS5.out.gb
            clear HTT HCL HG5 HS5
            go_wp2_with fail
            refine wp_region_any (by kernel_rfl) ?_
            change wpAny _ _ _ _ _ _ _ (World.drew _)
            refine wpAny_take (i := 0) (v := .pointer (some ⟨w.heap.size + 1, 1, none⟩)) rfl (by kernel_rfl) (by kernel_rfl) (by kernel_rfl) (fun _ _ _ h => h) (Or.inl ⟨by rfl, ?_⟩) ?_
            · intro w; go_simp
            refine wpAny_take (i := 2) (v := .pointer (some ⟨b, 0, none⟩)) rfl (by kernel_rfl) (by kernel_rfl) (by kernel_rfl) (fun _ _ _ h => h) (Or.inl ⟨by rfl, ?_⟩) ?_
            · intro w; go_simp
            refine wpAny_take (i := 3) (v := .int .i64 k) rfl (by kernel_rfl) (by kernel_rfl) (by kernel_rfl) (fun _ _ _ h => h) (Or.inl ⟨by rfl, ?_⟩) ?_
            · intro w; go_simp
            refine wpAny_take (i := 4) (v := .int .i64 d) rfl (by kernel_rfl) (by kernel_rfl) (by kernel_rfl) (fun _ _ _ h => h) (Or.inl ⟨by rfl, ?_⟩) ?_
            · intro w; go_simp
            refine wpAny_ready (rs := [1, 5]) (by kernel_rfl) (by simp) ?_
            refine AllReady.cons rfl (fun K hK => ?_) ?_
            · go_simp
              refine hK _ _ ?_
              clear hK K
              refine wpAny_ready (rs := [5]) (by kernel_rfl) (by simp) ?_
              refine AllReady.cons rfl (fun K hK => ?_) AllReady.nil
              go_simp
              refine HTN.out.mono ?_
              rintro e w6 ⟨rfl, g6⟩
              have G6 : Hid (w.grownBy w6 (some b)) := gb_chain (gb_drew HG5w.out) g6
              go_wp2
              exact ⟨rfl, Or.inl ⟨HC.out, rfl, G6.out⟩⟩
            · refine AllReady.cons rfl (fun K hK => ?_) AllReady.nil
              go_simp
              refine HTN.out.mono ?_
              rintro e w6 ⟨rfl, g6⟩
              have G6 : Hid (w.grownBy w6 (some b)) := gb_chain (gb_drew HG5w.out) g6
              go_wp2
              exact ⟨rfl, Or.inl ⟨HC.out, rfl, G6.out⟩⟩
          · have HC : Hid (Pl.rdTests rl 6 l1' = preT (ts ++ [tt]) (Pl.rdTests rl (6 - (ts ++ [tt]).length) t2)) := by
              unfold Hid
              have e : 6 - (ts ++ [tt]).length = 5 - ts.length := by
                rw [List.length_append]
                simp only [List.length_singleton]
                omega
              rw [HCL.out, show 6 - ts.length = (5 - ts.length) + 1 by omega, rdTests_go ts hbg hnm, e]
            have HTY : Hid (Calls Tryz.prog 83 _ _ _) := test_some HTT hnm
            have hle3 := shr_test HRS.out _ _ _ _ hnm
            have hOwn : ∀ g, (Value.slice av ts.length cv).ownBlock = some g → w.heap.size + 2 ≤ g ∧ g < w5.heap.size := fun g hg => ⟨(HG5.out.own g hg).2, HG5.out.lt g hg⟩
            have HOW : Hid (∀ g, (Value.slice av ts.length cv).ownBlock = some g → w.heap.size + 2 ≤ g ∧ g < w5.heap.size) := hOwn
            clear HTT HCL hOwn
            go_wp2_with fail
            go_region_law (first | (go_simp; go_at_call 83; refine HTY.out.mono ?_; rintro e w6 ⟨au, cu, rfl, ha6, r6, g6⟩; have HS6 : Hid (SB b t2 w w6 (.string ⟨tag.toArray⟩) (.slice av ts.length cv)) := HS5.out.step hbw (drew_gb g6) r6; have HG6 : Hid (Grow (frm (w.heap.size + 2)) (w.heap.size + 2) 61 6 (VT A) w6 (.slice av ts.length cv) ts) := HG5.out.move (isV_t HSUB.out) (fun j hj hjs => ⟨hj, (drew_gb g6).block j hjs (fun e => by injection e with e; simp only [frm, decide_eq_true_eq] at hj; omega)⟩); have HNW : Hid (VT A (mask (Off (frm (w.heap.size + 2)) (.slice av ts.length cv)) w6) [.int .i64 tt.kind, .string ⟨tt.name.toArray⟩, .string ⟨tt.value.toArray⟩, .int .i64 tt.a, .int .i64 tt.b, .slice au tt.list.length cu] tt) := ⟨_, rfl, HSUB.out.sub ha6 (incl_mask fun j o x hj hx => ⟨by simp only [frm, decide_eq_true_eq] at hj; change w5.heap.size ≤ j at hj; unfold Off; rw [show frm (w.heap.size + 2) j = true by simp only [frm, decide_eq_true_eq]; omega]; cases hq : ((Value.slice av ts.length cv).ownBlock == some j) with | false => rfl | true => exact absurd (HOW.out j (by simpa using hq)).2 (by omega), hx⟩)⟩; have hs6 : w.heap.size + 2 ≤ w6.heap.size := (Array.getElem?_eq_some_iff.1 HS6.out.bx).1; have z6 := (blk2c HS6.out.bx).2; have z6a := cell_on (on_alloc w6 (.cells #[.int .i64 tt.kind, .string ⟨tt.name.toArray⟩, .string ⟨tt.value.toArray⟩, .int .i64 tt.a, .int .i64 tt.b, .slice au tt.list.length cu] 61)) z6; clear ha6 r6 g6) | (refine step_grow (P := frm (w.heap.size + 2)) (B := w.heap.size + 2) (isV_t HSUB.out) Tryz.underlying54 inf61 rfl (by decide) (by decide) (w2 := w6) (v := .slice av ts.length cv) (l := ts) (x := tt) (news := [.int .i64 tt.kind, .string ⟨tt.name.toArray⟩, .string ⟨tt.value.toArray⟩, .int .i64 tt.a, .int .i64 tt.b, .slice au tt.list.length cu]) rfl (.tmp 26) (.tmp 31) rfl rfl rfl HG6.out HNW.out (by intro u hu; simp only [List.mem_cons, List.not_mem_nil, or_false] at hu; rcases hu with rfl | rfl | rfl | rfl | rfl | rfl <;> rfl) (by omega) hs6 (by simp only [frm, decide_eq_true_eq]; omega) ?_; intro g cap' w7 hrow' hgr _; have HS7 : Hid (SB b t2 w w7 (.string ⟨tag.toArray⟩) (.slice av ts.length cv)) := (HS6.out.on (on_alloc w6 _)).grown hbw hgr (fun k hk => (HOW.out k hk).1); have z7 := (blk2c HS7.out.bx).2; have zf7 := HS7.out.frozen 1))
            all_goals
              have HS8 : Hid (SB b t2 w (w7.setCell ⟨w.heap.size + 1, 1, none⟩ (.slice (some ⟨g, 0, none⟩) (ts.length + 1) cap')) (.string ⟨tag.toArray⟩) (.slice (some ⟨g, 0, none⟩) (ts.length + 1) cap')) := HS7.out.put hbw 1 _ (set2_1 HS7.out.bx _)
              have HG8 : Hid (Grow (frm (w.heap.size + 2)) (w.heap.size + 2) 61 6 (VT A) (w7.setCell ⟨w.heap.size + 1, 1, none⟩ (.slice (some ⟨g, 0, none⟩) (ts.length + 1) cap')) (.slice (some ⟨g, 0, none⟩) (ts.length + 1) cap') (ts ++ [tt])) := hrow'.move (isV_t HSUB.out) fun j hj _ => ⟨hj, Below.heap_setCell _ _ _ _ (by show j ≠ w.heap.size + 1; simp only [frm, decide_eq_true_eq] at hj; omega)⟩
              have hm8 : 6 - lenAt (w7.setCell ⟨w.heap.size + 1, 1, none⟩ (.slice (some ⟨g, 0, none⟩) (ts.length + 1) cap')) ⟨w.heap.size + 1, 1, none⟩ < 6 - lenAt wr ⟨w.heap.size + 1, 1, none⟩ := by
                rw [lenAt_eq (blk2c HS8.out.bx).2, hm0]
                omega
              have hl8 : (ts ++ [tt]).length ≤ 6 := by
                rw [List.length_append]
                simp only [List.length_singleton]
                omega
              clear hrow' hgr HS7 z7 zf7 HS6 HG6 HNW z6 z6a hm0
              go_wp2
              exact ⟨⟨ts ++ [tt], t2, _, hl8, HC, HG8, HS8, by omega⟩, hm8⟩
      · have h6i : ¬ (ts.length : Int) < 6 := by omega
        obtain ⟨wM, hwM⟩ : ∃ q, q = wr := ⟨_, rfl⟩
        subst hwM
        have HC : Hid (Pl.rdTests rl 6 l1' = some (ts, t)) := by
          unfold Hid
          rw [HCL.out, show 6 - ts.length = 0 by omega]
          simp [preT, Pl.rdTests]
        have HG := HGR
        have HSB := HSR
        clear HGR HSR HCL y0 y1
        obtain ⟨y0, y1⟩ := blk2c HSB.out.bx
        obtain ⟨q0, q1⟩ := blk2c HSB.out.rs
        have hfz : ∀ i, wM.frozen? ⟨w.heap.size, i, none⟩ = false := fun i => by simp [World.frozen?, HSB.out.rs]
        have f0 := hfz 0
        have f1 := hfz 1
        have HRES : Hid (_ = _) := set2_1 (set2_0 HSB.out.rs (.string ⟨tag.toArray⟩)) (.slice av ts.length cv)
        have HGF : Hid (w.grownBy _ (some b)) := gb_set (M := w.heap.size) (gb_set (M := w.heap.size) HSB.out.gb (Nat.le_refl _) 0 (.string ⟨tag.toArray⟩)) (Nat.le_refl _) 1 (.slice av ts.length cv)
        have HRF : Hid (RdAt b t _) := rd_apart (M := w.heap.size) (j := 1) (rd_apart (M := w.heap.size) (j := 0) HSB.out.rd (by omega) (.string ⟨tag.toArray⟩)) (by omega) (.slice av ts.length cv)
        have HROW : Hid (RowAt (TstAt A) 6 (mask (frm w.heap.size) ((wM.setCell ⟨w.heap.size, 0, none⟩ (.string ⟨tag.toArray⟩)).setCell ⟨w.heap.size, 1, none⟩ (.slice av ts.length cv))) (.slice av ts.length cv) ts) := (Grow.row (isV_t HSUB.out) HG.out (by unfold maxLen; omega)).map fun b o x hx => hx.sub HSUB.out (incl_mask fun j o x hj hx => by
          simp only [frm, decide_eq_true_eq] at hj ⊢
          exact ⟨by omega, cell_apart (cell_apart hx (by omega)) (by omega)⟩)
        have HN : Hid (Pl.rdStep rl l = some (⟨tag, ts⟩, t)) := by
          unfold Hid Pl.rdStep
          rw [HTAG.out]
          dsimp only
          rw [HC.out]
        clear hfz HSB HG HC
        go_wp2_with fail
        exact bodyPost_ret (results_2 rfl (Or.inl rfl) _ _ w.heap.size rfl HRES.out) rfl (Or.inr ⟨⟨tag, ts⟩, t, av, cv, HN.out, rfl, HROW.out, HRF.out, HGF.out⟩)
end Go.Proofs.YtbfkopjpfkgjhaaGreatDoor
