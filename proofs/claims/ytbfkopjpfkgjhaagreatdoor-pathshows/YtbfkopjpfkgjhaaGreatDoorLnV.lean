/-
  The document's own reader: a step is read.
-/
import Derived.Test.YtbfkopjpfkgjhaaGreatDoorLnU
import Derived.Test.YtbfkopjpfkgjhaaGreatDoorRdN
namespace Go.Proofs.YtbfkopjpfkgjhaaGreatDoor
open Go.RowKit

def preL {β : Type} (ts : List β) (p : List β × List UInt8) : List β × List UInt8 := (ts ++ p.1, p.2)
section
variable {α : Type} {g : List UInt8 → List α × List UInt8}
theorem lnTests_stop {n : Nat} {l : List UInt8} (h : Pl.lnTest g l = none) : Pl.lnTests g n l = ([], l) := by
  cases n with
  | zero => rfl
  | succ n => unfold Pl.lnTests; rw [h]
theorem lnTests_go {n : Nat} {l r : List UInt8} {t : Pl.Tst α} (ts : List (Pl.Tst α)) (h : Pl.lnTest g l = some (t, r)) : preL ts (Pl.lnTests g (n + 1) l) = preL (ts ++ [t]) (Pl.lnTests g n r) := by
  conv => lhs; unfold Pl.lnTests
  rw [h]
  simp [preL]
end
def LSSays {α : Type} (A : MemL α) (g : List UInt8 → List α × List UInt8) (b : Nat) (l : List UInt8) (w : World) (e : Ending) (w' : World) : Prop :=
  ∃ (s : Pl.Stp α) (r : List UInt8) (au : Option Addr) (cu : Nat), Pl.lnStep g l = (s, r) ∧ e = .returned (.agg #[.string ⟨s.tag.toArray⟩, .slice au s.tests.length cu]) ∧ RowAt (TstAt A) 6 (mask (frm w.heap.size) w') (.slice au s.tests.length cu) s.tests ∧ LnAt b r w' ∧ w.grownBy w' (some b)
/-- the reader, and the boxes of a step -/
structure SL (b Np : Nat) (l : List UInt8) (w W : World) (c0 c1 : Value) : Prop where
  ln : LnAt b l W
  bx : W.heap[Np]? = some (.cells #[c0, c1] 56)
  rs : W.heap[w.heap.size]? = some (.cells #[.string ⟨#[]⟩, .slice none 0 0] 56)
  gb : w.grownBy W (some b)
section
variable {b Np : Nat} {l l' : List UInt8} {w W W' : World} {c0 c1 : Value}
theorem SL.step (h : SL b Np l w W c0 c1) (hb : b < w.heap.size) (hN : w.heap.size < Np) (hg : W.grownBy W' (some b)) (hr : LnAt b l' W') : SL b Np l' w W' c0 c1 :=
  ⟨hr, gb_block h.bx hg (by omega), gb_block h.rs hg (by omega), gb_chain h.gb hg⟩
theorem SL.on (h : SL b Np l w W c0 c1) (hb : Below W.heap.size W W') : SL b Np l w W' c0 c1 :=
  ⟨h.ln.on hb, (hb.block _ (Array.getElem?_eq_some_iff.1 h.bx).1).trans h.bx, (hb.block _ (Array.getElem?_eq_some_iff.1 h.rs).1).trans h.rs, gb_on h.gb hb⟩
theorem SL.frozen (h : SL b Np l w W c0 c1) (i : Nat) : W.frozen? ⟨Np, i, none⟩ = false := by simp [World.frozen?, h.bx]
theorem SL.frozenR (h : SL b Np l w W c0 c1) (i : Nat) : W.frozen? ⟨w.heap.size, i, none⟩ = false := by simp [World.frozen?, h.rs]
theorem SL.put (h : SL b Np l w W c0 c1) (hb : b < w.heap.size) (hN : w.heap.size < Np) (i : Nat) (v : Value) {d0 d1 : Value} (hd : (W.setCell ⟨Np, i, none⟩ v).heap[Np]? = some (.cells #[d0, d1] 56)) : SL b Np l w (W.setCell ⟨Np, i, none⟩ v) d0 d1 :=
  ⟨h.ln.other (by omega) v, hd, by rw [Below.heap_setCell _ _ _ _ (by show w.heap.size ≠ Np; omega)]; exact h.rs, gb_set h.gb (by omega) i v⟩
theorem SL.grown {g : Option Nat} (h : SL b Np l w W c0 c1) (hb : b < w.heap.size) (hN : w.heap.size < Np) (hg : W.grownBy W' g) (hn : ∀ k, g = some k → Np + 1 ≤ k) : SL b Np l w W' c0 c1 :=
  ⟨ln_grown h.ln hg (fun e => by have := hn b e.symm; omega), blk_grown h.bx hg (fun e => by have := hn _ e.symm; omega), blk_grown h.rs hg (fun e => by have := hn _ e.symm; omega), gb_new h.gb hg (fun k hk => by have := hn k hk; omega)⟩
/-- when the result is laid -/
structure SE (b : Nat) (l : List UInt8) (w W W' : World) (c0 c1 : Value) : Prop where
  ln : LnAt b l W'
  rs : W'.heap[w.heap.size]? = some (.cells #[c0, c1] 56)
  gb : w.grownBy W' (some b)
  far : ∀ j o x, w.heap.size + 1 ≤ j → W.cell? ⟨j, o, none⟩ = some x → W'.cell? ⟨j, o, none⟩ = some x
theorem SL.fin (h : SL b Np l w W c0 c1) (hb : b < w.heap.size) (d0 d1 : Value) : SE b l w W ((W.setCell ⟨w.heap.size, 0, none⟩ d0).setCell ⟨w.heap.size, 1, none⟩ d1) d0 d1 :=
  ⟨(h.ln.other (by omega) d0).other (by omega) d1, set2_1 (set2_0 h.rs d0) d1, gb_set (gb_set h.gb (Nat.le_refl _) 0 d0) (Nat.le_refl _) 1 d1, fun _ _ _ hj hx => cell_apart (cell_apart hx (by omega)) (by omega)⟩
theorem SE.on {W2 : World} (h : SE b l w W W' c0 c1) (hb : Below W'.heap.size W' W2) : SE b l w W W2 c0 c1 :=
  ⟨h.ln.on hb, (hb.block _ (Array.getElem?_eq_some_iff.1 h.rs).1).trans h.rs, gb_on h.gb hb, fun j o x hj hx => cell_on hb (h.far j o x hj hx)⟩
theorem LSSays.mk {α : Type} {A : MemL α} (hS : IsSub A) {g : List UInt8 → List α × List UInt8} {r tag : List UInt8} {ts : List (Pl.Tst α)} {au : Option Addr} {cu : Nat} (hN : Pl.lnStep g l = (⟨tag, ts⟩, r)) (hl : ts.length ≤ 7) (hNp : w.heap.size < Np) (hG : Grow (frm (Np + 1)) (Np + 1) 61 6 (VT A) W (.slice au ts.length cu) ts) (h : SE b r w W W' (.string ⟨tag.toArray⟩) (.slice au ts.length cu)) :
    LSSays A g b l w (.returned (.agg #[.string ⟨tag.toArray⟩, .slice au ts.length cu])) W' :=
  ⟨⟨tag, ts⟩, r, au, cu, hN, rfl, (Grow.row (isV_t hS) hG (by unfold maxLen; omega)).map fun b o x hx => hx.sub hS (incl_mask fun j o x hj hx => by
    simp only [frm, decide_eq_true_eq] at hj ⊢
    exact ⟨by omega, h.far j o x (by omega) hx⟩), h.ln, h.gb⟩
end
set_option maxRecDepth 100000 in
set_option maxHeartbeats 8000000 in
theorem lnStep_any {α : Type} {A : MemL α} (hA : IsL A) (hS : IsSub A) {g : List UInt8 → List α × List UInt8} {d : Int} (hd : 1 ≤ d ∧ d ≤ 3) (hr : LnReads A g (d + 1)) (hsh : Pl.Short g) (b : Nat) (l : List UInt8) (w : World) (h : LnAt b l w) (hl : l.length ≤ maxLen) :
    Calls Tryz.prog 48 #[.pointer (some ⟨b, 0, none⟩), .int .i64 d] w (LSSays A g b l w) := by
  have hbw := h.facts.2.2
  have hba := on_alloc w (.cells #[.string ⟨#[]⟩, .slice none 0 0] 56)
  have hz0 : (w.alloc (.cells #[.string ⟨#[]⟩, .slice none 0 0] 56)).heap.size = w.heap.size + 1 := by simp
  have HX0 : Hid ((w.alloc (.cells #[.string ⟨#[]⟩, .slice none 0 0] 56)).heap[w.heap.size]? = _) := World.alloc_heap_new w (.cells #[.string ⟨#[]⟩, .slice none 0 0] 56)
  have HG0 : Hid (w.grownBy (w.alloc (.cells #[.string ⟨#[]⟩, .slice none 0 0] 56)) (some b)) := gb_on (World.grownBy.refl w _) hba
  have HTS : Hid (∀ (t1 : List UInt8) (W : World), LnAt b t1 W → t1.length ≤ maxLen → Calls Tryz.prog 70 #[.pointer (some ⟨b, 0, none⟩), .int .i64 d] W (LTSays A g b t1 W)) := fun t1 W hr1 hl1 => lnTest_any hA hS hd hr b t1 W hr1 hl1
  have HSH : Hid (Pl.Short g) := hsh
  have HSUB : Hid (IsSub A) := hS
  have HC : Hid (Calls Tryz.prog 69 _ _ _) := lnName_any b l (w.alloc (.cells #[.string ⟨#[]⟩, .slice none 0 0] 56)) (h.on hba) hl
  have HDEF : Hid (Pl.lnStep g l = (⟨l.takeWhile Pl.isNB, (Pl.lnTests g 7 (Pl.sg [42] (l.dropWhile Pl.isNB))).1⟩, (Pl.lnTests g 7 (Pl.sg [42] (l.dropWhile Pl.isNB))).2)) := rfl
  have hle0 : (l.dropWhile Pl.isNB).length ≤ l.length := drop_len l
  clear h hba hr hA hS hsh
  generalize l.takeWhile Pl.isNB = tag at *
  generalize l.dropWhile Pl.isNB = l0 at *
  go_enter Tryz.func48, Tryz.ntmps48
  go_wp2_with fail
  generalize w.alloc (.cells #[.string ⟨#[]⟩, .slice none 0 0] 56) = W0 at *
  refine HC.out.mono ?_
  rintro e W1 ⟨rfl, r1, g1⟩
  have hs1 : w.heap.size + 1 ≤ W1.heap.size := by have := g1.size; omega
  have hb1 := on_alloc W1 (.cells #[.string ⟨tag.toArray⟩, .slice none 0 0] 56)
  have HS1 : Hid (SL b W1.heap.size l0 w (W1.alloc (.cells #[.string ⟨tag.toArray⟩, .slice none 0 0] 56)) (.string ⟨tag.toArray⟩) (.slice none 0 0)) :=
    ⟨r1.on hb1, World.alloc_heap_new W1 _, (hb1.block _ (by omega)).trans (gb_block HX0.out g1 (by omega)), gb_on (gb_chain HG0.out g1) hb1⟩
  clear r1 g1 HC HX0 HG0 hz0 hb1
  go_wp2_with fail
  generalize W1.alloc (.cells #[.string ⟨tag.toArray⟩, .slice none 0 0] 56) = W2 at *
  have hNp : w.heap.size < W1.heap.size := by omega
  clear hs1
  generalize W1.heap.size = Np at *
  refine (sign_any b l0 [42] _ HS1.out.ln).mono ?_
  rintro e W3 ⟨rfl, r3, g3⟩
  have HS3 : Hid (SL b Np (Pl.sg [42] l0) w W3 (.string ⟨tag.toArray⟩) (.slice none 0 0)) := HS1.out.step hbw hNp g3 r3
  have hle1 : (Pl.sg [42] l0).length ≤ l.length := Nat.le_trans (Pl.sg_len _ _) hle0
  clear r3 g3 HS1
  generalize Pl.sg [42] l0 = l1 at *
  go_wp2_with fail
  go_loopw [15] (fun _ wr => ∃ (ts : List (Pl.Tst α)) (t : List UInt8) (v : Value), ts.length ≤ 7 ∧ Hid (Pl.lnTests g 7 l1 = preL ts (Pl.lnTests g (7 - ts.length) t)) ∧ Hid (Grow (frm (Np + 1)) (Np + 1) 61 6 (VT A) wr v ts) ∧ Hid (SL b Np t w wr (.string ⟨tag.toArray⟩) v) ∧ t.length ≤ l.length) (fun _ wr => 7 - lenAt wr ⟨Np, 1, none⟩)
  case atStart => exact ⟨[], l1, _, by simp, by unfold Hid preL; simp, Grow.nil _ _ _ _ _ _, HS3, hle1⟩
  case round =>
    obtain ⟨ts, t, v, hc7, HCL, HGR, HSR, hlt⟩ := hrel
    obtain ⟨av, cv, rfl⟩ := HGR.out.form
    obtain ⟨y0, y1⟩ := blk2c HSR.out.bx
    clear HS3
    have hsr : Np < wr.heap.size := (Array.getElem?_eq_some_iff.1 HSR.out.bx).1
    by_cases h6 : ts.length ≤ 6
    · have h6i : (ts.length : Int) ≤ 6 := by omega
      go_wp2_with fail
      refine (HTS.out t _ HSR.out.ln (Nat.le_trans hlt hl)).mono ?_
      rintro e w5 (⟨hn, rfl, r5, g5⟩ | ⟨tt, t2, au, cu, hn, rfl, ha5, r5, g5⟩)
      · have HS5 : Hid (SL b Np t w w5 (.string ⟨tag.toArray⟩) (.slice av ts.length cv)) := HSR.out.step hbw hNp g5 r5
        have HG5 : Hid (Grow (frm (Np + 1)) (Np + 1) 61 6 (VT A) w5 (.slice av ts.length cv) ts) := HGR.out.move (isV_t HSUB.out) fun j hj hjs => ⟨hj, g5.block j hjs (fun e => by injection e with e; simp only [frm, decide_eq_true_eq] at hj; omega)⟩
        have HN : Hid (Pl.lnStep g l = (⟨tag, ts⟩, t)) := by
          unfold Hid
          rw [HDEF.out, HCL.out, lnTests_stop hn]
          simp [preL]
        have hb5 := on_alloc w5 (.cells #[.int .i64 0, .string ⟨#[]⟩, .string ⟨#[]⟩, .int .i64 0, .int .i64 0, .slice none 0 0] 61)
        have HS6 : Hid (SL b Np t w (w5.alloc (.cells #[.int .i64 0, .string ⟨#[]⟩, .string ⟨#[]⟩, .int .i64 0, .int .i64 0, .slice none 0 0] 61)) (.string ⟨tag.toArray⟩) (.slice av ts.length cv)) := HS5.out.on hb5
        have HG6 : Hid (Grow (frm (Np + 1)) (Np + 1) 61 6 (VT A) (w5.alloc (.cells #[.int .i64 0, .string ⟨#[]⟩, .string ⟨#[]⟩, .int .i64 0, .int .i64 0, .slice none 0 0] 61)) (.slice av ts.length cv) ts) := HG5.out.move (isV_t HSUB.out) fun j hj hjs => ⟨hj, hb5.block j hjs⟩
        obtain ⟨z0, z1⟩ := blk2c HS6.out.bx
        obtain ⟨q0, q1⟩ := blk2c HS6.out.rs
        have f0 := HS6.out.frozenR 0
        have f1 := HS6.out.frozenR 1
        have HE : Hid (SE b t w _ _ _ _) := HS6.out.fin hbw (.string ⟨tag.toArray⟩) (.slice av ts.length cv)
        clear HSR HGR g5 r5 y0 y1 hn HCL HS5 hb5 HG5
        go_wp2_with fail
        exact bodyPost_ret (results_2 rfl (Or.inl rfl) _ _ w.heap.size rfl HE.out.rs) rfl (LSSays.mk HSUB.out HN.out hc7 hNp HG6.out HE.out)
      · have hle3 : t2.length ≤ t.length := Pl.lnTest_len HSH.out hn
        have HC : Hid (Pl.lnTests g 7 l1 = preL (ts ++ [tt]) (Pl.lnTests g (7 - (ts ++ [tt]).length) t2)) := by
          unfold Hid
          have e : 7 - (ts ++ [tt]).length = 6 - ts.length := by
            rw [List.length_append]
            simp only [List.length_singleton]
            omega
          rw [HCL.out, show 7 - ts.length = (6 - ts.length) + 1 by omega, lnTests_go ts hn, e]
        have hb5 := on_alloc w5 (.cells #[.int .i64 tt.kind, .string ⟨tt.name.toArray⟩, .string ⟨tt.value.toArray⟩, .int .i64 tt.a, .int .i64 tt.b, .slice au tt.list.length cu] 61)
        have HOW : Hid (∀ g, (Value.slice av ts.length cv).ownBlock = some g → Np + 1 ≤ g ∧ g < wr.heap.size) := fun g hg => ⟨(HGR.out.own g hg).2, HGR.out.lt g hg⟩
        have HS6 : Hid (SL b Np t2 w (w5.alloc (.cells #[.int .i64 tt.kind, .string ⟨tt.name.toArray⟩, .string ⟨tt.value.toArray⟩, .int .i64 tt.a, .int .i64 tt.b, .slice au tt.list.length cu] 61)) (.string ⟨tag.toArray⟩) (.slice av ts.length cv)) := (HSR.out.step hbw hNp g5 r5).on hb5
        have HG6 : Hid (Grow (frm (Np + 1)) (Np + 1) 61 6 (VT A) (w5.alloc (.cells #[.int .i64 tt.kind, .string ⟨tt.name.toArray⟩, .string ⟨tt.value.toArray⟩, .int .i64 tt.a, .int .i64 tt.b, .slice au tt.list.length cu] 61)) (.slice av ts.length cv) ts) := HGR.out.move (isV_t HSUB.out) fun j hj hjs => ⟨hj, (hb5.block j (Nat.lt_of_lt_of_le hjs g5.size)).trans (g5.block j hjs (fun e => by injection e with e; simp only [frm, decide_eq_true_eq] at hj; omega))⟩
        have HNW : Hid (VT A (mask (Off (frm (Np + 1)) (.slice av ts.length cv)) (w5.alloc (.cells #[.int .i64 tt.kind, .string ⟨tt.name.toArray⟩, .string ⟨tt.value.toArray⟩, .int .i64 tt.a, .int .i64 tt.b, .slice au tt.list.length cu] 61))) [.int .i64 tt.kind, .string ⟨tt.name.toArray⟩, .string ⟨tt.value.toArray⟩, .int .i64 tt.a, .int .i64 tt.b, .slice au tt.list.length cu] tt) := ⟨_, rfl, HSUB.out.sub ha5 (incl_mask fun j o x hj hx => ⟨Off_iff.2 ⟨by simp only [frm, decide_eq_true_eq] at hj ⊢; omega, fun e => by simp only [frm, decide_eq_true_eq] at hj; have := (HOW.out j e).2; omega⟩, cell_on hb5 hx⟩)⟩
        have X5 := World.alloc_heap_new w5 (.cells #[.int .i64 tt.kind, .string ⟨tt.name.toArray⟩, .string ⟨tt.value.toArray⟩, .int .i64 tt.a, .int .i64 tt.b, .slice au tt.list.length cu] 61)
        have hs5 : wr.heap.size ≤ w5.heap.size := g5.size
        have hz6 : (w5.alloc (.cells #[.int .i64 tt.kind, .string ⟨tt.name.toArray⟩, .string ⟨tt.value.toArray⟩, .int .i64 tt.a, .int .i64 tt.b, .slice au tt.list.length cu] 61)).heap.size = w5.heap.size + 1 := by simp
        have hm0 : lenAt wr ⟨Np, 1, none⟩ = ts.length := lenAt_eq y1
        obtain ⟨c0, c1, c2, c3, c4, c5⟩ := blk6_cells X5
        obtain ⟨z0, z1⟩ := blk2c HS6.out.bx
        have HZ6 : Hid (_ = _) := hz6
        clear HSR HGR g5 r5 y0 y1 hn HCL ha5 hb5 X5 hz6
        go_wp2_with (at_builtin; refine wpList_grow (P := frm (Np + 1)) (B := Np + 1) (isV_t HSUB.out) Tryz.underlying54 inf61 rfl (by decide) (by decide) (w2 := w5.alloc (.cells #[.int .i64 tt.kind, .string ⟨tt.name.toArray⟩, .string ⟨tt.value.toArray⟩, .int .i64 tt.a, .int .i64 tt.b, .slice au tt.list.length cu] 61)) (v := .slice av ts.length cv) (l := ts) (x := tt) (news := [.int .i64 tt.kind, .string ⟨tt.name.toArray⟩, .string ⟨tt.value.toArray⟩, .int .i64 tt.a, .int .i64 tt.b, .slice au tt.list.length cu]) rfl (.tmp 26) (.tmp 28) rfl rfl (by go_simp) HG6.out HNW.out ?hone (by omega) (by rw [HZ6.out]; omega) ?hPH ?_)
        case hone =>
          intro u hu
          simp only [List.mem_cons, List.not_mem_nil, or_false] at hu
          rcases hu with rfl | rfl | rfl | rfl | rfl | rfl <;> rfl
        case hPH =>
          rw [HZ6.out]
          simp only [frm, decide_eq_true_eq]
          omega
        intro g' cap' w7 hrow hgr _
        have HS7 : Hid (SL b Np t2 w w7 (.string ⟨tag.toArray⟩) (.slice av ts.length cv)) := (HS6.out.on (on_alloc _ _)).grown hbw hNp hgr (fun k hk => (HOW.out k hk).1)
        have z7 := (blk2c HS7.out.bx).2
        have zf7 := HS7.out.frozen 1
        have HS8 : Hid (SL b Np t2 w (w7.setCell ⟨Np, 1, none⟩ (.slice (some ⟨g', 0, none⟩) (ts.length + 1) cap')) (.string ⟨tag.toArray⟩) (.slice (some ⟨g', 0, none⟩) (ts.length + 1) cap')) := HS7.out.put hbw hNp 1 _ (set2_1 HS7.out.bx _)
        have HG8 : Hid (Grow (frm (Np + 1)) (Np + 1) 61 6 (VT A) (w7.setCell ⟨Np, 1, none⟩ (.slice (some ⟨g', 0, none⟩) (ts.length + 1) cap')) (.slice (some ⟨g', 0, none⟩) (ts.length + 1) cap') (ts ++ [tt])) := hrow.move (isV_t HSUB.out) fun j hj _ => ⟨hj, Below.heap_setCell _ _ _ _ (by show j ≠ Np; simp only [frm, decide_eq_true_eq] at hj; omega)⟩
        have hm8 : 7 - lenAt (w7.setCell ⟨Np, 1, none⟩ (.slice (some ⟨g', 0, none⟩) (ts.length + 1) cap')) ⟨Np, 1, none⟩ < 7 - lenAt wr ⟨Np, 1, none⟩ := by
          rw [lenAt_eq (blk2c HS8.out.bx).2, hm0]
          omega
        have hl8 : (ts ++ [tt]).length ≤ 7 := by
          rw [List.length_append]
          simp only [List.length_singleton]
          omega
        clear hrow hgr HS7 HS6 HG6 HNW hm0 c0 c1 c2 c3 c4 c5 z0 z1
        go_wp2
        exact ⟨⟨ts ++ [tt], t2, _, hl8, HC, HG8, HS8, by omega⟩, hm8⟩
    · have h6i : ¬ (ts.length : Int) ≤ 6 := by omega
      have HN : Hid (Pl.lnStep g l = (⟨tag, ts⟩, t)) := by
        unfold Hid
        rw [HDEF.out, HCL.out, show 7 - ts.length = 0 by omega]
        simp [preL, Pl.lnTests]
      obtain ⟨wM, hwM⟩ : ∃ q, q = wr := ⟨_, rfl⟩
      subst hwM
      have HE : Hid (SE b t w wM _ _ _) := HSR.out.fin hbw (.string ⟨tag.toArray⟩) (.slice av ts.length cv)
      obtain ⟨q0, q1⟩ := blk2c HSR.out.rs
      have f0 := HSR.out.frozenR 0
      have f1 := HSR.out.frozenR 1
      clear HSR HCL
      go_wp2_with fail
      exact bodyPost_ret (results_2 rfl (Or.inl rfl) _ _ w.heap.size rfl HE.out.rs) rfl (LSSays.mk HSUB.out HN.out hc7 hNp HGR.out HE.out)
end Go.Proofs.YtbfkopjpfkgjhaaGreatDoor
