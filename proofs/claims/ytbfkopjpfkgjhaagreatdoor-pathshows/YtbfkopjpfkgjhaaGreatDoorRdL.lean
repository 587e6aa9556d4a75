/-
  The strict reader of paths: what reading a path goes by.
-/
import Derived.Test.YtbfkopjpfkgjhaaGreatDoorRdJ
namespace Go.Proofs.YtbfkopjpfkgjhaaGreatDoor
open Go.RowKit

def pre2 {β : Type} (ss : List β) (ks : List Int) (o : Option (List β × List Int × List UInt8)) : Option (List β × List Int × List UInt8) := o.map fun p => (ss ++ p.1, ks ++ p.2.1, p.2.2)
section
variable {α : Type} {rl : List UInt8 → Option (List α × List UInt8)}
theorem rdSteps_stop {n : Nat} {l : List UInt8} (h : Pl.rdLink l = none) : Pl.rdSteps rl n l = some ([], [], l) := by
  cases n with
  | zero => rfl
  | succ n => unfold Pl.rdSteps; rw [h]
theorem rdSteps_bad {n k : Nat} {l l1 : List UInt8} (h : Pl.rdLink l = some (k, l1)) (h2 : Pl.rdStep rl l1 = none) : Pl.rdSteps rl (n + 1) l = none := by
  unfold Pl.rdSteps; rw [h]; simp only; rw [h2]
theorem rdSteps_go {n k : Nat} {l l1 r : List UInt8} {s : Pl.Stp α} (ss : List (Pl.Stp α)) (ks : List Int) (h : Pl.rdLink l = some (k, l1)) (h2 : Pl.rdStep rl l1 = some (s, r)) : pre2 ss ks (Pl.rdSteps rl (n + 1) l) = pre2 (ss ++ [s]) (ks ++ [(k : Int)]) (Pl.rdSteps rl n r) := by
  conv => lhs; unfold Pl.rdSteps
  rw [h]; simp only; rw [h2]; simp only
  cases Pl.rdSteps rl n r with
  | none => rfl
  | some p => obtain ⟨a, b, c⟩ := p; simp [pre2]
theorem shr_steps (hr : Shrinks rl) : ∀ n l ss ks r, Pl.rdSteps rl n l = some (ss, ks, r) → r.length ≤ l.length
  | 0, l, ss, ks, r, h => by
    simp only [Pl.rdSteps, Option.some.injEq, Prod.mk.injEq] at h
    rw [h.2.2]
    exact Nat.le_refl _
  | n + 1, l, ss, ks, r, h => by
    unfold Pl.rdSteps at h
    split at h
    · simp only [Option.some.injEq, Prod.mk.injEq] at h
      rw [h.2.2]
      exact Nat.le_refl _
    · rename_i k l1 e1
      split at h
      · cases h
      rename_i t l2 e2
      split at h
      · cases h
      rename_i ts l3 e3
      simp only [Option.some.injEq, Prod.mk.injEq] at h
      have a1 := shr_link _ _ _ _ e1
      have a2 := shr_step hr _ _ _ e2
      have a3 := shr_steps hr n _ _ _ _ e3
      rw [← h.2.2]
      omega
theorem shr_path (hr : Shrinks rl) : Shrinks (Pl.rdPath rl) := fun l x r h => by
  unfold Pl.rdPath at h
  split at h
  · cases h
  rename_i s l1 e1
  split at h
  · cases h
  rename_i ss ks l2 e2
  simp only [Option.some.injEq, Prod.mk.injEq] at h
  have a1 := shr_step hr _ _ _ e1
  have a2 := shr_steps hr _ _ _ _ _ e2
  rw [← h.2]
  omega
theorem step_none {A : MemL α} {b : Nat} {l : List UInt8} {w : World} {args : Array Value} (hc : Calls Tryz.prog 66 args w (StepSays A rl b l w)) (h : Pl.rdStep rl l = none) : Calls Tryz.prog 66 args w fun e w' => e = .panicked Left ∧ w.grownBy w' (some b) := by
  refine hc.mono ?_
  rintro e w' (⟨_, h2⟩ | ⟨t, r, au, cu, h1, _⟩)
  · exact h2
  · rw [h] at h1; cases h1
theorem step_some {A : MemL α} {b : Nat} {l r : List UInt8} {s : Pl.Stp α} {w : World} {args : Array Value} (hc : Calls Tryz.prog 66 args w (StepSays A rl b l w)) (h : Pl.rdStep rl l = some (s, r)) : Calls Tryz.prog 66 args w fun e w' => ∃ (au : Option Addr) (cu : Nat), e = .returned (.agg #[.string ⟨s.tag.toArray⟩, .slice au s.tests.length cu]) ∧ RowAt (TstAt A) 6 (mask (frm w.heap.size) w') (.slice au s.tests.length cu) s.tests ∧ RdAt b r w' ∧ w.grownBy w' (some b) := by
  refine hc.mono ?_
  rintro e w' (⟨h1, _⟩ | ⟨t', r', au, cu, h1, h2⟩)
  · rw [h] at h1; cases h1
  · rw [h] at h1
    simp only [Option.some.injEq, Prod.mk.injEq] at h1
    obtain ⟨rfl, rfl⟩ := h1
    exact ⟨au, cu, h2⟩
end
def PathSays {α : Type} (A : MemL α) (rl : List UInt8 → Option (List α × List UInt8)) (b : Nat) (l : List UInt8) (w : World) (e : Ending) (w' : World) : Prop :=
  (Pl.rdPath rl l = none ∧ e = .panicked Left ∧ w.grownBy w' (some b)) ∨
  (∃ (p : Pl.Pth α) (r : List UInt8) (au : Option Addr) (cu : Nat) (av : Option Addr) (cv : Nat), Pl.rdPath rl l = some (p, r) ∧ e = .returned (.agg #[.slice au p.steps.length cu, .slice av p.links.length cv]) ∧ RowAt (StpAt A) 2 (mask (frm w.heap.size) w') (.slice au p.steps.length cu) p.steps ∧ RowAt IntAt 1 (mask (frm w.heap.size) w') (.slice av p.links.length cv) p.links ∧ RdAt b r w' ∧ w.grownBy w' (some b))
/-- where the steps lie, and where the links -/
def pS (B Np : Nat) (vl : Value) : Nat → Bool := fun j => decide (B ≤ j) && j != Np && !(vl.ownBlock == some j)
def pL (Np : Nat) (vs : Value) : Nat → Bool := fun j => decide (Np + 1 ≤ j) && !(vs.ownBlock == some j)
theorem pS_iff {B Np : Nat} {vl : Value} {j : Nat} : pS B Np vl j = true ↔ B ≤ j ∧ j ≠ Np ∧ vl.ownBlock ≠ some j := by
  unfold pS
  simp [and_assoc]
theorem pL_iff {Np : Nat} {vs : Value} {j : Nat} : pL Np vs j = true ↔ Np + 1 ≤ j ∧ vs.ownBlock ≠ some j := by
  unfold pL
  simp
/-- the reader, and the boxes of a path -/
structure PB (b Np : Nat) (l : List UInt8) (w W : World) (c0 c1 : Value) : Prop where
  rd : RdAt b l W
  bx : W.heap[Np]? = some (.cells #[c0, c1] 38)
  rs : W.heap[w.heap.size]? = some (.cells #[.slice none 0 0, .slice none 0 0] 38)
  gb : w.grownBy W (some b)
section
variable {b Np : Nat} {l l' : List UInt8} {w W W' : World} {c0 c1 : Value}
theorem PB.step (h : PB b Np l w W c0 c1) (hb : b < w.heap.size) (hN : w.heap.size < Np) (hg : W.grownBy W' (some b)) (hr : RdAt b l' W') : PB b Np l' w W' c0 c1 :=
  ⟨hr, gb_block h.bx hg (by omega), gb_block h.rs hg (by omega), gb_chain h.gb hg⟩
theorem PB.on (h : PB b Np l w W c0 c1) (hb : Below W.heap.size W W') : PB b Np l w W' c0 c1 :=
  ⟨h.rd.on hb, (hb.block _ (Array.getElem?_eq_some_iff.1 h.bx).1).trans h.bx, (hb.block _ (Array.getElem?_eq_some_iff.1 h.rs).1).trans h.rs, gb_on h.gb hb⟩
theorem PB.frozen (h : PB b Np l w W c0 c1) (i : Nat) : W.frozen? ⟨Np, i, none⟩ = false := by simp [World.frozen?, h.bx]
theorem PB.put (h : PB b Np l w W c0 c1) (hb : b < w.heap.size) (hN : w.heap.size < Np) (i : Nat) (v : Value) {d0 d1 : Value} (hd : (W.setCell ⟨Np, i, none⟩ v).heap[Np]? = some (.cells #[d0, d1] 38)) : PB b Np l w (W.setCell ⟨Np, i, none⟩ v) d0 d1 :=
  ⟨rd_apart h.rd (by omega) v, hd, by rw [Below.heap_setCell _ _ _ _ (by show w.heap.size ≠ Np; omega)]; exact h.rs, gb_set h.gb (by omega) i v⟩
theorem PB.grown {g : Option Nat} (h : PB b Np l w W c0 c1) (hb : b < w.heap.size) (hg : W.grownBy W' g) (hn : ∀ k, g = some k → w.heap.size + 1 ≤ k ∧ k ≠ Np) : PB b Np l w W' c0 c1 :=
  ⟨rd_grown h.rd hg (fun e => by have := hn b e.symm; omega), blk_grown h.bx hg (fun e => by have := hn _ e.symm; omega), blk_grown h.rs hg (fun e => by have := hn _ e.symm; omega), gb_new h.gb hg (fun k hk => by have := hn k hk; omega)⟩
end
theorem Off_iff {P : Nat → Bool} {v : Value} {j : Nat} : Off P v j = true ↔ P j = true ∧ v.ownBlock ≠ some j := by
  unfold Off
  simp
end Go.Proofs.YtbfkopjpfkgjhaaGreatDoor
/-
  The strict reader of paths: a path is read.
-/
namespace Go.Proofs.YtbfkopjpfkgjhaaGreatDoor
open Go.RowKit

set_option maxRecDepth 100000 in
set_option maxHeartbeats 8000000 in
theorem readPath_any {α : Type} {A : MemL α} (hA : IsL A) (hS : IsSub A) {rl : List UInt8 → Option (List α × List UInt8)} {d : Int} (hd : 1 ≤ d ∧ d ≤ 3) (hr : Reads A rl (d + 1)) (hrs : Shrinks rl) (b : Nat) (l : List UInt8) (w : World) (h : RdAt b l w) (hl : l.length ≤ maxLen) (hL : Lf w) (hb : 2 ≤ b) :
    Calls Tryz.prog 46 #[.pointer (some ⟨b, 0, none⟩), .int .i64 d] w (PathSays A rl b l w) := by
  have hbw := h.facts.2.2
  have hba := on_alloc w (.cells #[.slice none 0 0, .slice none 0 0] 38)
  have hz0 : (w.alloc (.cells #[.slice none 0 0, .slice none 0 0] 38)).heap.size = w.heap.size + 1 := by simp
  have HX0 : Hid ((w.alloc (.cells #[.slice none 0 0, .slice none 0 0] 38)).heap[w.heap.size]? = _) := World.alloc_heap_new w (.cells #[.slice none 0 0, .slice none 0 0] 38)
  have HG0 : Hid (w.grownBy (w.alloc (.cells #[.slice none 0 0, .slice none 0 0] 38)) (some b)) := gb_on (World.grownBy.refl w _) hba
  have HL : Hid (Lf w) := hL
  have HSP : Hid (∀ (t1 : List UInt8) (W : World), RdAt b t1 W → t1.length ≤ maxLen → Lf W → Calls Tryz.prog 66 #[.pointer (some ⟨b, 0, none⟩), .int .i64 d] W (StepSays A rl b t1 W)) := fun t1 W hr1 hl1 hL1 => readStep_any hA hS hd hr hrs b t1 W hr1 hl1 hL1 hb
  have HRS : Hid (Shrinks rl) := hrs
  have HSUB : Hid (IsSub A) := hS
  have HC0 : Hid (Calls Tryz.prog 66 _ _ _) := HSP.out l (w.alloc (.cells #[.slice none 0 0, .slice none 0 0] 38)) (h.on hba) hl (hL.gb HG0.out hb)
  have hl2 := hl
  unfold maxLen at hl2
  clear h hba hL hr hrs hA hS
  go_enter Tryz.func46, Tryz.ntmps46
  go_wp2_with fail
  generalize w.alloc (.cells #[.slice none 0 0, .slice none 0 0] 38) = W0 at *
  refine HC0.out.mono ?_
  rintro e W1 (⟨hn, rfl, g1⟩ | ⟨s0, l1, au, cu, hn, rfl, row1, r1, g1⟩)
  · have G2 : Hid (w.grownBy W1 (some b)) := gb_chain HG0.out g1
    have HN : Hid (Pl.rdPath rl l = none) := by
      unfold Hid Pl.rdPath
      rw [hn]
    go_wp2
    exact ⟨rfl, Or.inl ⟨HN.out, rfl, G2.out⟩⟩
  have HST : Hid (Pl.rdStep rl l = some (s0, l1)) := hn
  have hle1 := shr_step HRS.out _ _ _ hn
  have hs1 : w.heap.size + 1 ≤ W1.heap.size := by have := g1.size; omega
  have hb3 : Below W1.heap.size W1 ((W1.alloc (.cells #[.string ⟨s0.tag.toArray⟩, .slice au s0.tests.length cu] 56)).alloc (.cells #[.slice (some ⟨W1.heap.size, 0, none⟩) 1 1, .slice none 0 0] 38)) := below_trans (on_alloc W1 (.cells #[.string ⟨s0.tag.toArray⟩, .slice au s0.tests.length cu] 56)) (on_alloc _ (.cells #[.slice (some ⟨W1.heap.size, 0, none⟩) 1 1, .slice none 0 0] 38))
  have HPB : Hid (PB b (W1.heap.size + 1) l1 w ((W1.alloc (.cells #[.string ⟨s0.tag.toArray⟩, .slice au s0.tests.length cu] 56)).alloc (.cells #[.slice (some ⟨W1.heap.size, 0, none⟩) 1 1, .slice none 0 0] 38)) (.slice (some ⟨W1.heap.size, 0, none⟩) 1 1) (.slice none 0 0)) := by
    have hx0 : W1.heap[w.heap.size]? = _ := gb_block HX0.out g1 (by omega)
    refine ⟨r1.on hb3, ?_, (hb3.block _ (by omega)).trans hx0, gb_on (gb_chain HG0.out g1) hb3⟩
    have := World.alloc_heap_new (W1.alloc (.cells #[.string ⟨s0.tag.toArray⟩, .slice au s0.tests.length cu] 56)) (.cells #[.slice (some ⟨W1.heap.size, 0, none⟩) 1 1, .slice none 0 0] 38)
    simp only [World.size_alloc] at this
    exact this
  have HGS : Hid (Grow (pS (w.heap.size + 1) (W1.heap.size + 1) (.slice none 0 0)) (w.heap.size + 1) 56 2 (VS A) ((W1.alloc (.cells #[.string ⟨s0.tag.toArray⟩, .slice au s0.tests.length cu] 56)).alloc (.cells #[.slice (some ⟨W1.heap.size, 0, none⟩) 1 1, .slice none 0 0] 38)) (.slice (some ⟨W1.heap.size, 0, none⟩) 1 1) [s0]) := by
    have h1 : Grow (pS (w.heap.size + 1) (W1.heap.size + 1) (.slice none 0 0)) (w.heap.size + 1) 56 2 (VS A) (W1.alloc (.cells #[.string ⟨s0.tag.toArray⟩, .slice au s0.tests.length cu] 56)) (.slice (some ⟨W1.heap.size, 0, none⟩) 1 1) [s0] := by
      refine Grow.one (isV_s HSUB.out) hs1 (pS_iff.2 ⟨hs1, by omega, by simp [Value.ownBlock]⟩) ⟨_, rfl, row1.map fun b o x hx => hx.sub HSUB.out (incl_mask fun j o x hj hx => ⟨?_, hx⟩)⟩
      have hjw : j < W1.heap.size := cell_lt hx
      simp only [frm, decide_eq_true_eq] at hj
      exact pS_iff.2 ⟨by omega, by omega, by simp [Value.ownBlock]⟩
    exact h1.move (isV_s HSUB.out) fun j hj hjs => ⟨hj, (on_alloc (W1.alloc (.cells #[.string ⟨s0.tag.toArray⟩, .slice au s0.tests.length cu] 56)) (.cells #[.slice (some ⟨W1.heap.size, 0, none⟩) 1 1, .slice none 0 0] 38)).block j hjs⟩
  have HGK : Hid (Grow (pL (W1.heap.size + 1) (.slice (some ⟨W1.heap.size, 0, none⟩) 1 1)) ((W1.heap.size + 1) + 1) 3 1 VI ((W1.alloc (.cells #[.string ⟨s0.tag.toArray⟩, .slice au s0.tests.length cu] 56)).alloc (.cells #[.slice (some ⟨W1.heap.size, 0, none⟩) 1 1, .slice none 0 0] 38)) (.slice none 0 0) []) := Grow.nil _ _ _ _ _ _
  clear hn row1 r1 g1 HC0 HX0 HG0 hz0 hb3
  go_wp2_with fail
  generalize ((W1.alloc (.cells #[.string ⟨s0.tag.toArray⟩, .slice au s0.tests.length cu] 56)).alloc (.cells #[.slice (some ⟨W1.heap.size, 0, none⟩) 1 1, .slice none 0 0] 38)) = W3 at *
  go_loopw [14] (fun _ wr => ∃ (ss : List (Pl.Stp α)) (ks : List Int) (t : List UInt8) (vs vl : Value), ss.length ≤ 5 ∧ Hid (ks.length + 1 = ss.length) ∧ Hid (∃ ss0, ss = s0 :: ss0 ∧ Pl.rdSteps rl 4 l1 = pre2 ss0 ks (Pl.rdSteps rl (5 - ss.length) t)) ∧ Hid (Grow (pS (w.heap.size + 1) (W1.heap.size + 1) vl) (w.heap.size + 1) 56 2 (VS A) wr vs ss) ∧ Hid (Grow (pL (W1.heap.size + 1) vs) ((W1.heap.size + 1) + 1) 3 1 VI wr vl ks) ∧ Hid (PB b (W1.heap.size + 1) t w wr vs vl) ∧ t.length ≤ l.length) (fun _ wr => 5 - lenAt wr ⟨W1.heap.size + 1, 0, none⟩)
  case atStart => exact ⟨[s0], [], l1, _, _, by simp, by simp [Hid], ⟨[], rfl, by unfold pre2; simp only [List.length_singleton, Nat.reduceSub]; cases Pl.rdSteps rl 4 l1 <;> simp⟩, HGS, HGK, HPB, hle1⟩
  case round =>
    obtain ⟨ss, ks, t, vs, vl, hc5, HCK, HCL, HGSr, HGKr, HSR, hlt⟩ := hrel
    clear HGS HGK HPB
    obtain ⟨av, cv, rfl⟩ := HGSr.out.form
    obtain ⟨ak, ck, rfl⟩ := HGKr.out.form
    obtain ⟨y0, y1⟩ := blk2c HSR.out.bx
    have hsr : (W1.heap.size + 1) < wr.heap.size := (Array.getElem?_eq_some_iff.1 HSR.out.bx).1
    by_cases h5 : ss.length < 5
    · have h5i : (ss.length : Int) < 5 := by omega
      go_wp2_with fail
      refine (readLink_any b t _ HSR.out.rd (HL.out.gb HSR.out.gb hb) hb).mono ?_
      rintro e w5 (⟨hbg, rfl, r5, g5⟩ | ⟨k, t1, hbg, rfl, r5, g5⟩)
      · obtain ⟨wM, hwM⟩ : ∃ q, q = w5 := ⟨_, rfl⟩
        subst hwM
        have HC : Hid (∃ ss0, ss = s0 :: ss0 ∧ Pl.rdSteps rl 4 l1 = some (ss0, ks, t)) := by
          obtain ⟨ss0, e1, e2⟩ := HCL.out
          exact ⟨ss0, e1, by rw [e2, rdSteps_stop hbg]; simp [pre2]⟩
        have HG : Hid (Grow (pS (w.heap.size + 1) (W1.heap.size + 1) (.slice ak ks.length ck)) (w.heap.size + 1) 56 2 (VS A) wM (.slice av ss.length cv) ss) := HGSr.out.move (isV_s HSUB.out) fun j hj hjs => ⟨hj, g5.block j hjs (fun e => by injection e with e; rw [pS_iff] at hj; omega)⟩
        have HK : Hid (Grow (pL (W1.heap.size + 1) (.slice av ss.length cv)) ((W1.heap.size + 1) + 1) 3 1 VI wM (.slice ak ks.length ck) ks) := HGKr.out.move isV_i fun j hj hjs => ⟨hj, g5.block j hjs (fun e => by injection e with e; rw [pL_iff] at hj; omega)⟩
        have HSB : Hid (PB b (W1.heap.size + 1) t w wM (.slice av ss.length cv) (.slice ak ks.length ck)) := HSR.out.step hbw (by omega) g5 r5
        clear HGSr HGKr HSR HCL g5 r5 hbg y0 y1
        obtain ⟨y0, y1⟩ := blk2c HSB.out.bx
        obtain ⟨q0, q1⟩ := blk2c HSB.out.rs
        have hfz : ∀ i, wM.frozen? ⟨w.heap.size, i, none⟩ = false := fun i => by simp [World.frozen?, HSB.out.rs]
        have f0 := hfz 0
        have f1 := hfz 1
        have hlS : ss.length ≤ maxLen := by unfold maxLen; omega
        have hlK : ks.length ≤ maxLen := by have := HCK.out; unfold maxLen; omega
        have HRES : Hid (_ = _) := set2_1 (set2_0 HSB.out.rs (.slice av ss.length cv)) (.slice ak ks.length ck)
        have HGF : Hid (w.grownBy _ (some b)) := gb_set (M := w.heap.size) (gb_set (M := w.heap.size) HSB.out.gb (Nat.le_refl _) 0 (.slice av ss.length cv)) (Nat.le_refl _) 1 (.slice ak ks.length ck)
        have HRF : Hid (RdAt b t _) := rd_apart (M := w.heap.size) (j := 1) (rd_apart (M := w.heap.size) (j := 0) HSB.out.rd (by omega) (.slice av ss.length cv)) (by omega) (.slice ak ks.length ck)
        have HROW : Hid (RowAt (StpAt A) 2 (mask (frm w.heap.size) ((wM.setCell ⟨w.heap.size, 0, none⟩ (.slice av ss.length cv)).setCell ⟨w.heap.size, 1, none⟩ (.slice ak ks.length ck))) (.slice av ss.length cv) ss) := (Grow.row (isV_s HSUB.out) HG.out hlS).map fun b o x hx => hx.sub HSUB.out (incl_mask fun j o x hj hx => by
          rw [pS_iff] at hj
          simp only [frm, decide_eq_true_eq]
          exact ⟨by omega, cell_apart (cell_apart hx (by omega)) (by omega)⟩)
        have HROL : Hid (RowAt IntAt 1 (mask (frm w.heap.size) ((wM.setCell ⟨w.heap.size, 0, none⟩ (.slice av ss.length cv)).setCell ⟨w.heap.size, 1, none⟩ (.slice ak ks.length ck))) (.slice ak ks.length ck) ks) := ints_sub (Grow.row isV_i HK.out hlK) (incl_mask fun j o x hj hx => by
          rw [pL_iff] at hj
          simp only [frm, decide_eq_true_eq]
          exact ⟨by omega, cell_apart (cell_apart hx (by omega)) (by omega)⟩)
        have HN : Hid (Pl.rdPath rl l = some (⟨ss, ks⟩, t)) := by
          obtain ⟨ss0, e1, e2⟩ := HC.out
          unfold Hid Pl.rdPath
          rw [HST.out]
          dsimp only
          rw [e2, e1]
        clear hfz HSB HG HK HC hlS hlK
        go_wp2_with fail
        exact bodyPost_ret (results_2 rfl (Or.inr rfl) _ _ w.heap.size rfl HRES.out) rfl (Or.inr ⟨⟨ss, ks⟩, t, av, cv, ak, ck, HN.out, rfl, HROW.out, HROL.out, HRF.out, HGF.out⟩)
      · have hle2 := shr_link _ _ _ _ hbg
        have HS5 : Hid (PB b (W1.heap.size + 1) t1 w w5 (.slice av ss.length cv) (.slice ak ks.length ck)) := HSR.out.step hbw (by omega) g5 r5
        have HG5 : Hid (Grow (pS (w.heap.size + 1) (W1.heap.size + 1) (.slice ak ks.length ck)) (w.heap.size + 1) 56 2 (VS A) w5 (.slice av ss.length cv) ss) := HGSr.out.move (isV_s HSUB.out) fun j hj hjs => ⟨hj, g5.block j hjs (fun e => by injection e with e; rw [pS_iff] at hj; omega)⟩
        have HK5 : Hid (Grow (pL (W1.heap.size + 1) (.slice av ss.length cv)) ((W1.heap.size + 1) + 1) 3 1 VI w5 (.slice ak ks.length ck) ks) := HGKr.out.move isV_i fun j hj hjs => ⟨hj, g5.block j hjs (fun e => by injection e with e; rw [pL_iff] at hj; omega)⟩
        have HOS : Hid (∀ g, (Value.slice av ss.length cv).ownBlock = some g → w.heap.size + 1 ≤ g ∧ g ≠ (W1.heap.size + 1) ∧ g < w5.heap.size ∧ (Value.slice ak ks.length ck).ownBlock ≠ some g) := fun g hg => by
          have h1 := pS_iff.1 (HG5.out.own g hg).1
          exact ⟨h1.1, h1.2.1, HG5.out.lt g hg, h1.2.2⟩
        have HOK : Hid (∀ g, (Value.slice ak ks.length ck).ownBlock = some g → (W1.heap.size + 1) + 1 ≤ g ∧ g < w5.heap.size) := fun g hg => ⟨(HK5.out.own g hg).2, HK5.out.lt g hg⟩
        have hs5 : (W1.heap.size + 1) < w5.heap.size := (Array.getElem?_eq_some_iff.1 HS5.out.bx).1
        have hm0 : lenAt wr ⟨W1.heap.size + 1, 0, none⟩ = ss.length := lenAt_eq y0
        obtain ⟨z0, z1⟩ := blk2c HS5.out.bx
        have hk64 : ks.length + 1 ≤ 64 := by have := HCK.out; omega
        clear g5 r5 y0 y1 HGSr HGKr HSR
        go_wp2_with (at_builtin; refine wpList_grow (P := pL (W1.heap.size + 1) (.slice av ss.length cv)) (B := (W1.heap.size + 1) + 1) isV_i Tryz.underlying36 inf3 rfl (by decide) (by decide) (w2 := w5) (v := (.slice ak ks.length ck)) (l := ks) (x := (k : Int)) (news := [.int .i64 k]) rfl (.tmp 25) (.tmp 27) rfl rfl rfl HK5.out rfl ?hone hk64 (by omega) ?hPH ?_)
        case hone =>
          intro u hu
          simp only [List.mem_cons, List.not_mem_nil, or_false] at hu
          subst hu
          rfl
        case hPH => exact pL_iff.2 ⟨by omega, fun e => by have := (HOS.out _ e).2.2.1; omega⟩
        intro g cap' w6 hrow hgr hat
        have HS6 : Hid (PB b (W1.heap.size + 1) t1 w w6 (.slice av ss.length cv) (.slice ak ks.length ck)) := (HS5.out.on (on_alloc w5 _)).grown hbw hgr (fun q hq => by have := HOK.out q hq; omega)
        have hg6 : ∀ j, j < w5.heap.size → (Value.slice ak ks.length ck).ownBlock ≠ some j → w6.heap[j]? = w5.heap[j]? := fun j hj hne => (hgr.block j (by simp; omega) (fun e => hne e.symm)).trans ((on_alloc w5 _).block j hj)
        have hs6 : w5.heap.size + 1 ≤ w6.heap.size := by
          have := hgr.size
          simpa using this
        have hgB : (W1.heap.size + 1) + 1 ≤ g ∧ g < w6.heap.size := by
          have h1 := hrow.own g rfl
          exact ⟨h1.2, hrow.lt g rfl⟩
        have HS7 : Hid (PB b (W1.heap.size + 1) t1 w (w6.setCell ⟨W1.heap.size + 1, 1, none⟩ (.slice (some ⟨g, 0, none⟩) (ks.length + 1) cap')) (.slice av ss.length cv) (.slice (some ⟨g, 0, none⟩) (ks.length + 1) cap')) := HS6.out.put hbw (by omega) 1 _ (set2_1 HS6.out.bx _)
        have HG7 : Hid (Grow (pS (w.heap.size + 1) (W1.heap.size + 1) (.slice (some ⟨g, 0, none⟩) (ks.length + 1) cap')) (w.heap.size + 1) 56 2 (VS A) (w6.setCell ⟨W1.heap.size + 1, 1, none⟩ (.slice (some ⟨g, 0, none⟩) (ks.length + 1) cap')) (.slice av ss.length cv) ss) := HG5.out.move (isV_s HSUB.out) fun j hj hjs => by
          rw [pS_iff] at hj ⊢
          refine ⟨⟨hj.1, hj.2.1, ?_⟩, ?_⟩
          · intro e
            simp [Value.ownBlock] at e
            rcases hat with h1 | h1
            · rw [e] at h1
              exact hj.2.2 h1
            · omega
          · rw [Below.heap_setCell _ _ _ _ (by show j ≠ (W1.heap.size + 1); exact hj.2.1)]
            exact hg6 j hjs hj.2.2
        have HK7 : Hid (Grow (pL (W1.heap.size + 1) (.slice av ss.length cv)) ((W1.heap.size + 1) + 1) 3 1 VI (w6.setCell ⟨W1.heap.size + 1, 1, none⟩ (.slice (some ⟨g, 0, none⟩) (ks.length + 1) cap')) (.slice (some ⟨g, 0, none⟩) (ks.length + 1) cap') (ks ++ [(k : Int)])) := hrow.move isV_i fun j hj hjs => by
          refine ⟨hj, ?_⟩
          rw [pL_iff] at hj
          exact Below.heap_setCell _ _ _ _ (by show j ≠ (W1.heap.size + 1); omega)
        have HOS7 : Hid (∀ q, (Value.slice av ss.length cv).ownBlock = some q → w.heap.size + 1 ≤ q ∧ q ≠ (W1.heap.size + 1) ∧ q < w6.heap.size ∧ q ≠ g) := fun q hq => by
          have h1 := pS_iff.1 (HG7.out.own q hq).1
          exact ⟨h1.1, h1.2.1, by have := (HOS.out q hq).2.2.1; omega, fun e => h1.2.2 (by rw [e]; rfl)⟩
        have z6 := (blk2c HS6.out.bx).2
        have z60 := (blk2c HS6.out.bx).1
        have f61 := HS6.out.frozen 1
        clear hrow hat hg6 HG5 HK5 HOS HOK HS5
        go_wp2_with fail
        clear z6 z60 f61 z0 z1 hgr HS6
        have hsz7 : ((w6.setCell ⟨W1.heap.size + 1, 1, none⟩ (.slice (some ⟨g, 0, none⟩) (ks.length + 1) cap'))).heap.size = w6.heap.size := by simp [World.setCell]
        generalize (w6.setCell ⟨W1.heap.size + 1, 1, none⟩ (.slice (some ⟨g, 0, none⟩) (ks.length + 1) cap')) = w7 at *
        have hl7 : t1.length ≤ maxLen := Nat.le_trans (Nat.le_trans hle2 hlt) hl
        have HTT := HSP.out t1 w7.drew HS7.out.rd hl7 (HL.out.gb (gb_drew HS7.out.gb) hb)
        have z7 := (blk2c HS7.out.bx).1
        have zd : w7.drew.cell? ⟨W1.heap.size + 1, 0, none⟩ = some (.slice av ss.length cv) := z7
        rcases hnm : Pl.rdStep rl t1 with _ | ⟨st, t2⟩
        · have HC : Hid (Pl.rdPath rl l = none) := by
            obtain ⟨ss0, e1, e2⟩ := HCL.out
            unfold Hid Pl.rdPath
            rw [HST.out]
            dsimp only
            rw [e2, show 5 - ss.length = (4 - ss.length) + 1 by omega, rdSteps_bad hbg hnm]
            rfl
          have HTN : Hid (Calls Tryz.prog 66 _ _ _) := step_none HTT hnm
          have HG7w : Hid (w.grownBy w7 (some b)) := HS7.out.gb
          clear HTT HCL HG7 HK7 HS7
          refine wp_region_any (by kernel_rfl) ?_
          change wpAny _ _ _ _ _ _ _ (World.drew _)
          refine wpAny_take (i := 0) (v := .pointer (some ⟨W1.heap.size + 1, 0, none⟩)) rfl (by kernel_rfl) (by kernel_rfl) (by kernel_rfl) (fun _ _ _ h => h) (Or.inl ⟨by rfl, ?_⟩) ?_
          · intro w; go_simp
          refine wpAny_take (i := 2) (v := .pointer (some ⟨b, 0, none⟩)) rfl (by kernel_rfl) (by kernel_rfl) (by kernel_rfl) (fun _ _ _ h => h) (Or.inl ⟨by rfl, ?_⟩) ?_
          · intro w; go_simp
          refine wpAny_take (i := 3) (v := .int .i64 d) rfl (by kernel_rfl) (by kernel_rfl) (by kernel_rfl) (fun _ _ _ h => h) (Or.inl ⟨by rfl, ?_⟩) ?_
          · intro w; go_simp
          refine wpAny_ready (rs := [1, 4]) (by kernel_rfl) (by simp) ?_
          refine AllReady.cons rfl (fun K hK => ?_) ?_
          · go_simp
            refine hK _ _ ?_
            clear hK K
            refine wpAny_ready (rs := [4]) (by kernel_rfl) (by simp) ?_
            refine AllReady.cons rfl (fun K hK => ?_) AllReady.nil
            go_simp
            refine HTN.out.mono ?_
            rintro e w8 ⟨rfl, g8⟩
            have G8 : Hid (w.grownBy w8 (some b)) := gb_chain (gb_drew HG7w.out) g8
            go_wp2
            exact ⟨rfl, Or.inl ⟨HC.out, rfl, G8.out⟩⟩
          · refine AllReady.cons rfl (fun K hK => ?_) AllReady.nil
            go_simp
            refine HTN.out.mono ?_
            rintro e w8 ⟨rfl, g8⟩
            have G8 : Hid (w.grownBy w8 (some b)) := gb_chain (gb_drew HG7w.out) g8
            go_wp2
            exact ⟨rfl, Or.inl ⟨HC.out, rfl, G8.out⟩⟩
        · have HC : Hid (∃ ss0, ss ++ [st] = s0 :: ss0 ∧ Pl.rdSteps rl 4 l1 = pre2 ss0 (ks ++ [(k : Int)]) (Pl.rdSteps rl (5 - (ss ++ [st]).length) t2)) := by
            obtain ⟨ss0, e1, e2⟩ := HCL.out
            refine ⟨ss0 ++ [st], by rw [e1]; rfl, ?_⟩
            have e : 5 - (ss ++ [st]).length = 4 - ss.length := by
              rw [List.length_append]
              simp only [List.length_singleton]
              omega
            rw [e2, show 5 - ss.length = (4 - ss.length) + 1 by omega, rdSteps_go ss0 ks hbg hnm, e]
          have HTY : Hid (Calls Tryz.prog 66 _ _ _) := step_some HTT hnm
          have hle3 := shr_step HRS.out _ _ _ hnm
          clear HTT HCL
          go_region_law (first | (go_simp; go_at_call 66; refine HTY.out.mono ?_; rintro e w8 ⟨au2, cu2, rfl, ha8, r8, g8⟩; have HS8 : Hid (PB b (W1.heap.size + 1) t2 w w8 (.slice av ss.length cv) (.slice (some ⟨g, 0, none⟩) (ks.length + 1) cap')) := HS7.out.step hbw (by omega) (drew_gb g8) r8; have HG8 : Hid (Grow (pS (w.heap.size + 1) (W1.heap.size + 1) (.slice (some ⟨g, 0, none⟩) (ks.length + 1) cap')) (w.heap.size + 1) 56 2 (VS A) w8 (.slice av ss.length cv) ss) := HG7.out.move (isV_s HSUB.out) (fun j hj hjs => ⟨hj, (drew_gb g8).block j hjs (fun e => by injection e with e; rw [pS_iff] at hj; omega)⟩); have HK8 : Hid (Grow (pL (W1.heap.size + 1) (.slice av ss.length cv)) ((W1.heap.size + 1) + 1) 3 1 VI w8 (.slice (some ⟨g, 0, none⟩) (ks.length + 1) cap') (ks ++ [(k : Int)])) := HK7.out.move isV_i (fun j hj hjs => ⟨hj, (drew_gb g8).block j hjs (fun e => by injection e with e; rw [pL_iff] at hj; omega)⟩); have hs8 : w7.heap.size ≤ w8.heap.size := (drew_gb g8).size; have HNW : Hid (VS A (mask (Off (pS (w.heap.size + 1) (W1.heap.size + 1) (.slice (some ⟨g, 0, none⟩) (ks.length + 1) cap')) (.slice av ss.length cv)) w8) [.string ⟨st.tag.toArray⟩, .slice au2 st.tests.length cu2] st) := ⟨_, rfl, ha8.map fun b o x hx => hx.sub HSUB.out (incl_mask fun j o x hj hx => ⟨by simp only [frm, decide_eq_true_eq] at hj; change w7.heap.size ≤ j at hj; exact Off_iff.2 ⟨pS_iff.2 ⟨by omega, by omega, by simp [Value.ownBlock]; omega⟩, fun e => by have := (HOS7.out j e).2.2.1; omega⟩, hx⟩)⟩; have q8 := (blk2c HS8.out.bx).1; have q8a := cell_on (on_alloc w8 (.cells #[.string ⟨st.tag.toArray⟩, .slice au2 st.tests.length cu2] 56)) q8; clear ha8 r8 g8) | (refine step_grow (P := pS (w.heap.size + 1) (W1.heap.size + 1) (.slice (some ⟨g, 0, none⟩) (ks.length + 1) cap')) (B := w.heap.size + 1) (isV_s HSUB.out) Tryz.underlying35 inf56 rfl (by decide) (by decide) (w2 := w8) (v := (.slice av ss.length cv)) (l := ss) (x := st) (news := [.string ⟨st.tag.toArray⟩, .slice au2 st.tests.length cu2]) rfl (.tmp 31) (.tmp 35) rfl rfl rfl HG8.out HNW.out (by intro u hu; simp only [List.mem_cons, List.not_mem_nil, or_false] at hu; rcases hu with rfl | rfl <;> rfl) (by omega) (by omega) (pS_iff.2 ⟨by omega, by omega, by simp [Value.ownBlock]; omega⟩) ?_; intro gs cap2 w9 hrow2 hgr2 hat2; have HS9 : Hid (PB b (W1.heap.size + 1) t2 w w9 (.slice av ss.length cv) (.slice (some ⟨g, 0, none⟩) (ks.length + 1) cap')) := (HS8.out.on (on_alloc w8 _)).grown hbw hgr2 (fun q hq => ⟨(HOS7.out q hq).1, (HOS7.out q hq).2.1⟩); have q9 := (blk2c HS9.out.bx).1; have qf9 := HS9.out.frozen 0))
          all_goals
            have HSA : Hid (PB b (W1.heap.size + 1) t2 w (w9.setCell ⟨W1.heap.size + 1, 0, none⟩ (.slice (some ⟨gs, 0, none⟩) (ss.length + 1) cap2)) (.slice (some ⟨gs, 0, none⟩) (ss.length + 1) cap2) (.slice (some ⟨g, 0, none⟩) (ks.length + 1) cap')) := HS9.out.put hbw (by omega) 0 _ (set2_0 HS9.out.bx _)
            have HGA : Hid (Grow (pS (w.heap.size + 1) (W1.heap.size + 1) (.slice (some ⟨g, 0, none⟩) (ks.length + 1) cap')) (w.heap.size + 1) 56 2 (VS A) (w9.setCell ⟨W1.heap.size + 1, 0, none⟩ (.slice (some ⟨gs, 0, none⟩) (ss.length + 1) cap2)) (.slice (some ⟨gs, 0, none⟩) (ss.length + 1) cap2) (ss ++ [st])) := hrow2.move (isV_s HSUB.out) fun j hj _ => ⟨hj, Below.heap_setCell _ _ _ _ (by show j ≠ (W1.heap.size + 1); rw [pS_iff] at hj; exact hj.2.1)⟩
            have HKA : Hid (Grow (pL (W1.heap.size + 1) (.slice (some ⟨gs, 0, none⟩) (ss.length + 1) cap2)) ((W1.heap.size + 1) + 1) 3 1 VI (w9.setCell ⟨W1.heap.size + 1, 0, none⟩ (.slice (some ⟨gs, 0, none⟩) (ss.length + 1) cap2)) (.slice (some ⟨g, 0, none⟩) (ks.length + 1) cap') (ks ++ [(k : Int)])) := HK8.out.move isV_i fun j hj hjs => by
              rw [pL_iff] at hj ⊢
              refine ⟨⟨hj.1, ?_⟩, ?_⟩
              · intro e
                simp [Value.ownBlock] at e
                rcases hat2 with h1 | h1
                · rw [e] at h1
                  exact hj.2 h1
                · omega
              · rw [Below.heap_setCell _ _ _ _ (by show j ≠ (W1.heap.size + 1); omega)]
                exact (hgr2.block j (by simp; omega) (fun e => hj.2 e.symm)).trans ((on_alloc w8 _).block j hjs)
            have hmA : 5 - lenAt (w9.setCell ⟨W1.heap.size + 1, 0, none⟩ (.slice (some ⟨gs, 0, none⟩) (ss.length + 1) cap2)) ⟨W1.heap.size + 1, 0, none⟩ < 5 - lenAt wr ⟨W1.heap.size + 1, 0, none⟩ := by
              rw [lenAt_eq (blk2c HSA.out.bx).1, hm0]
              omega
            have hlA : (ss ++ [st]).length ≤ 5 := by
              rw [List.length_append]
              simp only [List.length_singleton]
              omega
            have HCA : Hid ((ks ++ [(k : Int)]).length + 1 = (ss ++ [st]).length) := by
              unfold Hid
              rw [List.length_append, List.length_append, ← HCK.out]
              rfl
            clear hrow2 hgr2 hat2 HS9 q9 qf9 HS8 HG8 HK8 HNW q8 q8a hm0
            go_wp2
            exact ⟨⟨ss ++ [st], ks ++ [(k : Int)], t2, _, _, hlA, HCA, HC, HGA, HKA, HSA, by omega⟩, hmA⟩
    · have h5i : ¬ (ss.length : Int) < 5 := by omega
      obtain ⟨wM, hwM⟩ : ∃ q, q = wr := ⟨_, rfl⟩
      subst hwM
      have HC : Hid (∃ ss0, ss = s0 :: ss0 ∧ Pl.rdSteps rl 4 l1 = some (ss0, ks, t)) := by
        obtain ⟨ss0, e1, e2⟩ := HCL.out
        exact ⟨ss0, e1, by rw [e2, show 5 - ss.length = 0 by omega]; simp [pre2, Pl.rdSteps]⟩
      have HG := HGSr
      have HK := HGKr
      have HSB := HSR
      clear HGSr HGKr HSR HCL y0 y1
      obtain ⟨y0, y1⟩ := blk2c HSB.out.bx
      obtain ⟨q0, q1⟩ := blk2c HSB.out.rs
      have hfz : ∀ i, wM.frozen? ⟨w.heap.size, i, none⟩ = false := fun i => by simp [World.frozen?, HSB.out.rs]
      have f0 := hfz 0
      have f1 := hfz 1
      have hlS : ss.length ≤ maxLen := by unfold maxLen; omega
      have hlK : ks.length ≤ maxLen := by have := HCK.out; unfold maxLen; omega
      have HRES : Hid (_ = _) := set2_1 (set2_0 HSB.out.rs (.slice av ss.length cv)) (.slice ak ks.length ck)
      have HGF : Hid (w.grownBy _ (some b)) := gb_set (M := w.heap.size) (gb_set (M := w.heap.size) HSB.out.gb (Nat.le_refl _) 0 (.slice av ss.length cv)) (Nat.le_refl _) 1 (.slice ak ks.length ck)
      have HRF : Hid (RdAt b t _) := rd_apart (M := w.heap.size) (j := 1) (rd_apart (M := w.heap.size) (j := 0) HSB.out.rd (by omega) (.slice av ss.length cv)) (by omega) (.slice ak ks.length ck)
      have HROW : Hid (RowAt (StpAt A) 2 (mask (frm w.heap.size) ((wM.setCell ⟨w.heap.size, 0, none⟩ (.slice av ss.length cv)).setCell ⟨w.heap.size, 1, none⟩ (.slice ak ks.length ck))) (.slice av ss.length cv) ss) := (Grow.row (isV_s HSUB.out) HG.out hlS).map fun b o x hx => hx.sub HSUB.out (incl_mask fun j o x hj hx => by
        rw [pS_iff] at hj
        simp only [frm, decide_eq_true_eq]
        exact ⟨by omega, cell_apart (cell_apart hx (by omega)) (by omega)⟩)
      have HROL : Hid (RowAt IntAt 1 (mask (frm w.heap.size) ((wM.setCell ⟨w.heap.size, 0, none⟩ (.slice av ss.length cv)).setCell ⟨w.heap.size, 1, none⟩ (.slice ak ks.length ck))) (.slice ak ks.length ck) ks) := ints_sub (Grow.row isV_i HK.out hlK) (incl_mask fun j o x hj hx => by
        rw [pL_iff] at hj
        simp only [frm, decide_eq_true_eq]
        exact ⟨by omega, cell_apart (cell_apart hx (by omega)) (by omega)⟩)
      have HN : Hid (Pl.rdPath rl l = some (⟨ss, ks⟩, t)) := by
        obtain ⟨ss0, e1, e2⟩ := HC.out
        unfold Hid Pl.rdPath
        rw [HST.out]
        dsimp only
        rw [e2, e1]
      clear hfz HSB HG HK HC hlS hlK
      go_wp2_with fail
      exact bodyPost_ret (results_2 rfl (Or.inr rfl) _ _ w.heap.size rfl HRES.out) rfl (Or.inr ⟨⟨ss, ks⟩, t, av, cv, ak, ck, HN.out, rfl, HROW.out, HROL.out, HRF.out, HGF.out⟩)
end Go.Proofs.YtbfkopjpfkgjhaaGreatDoor
