/-
  The strict reader of paths: a list is read; the three levels.
-/
import Derived.Test.YtbfkopjpfkgjhaaGreatDoorRdL
import Derived.Defers
import Derived.Recover
namespace Go.Proofs.YtbfkopjpfkgjhaaGreatDoor
open Go.RowKit

section
variable {α : Type} {rl : List UInt8 → Option (List α × List UInt8)}
theorem rdPaths_stop {n : Nat} {l : List UInt8} (h : Pl.tk [44, 32] l = none) : Pl.rdPaths rl n l = some ([], l) := by
  cases n with
  | zero => rfl
  | succ n => unfold Pl.rdPaths; rw [h]
theorem rdPaths_bad {n : Nat} {l l1 : List UInt8} (h : Pl.tk [44, 32] l = some l1) (h2 : Pl.rdPath rl l1 = none) : Pl.rdPaths rl (n + 1) l = none := by
  unfold Pl.rdPaths; rw [h]; simp only; rw [h2]
theorem rdPaths_go {n : Nat} {l l1 r : List UInt8} {s : Pl.Pth α} (ss : List (Pl.Pth α)) (h : Pl.tk [44, 32] l = some l1) (h2 : Pl.rdPath rl l1 = some (s, r)) : preT ss (Pl.rdPaths rl (n + 1) l) = preT (ss ++ [s]) (Pl.rdPaths rl n r) := by
  conv => lhs; unfold Pl.rdPaths
  rw [h]; simp only; rw [h2]; simp only
  cases Pl.rdPaths rl n r with
  | none => rfl
  | some p => obtain ⟨a, b⟩ := p; simp [preT]
theorem shr_paths (hr : Shrinks rl) : ∀ n, Shrinks (Pl.rdPaths rl n)
  | 0 => fun l x r h => by
    simp only [Pl.rdPaths, Option.some.injEq, Prod.mk.injEq] at h
    rw [h.2]
    exact Nat.le_refl _
  | n + 1 => fun l x r h => by
    unfold Pl.rdPaths at h
    split at h
    · simp only [Option.some.injEq, Prod.mk.injEq] at h
      rw [h.2]
      exact Nat.le_refl _
    · rename_i l1 e1
      split at h
      · cases h
      rename_i t l2 e2
      split at h
      · cases h
      rename_i ts l3 e3
      simp only [Option.some.injEq, Prod.mk.injEq] at h
      have a1 := Pl.tk_len e1
      have a2 := shr_path hr _ _ _ e2
      have a3 := shr_paths hr n _ _ _ e3
      rw [← h.2]
      omega
theorem shr_list (hr : Shrinks rl) : Shrinks (Pl.rdList rl) := fun l x r h => by
  unfold Pl.rdList at h
  split at h
  · cases h
  rename_i s l1 e1
  split at h
  · cases h
  rename_i ss l2 e2
  simp only [Option.some.injEq, Prod.mk.injEq] at h
  have a1 := shr_path hr _ _ _ e1
  have a2 := shr_paths hr _ _ _ _ e2
  rw [← h.2]
  omega
end
/-- how many a list has -/
def lenV : Value → Nat | .slice _ n _ => n | _ => 0
theorem lists_end {α : Type} {A : MemL α} (hS : IsSub A) {rl : List UInt8 → Option (List α × List UInt8)} {b : Nat} {l t : List UInt8} {w W : World} {ps : List (Pl.Pth α)} {av : Option Addr} {cv : Nat} (hN : Pl.rdList rl l = some (ps, t)) (hG : Grow (frm w.heap.size) w.heap.size 38 2 (VP A) W (.slice av ps.length cv) ps) (hl : ps.length ≤ 5) (hR : RdAt b t W) (hg : w.grownBy W (some b)) : ListSays (LstAt A) (Pl.rdList rl) b l w (.returned (.slice av ps.length cv)) W :=
  Or.inr ⟨ps, t, av, cv, hN, rfl, Grow.row (isV_p hS) hG (by unfold maxLen; omega), hR, hg⟩
set_option maxRecDepth 100000 in
set_option maxHeartbeats 8000000 in
theorem reads_up {α : Type} {A : MemL α} (hA : IsL A) (hS : IsSub A) {rl : List UInt8 → Option (List α × List UInt8)} {d : Int} (hd : 1 ≤ d ∧ d ≤ 3) (hr : Reads A rl (d + 1)) (hrs : Shrinks rl) : Reads (LstAt A) (Pl.rdList rl) d := by
  intro b l w h hl hL hb
  have hbw := h.facts.2.2
  have HL : Hid (Lf w) := hL
  have HPP : Hid (∀ (t1 : List UInt8) (W : World), RdAt b t1 W → t1.length ≤ maxLen → Lf W → Calls Tryz.prog 46 #[.pointer (some ⟨b, 0, none⟩), .int .i64 d] W (PathSays A rl b t1 W)) := fun t1 W hr1 hl1 hL1 => readPath_any hA hS hd hr hrs b t1 W hr1 hl1 hL1 hb
  have HRS : Hid (Shrinks rl) := hrs
  have HSUB : Hid (IsSub A) := hS
  have HC0 : Hid (Calls Tryz.prog 46 _ _ _) := HPP.out l w h hl hL
  have hd3 : ¬ 3 < d := by omega
  have hl2 := hl
  unfold maxLen at hl2
  clear h hL hr hrs hA hS
  go_enter Tryz.func25, Tryz.ntmps25
  go_wp2_with fail
  refine HC0.out.mono ?_
  rintro e W1 (⟨hn, rfl, g1⟩ | ⟨p0, l1, au, cu, av, cv, hn, rfl, row1, rol1, r1, g1⟩)
  · have HN : Hid (Pl.rdList rl l = none) := by
      unfold Hid Pl.rdList
      rw [hn]
    have G1 : Hid (w.grownBy W1 (some b)) := g1
    go_wp2
    exact ⟨rfl, Or.inl ⟨HN.out, rfl, G1.out⟩⟩
  have HST : Hid (Pl.rdPath rl l = some (p0, l1)) := hn
  have hle1 := shr_path HRS.out _ _ _ hn
  have hs1 := g1.size
  have hb3 := on_alloc W1 (.cells #[.slice au p0.steps.length cu, .slice av p0.links.length cv] 38)
  have HRD : Hid (RdAt b l1 (W1.alloc (.cells #[.slice au p0.steps.length cu, .slice av p0.links.length cv] 38))) := r1.on hb3
  have HGB : Hid (w.grownBy (W1.alloc (.cells #[.slice au p0.steps.length cu, .slice av p0.links.length cv] 38)) (some b)) := gb_on g1 hb3
  have HGR : Hid (Grow (frm w.heap.size) w.heap.size 38 2 (VP A) (W1.alloc (.cells #[.slice au p0.steps.length cu, .slice av p0.links.length cv] 38)) (.slice (some ⟨W1.heap.size, 0, none⟩) 1 1) [p0]) :=
    Grow.one (isV_p HSUB.out) hs1 (by simp only [frm, decide_eq_true_eq]; exact hs1) ⟨_, _, rfl, row1, rol1⟩
  clear hn row1 rol1 r1 g1 HC0 hb3
  go_wp2_with fail
  generalize W1.alloc (.cells #[.slice au p0.steps.length cu, .slice av p0.links.length cv] 38) = W3 at *
  go_loopw [5] (fun v wr => ∃ (ps : List (Pl.Pth α)) (t : List UInt8), ps.length ≤ 5 ∧ Hid (∃ ps0, ps = p0 :: ps0 ∧ Pl.rdPaths rl 4 l1 = preT ps0 (Pl.rdPaths rl (5 - ps.length) t)) ∧ Hid (Grow (frm w.heap.size) w.heap.size 38 2 (VP A) wr v ps) ∧ Hid (RdAt b t wr) ∧ Hid (w.grownBy wr (some b)) ∧ t.length ≤ l.length) (fun v _ => 5 - lenV v)
  case atStart => exact ⟨[p0], l1, by simp, ⟨[], rfl, by unfold preT; simp only [List.length_singleton, Nat.reduceSub]; cases Pl.rdPaths rl 4 l1 <;> simp⟩, HGR, HRD, HGB, hle1⟩
  case round =>
    obtain ⟨ps, t, hc5, HCL, HGRr, HRr, HGr, hlt⟩ := hrel
    clear HGR HRD HGB
    obtain ⟨ap, cp, rfl⟩ := HGRr.out.form
    by_cases h5 : ps.length < 5
    · have h5i : (ps.length : Int) < 5 := by omega
      cases htk : Pl.tk [44, 32] t with
      | none =>
        have HC : Hid (Pl.rdList rl l = some (ps, t)) := by
          obtain ⟨ps0, e1, e2⟩ := HCL.out
          unfold Hid Pl.rdList
          rw [HST.out]
          dsimp only
          rw [e2, rdPaths_stop htk, e1]
          simp [preT]
        go_wp2_with fail
        refine (takeS_no b [44, 32] t _ HRr.out htk).mono ?_
        rintro e wM ⟨rfl, r5, g5⟩
        have HRM : Hid (RdAt b t wM) := r5
        have HGM : Hid (w.grownBy wM (some b)) := gb_chain HGr.out g5
        have HG : Hid (Grow (frm w.heap.size) w.heap.size 38 2 (VP A) wM (.slice ap ps.length cp) ps) := HGRr.out.move (isV_p HSUB.out) fun j hj hjs => ⟨hj, g5.block j hjs (fun e => by injection e with e; simp only [frm, decide_eq_true_eq] at hj; omega)⟩
        clear HGRr HRr HGr HCL g5 r5 htk
        go_wp2
        go_ret
        exact lists_end HSUB.out HC.out HG.out hc5 HRM.out HGM.out
      | some t1 =>
        have hle2 := Pl.tk_len htk
        go_wp2_with fail
        refine (takeS_yes b [44, 32] t t1 _ HRr.out htk).mono ?_
        rintro e w5 ⟨rfl, r5, g5⟩
        have HR5 : Hid (RdAt b t1 w5) := r5
        have HG5w : Hid (w.grownBy w5 (some b)) := gb_chain HGr.out g5
        have HG5 : Hid (Grow (frm w.heap.size) w.heap.size 38 2 (VP A) w5 (.slice ap ps.length cp) ps) := HGRr.out.move (isV_p HSUB.out) fun j hj hjs => ⟨hj, g5.block j hjs (fun e => by injection e with e; simp only [frm, decide_eq_true_eq] at hj; omega)⟩
        have HTT : Hid (Calls Tryz.prog 46 _ _ _) := HPP.out t1 w5 r5 (Nat.le_trans (Nat.le_trans hle2 hlt) hl) (HL.out.gb HG5w.out hb)
        clear HGRr HRr HGr g5 r5
        go_wp2_with fail
        refine HTT.out.mono ?_
        rintro e w6 (⟨hnm, rfl, g6⟩ | ⟨p1, t2, au2, cu2, av2, cv2, hnm, rfl, row6, rol6, r6, g6⟩)
        · have HC : Hid (Pl.rdList rl l = none) := by
            obtain ⟨ps0, e1, e2⟩ := HCL.out
            unfold Hid Pl.rdList
            rw [HST.out]
            dsimp only
            rw [e2, show 5 - ps.length = (4 - ps.length) + 1 by omega, rdPaths_bad htk hnm]
            rfl
          have G6 : Hid (w.grownBy w6 (some b)) := gb_chain HG5w.out g6
          clear HTT HCL HG5
          go_wp2
          exact ⟨rfl, Or.inl ⟨HC.out, rfl, G6.out⟩⟩
        have HC : Hid (∃ ps0, ps ++ [p1] = p0 :: ps0 ∧ Pl.rdPaths rl 4 l1 = preT ps0 (Pl.rdPaths rl (5 - (ps ++ [p1]).length) t2)) := by
          obtain ⟨ps0, e1, e2⟩ := HCL.out
          refine ⟨ps0 ++ [p1], by rw [e1]; rfl, ?_⟩
          have e : 5 - (ps ++ [p1]).length = 4 - ps.length := by
            rw [List.length_append]
            simp only [List.length_singleton]
            omega
          rw [e2, show 5 - ps.length = (4 - ps.length) + 1 by omega, rdPaths_go ps0 htk hnm, e]
        have hle3 := shr_path HRS.out _ _ _ hnm
        have hOwn : Hid (∀ g, (Value.slice ap ps.length cp).ownBlock = some g → w.heap.size ≤ g ∧ g < w5.heap.size) := fun g hg => ⟨(HG5.out.own g hg).2, HG5.out.lt g hg⟩
        have HG6 : Hid (Grow (frm w.heap.size) w.heap.size 38 2 (VP A) w6 (.slice ap ps.length cp) ps) := HG5.out.move (isV_p HSUB.out) fun j hj hjs => ⟨hj, g6.block j hjs (fun e => by injection e with e; simp only [frm, decide_eq_true_eq] at hj; omega)⟩
        have HG6w : Hid (w.grownBy w6 (some b)) := gb_chain HG5w.out g6
        have hs6 := g6.size
        have hs5 := HG5w.out.size
        have hmk : ∀ j o x, frm w5.heap.size j = true → w6.cell? ⟨j, o, none⟩ = some x → Off (frm w.heap.size) (.slice ap ps.length cp) j = true ∧ w6.cell? ⟨j, o, none⟩ = some x := fun j o x hj hx => by
          simp only [frm, decide_eq_true_eq] at hj
          exact ⟨Off_iff.2 ⟨by simp only [frm, decide_eq_true_eq]; omega, fun e => by have := (hOwn.out j e).2; omega⟩, hx⟩
        have HNW : Hid (VP A (mask (Off (frm w.heap.size) (.slice ap ps.length cp)) w6) [.slice au2 p1.steps.length cu2, .slice av2 p1.links.length cv2] p1) := ⟨_, _, rfl, row6.map fun b o x hx => hx.sub HSUB.out (incl_mask hmk), ints_sub rol6 (incl_mask hmk)⟩
        have HR6 : Hid (RdAt b t2 w6) := r6
        clear HTT HCL HG5 hnm row6 rol6 r6 g6 hmk
        go_wp2_with (at_builtin; refine wpList_grow (P := frm w.heap.size) (B := w.heap.size) (isV_p HSUB.out) Tryz.underlying22 inf38 rfl (by decide) (by decide) (w2 := w6) (v := .slice ap ps.length cp) (l := ps) (x := p1) (news := [.slice au2 p1.steps.length cu2, .slice av2 p1.links.length cv2]) rfl (.tmp 20) (.tmp 24) rfl rfl rfl HG6.out HNW.out ?hone (by omega) (by omega) ?hPH ?_)
        case hone =>
          intro u hu
          simp only [List.mem_cons, List.not_mem_nil, or_false] at hu
          rcases hu with rfl | rfl <;> rfl
        case hPH => simp only [frm, decide_eq_true_eq]; omega
        intro g cap' w7 hrow hgr _
        have HR7 : Hid (RdAt b t2 w7) := rd_grown (HR6.out.on (on_alloc w6 _)) hgr (fun e => by have := hOwn.out b e.symm; omega)
        have HG7w : Hid (w.grownBy w7 (some b)) := gb_new (gb_on HG6w.out (on_alloc w6 _)) hgr (fun q hq => (hOwn.out q hq).1)
        have HG7 : Hid (Grow (frm w.heap.size) w.heap.size 38 2 (VP A) w7 (.slice (some ⟨g, 0, none⟩) (ps.length + 1) cap') (ps ++ [p1])) := hrow
        have hlA : (ps ++ [p1]).length ≤ 5 := by
          rw [List.length_append]
          simp only [List.length_singleton]
          omega
        clear hrow hgr HG6 HNW HR6 HG6w
        go_wp2
        exact ⟨⟨ps ++ [p1], t2, hlA, HC, HG7, HR7, HG7w, by omega⟩, by simp only [lenV]; omega⟩
    · have h5i : ¬ (ps.length : Int) < 5 := by omega
      have HC : Hid (Pl.rdList rl l = some (ps, t)) := by
        obtain ⟨ps0, e1, e2⟩ := HCL.out
        unfold Hid Pl.rdList
        rw [HST.out]
        dsimp only
        rw [e2, show 5 - ps.length = 0 by omega, e1]
        simp [preT, Pl.rdPaths]
      clear HCL
      go_wp2
      go_ret
      exact lists_end HSUB.out HC.out HGRr.out hc5 HRr.out HGr.out
set_option maxHeartbeats 1000000 in
theorem reads_z : Reads ZAt Pl.rd0 4 := by
  intro b l w h hl hL hb
  go_enter Tryz.func25, Tryz.ntmps25
  go_wp2_with (go_at_call 45; refine (refuse_any _).mono ?_; rintro e w' ⟨rfl, rfl⟩)
  exact ⟨rfl, Or.inl ⟨rfl, rfl, World.grownBy.refl _ _⟩⟩
theorem shr_0 : Shrinks Pl.rd0 := fun l x r h => by cases h
theorem reads_1 : Reads A1 Pl.rd1 3 := reads_up isL_z isSub_z (by omega) reads_z shr_0
theorem reads_2 : Reads A2 Pl.rd2 2 := reads_up isL_1 (isSub_up isSub_z) (by omega) reads_1 (shr_list shr_0)
theorem reads_3 : Reads A3 Pl.rd3 1 := reads_up isL_2 (isSub_up (isSub_up isSub_z)) (by omega) reads_2 (shr_list (shr_list shr_0))
theorem isSub_3 : IsSub A3 := isSub_up (isSub_up (isSub_up isSub_z))
end Go.Proofs.YtbfkopjpfkgjhaaGreatDoor
/-
  path.Read.
-/
namespace Go.Proofs.YtbfkopjpfkgjhaaGreatDoor
open Go.RowKit

/-- what Read tells -/
def readErr (l : List UInt8) : Int := if (Pl.rdAll l).isSome = true then 0 else 1
def readLs (l : List UInt8) : List Pl.D3 := (Pl.rdAll l).getD []
def ReadSays (l : List UInt8) (w : World) (e : Ending) (w' : World) : Prop := ∃ au cu, e = .returned (.tuple #[.slice au (readLs l).length cu, .int .i64 (readErr l)]) ∧ A3 w' (.slice au (readLs l).length cu) (readLs l) ∧ Below w.heap.size w w'
theorem ReadSays.mk {l : List UInt8} {w w' : World} {au : Option Addr} {cu : Nat} {k : Int} {x : List Pl.D3} (h1 : readErr l = k) (h2 : readLs l = x) (h3 : A3 w' (.slice au x.length cu) x) (h4 : Below w.heap.size w w') : ReadSays l w (.returned (.tuple #[.slice au x.length cu, .int .i64 k])) w' :=
  ⟨au, cu, by rw [h1, h2], by rw [h2]; exact h3, h4⟩
theorem read_no {l : List UInt8} (h : Pl.rdAll l = none) : readErr l = 1 ∧ readLs l = [] := by
  unfold readErr readLs
  rw [h]
  exact ⟨rfl, rfl⟩
theorem read_yes {l : List UInt8} {x : List Pl.D3} (h : Pl.rdAll l = some x) : readErr l = 0 ∧ readLs l = x := by
  unfold readErr readLs
  rw [h]
  exact ⟨rfl, rfl⟩
set_option maxHeartbeats 1000000 in
theorem rule_any (b : Nat) (l : List UInt8) (w : World) (h : RdAt b l w) (hl : l.length ≤ maxLen) (hL : Lf w) (hb : 2 ≤ b) : Calls Tryz.prog 24 #[.pointer (some ⟨b, 0, none⟩)] w (ListSays A3 Pl.rd3 b l w) := by
  have HC : Hid (Calls Tryz.prog 25 _ _ _) := reads_3 b l w h hl hL hb
  clear h hL
  go_enter Tryz.func24, Tryz.ntmps24
  go_wp2_with fail
  refine HC.out.mono ?_
  rintro e w1 (⟨hn, rfl, g1⟩ | ⟨x, r, au, cu, hn, rfl, ha, hr, hg⟩)
  · have G1 : Hid (w.grownBy w1 (some b)) := g1
    have HN : Hid (Pl.rd3 l = none) := hn
    go_wp2
    exact ⟨rfl, Or.inl ⟨HN.out, rfl, G1.out⟩⟩
  · have HA : Hid (ListSays A3 Pl.rd3 b l w (.returned (.slice au x.length cu)) w1) := Or.inr ⟨x, r, au, cu, hn, rfl, ha, hr, hg⟩
    clear hn ha hr hg
    go_wp2
    go_ret
    exact HA.out
theorem caught (g r : Nat) (u : Value) (z : Int) (older : List PanicEntry) (w : World) (hgr : g ≠ r) (c0 : w.cell? ⟨g, 0, none⟩ = some u) (c2 : w.cell? ⟨r, 0, none⟩ = some (.int .i64 z))
    (f0 : w.frozen? ⟨g, 0, none⟩ = false) (f2 : w.frozen? ⟨r, 0, none⟩ = false) :
    CallsD Tryz.prog 44 #[.pointer (some ⟨g, 0, none⟩), .pointer (some ⟨r, 0, none⟩)] (.panicking ({ v := .iface 23 (.int .i64 1), recovered := false } :: older)) w fun e u' w' =>
      e = .returned (.tuple #[]) ∧ u' = .panicking ({ v := .iface 23 (.int .i64 1), recovered := true } :: older) ∧ w' = (w.setCell ⟨g, 0, none⟩ (.slice none 0 0)).setCell ⟨r, 0, none⟩ (.int .i64 1) := by
  refine callsD_of_wpS Tryz.func44 rfl fun c₀ cs hu => ?_
  apply wpS_seq
  apply wpS_region
  simp [wpOpsS, go_sem, recoverD, hu, Tryz.ntmps44, Exit.thenS]
  refine wpS_cond (t := true) (by simp [Act.eval, Array.replicate]) ?_
  simp only [if_true]
  refine wpS_of_wp ?_
  have ht : (#[Value.pointer (some { block := g, off := 0 }), Value.pointer (some { block := r, off := 0 })] ++
          ((Array.replicate 4 undef).setIfInBounds 1 (Value.iface 23 (Value.int IntKind.i64 1))).setIfInBounds 2 (Value.bool true)) =
      #[Value.pointer (some { block := g, off := 0 }), Value.pointer (some { block := r, off := 0 }), undef, Value.iface 23 (Value.int IntKind.i64 1), Value.bool true, undef] := rfl
  rw [ht]
  clear ht
  go_wp2
  exact ⟨rfl, _, rfl, _, by simp [results, Tryz.results44], rfl, rfl, rfl⟩
theorem idle (g r : Nat) (w : World) :
    CallsD Tryz.prog 44 #[.pointer (some ⟨g, 0, none⟩), .pointer (some ⟨r, 0, none⟩)] .returning w fun e u' w' => e = .returned (.tuple #[]) ∧ u' = .returning ∧ w' = w := by
  refine callsD_of_wpS Tryz.func44 rfl fun c₀ cs hu => ?_
  apply wpS_seq
  apply wpS_region
  simp [wpOpsS, go_sem, recoverD, hu, Tryz.ntmps44, Exit.thenS]
  refine wpS_cond (t := false) (by simp [Act.eval, Array.replicate]) ?_
  simp only [Bool.false_eq_true, if_false]
  refine wpS_of_wp (wp_skip ?_)
  cases c₀
  simp_all [bodyPostS, results, Tryz.results44]
theorem caught_cells (g r : Nat) (u : Value) (z : Int) (older : List PanicEntry) (w : World) (hgr : g < r)
    (c0 : w.cell? ⟨g, 0, none⟩ = some u) (c2 : w.cell? ⟨r, 0, none⟩ = some (.int .i64 z))
    (f0 : w.frozen? ⟨g, 0, none⟩ = false) (f2 : w.frozen? ⟨r, 0, none⟩ = false) :
    CallsD Tryz.prog 44 #[.pointer (some ⟨g, 0, none⟩), .pointer (some ⟨r, 0, none⟩)] (.panicking ({ v := .iface 23 (.int .i64 1), recovered := false } :: older)) w fun e u' w' =>
      e = .returned (.tuple #[]) ∧ u' = .panicking ({ v := .iface 23 (.int .i64 1), recovered := true } :: older) ∧ w'.cell? ⟨g, 0, none⟩ = some (.slice none 0 0) ∧ w'.cell? ⟨r, 0, none⟩ = some (.int .i64 1) ∧ Below g w w' := by
  refine (caught g r u z older w (by omega) c0 c2 f0 f2).mono ?_
  rintro e u' w' ⟨rfl, rfl, rfl⟩
  refine ⟨rfl, rfl, cell_apart (Nt.set_same _ ⟨_, c0⟩) (by omega), Nt.set_same _ (Nt.still_some _ _ ⟨_, c2⟩), ?_⟩
  exact ((Below.refl _ _).setCell (p := ⟨g, 0, none⟩) (Nat.le_refl _) _).setCell (p := ⟨r, 0, none⟩) (Nat.le_of_lt hgr) _
theorem below_gb {w W w' : World} {b : Nat} (h : Below w.heap.size w W) (hg : W.grownBy w' (some b)) (hb : w.heap.size ≤ b) : Below w.heap.size w w' :=
  h.trans ⟨hg.os, hg.tape, hg.output, hg.size, fun k hk => hg.block k (Nat.lt_of_lt_of_le hk h.size) (by intro e; injection e with e; omega)⟩
theorem boxes3 (w : World) (o1 o2 o3 : Obj) : Below w.heap.size w (((w.alloc o1).alloc o2).alloc o3) := (((Below.refl w.heap.size w).alloc (Nat.le_refl _) o1).alloc (by simp) o2).alloc (by simp; omega) o3
theorem Lf.on {w w' : World} (h : Lf w) (hb : Below w.heap.size w w') : Lf w' := ⟨h.forms.on hb, h.links.on hb⟩
theorem Lf.two {w : World} (h : Lf w) : 2 ≤ w.heap.size := by
  have : 1 < w.heap.size := cell_lt (h.links 0 (by omega))
  omega
set_option maxRecDepth 100000 in
set_option maxHeartbeats 2000000 in
theorem whole_any (l : List UInt8) (w : World) (hl : l.length ≤ maxLen) (hL : Lf w) :
    Calls Tryz.prog 23 #[.string ⟨l.toArray⟩, .func (.func 24) #[] #[]] w (ReadSays l w) := by
  have hmf : ∀ (fn : Fn) (first cap : Array Value) (w : World), (Instr.makeFunc fn first cap).run Tryz.prog w = .ok (.func fn first cap) w := fun _ _ _ _ => rfl
  have h2 := hL.two
  have hB0 := boxes3 w (.cells #[.slice none 0 0] 22) (.cells #[.int .i64 0] 23) (.cells #[.string ⟨l.toArray⟩] 87)
  have x0 : (((w.alloc (.cells #[.slice none 0 0] 22)).alloc (.cells #[.int .i64 0] 23)).alloc (.cells #[.string ⟨l.toArray⟩] 87)).heap[w.heap.size]? = some (.cells #[.slice none 0 0] 22) :=
    ((on_alloc _ _).block _ (by simp; omega)).trans (((on_alloc _ _).block _ (by simp)).trans (World.alloc_heap_new w _))
  have x1 : (((w.alloc (.cells #[.slice none 0 0] 22)).alloc (.cells #[.int .i64 0] 23)).alloc (.cells #[.string ⟨l.toArray⟩] 87)).heap[w.heap.size + 1]? = some (.cells #[.int .i64 0] 23) := by
    have := World.alloc_heap_new (w.alloc (.cells #[.slice none 0 0] 22)) (.cells #[.int .i64 0] 23)
    rw [show (w.alloc (.cells #[.slice none 0 0] 22)).heap.size = w.heap.size + 1 by simp] at this
    exact ((on_alloc _ _).block _ (by simp)).trans this
  have x2 : RdAt (w.heap.size + 1 + 1) l (((w.alloc (.cells #[.slice none 0 0] 22)).alloc (.cells #[.int .i64 0] 23)).alloc (.cells #[.string ⟨l.toArray⟩] 87)) := by
    have := World.alloc_heap_new ((w.alloc (.cells #[.slice none 0 0] 22)).alloc (.cells #[.int .i64 0] 23)) (.cells #[.string ⟨l.toArray⟩] 87)
    rw [show ((w.alloc (.cells #[.slice none 0 0] 22)).alloc (.cells #[.int .i64 0] 23)).heap.size = w.heap.size + 1 + 1 by simp] at this
    exact this
  have hz : (((w.alloc (.cells #[.slice none 0 0] 22)).alloc (.cells #[.int .i64 0] 23)).alloc (.cells #[.string ⟨l.toArray⟩] 87)).heap.size = w.heap.size + 3 := by simp
  go_enter_defers Tryz.func23, Tryz.ntmps23
  go_wp2_with fail
  generalize ((w.alloc (.cells #[.slice none 0 0] 22)).alloc (.cells #[.int .i64 0] 23)).alloc (.cells #[.string ⟨l.toArray⟩] 87) = w0 at *
  refine (rule_any _ l _ x2 hl (hL.on hB0) (by omega)).mono ?_
  rintro e w1 (⟨hn, rfl, g1⟩ | ⟨x, r, au, cu, hn, rfl, row1, r1, g1⟩)
  · have X0 := gb_block x0 g1 (by omega)
    have X1 := gb_block x1 g1 (by omega)
    have c0 : w1.cell? ⟨w.heap.size, 0, none⟩ = some (.slice none 0 0) := by simp [World.cell?, X0]
    have c1 : w1.cell? ⟨w.heap.size + 1, 0, none⟩ = some (.int .i64 0) := by simp [World.cell?, X1]
    have f0 : w1.frozen? ⟨w.heap.size, 0, none⟩ = false := by simp [World.frozen?, X0]
    have f1 : w1.frozen? ⟨w.heap.size + 1, 0, none⟩ = false := by simp [World.frozen?, X1]
    have hB1 := below_gb hB0 g1 (by omega)
    have HE : Hid (readErr l = 1 ∧ readLs l = []) := read_no (by unfold Pl.rdAll; rw [hn])
    clear g1 hn X0 X1 x0 x1 x2
    go_wp2
    refine leaves_cons (f := 44) (args := #[.pointer (some ⟨w.heap.size, 0, none⟩), .pointer (some ⟨w.heap.size + 1, 0, none⟩)]) (by simp) (by simp [go_sem]) ?_
    refine (caught_cells _ _ _ 0 [] _ (by omega) c0 c1 f0 f1).mono ?_
    rintro e u' w'' ⟨rfl, rfl, d0, d1, hb2⟩
    simp [Leaves, settle, results, Tryz.results23, go_sem, d0, d1]
    exact ReadSays.mk (au := none) (cu := 0) HE.out.1 HE.out.2 (isL_3.nil _) (hB1.trans hb2)
  · have X0 := gb_block x0 g1 (by omega)
    have X1 := gb_block x1 g1 (by omega)
    have c0 : w1.cell? ⟨w.heap.size, 0, none⟩ = some (.slice none 0 0) := by simp [World.cell?, X0]
    have c1 : w1.cell? ⟨w.heap.size + 1, 0, none⟩ = some (.int .i64 0) := by simp [World.cell?, X1]
    have f0 : w1.frozen? ⟨w.heap.size, 0, none⟩ = false := by simp [World.frozen?, X0]
    have f1 : w1.frozen? ⟨w.heap.size + 1, 0, none⟩ = false := by simp [World.frozen?, X1]
    have hB1 := below_gb hB0 g1 (by omega)
    have hB2 := hB1.setCell (p := ⟨w.heap.size, 0, none⟩) (Nat.le_refl _) (.slice au x.length cu)
    obtain ⟨rc, _, _⟩ := (rd_apart (j := 0) r1 (M := w.heap.size) (by omega) (.slice au x.length cu)).facts
    have d0 := Nt.set_same (.slice au x.length cu) ⟨_, c0⟩
    have d1 : (w1.setCell ⟨w.heap.size, 0, none⟩ (.slice au x.length cu)).cell? ⟨w.heap.size + 1, 0, none⟩ = some (.int .i64 0) := cell_apart c1 (by omega)
    have HRow : Hid (A3 (mask (frm w0.heap.size) w1) (.slice au x.length cu) x) := row1
    have HN : Hid (Pl.rd3 l = some (x, r)) := hn
    have HB1 : Hid (Below w.heap.size w w1) := hB1
    clear g1 X0 X1 x0 x1 x2 row1 r1 hn
    cases r with
    | cons ch t =>
      have HE : Hid (readErr l = 1 ∧ readLs l = []) := read_no (by unfold Pl.rdAll; rw [HN.out])
      go_wp2_with (go_at_call 45; refine (refuse_any _).mono ?_; rintro e w' ⟨rfl, rfl⟩)
      refine leaves_cons (f := 44) (args := #[.pointer (some ⟨w.heap.size, 0, none⟩), .pointer (some ⟨w.heap.size + 1, 0, none⟩)]) (by simp) (by simp [go_sem]) ?_
      refine (caught_cells _ _ _ 0 [] _ (by omega) d0 d1 (by simp [f0]) (by simp [f1])).mono ?_
      rintro e u' w'' ⟨rfl, rfl, q0, q1, hb2⟩
      simp [Leaves, settle, results, Tryz.results23, go_sem, q0, q1]
      exact ReadSays.mk (au := none) (cu := 0) HE.out.1 HE.out.2 (isL_3.nil _) (hB2.trans hb2)
    | nil =>
      have HE : Hid (readErr l = 0 ∧ readLs l = x) := read_yes (by unfold Pl.rdAll; rw [HN.out])
      have fA : (w1.setCell ⟨w.heap.size, 0, none⟩ (.slice au x.length cu)).frozen? ⟨w.heap.size, 0, none⟩ = false := by simp [f0]
      have fB : (w1.setCell ⟨w.heap.size, 0, none⟩ (.slice au x.length cu)).frozen? ⟨w.heap.size + 1, 0, none⟩ = false := by simp [f1]
      go_wp2
      refine leaves_cons (f := 44) (args := #[.pointer (some ⟨w.heap.size, 0, none⟩), .pointer (some ⟨w.heap.size + 1, 0, none⟩)]) (by simp) (by simp [go_sem]) ?_
      refine (idle _ _ _).mono ?_
      rintro e u' w'' ⟨rfl, rfl, rfl⟩
      have e0 : (((w1.setCell ⟨w.heap.size, 0, none⟩ (.slice au x.length cu)).setCell ⟨w.heap.size, 0, none⟩ (.slice au x.length cu)).setCell ⟨w.heap.size + 1, 0, none⟩ (.int .i64 0)).cell? ⟨w.heap.size, 0, none⟩ = some (.slice au x.length cu) := cell_apart (Nt.set_same _ ⟨_, d0⟩) (by omega)
      have e1 : (((w1.setCell ⟨w.heap.size, 0, none⟩ (.slice au x.length cu)).setCell ⟨w.heap.size, 0, none⟩ (.slice au x.length cu)).setCell ⟨w.heap.size + 1, 0, none⟩ (.int .i64 0)).cell? ⟨w.heap.size + 1, 0, none⟩ = some (.int .i64 0) := Nt.set_same _ ⟨_, cell_apart d1 (by omega)⟩
      have row3 : A3 (((w1.setCell ⟨w.heap.size, 0, none⟩ (.slice au x.length cu)).setCell ⟨w.heap.size, 0, none⟩ (.slice au x.length cu)).setCell ⟨w.heap.size + 1, 0, none⟩ (.int .i64 0)) (.slice au x.length cu) x := isSub_3.sub HRow.out fun k o y hy => by
        obtain ⟨h1, h2⟩ := mask_cell.1 hy
        simp only [frm, decide_eq_true_eq] at h1
        exact cell_apart (cell_apart (cell_apart h2 (by omega)) (by omega)) (by omega)
      have hB3 := (hB2.setCell (p := ⟨w.heap.size, 0, none⟩) (Nat.le_refl _) (.slice au x.length cu)).setCell (p := ⟨w.heap.size + 1, 0, none⟩) (by simp) (.int .i64 0)
      simp only [Leaves, settle]
      exact ⟨_, by simp [results, Tryz.results23, go_sem, e0, e1], ReadSays.mk HE.out.1 HE.out.2 row3 hB3⟩
set_option maxRecDepth 100000 in
set_option maxHeartbeats 1000000 in
theorem read_any (l : List UInt8) (w : World) (hl : l.length ≤ maxLen) (hL : Lf w) : Calls Tryz.prog 9 #[.string ⟨l.toArray⟩] w (ReadSays l w) := by
  have HC : Hid (Calls Tryz.prog 23 _ _ _) := whole_any l w hl hL
  clear hL
  go_enter Tryz.func9, Tryz.ntmps9
  go_wp2_with fail
  refine HC.out.mono ?_
  rintro e w1 ⟨au, cu, rfl, ha, hb⟩
  have HR : Hid (ReadSays l w (.returned (.tuple #[.slice au (readLs l).length cu, .int .i64 (readErr l)])) w1) := ⟨au, cu, rfl, ha, hb⟩
  clear ha hb
  generalize readErr l = E at *
  generalize (readLs l).length = N at *
  go_wp2
  go_ret2
  exact HR.out
end Go.Proofs.YtbfkopjpfkgjhaaGreatDoor
