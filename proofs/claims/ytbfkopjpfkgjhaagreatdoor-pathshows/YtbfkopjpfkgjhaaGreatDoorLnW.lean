/-
  The document's own reader: a list is read; the three levels.
-/
import Derived.Test.YtbfkopjpfkgjhaaGreatDoorLnV
namespace Go.Proofs.YtbfkopjpfkgjhaaGreatDoor
open Go.RowKit

def pre2L {β : Type} (ss : List β) (ks : List Int) (p : (List Int × List β) × List UInt8) : (List Int × List β) × List UInt8 := ((ks ++ p.1.1, ss ++ p.1.2), p.2)
def bitV : Value → Nat
  | .bool true => 1
  | _ => 0
section
variable {α : Type} {g : List UInt8 → List α × List UInt8}
theorem lnSteps_stop {n : Nat} {l : List UInt8} (h : Pl.lnLink l = none) : Pl.lnSteps g n l = (([], []), l) := by
  cases n with
  | zero => rfl
  | succ n => unfold Pl.lnSteps; rw [h]
theorem lnSteps_go {n : Nat} {k : Int} {l l1 r : List UInt8} {s : Pl.Stp α} (ss : List (Pl.Stp α)) (ks : List Int) (h : Pl.lnLink l = some (k, l1)) (h2 : Pl.lnStep g l1 = (s, r)) : pre2L ss ks (Pl.lnSteps g (n + 1) l) = pre2L (ss ++ [s]) (ks ++ [k]) (Pl.lnSteps g n r) := by
  conv => lhs; unfold Pl.lnSteps
  rw [h]
  dsimp only
  rw [h2]
  simp [pre2L]
theorem lnPaths_go {n : Nat} {t t2 : List UInt8} {p : Pl.Pth α} (ps : List (Pl.Pth α)) (h : Pl.lnPath g t = (p, t2)) : preL ps (Pl.lnPaths g (n + 1) t) = if [44, 32].isPrefixOf t2 = true then preL (ps ++ [p]) (Pl.lnPaths g n (Pl.sg [44, 32] t2)) else (ps ++ [p], Pl.sg [44, 32] t2) := by
  conv => lhs; unfold Pl.lnPaths
  rw [h]
  dsimp only
  by_cases hp : [44, 32].isPrefixOf t2 = true
  · rw [if_pos hp, if_pos hp]
    simp [preL]
  · rw [if_neg hp, if_neg hp]
    have e : Pl.sg [44, 32] t2 = t2 := by
      unfold Pl.sg
      rw [if_neg hp]
    rw [e]
    rfl
end
/-- the reader, and the box of a path -/
structure PL (b Np : Nat) (l : List UInt8) (w W : World) (c0 c1 : Value) : Prop where
  ln : LnAt b l W
  bx : W.heap[Np]? = some (.cells #[c0, c1] 38)
  gb : w.grownBy W (some b)
section
variable {b Np : Nat} {l l' : List UInt8} {w W W' : World} {c0 c1 : Value}
theorem PL.step (h : PL b Np l w W c0 c1) (hb : b < Np) (hg : W.grownBy W' (some b)) (hr : LnAt b l' W') : PL b Np l' w W' c0 c1 :=
  ⟨hr, gb_block h.bx hg (by omega), gb_chain h.gb hg⟩
theorem PL.on (h : PL b Np l w W c0 c1) (hb : Below W.heap.size W W') : PL b Np l w W' c0 c1 :=
  ⟨h.ln.on hb, (hb.block _ (Array.getElem?_eq_some_iff.1 h.bx).1).trans h.bx, gb_on h.gb hb⟩
theorem PL.frozen (h : PL b Np l w W c0 c1) (i : Nat) : W.frozen? ⟨Np, i, none⟩ = false := by simp [World.frozen?, h.bx]
theorem PL.put (h : PL b Np l w W c0 c1) (hb : b < w.heap.size) (hN : w.heap.size ≤ Np) (i : Nat) (v : Value) {d0 d1 : Value} (hd : (W.setCell ⟨Np, i, none⟩ v).heap[Np]? = some (.cells #[d0, d1] 38)) : PL b Np l w (W.setCell ⟨Np, i, none⟩ v) d0 d1 :=
  ⟨h.ln.other (by omega) v, hd, gb_set h.gb hN i v⟩
theorem PL.grown {g : Option Nat} (h : PL b Np l w W c0 c1) (hb : b < w.heap.size) (hg : W.grownBy W' g) (hn : ∀ k, g = some k → w.heap.size ≤ k ∧ k ≠ Np) : PL b Np l w W' c0 c1 :=
  ⟨ln_grown h.ln hg (fun e => by have := hn b e.symm; omega), blk_grown h.bx hg (fun e => by have := hn _ e.symm; omega), gb_new h.gb hg (fun k hk => by have := hn k hk; omega)⟩
end
theorem lnSays_end {α : Type} {A : MemL α} (hS : IsSub A) {g : List UInt8 → List α × List UInt8} {b : Nat} {l t : List UInt8} {w W : World} {ps : List (Pl.Pth α)} {av : Option Addr} {cv : Nat} (hN : Pl.lnPaths g 6 l = (ps, t)) (hG : Grow (frm w.heap.size) w.heap.size 38 2 (VP A) W (.slice av ps.length cv) ps) (hl : ps.length ≤ 6) (hR : LnAt b t W) (hg : w.grownBy W (some b)) : LnSays (LstAt A) (Pl.lnPaths g 6) b l w (.returned (.slice av ps.length cv)) W :=
  ⟨ps, t, av, cv, hN, rfl, Grow.row (isV_p hS) hG (by unfold maxLen; omega), hR, hg⟩
set_option maxRecDepth 100000 in
set_option maxHeartbeats 16000000 in
theorem lnReads_up {α : Type} {A : MemL α} (hA : IsL A) (hS : IsSub A) {g : List UInt8 → List α × List UInt8} {d : Int} (hd : 1 ≤ d ∧ d ≤ 3) (hr : LnReads A g (d + 1)) (hsh : Pl.Short g) : LnReads (LstAt A) (Pl.lnPaths g 6) d := by
  intro b l w h hl
  have hbw := h.facts.2.2
  have HSP : Hid (∀ (t1 : List UInt8) (W : World), LnAt b t1 W → t1.length ≤ maxLen → Calls Tryz.prog 48 #[.pointer (some ⟨b, 0, none⟩), .int .i64 d] W (LSSays A g b t1 W)) := fun t1 W h1 h2 => lnStep_any hA hS hd hr hsh b t1 W h1 h2
  have HSH : Hid (Pl.Short g) := hsh
  have HSUB : Hid (IsSub A) := hS
  have HLN : Hid (LnAt b l w) := h
  have hd3 : d ≤ 3 := hd.2
  clear h hr hA hS hsh
  go_enter Tryz.func26, Tryz.ntmps26
  go_wp2_with fail
  go_loopw [5, 6] (fun v m wr => ∃ (ps : List (Pl.Pth α)) (t : List UInt8) (more : Bool), ps.length ≤ 6 ∧ m = .bool more ∧ Hid (Pl.lnPaths g 6 l = if more = true then preL ps (Pl.lnPaths g (6 - ps.length) t) else (ps, t)) ∧ Hid (Grow (frm w.heap.size) w.heap.size 38 2 (VP A) wr v ps) ∧ Hid (LnAt b t wr) ∧ Hid (w.grownBy wr (some b)) ∧ t.length ≤ l.length) (fun v _ _ => 6 - lenV v)
  case atStart => exact ⟨[], l, true, by simp, rfl, by unfold Hid preL; simp, Grow.nil _ _ _ _ _ _, HLN, World.grownBy.refl _ _, Nat.le_refl _⟩
  case round =>
    obtain ⟨ps, t, more, hc6, rfl, HCL, HGV, HLR, HGW, hlt⟩ := hrel
    clear HLN
    obtain ⟨ap, cp, rfl⟩ := HGV.out.form
    by_cases hgo : more = true ∧ ps.length ≤ 5
    · obtain ⟨rfl, h5⟩ := hgo
      have h5i : (ps.length : Int) ≤ 5 := by omega
      obtain ⟨wq, hwq⟩ : ∃ q, q = wr := ⟨_, rfl⟩
      subst hwq
      have hbq : b < wq.heap.size := Nat.lt_of_lt_of_le hbw HGW.out.size
      have hsq := HGW.out.size
      have HOV : Hid (∀ q, (Value.slice ap ps.length cp).ownBlock = some q → w.heap.size ≤ q ∧ q < wq.heap.size) := fun q hq => ⟨(HGV.out.own q hq).2, HGV.out.lt q hq⟩
      go_wp2_with fail
      refine (HSP.out t _ HLR.out (Nat.le_trans hlt hl)).mono ?_
      rintro e W1 ⟨s0, l1, au, cu, hn, rfl, row1, r1, g1⟩
      have HST : Hid (Pl.lnStep g t = (s0, l1)) := hn
      have hle1 : l1.length ≤ t.length := by
        have := Pl.lnStep_len HSH.out t
        rw [hn] at this
        exact this
      have hs1 : wq.heap.size ≤ W1.heap.size := g1.size
      have hb3 : Below W1.heap.size W1 ((W1.alloc (.cells #[.string ⟨s0.tag.toArray⟩, .slice au s0.tests.length cu] 56)).alloc (.cells #[.slice (some ⟨W1.heap.size, 0, none⟩) 1 1, .slice none 0 0] 38)) := below_trans (on_alloc W1 (.cells #[.string ⟨s0.tag.toArray⟩, .slice au s0.tests.length cu] 56)) (on_alloc _ (.cells #[.slice (some ⟨W1.heap.size, 0, none⟩) 1 1, .slice none 0 0] 38))
      have HPB : Hid (PL b (W1.heap.size + 1) l1 wq ((W1.alloc (.cells #[.string ⟨s0.tag.toArray⟩, .slice au s0.tests.length cu] 56)).alloc (.cells #[.slice (some ⟨W1.heap.size, 0, none⟩) 1 1, .slice none 0 0] 38)) (.slice (some ⟨W1.heap.size, 0, none⟩) 1 1) (.slice none 0 0)) := by
        refine ⟨r1.on hb3, ?_, gb_on g1 hb3⟩
        have := World.alloc_heap_new (W1.alloc (.cells #[.string ⟨s0.tag.toArray⟩, .slice au s0.tests.length cu] 56)) (.cells #[.slice (some ⟨W1.heap.size, 0, none⟩) 1 1, .slice none 0 0] 38)
        simp only [World.size_alloc] at this
        exact this
      have HGS : Hid (Grow (pS wq.heap.size (W1.heap.size + 1) (.slice none 0 0)) wq.heap.size 56 2 (VS A) ((W1.alloc (.cells #[.string ⟨s0.tag.toArray⟩, .slice au s0.tests.length cu] 56)).alloc (.cells #[.slice (some ⟨W1.heap.size, 0, none⟩) 1 1, .slice none 0 0] 38)) (.slice (some ⟨W1.heap.size, 0, none⟩) 1 1) [s0]) := by
        have h1 : Grow (pS wq.heap.size (W1.heap.size + 1) (.slice none 0 0)) wq.heap.size 56 2 (VS A) (W1.alloc (.cells #[.string ⟨s0.tag.toArray⟩, .slice au s0.tests.length cu] 56)) (.slice (some ⟨W1.heap.size, 0, none⟩) 1 1) [s0] := by
          refine Grow.one (isV_s HSUB.out) hs1 (pS_iff.2 ⟨hs1, by omega, by simp [Value.ownBlock]⟩) ⟨_, rfl, row1.map fun b o x hx => hx.sub HSUB.out (incl_mask fun j o x hj hx => ⟨?_, hx⟩)⟩
          have hjw : j < W1.heap.size := cell_lt hx
          simp only [frm, decide_eq_true_eq] at hj
          exact pS_iff.2 ⟨by omega, by omega, by simp [Value.ownBlock]⟩
        exact h1.move (isV_s HSUB.out) fun j hj hjs => ⟨hj, (on_alloc (W1.alloc (.cells #[.string ⟨s0.tag.toArray⟩, .slice au s0.tests.length cu] 56)) (.cells #[.slice (some ⟨W1.heap.size, 0, none⟩) 1 1, .slice none 0 0] 38)).block j hjs⟩
      have HGK : Hid (Grow (pL (W1.heap.size + 1) (.slice (some ⟨W1.heap.size, 0, none⟩) 1 1)) ((W1.heap.size + 1) + 1) 3 1 VI ((W1.alloc (.cells #[.string ⟨s0.tag.toArray⟩, .slice au s0.tests.length cu] 56)).alloc (.cells #[.slice (some ⟨W1.heap.size, 0, none⟩) 1 1, .slice none 0 0] 38)) (.slice none 0 0) []) := Grow.nil _ _ _ _ _ _
      clear hn row1 r1 g1 hb3 HLR
      go_wp2_with fail
      generalize ((W1.alloc (.cells #[.string ⟨s0.tag.toArray⟩, .slice au s0.tests.length cu] 56)).alloc (.cells #[.slice (some ⟨W1.heap.size, 0, none⟩) 1 1, .slice none 0 0] 38)) = W3 at *
      go_loopw [8] (fun gv wr => ∃ (ss : List (Pl.Stp α)) (ks : List Int) (t2 : List UInt8) (vs vl : Value) (going : Bool), ss.length ≤ 6 ∧ gv = .bool going ∧ Hid (ks.length + 1 = ss.length) ∧ Hid (∃ ss0, ss = s0 :: ss0 ∧ Pl.lnSteps g 5 l1 = if going = true then pre2L ss0 ks (Pl.lnSteps g (6 - ss.length) t2) else ((ks, ss0), t2)) ∧ Hid (Grow (pS wq.heap.size (W1.heap.size + 1) vl) wq.heap.size 56 2 (VS A) wr vs ss) ∧ Hid (Grow (pL (W1.heap.size + 1) vs) ((W1.heap.size + 1) + 1) 3 1 VI wr vl ks) ∧ Hid (PL b (W1.heap.size + 1) t2 wq wr vs vl) ∧ t2.length ≤ l.length) (fun gv wr => 6 - lenAt wr ⟨W1.heap.size + 1, 0, none⟩ + bitV gv)
      case atStart => exact ⟨[s0], [], l1, _, _, true, by simp, rfl, by simp [Hid], ⟨[], rfl, by rw [if_pos (by first | rfl | trivial)]; unfold pre2L; simp⟩, HGS, HGK, HPB, Nat.le_trans hle1 hlt⟩
      case round =>
        obtain ⟨ss, ks, t2, vs, vl, going, hcs, rfl, HCK, HCS, HGSr, HGKr, HSR, hlt2⟩ := hrel
        clear HGS HGK HPB
        obtain ⟨av, cv, rfl⟩ := HGSr.out.form
        obtain ⟨ak, ck, rfl⟩ := HGKr.out.form
        obtain ⟨y0, y1⟩ := blk2c HSR.out.bx
        have hsr : (W1.heap.size + 1) < wr.heap.size := (Array.getElem?_eq_some_iff.1 HSR.out.bx).1
        have hbN : b < W1.heap.size + 1 := by omega
        have hm0 : lenAt wr ⟨W1.heap.size + 1, 0, none⟩ = ss.length := lenAt_eq y0
        by_cases hgo : going = true ∧ ss.length ≤ 5
        · obtain ⟨rfl, hs5⟩ := hgo
          have hs5i : (ss.length : Int) ≤ 5 := by omega
          have HW0 : Hid (PL b (W1.heap.size + 1) t2 wq wr (.slice av ss.length cv) (.slice ak ks.length ck)) := HSR
          have HX0 : Hid (Grow (pS wq.heap.size (W1.heap.size + 1) (.slice ak ks.length ck)) wq.heap.size 56 2 (VS A) wr (.slice av ss.length cv) ss) := HGSr
          have HY0 : Hid (Grow (pL (W1.heap.size + 1) (.slice av ss.length cv)) ((W1.heap.size + 1) + 1) 3 1 VI wr (.slice ak ks.length ck) ks) := HGKr
          clear HSR HGSr HGKr
          go_wp2_with fail
          clear y0 y1
          cases h0 : (Pl.lnk 2).isPrefixOf t2 with
          | true =>
            refine (sign_yes b [32, 62, 32] t2 _ HW0.out.ln h0).mono ?_
            rintro e w5 ⟨rfl, r5, g5⟩
            have HBG : Hid (Pl.lnLink t2 = some (2, Pl.sg (Pl.lnk 2) t2)) := by
              unfold Hid Pl.lnLink
              simp only [h0, if_true]
            have hle2 : (Pl.sg (Pl.lnk 2) t2).length ≤ t2.length := Pl.sg_len _ _
            have HS5 : Hid (PL b (W1.heap.size + 1) (Pl.sg (Pl.lnk 2) t2) wq w5 (.slice av ss.length cv) (.slice ak ks.length ck)) := HW0.out.step hbN g5 r5
            have HG5 : Hid (Grow (pS wq.heap.size (W1.heap.size + 1) (.slice ak ks.length ck)) wq.heap.size 56 2 (VS A) w5 (.slice av ss.length cv) ss) := HX0.out.move (isV_s HSUB.out) fun j hj hjs => ⟨hj, g5.block j hjs (fun e => by injection e with e; rw [pS_iff] at hj; omega)⟩
            have HK5 : Hid (Grow (pL (W1.heap.size + 1) (.slice av ss.length cv)) ((W1.heap.size + 1) + 1) 3 1 VI w5 (.slice ak ks.length ck) ks) := HY0.out.move isV_i fun j hj hjs => ⟨hj, g5.block j hjs (fun e => by injection e with e; rw [pL_iff] at hj; omega)⟩
            clear r5 g5 HW0 HX0 HY0 h0
            generalize Pl.sg (Pl.lnk 2) t2 = t1 at *
            have HOS : Hid (∀ g, (Value.slice av ss.length cv).ownBlock = some g → wq.heap.size ≤ g ∧ g ≠ (W1.heap.size + 1) ∧ g < w5.heap.size ∧ (Value.slice ak ks.length ck).ownBlock ≠ some g) := fun g hg => by
              have h1 := pS_iff.1 (HG5.out.own g hg).1
              exact ⟨h1.1, h1.2.1, HG5.out.lt g hg, h1.2.2⟩
            have HOK : Hid (∀ g, (Value.slice ak ks.length ck).ownBlock = some g → (W1.heap.size + 1) + 1 ≤ g ∧ g < w5.heap.size) := fun g hg => ⟨(HK5.out.own g hg).2, HK5.out.lt g hg⟩
            have hs5 : (W1.heap.size + 1) < w5.heap.size := (Array.getElem?_eq_some_iff.1 HS5.out.bx).1
            obtain ⟨z0, z1⟩ := blk2c HS5.out.bx
            have hk64 : ks.length + 1 ≤ 64 := by have := HCK.out; omega
            go_wp2_with (at_builtin; refine wpList_grow (P := pL (W1.heap.size + 1) (.slice av ss.length cv)) (B := (W1.heap.size + 1) + 1) isV_i Tryz.underlying36 inf3 rfl (by decide) (by decide) (w2 := w5) (v := (.slice ak ks.length ck)) (l := ks) (x := (2 : Int)) (news := [.int .i64 2]) rfl (.tmp 43) (.tmp 45) rfl rfl rfl HK5.out rfl ?hone hk64 (by omega) ?hPH ?_)
            case hone =>
              intro u hu
              simp only [List.mem_cons, List.not_mem_nil, or_false] at hu
              subst hu
              rfl
            case hPH => exact pL_iff.2 ⟨by omega, fun e => by have := (HOS.out _ e).2.2.1; omega⟩
            intro gk cap' w6 hrow hgr hat
            have HS6 : Hid (PL b (W1.heap.size + 1) t1 wq w6 (.slice av ss.length cv) (.slice ak ks.length ck)) := (HS5.out.on (on_alloc w5 _)).grown hbq hgr (fun q hq => by have := HOK.out q hq; omega)
            have hg6 : ∀ j, j < w5.heap.size → (Value.slice ak ks.length ck).ownBlock ≠ some j → w6.heap[j]? = w5.heap[j]? := fun j hj hne => (hgr.block j (by simp; omega) (fun e => hne e.symm)).trans ((on_alloc w5 _).block j hj)
            have hs6 : w5.heap.size + 1 ≤ w6.heap.size := by
              have := hgr.size
              simpa using this
            have hgB : (W1.heap.size + 1) + 1 ≤ gk ∧ gk < w6.heap.size := by
              have h1 := hrow.own gk rfl
              exact ⟨h1.2, hrow.lt gk rfl⟩
            have HS7 : Hid (PL b (W1.heap.size + 1) t1 wq (w6.setCell ⟨W1.heap.size + 1, 1, none⟩ (.slice (some ⟨gk, 0, none⟩) (ks.length + 1) cap')) (.slice av ss.length cv) (.slice (some ⟨gk, 0, none⟩) (ks.length + 1) cap')) := HS6.out.put hbq (by omega) 1 _ (set2_1 HS6.out.bx _)
            have HG7 : Hid (Grow (pS wq.heap.size (W1.heap.size + 1) (.slice (some ⟨gk, 0, none⟩) (ks.length + 1) cap')) wq.heap.size 56 2 (VS A) (w6.setCell ⟨W1.heap.size + 1, 1, none⟩ (.slice (some ⟨gk, 0, none⟩) (ks.length + 1) cap')) (.slice av ss.length cv) ss) := HG5.out.move (isV_s HSUB.out) fun j hj hjs => by
              rw [pS_iff] at hj ⊢
              refine ⟨⟨hj.1, hj.2.1, ?_⟩, ?_⟩
              · intro e
                simp [Value.ownBlock] at e
                rcases hat with h1 | h1
                · rw [e] at h1
                  exact hj.2.2 h1
                · omega
              · rw [Below.heap_setCell _ _ _ _ (by show j ≠ (W1.heap.size + 1); exact hj.2.1)]
                exact hg6 j hjs hj.2.2
            have HK7 : Hid (Grow (pL (W1.heap.size + 1) (.slice av ss.length cv)) ((W1.heap.size + 1) + 1) 3 1 VI (w6.setCell ⟨W1.heap.size + 1, 1, none⟩ (.slice (some ⟨gk, 0, none⟩) (ks.length + 1) cap')) (.slice (some ⟨gk, 0, none⟩) (ks.length + 1) cap') (ks ++ [(2 : Int)])) := hrow.move isV_i fun j hj hjs => by
              refine ⟨hj, ?_⟩
              rw [pL_iff] at hj
              exact Below.heap_setCell _ _ _ _ (by show j ≠ (W1.heap.size + 1); omega)
            have HOS7 : Hid (∀ q, (Value.slice av ss.length cv).ownBlock = some q → wq.heap.size ≤ q ∧ q ≠ (W1.heap.size + 1) ∧ q < w6.heap.size ∧ q ≠ gk) := fun q hq => by
              have h1 := pS_iff.1 (HG7.out.own q hq).1
              exact ⟨h1.1, h1.2.1, by have := (HOS.out q hq).2.2.1; omega, fun e => h1.2.2 (by rw [e]; rfl)⟩
            have z6 := (blk2c HS6.out.bx).2
            have z60 := (blk2c HS6.out.bx).1
            have f61 := HS6.out.frozen 1
            clear hrow hat hg6 HG5 HK5 HOS HOK HS5
            go_wp2_with fail
            clear z6 z60 f61 z0 z1 hgr HS6
            have hsz7 : ((w6.setCell ⟨W1.heap.size + 1, 1, none⟩ (.slice (some ⟨gk, 0, none⟩) (ks.length + 1) cap'))).heap.size = w6.heap.size := by simp [World.setCell]
            generalize (w6.setCell ⟨W1.heap.size + 1, 1, none⟩ (.slice (some ⟨gk, 0, none⟩) (ks.length + 1) cap')) = w7 at *
            have hl7 : t1.length ≤ maxLen := Nat.le_trans (Nat.le_trans hle2 hlt2) hl
            have HTY : Hid (Calls Tryz.prog 48 _ _ _) := HSP.out t1 w7.drew HS7.out.ln hl7
            have z7 := (blk2c HS7.out.bx).1
            have zd : w7.drew.cell? ⟨W1.heap.size + 1, 0, none⟩ = some (.slice av ss.length cv) := z7
            go_region_law (first | (go_simp; go_at_call 48; refine HTY.out.mono ?_; rintro e w8 ⟨st, t3, au2, cu2, hnm, rfl, ha8, r8, g8⟩; have hle3 : t3.length ≤ t1.length := (by have := Pl.lnStep_len HSH.out t1; rw [hnm] at this; exact this); have HSTP : Hid (Pl.lnStep g t1 = (st, t3)) := hnm; have HS8 : Hid (PL b (W1.heap.size + 1) t3 wq w8 (.slice av ss.length cv) (.slice (some ⟨gk, 0, none⟩) (ks.length + 1) cap')) := HS7.out.step hbN (drew_gb g8) r8; have HG8 : Hid (Grow (pS wq.heap.size (W1.heap.size + 1) (.slice (some ⟨gk, 0, none⟩) (ks.length + 1) cap')) wq.heap.size 56 2 (VS A) w8 (.slice av ss.length cv) ss) := HG7.out.move (isV_s HSUB.out) (fun j hj hjs => ⟨hj, (drew_gb g8).block j hjs (fun e => by injection e with e; rw [pS_iff] at hj; omega)⟩); have HK8 : Hid (Grow (pL (W1.heap.size + 1) (.slice av ss.length cv)) ((W1.heap.size + 1) + 1) 3 1 VI w8 (.slice (some ⟨gk, 0, none⟩) (ks.length + 1) cap') (ks ++ [(2 : Int)])) := HK7.out.move isV_i (fun j hj hjs => ⟨hj, (drew_gb g8).block j hjs (fun e => by injection e with e; rw [pL_iff] at hj; omega)⟩); have hs8 : w7.heap.size ≤ w8.heap.size := (drew_gb g8).size; have HNW : Hid (VS A (mask (Off (pS wq.heap.size (W1.heap.size + 1) (.slice (some ⟨gk, 0, none⟩) (ks.length + 1) cap')) (.slice av ss.length cv)) w8) [.string ⟨st.tag.toArray⟩, .slice au2 st.tests.length cu2] st) := ⟨_, rfl, ha8.map fun b o x hx => hx.sub HSUB.out (incl_mask fun j o x hj hx => ⟨by simp only [frm, decide_eq_true_eq] at hj; change w7.heap.size ≤ j at hj; exact Off_iff.2 ⟨pS_iff.2 ⟨by omega, by omega, by simp [Value.ownBlock]; omega⟩, fun e => by have := (HOS7.out j e).2.2.1; omega⟩, hx⟩)⟩; have q8 := (blk2c HS8.out.bx).1; have q8a := cell_on (on_alloc w8 (.cells #[.string ⟨st.tag.toArray⟩, .slice au2 st.tests.length cu2] 56)) q8; clear ha8 r8 g8 hnm) | (refine step_grow (P := pS wq.heap.size (W1.heap.size + 1) (.slice (some ⟨gk, 0, none⟩) (ks.length + 1) cap')) (B := wq.heap.size) (isV_s HSUB.out) Tryz.underlying35 inf56 rfl (by decide) (by decide) (w2 := w8) (v := (.slice av ss.length cv)) (l := ss) (x := st) (news := [.string ⟨st.tag.toArray⟩, .slice au2 st.tests.length cu2]) rfl (.tmp 49) (.tmp 53) rfl rfl rfl HG8.out HNW.out (by intro u hu; simp only [List.mem_cons, List.not_mem_nil, or_false] at hu; rcases hu with rfl | rfl <;> rfl) (by omega) (by omega) (pS_iff.2 ⟨by omega, by omega, by simp [Value.ownBlock]; omega⟩) ?_; intro gs cap2 w9 hrow2 hgr2 hat2; have HS9 : Hid (PL b (W1.heap.size + 1) t3 wq w9 (.slice av ss.length cv) (.slice (some ⟨gk, 0, none⟩) (ks.length + 1) cap')) := (HS8.out.on (on_alloc w8 _)).grown hbq hgr2 (fun q hq => ⟨(HOS7.out q hq).1, (HOS7.out q hq).2.1⟩); have q9 := (blk2c HS9.out.bx).1; have qf9 := HS9.out.frozen 0))
            all_goals
              have HC : Hid (∃ ss0, ss ++ [st] = s0 :: ss0 ∧ Pl.lnSteps g 5 l1 = if true = true then pre2L ss0 (ks ++ [(2 : Int)]) (Pl.lnSteps g (6 - (ss ++ [st]).length) t3) else ((ks ++ [(2 : Int)], ss0), t3)) := by
                obtain ⟨ss0, e1, e2⟩ := HCS.out
                refine ⟨ss0 ++ [st], by rw [e1]; rfl, ?_⟩
                have e : 6 - (ss ++ [st]).length = 5 - ss.length := by
                  rw [List.length_append]
                  simp only [List.length_singleton]
                  omega
                rw [if_pos (by first | rfl | trivial)] at e2 ⊢
                rw [e2, show 6 - ss.length = (5 - ss.length) + 1 by omega, lnSteps_go ss0 ks HBG.out HSTP.out, e]
              have HSA : Hid (PL b (W1.heap.size + 1) t3 wq (w9.setCell ⟨W1.heap.size + 1, 0, none⟩ (.slice (some ⟨gs, 0, none⟩) (ss.length + 1) cap2)) (.slice (some ⟨gs, 0, none⟩) (ss.length + 1) cap2) (.slice (some ⟨gk, 0, none⟩) (ks.length + 1) cap')) := HS9.out.put hbq (by omega) 0 _ (set2_0 HS9.out.bx _)
              have HGA : Hid (Grow (pS wq.heap.size (W1.heap.size + 1) (.slice (some ⟨gk, 0, none⟩) (ks.length + 1) cap')) wq.heap.size 56 2 (VS A) (w9.setCell ⟨W1.heap.size + 1, 0, none⟩ (.slice (some ⟨gs, 0, none⟩) (ss.length + 1) cap2)) (.slice (some ⟨gs, 0, none⟩) (ss.length + 1) cap2) (ss ++ [st])) := hrow2.move (isV_s HSUB.out) fun j hj _ => ⟨hj, Below.heap_setCell _ _ _ _ (by show j ≠ (W1.heap.size + 1); rw [pS_iff] at hj; exact hj.2.1)⟩
              have HKA : Hid (Grow (pL (W1.heap.size + 1) (.slice (some ⟨gs, 0, none⟩) (ss.length + 1) cap2)) ((W1.heap.size + 1) + 1) 3 1 VI (w9.setCell ⟨W1.heap.size + 1, 0, none⟩ (.slice (some ⟨gs, 0, none⟩) (ss.length + 1) cap2)) (.slice (some ⟨gk, 0, none⟩) (ks.length + 1) cap') (ks ++ [(2 : Int)])) := HK8.out.move isV_i fun j hj hjs => by
                rw [pL_iff] at hj ⊢
                refine ⟨⟨hj.1, ?_⟩, ?_⟩
                · intro e
                  simp [Value.ownBlock] at e
                  rcases hat2 with h1 | h1
                  · rw [e] at h1
                    exact hj.2 h1
                  · omega
                · rw [Below.heap_setCell _ _ _ _ (by show j ≠ (W1.heap.size + 1); omega)]
                  exact (hgr2.block j (by simp; omega) (fun e => hj.2 e.symm)).trans ((on_alloc w8 _).block j hjs)
              have hmA : 6 - lenAt (w9.setCell ⟨W1.heap.size + 1, 0, none⟩ (.slice (some ⟨gs, 0, none⟩) (ss.length + 1) cap2)) ⟨W1.heap.size + 1, 0, none⟩ + bitV (.bool true) < 6 - lenAt wr ⟨W1.heap.size + 1, 0, none⟩ + bitV (.bool true) := by
                rw [lenAt_eq (blk2c HSA.out.bx).1, hm0]
                omega
              have hlA : (ss ++ [st]).length ≤ 6 := by
                rw [List.length_append]
                simp only [List.length_singleton]
                omega
              have HCA : Hid ((ks ++ [(2 : Int)]).length + 1 = (ss ++ [st]).length) := by
                unfold Hid
                rw [List.length_append, List.length_append, ← HCK.out]
                rfl
              clear hrow2 hgr2 hat2 HS9 q9 qf9 HS8 HG8 HK8 HNW q8 q8a hm0
              go_wp2
              exact ⟨⟨ss ++ [st], ks ++ [(2 : Int)], t3, _, _, true, hlA, rfl, HCA, HC, HGA, HKA, HSA, by omega⟩, hmA⟩
          | false =>
            refine (sign_no b [32, 62, 32] t2 _ HW0.out.ln h0).mono ?_
            rintro e w5a ⟨rfl, r5, g5⟩
            have HW1 : Hid (PL b (W1.heap.size + 1) t2 wq w5a (.slice av ss.length cv) (.slice ak ks.length ck)) := HW0.out.step hbN g5 r5
            have HX1 : Hid (Grow (pS wq.heap.size (W1.heap.size + 1) (.slice ak ks.length ck)) wq.heap.size 56 2 (VS A) w5a (.slice av ss.length cv) ss) := HX0.out.move (isV_s HSUB.out) fun j hj hjs => ⟨hj, g5.block j hjs (fun e => by injection e with e; rw [pS_iff] at hj; omega)⟩
            have HY1 : Hid (Grow (pL (W1.heap.size + 1) (.slice av ss.length cv)) ((W1.heap.size + 1) + 1) 3 1 VI w5a (.slice ak ks.length ck) ks) := HY0.out.move isV_i fun j hj hjs => ⟨hj, g5.block j hjs (fun e => by injection e with e; rw [pL_iff] at hj; omega)⟩
            clear r5 g5 HW0 HX0 HY0
            go_wp2_with fail
            cases h1 : (Pl.lnk 3).isPrefixOf t2 with
            | true =>
              refine (sign_yes b [32, 43, 32] t2 _ HW1.out.ln h1).mono ?_
              rintro e w5 ⟨rfl, r5, g5⟩
              have HBG : Hid (Pl.lnLink t2 = some (3, Pl.sg (Pl.lnk 3) t2)) := by
                unfold Hid Pl.lnLink
                simp only [h0, h1, if_true, Bool.false_eq_true, if_false]
              have hle2 : (Pl.sg (Pl.lnk 3) t2).length ≤ t2.length := Pl.sg_len _ _
              have HS5 : Hid (PL b (W1.heap.size + 1) (Pl.sg (Pl.lnk 3) t2) wq w5 (.slice av ss.length cv) (.slice ak ks.length ck)) := HW1.out.step hbN g5 r5
              have HG5 : Hid (Grow (pS wq.heap.size (W1.heap.size + 1) (.slice ak ks.length ck)) wq.heap.size 56 2 (VS A) w5 (.slice av ss.length cv) ss) := HX1.out.move (isV_s HSUB.out) fun j hj hjs => ⟨hj, g5.block j hjs (fun e => by injection e with e; rw [pS_iff] at hj; omega)⟩
              have HK5 : Hid (Grow (pL (W1.heap.size + 1) (.slice av ss.length cv)) ((W1.heap.size + 1) + 1) 3 1 VI w5 (.slice ak ks.length ck) ks) := HY1.out.move isV_i fun j hj hjs => ⟨hj, g5.block j hjs (fun e => by injection e with e; rw [pL_iff] at hj; omega)⟩
              clear r5 g5 HW1 HX1 HY1 h0 h1
              generalize Pl.sg (Pl.lnk 3) t2 = t1 at *
              have HOS : Hid (∀ g, (Value.slice av ss.length cv).ownBlock = some g → wq.heap.size ≤ g ∧ g ≠ (W1.heap.size + 1) ∧ g < w5.heap.size ∧ (Value.slice ak ks.length ck).ownBlock ≠ some g) := fun g hg => by
                have h1 := pS_iff.1 (HG5.out.own g hg).1
                exact ⟨h1.1, h1.2.1, HG5.out.lt g hg, h1.2.2⟩
              have HOK : Hid (∀ g, (Value.slice ak ks.length ck).ownBlock = some g → (W1.heap.size + 1) + 1 ≤ g ∧ g < w5.heap.size) := fun g hg => ⟨(HK5.out.own g hg).2, HK5.out.lt g hg⟩
              have hs5 : (W1.heap.size + 1) < w5.heap.size := (Array.getElem?_eq_some_iff.1 HS5.out.bx).1
              obtain ⟨z0, z1⟩ := blk2c HS5.out.bx
              have hk64 : ks.length + 1 ≤ 64 := by have := HCK.out; omega
              go_wp2_with (at_builtin; refine wpList_grow (P := pL (W1.heap.size + 1) (.slice av ss.length cv)) (B := (W1.heap.size + 1) + 1) isV_i Tryz.underlying36 inf3 rfl (by decide) (by decide) (w2 := w5) (v := (.slice ak ks.length ck)) (l := ks) (x := (3 : Int)) (news := [.int .i64 3]) rfl (.tmp 43) (.tmp 45) rfl rfl rfl HK5.out rfl ?hone hk64 (by omega) ?hPH ?_)
              case hone =>
                intro u hu
                simp only [List.mem_cons, List.not_mem_nil, or_false] at hu
                subst hu
                rfl
              case hPH => exact pL_iff.2 ⟨by omega, fun e => by have := (HOS.out _ e).2.2.1; omega⟩
              intro gk cap' w6 hrow hgr hat
              have HS6 : Hid (PL b (W1.heap.size + 1) t1 wq w6 (.slice av ss.length cv) (.slice ak ks.length ck)) := (HS5.out.on (on_alloc w5 _)).grown hbq hgr (fun q hq => by have := HOK.out q hq; omega)
              have hg6 : ∀ j, j < w5.heap.size → (Value.slice ak ks.length ck).ownBlock ≠ some j → w6.heap[j]? = w5.heap[j]? := fun j hj hne => (hgr.block j (by simp; omega) (fun e => hne e.symm)).trans ((on_alloc w5 _).block j hj)
              have hs6 : w5.heap.size + 1 ≤ w6.heap.size := by
                have := hgr.size
                simpa using this
              have hgB : (W1.heap.size + 1) + 1 ≤ gk ∧ gk < w6.heap.size := by
                have h1 := hrow.own gk rfl
                exact ⟨h1.2, hrow.lt gk rfl⟩
              have HS7 : Hid (PL b (W1.heap.size + 1) t1 wq (w6.setCell ⟨W1.heap.size + 1, 1, none⟩ (.slice (some ⟨gk, 0, none⟩) (ks.length + 1) cap')) (.slice av ss.length cv) (.slice (some ⟨gk, 0, none⟩) (ks.length + 1) cap')) := HS6.out.put hbq (by omega) 1 _ (set2_1 HS6.out.bx _)
              have HG7 : Hid (Grow (pS wq.heap.size (W1.heap.size + 1) (.slice (some ⟨gk, 0, none⟩) (ks.length + 1) cap')) wq.heap.size 56 2 (VS A) (w6.setCell ⟨W1.heap.size + 1, 1, none⟩ (.slice (some ⟨gk, 0, none⟩) (ks.length + 1) cap')) (.slice av ss.length cv) ss) := HG5.out.move (isV_s HSUB.out) fun j hj hjs => by
                rw [pS_iff] at hj ⊢
                refine ⟨⟨hj.1, hj.2.1, ?_⟩, ?_⟩
                · intro e
                  simp [Value.ownBlock] at e
                  rcases hat with h1 | h1
                  · rw [e] at h1
                    exact hj.2.2 h1
                  · omega
                · rw [Below.heap_setCell _ _ _ _ (by show j ≠ (W1.heap.size + 1); exact hj.2.1)]
                  exact hg6 j hjs hj.2.2
              have HK7 : Hid (Grow (pL (W1.heap.size + 1) (.slice av ss.length cv)) ((W1.heap.size + 1) + 1) 3 1 VI (w6.setCell ⟨W1.heap.size + 1, 1, none⟩ (.slice (some ⟨gk, 0, none⟩) (ks.length + 1) cap')) (.slice (some ⟨gk, 0, none⟩) (ks.length + 1) cap') (ks ++ [(3 : Int)])) := hrow.move isV_i fun j hj hjs => by
                refine ⟨hj, ?_⟩
                rw [pL_iff] at hj
                exact Below.heap_setCell _ _ _ _ (by show j ≠ (W1.heap.size + 1); omega)
              have HOS7 : Hid (∀ q, (Value.slice av ss.length cv).ownBlock = some q → wq.heap.size ≤ q ∧ q ≠ (W1.heap.size + 1) ∧ q < w6.heap.size ∧ q ≠ gk) := fun q hq => by
                have h1 := pS_iff.1 (HG7.out.own q hq).1
                exact ⟨h1.1, h1.2.1, by have := (HOS.out q hq).2.2.1; omega, fun e => h1.2.2 (by rw [e]; rfl)⟩
              have z6 := (blk2c HS6.out.bx).2
              have z60 := (blk2c HS6.out.bx).1
              have f61 := HS6.out.frozen 1
              clear hrow hat hg6 HG5 HK5 HOS HOK HS5
              go_wp2_with fail
              clear z6 z60 f61 z0 z1 hgr HS6
              have hsz7 : ((w6.setCell ⟨W1.heap.size + 1, 1, none⟩ (.slice (some ⟨gk, 0, none⟩) (ks.length + 1) cap'))).heap.size = w6.heap.size := by simp [World.setCell]
              generalize (w6.setCell ⟨W1.heap.size + 1, 1, none⟩ (.slice (some ⟨gk, 0, none⟩) (ks.length + 1) cap')) = w7 at *
              have hl7 : t1.length ≤ maxLen := Nat.le_trans (Nat.le_trans hle2 hlt2) hl
              have HTY : Hid (Calls Tryz.prog 48 _ _ _) := HSP.out t1 w7.drew HS7.out.ln hl7
              have z7 := (blk2c HS7.out.bx).1
              have zd : w7.drew.cell? ⟨W1.heap.size + 1, 0, none⟩ = some (.slice av ss.length cv) := z7
              go_region_law (first | (go_simp; go_at_call 48; refine HTY.out.mono ?_; rintro e w8 ⟨st, t3, au2, cu2, hnm, rfl, ha8, r8, g8⟩; have hle3 : t3.length ≤ t1.length := (by have := Pl.lnStep_len HSH.out t1; rw [hnm] at this; exact this); have HSTP : Hid (Pl.lnStep g t1 = (st, t3)) := hnm; have HS8 : Hid (PL b (W1.heap.size + 1) t3 wq w8 (.slice av ss.length cv) (.slice (some ⟨gk, 0, none⟩) (ks.length + 1) cap')) := HS7.out.step hbN (drew_gb g8) r8; have HG8 : Hid (Grow (pS wq.heap.size (W1.heap.size + 1) (.slice (some ⟨gk, 0, none⟩) (ks.length + 1) cap')) wq.heap.size 56 2 (VS A) w8 (.slice av ss.length cv) ss) := HG7.out.move (isV_s HSUB.out) (fun j hj hjs => ⟨hj, (drew_gb g8).block j hjs (fun e => by injection e with e; rw [pS_iff] at hj; omega)⟩); have HK8 : Hid (Grow (pL (W1.heap.size + 1) (.slice av ss.length cv)) ((W1.heap.size + 1) + 1) 3 1 VI w8 (.slice (some ⟨gk, 0, none⟩) (ks.length + 1) cap') (ks ++ [(3 : Int)])) := HK7.out.move isV_i (fun j hj hjs => ⟨hj, (drew_gb g8).block j hjs (fun e => by injection e with e; rw [pL_iff] at hj; omega)⟩); have hs8 : w7.heap.size ≤ w8.heap.size := (drew_gb g8).size; have HNW : Hid (VS A (mask (Off (pS wq.heap.size (W1.heap.size + 1) (.slice (some ⟨gk, 0, none⟩) (ks.length + 1) cap')) (.slice av ss.length cv)) w8) [.string ⟨st.tag.toArray⟩, .slice au2 st.tests.length cu2] st) := ⟨_, rfl, ha8.map fun b o x hx => hx.sub HSUB.out (incl_mask fun j o x hj hx => ⟨by simp only [frm, decide_eq_true_eq] at hj; change w7.heap.size ≤ j at hj; exact Off_iff.2 ⟨pS_iff.2 ⟨by omega, by omega, by simp [Value.ownBlock]; omega⟩, fun e => by have := (HOS7.out j e).2.2.1; omega⟩, hx⟩)⟩; have q8 := (blk2c HS8.out.bx).1; have q8a := cell_on (on_alloc w8 (.cells #[.string ⟨st.tag.toArray⟩, .slice au2 st.tests.length cu2] 56)) q8; clear ha8 r8 g8 hnm) | (refine step_grow (P := pS wq.heap.size (W1.heap.size + 1) (.slice (some ⟨gk, 0, none⟩) (ks.length + 1) cap')) (B := wq.heap.size) (isV_s HSUB.out) Tryz.underlying35 inf56 rfl (by decide) (by decide) (w2 := w8) (v := (.slice av ss.length cv)) (l := ss) (x := st) (news := [.string ⟨st.tag.toArray⟩, .slice au2 st.tests.length cu2]) rfl (.tmp 49) (.tmp 53) rfl rfl rfl HG8.out HNW.out (by intro u hu; simp only [List.mem_cons, List.not_mem_nil, or_false] at hu; rcases hu with rfl | rfl <;> rfl) (by omega) (by omega) (pS_iff.2 ⟨by omega, by omega, by simp [Value.ownBlock]; omega⟩) ?_; intro gs cap2 w9 hrow2 hgr2 hat2; have HS9 : Hid (PL b (W1.heap.size + 1) t3 wq w9 (.slice av ss.length cv) (.slice (some ⟨gk, 0, none⟩) (ks.length + 1) cap')) := (HS8.out.on (on_alloc w8 _)).grown hbq hgr2 (fun q hq => ⟨(HOS7.out q hq).1, (HOS7.out q hq).2.1⟩); have q9 := (blk2c HS9.out.bx).1; have qf9 := HS9.out.frozen 0))
              all_goals
                have HC : Hid (∃ ss0, ss ++ [st] = s0 :: ss0 ∧ Pl.lnSteps g 5 l1 = if true = true then pre2L ss0 (ks ++ [(3 : Int)]) (Pl.lnSteps g (6 - (ss ++ [st]).length) t3) else ((ks ++ [(3 : Int)], ss0), t3)) := by
                  obtain ⟨ss0, e1, e2⟩ := HCS.out
                  refine ⟨ss0 ++ [st], by rw [e1]; rfl, ?_⟩
                  have e : 6 - (ss ++ [st]).length = 5 - ss.length := by
                    rw [List.length_append]
                    simp only [List.length_singleton]
                    omega
                  rw [if_pos (by first | rfl | trivial)] at e2 ⊢
                  rw [e2, show 6 - ss.length = (5 - ss.length) + 1 by omega, lnSteps_go ss0 ks HBG.out HSTP.out, e]
                have HSA : Hid (PL b (W1.heap.size + 1) t3 wq (w9.setCell ⟨W1.heap.size + 1, 0, none⟩ (.slice (some ⟨gs, 0, none⟩) (ss.length + 1) cap2)) (.slice (some ⟨gs, 0, none⟩) (ss.length + 1) cap2) (.slice (some ⟨gk, 0, none⟩) (ks.length + 1) cap')) := HS9.out.put hbq (by omega) 0 _ (set2_0 HS9.out.bx _)
                have HGA : Hid (Grow (pS wq.heap.size (W1.heap.size + 1) (.slice (some ⟨gk, 0, none⟩) (ks.length + 1) cap')) wq.heap.size 56 2 (VS A) (w9.setCell ⟨W1.heap.size + 1, 0, none⟩ (.slice (some ⟨gs, 0, none⟩) (ss.length + 1) cap2)) (.slice (some ⟨gs, 0, none⟩) (ss.length + 1) cap2) (ss ++ [st])) := hrow2.move (isV_s HSUB.out) fun j hj _ => ⟨hj, Below.heap_setCell _ _ _ _ (by show j ≠ (W1.heap.size + 1); rw [pS_iff] at hj; exact hj.2.1)⟩
                have HKA : Hid (Grow (pL (W1.heap.size + 1) (.slice (some ⟨gs, 0, none⟩) (ss.length + 1) cap2)) ((W1.heap.size + 1) + 1) 3 1 VI (w9.setCell ⟨W1.heap.size + 1, 0, none⟩ (.slice (some ⟨gs, 0, none⟩) (ss.length + 1) cap2)) (.slice (some ⟨gk, 0, none⟩) (ks.length + 1) cap') (ks ++ [(3 : Int)])) := HK8.out.move isV_i fun j hj hjs => by
                  rw [pL_iff] at hj ⊢
                  refine ⟨⟨hj.1, ?_⟩, ?_⟩
                  · intro e
                    simp [Value.ownBlock] at e
                    rcases hat2 with h1 | h1
                    · rw [e] at h1
                      exact hj.2 h1
                    · omega
                  · rw [Below.heap_setCell _ _ _ _ (by show j ≠ (W1.heap.size + 1); omega)]
                    exact (hgr2.block j (by simp; omega) (fun e => hj.2 e.symm)).trans ((on_alloc w8 _).block j hjs)
                have hmA : 6 - lenAt (w9.setCell ⟨W1.heap.size + 1, 0, none⟩ (.slice (some ⟨gs, 0, none⟩) (ss.length + 1) cap2)) ⟨W1.heap.size + 1, 0, none⟩ + bitV (.bool true) < 6 - lenAt wr ⟨W1.heap.size + 1, 0, none⟩ + bitV (.bool true) := by
                  rw [lenAt_eq (blk2c HSA.out.bx).1, hm0]
                  omega
                have hlA : (ss ++ [st]).length ≤ 6 := by
                  rw [List.length_append]
                  simp only [List.length_singleton]
                  omega
                have HCA : Hid ((ks ++ [(3 : Int)]).length + 1 = (ss ++ [st]).length) := by
                  unfold Hid
                  rw [List.length_append, List.length_append, ← HCK.out]
                  rfl
                clear hrow2 hgr2 hat2 HS9 q9 qf9 HS8 HG8 HK8 HNW q8 q8a hm0
                go_wp2
                exact ⟨⟨ss ++ [st], ks ++ [(3 : Int)], t3, _, _, true, hlA, rfl, HCA, HC, HGA, HKA, HSA, by omega⟩, hmA⟩
            | false =>
              refine (sign_no b [32, 43, 32] t2 _ HW1.out.ln h1).mono ?_
              rintro e w5b ⟨rfl, r5, g5⟩
              have HW2 : Hid (PL b (W1.heap.size + 1) t2 wq w5b (.slice av ss.length cv) (.slice ak ks.length ck)) := HW1.out.step hbN g5 r5
              have HX2 : Hid (Grow (pS wq.heap.size (W1.heap.size + 1) (.slice ak ks.length ck)) wq.heap.size 56 2 (VS A) w5b (.slice av ss.length cv) ss) := HX1.out.move (isV_s HSUB.out) fun j hj hjs => ⟨hj, g5.block j hjs (fun e => by injection e with e; rw [pS_iff] at hj; omega)⟩
              have HY2 : Hid (Grow (pL (W1.heap.size + 1) (.slice av ss.length cv)) ((W1.heap.size + 1) + 1) 3 1 VI w5b (.slice ak ks.length ck) ks) := HY1.out.move isV_i fun j hj hjs => ⟨hj, g5.block j hjs (fun e => by injection e with e; rw [pL_iff] at hj; omega)⟩
              clear r5 g5 HW1 HX1 HY1
              go_wp2_with fail
              cases h2 : (Pl.lnk 4).isPrefixOf t2 with
              | true =>
                refine (sign_yes b [32, 126, 32] t2 _ HW2.out.ln h2).mono ?_
                rintro e w5 ⟨rfl, r5, g5⟩
                have HBG : Hid (Pl.lnLink t2 = some (4, Pl.sg (Pl.lnk 4) t2)) := by
                  unfold Hid Pl.lnLink
                  simp only [h0, h1, h2, if_true, Bool.false_eq_true, if_false]
                have hle2 : (Pl.sg (Pl.lnk 4) t2).length ≤ t2.length := Pl.sg_len _ _
                have HS5 : Hid (PL b (W1.heap.size + 1) (Pl.sg (Pl.lnk 4) t2) wq w5 (.slice av ss.length cv) (.slice ak ks.length ck)) := HW2.out.step hbN g5 r5
                have HG5 : Hid (Grow (pS wq.heap.size (W1.heap.size + 1) (.slice ak ks.length ck)) wq.heap.size 56 2 (VS A) w5 (.slice av ss.length cv) ss) := HX2.out.move (isV_s HSUB.out) fun j hj hjs => ⟨hj, g5.block j hjs (fun e => by injection e with e; rw [pS_iff] at hj; omega)⟩
                have HK5 : Hid (Grow (pL (W1.heap.size + 1) (.slice av ss.length cv)) ((W1.heap.size + 1) + 1) 3 1 VI w5 (.slice ak ks.length ck) ks) := HY2.out.move isV_i fun j hj hjs => ⟨hj, g5.block j hjs (fun e => by injection e with e; rw [pL_iff] at hj; omega)⟩
                clear r5 g5 HW2 HX2 HY2 h0 h1 h2
                generalize Pl.sg (Pl.lnk 4) t2 = t1 at *
                have HOS : Hid (∀ g, (Value.slice av ss.length cv).ownBlock = some g → wq.heap.size ≤ g ∧ g ≠ (W1.heap.size + 1) ∧ g < w5.heap.size ∧ (Value.slice ak ks.length ck).ownBlock ≠ some g) := fun g hg => by
                  have h1 := pS_iff.1 (HG5.out.own g hg).1
                  exact ⟨h1.1, h1.2.1, HG5.out.lt g hg, h1.2.2⟩
                have HOK : Hid (∀ g, (Value.slice ak ks.length ck).ownBlock = some g → (W1.heap.size + 1) + 1 ≤ g ∧ g < w5.heap.size) := fun g hg => ⟨(HK5.out.own g hg).2, HK5.out.lt g hg⟩
                have hs5 : (W1.heap.size + 1) < w5.heap.size := (Array.getElem?_eq_some_iff.1 HS5.out.bx).1
                obtain ⟨z0, z1⟩ := blk2c HS5.out.bx
                have hk64 : ks.length + 1 ≤ 64 := by have := HCK.out; omega
                go_wp2_with (at_builtin; refine wpList_grow (P := pL (W1.heap.size + 1) (.slice av ss.length cv)) (B := (W1.heap.size + 1) + 1) isV_i Tryz.underlying36 inf3 rfl (by decide) (by decide) (w2 := w5) (v := (.slice ak ks.length ck)) (l := ks) (x := (4 : Int)) (news := [.int .i64 4]) rfl (.tmp 43) (.tmp 45) rfl rfl rfl HK5.out rfl ?hone hk64 (by omega) ?hPH ?_)
                case hone =>
                  intro u hu
                  simp only [List.mem_cons, List.not_mem_nil, or_false] at hu
                  subst hu
                  rfl
                case hPH => exact pL_iff.2 ⟨by omega, fun e => by have := (HOS.out _ e).2.2.1; omega⟩
                intro gk cap' w6 hrow hgr hat
                have HS6 : Hid (PL b (W1.heap.size + 1) t1 wq w6 (.slice av ss.length cv) (.slice ak ks.length ck)) := (HS5.out.on (on_alloc w5 _)).grown hbq hgr (fun q hq => by have := HOK.out q hq; omega)
                have hg6 : ∀ j, j < w5.heap.size → (Value.slice ak ks.length ck).ownBlock ≠ some j → w6.heap[j]? = w5.heap[j]? := fun j hj hne => (hgr.block j (by simp; omega) (fun e => hne e.symm)).trans ((on_alloc w5 _).block j hj)
                have hs6 : w5.heap.size + 1 ≤ w6.heap.size := by
                  have := hgr.size
                  simpa using this
                have hgB : (W1.heap.size + 1) + 1 ≤ gk ∧ gk < w6.heap.size := by
                  have h1 := hrow.own gk rfl
                  exact ⟨h1.2, hrow.lt gk rfl⟩
                have HS7 : Hid (PL b (W1.heap.size + 1) t1 wq (w6.setCell ⟨W1.heap.size + 1, 1, none⟩ (.slice (some ⟨gk, 0, none⟩) (ks.length + 1) cap')) (.slice av ss.length cv) (.slice (some ⟨gk, 0, none⟩) (ks.length + 1) cap')) := HS6.out.put hbq (by omega) 1 _ (set2_1 HS6.out.bx _)
                have HG7 : Hid (Grow (pS wq.heap.size (W1.heap.size + 1) (.slice (some ⟨gk, 0, none⟩) (ks.length + 1) cap')) wq.heap.size 56 2 (VS A) (w6.setCell ⟨W1.heap.size + 1, 1, none⟩ (.slice (some ⟨gk, 0, none⟩) (ks.length + 1) cap')) (.slice av ss.length cv) ss) := HG5.out.move (isV_s HSUB.out) fun j hj hjs => by
                  rw [pS_iff] at hj ⊢
                  refine ⟨⟨hj.1, hj.2.1, ?_⟩, ?_⟩
                  · intro e
                    simp [Value.ownBlock] at e
                    rcases hat with h1 | h1
                    · rw [e] at h1
                      exact hj.2.2 h1
                    · omega
                  · rw [Below.heap_setCell _ _ _ _ (by show j ≠ (W1.heap.size + 1); exact hj.2.1)]
                    exact hg6 j hjs hj.2.2
                have HK7 : Hid (Grow (pL (W1.heap.size + 1) (.slice av ss.length cv)) ((W1.heap.size + 1) + 1) 3 1 VI (w6.setCell ⟨W1.heap.size + 1, 1, none⟩ (.slice (some ⟨gk, 0, none⟩) (ks.length + 1) cap')) (.slice (some ⟨gk, 0, none⟩) (ks.length + 1) cap') (ks ++ [(4 : Int)])) := hrow.move isV_i fun j hj hjs => by
                  refine ⟨hj, ?_⟩
                  rw [pL_iff] at hj
                  exact Below.heap_setCell _ _ _ _ (by show j ≠ (W1.heap.size + 1); omega)
                have HOS7 : Hid (∀ q, (Value.slice av ss.length cv).ownBlock = some q → wq.heap.size ≤ q ∧ q ≠ (W1.heap.size + 1) ∧ q < w6.heap.size ∧ q ≠ gk) := fun q hq => by
                  have h1 := pS_iff.1 (HG7.out.own q hq).1
                  exact ⟨h1.1, h1.2.1, by have := (HOS.out q hq).2.2.1; omega, fun e => h1.2.2 (by rw [e]; rfl)⟩
                have z6 := (blk2c HS6.out.bx).2
                have z60 := (blk2c HS6.out.bx).1
                have f61 := HS6.out.frozen 1
                clear hrow hat hg6 HG5 HK5 HOS HOK HS5
                go_wp2_with fail
                clear z6 z60 f61 z0 z1 hgr HS6
                have hsz7 : ((w6.setCell ⟨W1.heap.size + 1, 1, none⟩ (.slice (some ⟨gk, 0, none⟩) (ks.length + 1) cap'))).heap.size = w6.heap.size := by simp [World.setCell]
                generalize (w6.setCell ⟨W1.heap.size + 1, 1, none⟩ (.slice (some ⟨gk, 0, none⟩) (ks.length + 1) cap')) = w7 at *
                have hl7 : t1.length ≤ maxLen := Nat.le_trans (Nat.le_trans hle2 hlt2) hl
                have HTY : Hid (Calls Tryz.prog 48 _ _ _) := HSP.out t1 w7.drew HS7.out.ln hl7
                have z7 := (blk2c HS7.out.bx).1
                have zd : w7.drew.cell? ⟨W1.heap.size + 1, 0, none⟩ = some (.slice av ss.length cv) := z7
                go_region_law (first | (go_simp; go_at_call 48; refine HTY.out.mono ?_; rintro e w8 ⟨st, t3, au2, cu2, hnm, rfl, ha8, r8, g8⟩; have hle3 : t3.length ≤ t1.length := (by have := Pl.lnStep_len HSH.out t1; rw [hnm] at this; exact this); have HSTP : Hid (Pl.lnStep g t1 = (st, t3)) := hnm; have HS8 : Hid (PL b (W1.heap.size + 1) t3 wq w8 (.slice av ss.length cv) (.slice (some ⟨gk, 0, none⟩) (ks.length + 1) cap')) := HS7.out.step hbN (drew_gb g8) r8; have HG8 : Hid (Grow (pS wq.heap.size (W1.heap.size + 1) (.slice (some ⟨gk, 0, none⟩) (ks.length + 1) cap')) wq.heap.size 56 2 (VS A) w8 (.slice av ss.length cv) ss) := HG7.out.move (isV_s HSUB.out) (fun j hj hjs => ⟨hj, (drew_gb g8).block j hjs (fun e => by injection e with e; rw [pS_iff] at hj; omega)⟩); have HK8 : Hid (Grow (pL (W1.heap.size + 1) (.slice av ss.length cv)) ((W1.heap.size + 1) + 1) 3 1 VI w8 (.slice (some ⟨gk, 0, none⟩) (ks.length + 1) cap') (ks ++ [(4 : Int)])) := HK7.out.move isV_i (fun j hj hjs => ⟨hj, (drew_gb g8).block j hjs (fun e => by injection e with e; rw [pL_iff] at hj; omega)⟩); have hs8 : w7.heap.size ≤ w8.heap.size := (drew_gb g8).size; have HNW : Hid (VS A (mask (Off (pS wq.heap.size (W1.heap.size + 1) (.slice (some ⟨gk, 0, none⟩) (ks.length + 1) cap')) (.slice av ss.length cv)) w8) [.string ⟨st.tag.toArray⟩, .slice au2 st.tests.length cu2] st) := ⟨_, rfl, ha8.map fun b o x hx => hx.sub HSUB.out (incl_mask fun j o x hj hx => ⟨by simp only [frm, decide_eq_true_eq] at hj; change w7.heap.size ≤ j at hj; exact Off_iff.2 ⟨pS_iff.2 ⟨by omega, by omega, by simp [Value.ownBlock]; omega⟩, fun e => by have := (HOS7.out j e).2.2.1; omega⟩, hx⟩)⟩; have q8 := (blk2c HS8.out.bx).1; have q8a := cell_on (on_alloc w8 (.cells #[.string ⟨st.tag.toArray⟩, .slice au2 st.tests.length cu2] 56)) q8; clear ha8 r8 g8 hnm) | (refine step_grow (P := pS wq.heap.size (W1.heap.size + 1) (.slice (some ⟨gk, 0, none⟩) (ks.length + 1) cap')) (B := wq.heap.size) (isV_s HSUB.out) Tryz.underlying35 inf56 rfl (by decide) (by decide) (w2 := w8) (v := (.slice av ss.length cv)) (l := ss) (x := st) (news := [.string ⟨st.tag.toArray⟩, .slice au2 st.tests.length cu2]) rfl (.tmp 49) (.tmp 53) rfl rfl rfl HG8.out HNW.out (by intro u hu; simp only [List.mem_cons, List.not_mem_nil, or_false] at hu; rcases hu with rfl | rfl <;> rfl) (by omega) (by omega) (pS_iff.2 ⟨by omega, by omega, by simp [Value.ownBlock]; omega⟩) ?_; intro gs cap2 w9 hrow2 hgr2 hat2; have HS9 : Hid (PL b (W1.heap.size + 1) t3 wq w9 (.slice av ss.length cv) (.slice (some ⟨gk, 0, none⟩) (ks.length + 1) cap')) := (HS8.out.on (on_alloc w8 _)).grown hbq hgr2 (fun q hq => ⟨(HOS7.out q hq).1, (HOS7.out q hq).2.1⟩); have q9 := (blk2c HS9.out.bx).1; have qf9 := HS9.out.frozen 0))
                all_goals
                  have HC : Hid (∃ ss0, ss ++ [st] = s0 :: ss0 ∧ Pl.lnSteps g 5 l1 = if true = true then pre2L ss0 (ks ++ [(4 : Int)]) (Pl.lnSteps g (6 - (ss ++ [st]).length) t3) else ((ks ++ [(4 : Int)], ss0), t3)) := by
                    obtain ⟨ss0, e1, e2⟩ := HCS.out
                    refine ⟨ss0 ++ [st], by rw [e1]; rfl, ?_⟩
                    have e : 6 - (ss ++ [st]).length = 5 - ss.length := by
                      rw [List.length_append]
                      simp only [List.length_singleton]
                      omega
                    rw [if_pos (by first | rfl | trivial)] at e2 ⊢
                    rw [e2, show 6 - ss.length = (5 - ss.length) + 1 by omega, lnSteps_go ss0 ks HBG.out HSTP.out, e]
                  have HSA : Hid (PL b (W1.heap.size + 1) t3 wq (w9.setCell ⟨W1.heap.size + 1, 0, none⟩ (.slice (some ⟨gs, 0, none⟩) (ss.length + 1) cap2)) (.slice (some ⟨gs, 0, none⟩) (ss.length + 1) cap2) (.slice (some ⟨gk, 0, none⟩) (ks.length + 1) cap')) := HS9.out.put hbq (by omega) 0 _ (set2_0 HS9.out.bx _)
                  have HGA : Hid (Grow (pS wq.heap.size (W1.heap.size + 1) (.slice (some ⟨gk, 0, none⟩) (ks.length + 1) cap')) wq.heap.size 56 2 (VS A) (w9.setCell ⟨W1.heap.size + 1, 0, none⟩ (.slice (some ⟨gs, 0, none⟩) (ss.length + 1) cap2)) (.slice (some ⟨gs, 0, none⟩) (ss.length + 1) cap2) (ss ++ [st])) := hrow2.move (isV_s HSUB.out) fun j hj _ => ⟨hj, Below.heap_setCell _ _ _ _ (by show j ≠ (W1.heap.size + 1); rw [pS_iff] at hj; exact hj.2.1)⟩
                  have HKA : Hid (Grow (pL (W1.heap.size + 1) (.slice (some ⟨gs, 0, none⟩) (ss.length + 1) cap2)) ((W1.heap.size + 1) + 1) 3 1 VI (w9.setCell ⟨W1.heap.size + 1, 0, none⟩ (.slice (some ⟨gs, 0, none⟩) (ss.length + 1) cap2)) (.slice (some ⟨gk, 0, none⟩) (ks.length + 1) cap') (ks ++ [(4 : Int)])) := HK8.out.move isV_i fun j hj hjs => by
                    rw [pL_iff] at hj ⊢
                    refine ⟨⟨hj.1, ?_⟩, ?_⟩
                    · intro e
                      simp [Value.ownBlock] at e
                      rcases hat2 with h1 | h1
                      · rw [e] at h1
                        exact hj.2 h1
                      · omega
                    · rw [Below.heap_setCell _ _ _ _ (by show j ≠ (W1.heap.size + 1); omega)]
                      exact (hgr2.block j (by simp; omega) (fun e => hj.2 e.symm)).trans ((on_alloc w8 _).block j hjs)
                  have hmA : 6 - lenAt (w9.setCell ⟨W1.heap.size + 1, 0, none⟩ (.slice (some ⟨gs, 0, none⟩) (ss.length + 1) cap2)) ⟨W1.heap.size + 1, 0, none⟩ + bitV (.bool true) < 6 - lenAt wr ⟨W1.heap.size + 1, 0, none⟩ + bitV (.bool true) := by
                    rw [lenAt_eq (blk2c HSA.out.bx).1, hm0]
                    omega
                  have hlA : (ss ++ [st]).length ≤ 6 := by
                    rw [List.length_append]
                    simp only [List.length_singleton]
                    omega
                  have HCA : Hid ((ks ++ [(4 : Int)]).length + 1 = (ss ++ [st]).length) := by
                    unfold Hid
                    rw [List.length_append, List.length_append, ← HCK.out]
                    rfl
                  clear hrow2 hgr2 hat2 HS9 q9 qf9 HS8 HG8 HK8 HNW q8 q8a hm0
                  go_wp2
                  exact ⟨⟨ss ++ [st], ks ++ [(4 : Int)], t3, _, _, true, hlA, rfl, HCA, HC, HGA, HKA, HSA, by omega⟩, hmA⟩
              | false =>
                refine (sign_no b [32, 126, 32] t2 _ HW2.out.ln h2).mono ?_
                rintro e w5c ⟨rfl, r5, g5⟩
                have HW3 : Hid (PL b (W1.heap.size + 1) t2 wq w5c (.slice av ss.length cv) (.slice ak ks.length ck)) := HW2.out.step hbN g5 r5
                have HX3 : Hid (Grow (pS wq.heap.size (W1.heap.size + 1) (.slice ak ks.length ck)) wq.heap.size 56 2 (VS A) w5c (.slice av ss.length cv) ss) := HX2.out.move (isV_s HSUB.out) fun j hj hjs => ⟨hj, g5.block j hjs (fun e => by injection e with e; rw [pS_iff] at hj; omega)⟩
                have HY3 : Hid (Grow (pL (W1.heap.size + 1) (.slice av ss.length cv)) ((W1.heap.size + 1) + 1) 3 1 VI w5c (.slice ak ks.length ck) ks) := HY2.out.move isV_i fun j hj hjs => ⟨hj, g5.block j hjs (fun e => by injection e with e; rw [pL_iff] at hj; omega)⟩
                clear r5 g5 HW2 HX2 HY2
                go_wp2_with fail
                cases h3 : (Pl.lnk 1).isPrefixOf t2 with
                | true =>
                  refine (sign_yes b [32] t2 _ HW3.out.ln h3).mono ?_
                  rintro e w5 ⟨rfl, r5, g5⟩
                  have HBG : Hid (Pl.lnLink t2 = some (1, Pl.sg (Pl.lnk 1) t2)) := by
                    unfold Hid Pl.lnLink
                    simp only [h0, h1, h2, h3, if_true, Bool.false_eq_true, if_false]
                  have hle2 : (Pl.sg (Pl.lnk 1) t2).length ≤ t2.length := Pl.sg_len _ _
                  have HS5 : Hid (PL b (W1.heap.size + 1) (Pl.sg (Pl.lnk 1) t2) wq w5 (.slice av ss.length cv) (.slice ak ks.length ck)) := HW3.out.step hbN g5 r5
                  have HG5 : Hid (Grow (pS wq.heap.size (W1.heap.size + 1) (.slice ak ks.length ck)) wq.heap.size 56 2 (VS A) w5 (.slice av ss.length cv) ss) := HX3.out.move (isV_s HSUB.out) fun j hj hjs => ⟨hj, g5.block j hjs (fun e => by injection e with e; rw [pS_iff] at hj; omega)⟩
                  have HK5 : Hid (Grow (pL (W1.heap.size + 1) (.slice av ss.length cv)) ((W1.heap.size + 1) + 1) 3 1 VI w5 (.slice ak ks.length ck) ks) := HY3.out.move isV_i fun j hj hjs => ⟨hj, g5.block j hjs (fun e => by injection e with e; rw [pL_iff] at hj; omega)⟩
                  clear r5 g5 HW3 HX3 HY3 h0 h1 h2 h3
                  generalize Pl.sg (Pl.lnk 1) t2 = t1 at *
                  have HOS : Hid (∀ g, (Value.slice av ss.length cv).ownBlock = some g → wq.heap.size ≤ g ∧ g ≠ (W1.heap.size + 1) ∧ g < w5.heap.size ∧ (Value.slice ak ks.length ck).ownBlock ≠ some g) := fun g hg => by
                    have h1 := pS_iff.1 (HG5.out.own g hg).1
                    exact ⟨h1.1, h1.2.1, HG5.out.lt g hg, h1.2.2⟩
                  have HOK : Hid (∀ g, (Value.slice ak ks.length ck).ownBlock = some g → (W1.heap.size + 1) + 1 ≤ g ∧ g < w5.heap.size) := fun g hg => ⟨(HK5.out.own g hg).2, HK5.out.lt g hg⟩
                  have hs5 : (W1.heap.size + 1) < w5.heap.size := (Array.getElem?_eq_some_iff.1 HS5.out.bx).1
                  obtain ⟨z0, z1⟩ := blk2c HS5.out.bx
                  have hk64 : ks.length + 1 ≤ 64 := by have := HCK.out; omega
                  go_wp2_with (at_builtin; refine wpList_grow (P := pL (W1.heap.size + 1) (.slice av ss.length cv)) (B := (W1.heap.size + 1) + 1) isV_i Tryz.underlying36 inf3 rfl (by decide) (by decide) (w2 := w5) (v := (.slice ak ks.length ck)) (l := ks) (x := (1 : Int)) (news := [.int .i64 1]) rfl (.tmp 43) (.tmp 45) rfl rfl rfl HK5.out rfl ?hone hk64 (by omega) ?hPH ?_)
                  case hone =>
                    intro u hu
                    simp only [List.mem_cons, List.not_mem_nil, or_false] at hu
                    subst hu
                    rfl
                  case hPH => exact pL_iff.2 ⟨by omega, fun e => by have := (HOS.out _ e).2.2.1; omega⟩
                  intro gk cap' w6 hrow hgr hat
                  have HS6 : Hid (PL b (W1.heap.size + 1) t1 wq w6 (.slice av ss.length cv) (.slice ak ks.length ck)) := (HS5.out.on (on_alloc w5 _)).grown hbq hgr (fun q hq => by have := HOK.out q hq; omega)
                  have hg6 : ∀ j, j < w5.heap.size → (Value.slice ak ks.length ck).ownBlock ≠ some j → w6.heap[j]? = w5.heap[j]? := fun j hj hne => (hgr.block j (by simp; omega) (fun e => hne e.symm)).trans ((on_alloc w5 _).block j hj)
                  have hs6 : w5.heap.size + 1 ≤ w6.heap.size := by
                    have := hgr.size
                    simpa using this
                  have hgB : (W1.heap.size + 1) + 1 ≤ gk ∧ gk < w6.heap.size := by
                    have h1 := hrow.own gk rfl
                    exact ⟨h1.2, hrow.lt gk rfl⟩
                  have HS7 : Hid (PL b (W1.heap.size + 1) t1 wq (w6.setCell ⟨W1.heap.size + 1, 1, none⟩ (.slice (some ⟨gk, 0, none⟩) (ks.length + 1) cap')) (.slice av ss.length cv) (.slice (some ⟨gk, 0, none⟩) (ks.length + 1) cap')) := HS6.out.put hbq (by omega) 1 _ (set2_1 HS6.out.bx _)
                  have HG7 : Hid (Grow (pS wq.heap.size (W1.heap.size + 1) (.slice (some ⟨gk, 0, none⟩) (ks.length + 1) cap')) wq.heap.size 56 2 (VS A) (w6.setCell ⟨W1.heap.size + 1, 1, none⟩ (.slice (some ⟨gk, 0, none⟩) (ks.length + 1) cap')) (.slice av ss.length cv) ss) := HG5.out.move (isV_s HSUB.out) fun j hj hjs => by
                    rw [pS_iff] at hj ⊢
                    refine ⟨⟨hj.1, hj.2.1, ?_⟩, ?_⟩
                    · intro e
                      simp [Value.ownBlock] at e
                      rcases hat with h1 | h1
                      · rw [e] at h1
                        exact hj.2.2 h1
                      · omega
                    · rw [Below.heap_setCell _ _ _ _ (by show j ≠ (W1.heap.size + 1); exact hj.2.1)]
                      exact hg6 j hjs hj.2.2
                  have HK7 : Hid (Grow (pL (W1.heap.size + 1) (.slice av ss.length cv)) ((W1.heap.size + 1) + 1) 3 1 VI (w6.setCell ⟨W1.heap.size + 1, 1, none⟩ (.slice (some ⟨gk, 0, none⟩) (ks.length + 1) cap')) (.slice (some ⟨gk, 0, none⟩) (ks.length + 1) cap') (ks ++ [(1 : Int)])) := hrow.move isV_i fun j hj hjs => by
                    refine ⟨hj, ?_⟩
                    rw [pL_iff] at hj
                    exact Below.heap_setCell _ _ _ _ (by show j ≠ (W1.heap.size + 1); omega)
                  have HOS7 : Hid (∀ q, (Value.slice av ss.length cv).ownBlock = some q → wq.heap.size ≤ q ∧ q ≠ (W1.heap.size + 1) ∧ q < w6.heap.size ∧ q ≠ gk) := fun q hq => by
                    have h1 := pS_iff.1 (HG7.out.own q hq).1
                    exact ⟨h1.1, h1.2.1, by have := (HOS.out q hq).2.2.1; omega, fun e => h1.2.2 (by rw [e]; rfl)⟩
                  have z6 := (blk2c HS6.out.bx).2
                  have z60 := (blk2c HS6.out.bx).1
                  have f61 := HS6.out.frozen 1
                  clear hrow hat hg6 HG5 HK5 HOS HOK HS5
                  go_wp2_with fail
                  clear z6 z60 f61 z0 z1 hgr HS6
                  have hsz7 : ((w6.setCell ⟨W1.heap.size + 1, 1, none⟩ (.slice (some ⟨gk, 0, none⟩) (ks.length + 1) cap'))).heap.size = w6.heap.size := by simp [World.setCell]
                  generalize (w6.setCell ⟨W1.heap.size + 1, 1, none⟩ (.slice (some ⟨gk, 0, none⟩) (ks.length + 1) cap')) = w7 at *
                  have hl7 : t1.length ≤ maxLen := Nat.le_trans (Nat.le_trans hle2 hlt2) hl
                  have HTY : Hid (Calls Tryz.prog 48 _ _ _) := HSP.out t1 w7.drew HS7.out.ln hl7
                  have z7 := (blk2c HS7.out.bx).1
                  have zd : w7.drew.cell? ⟨W1.heap.size + 1, 0, none⟩ = some (.slice av ss.length cv) := z7
                  go_region_law (first | (go_simp; go_at_call 48; refine HTY.out.mono ?_; rintro e w8 ⟨st, t3, au2, cu2, hnm, rfl, ha8, r8, g8⟩; have hle3 : t3.length ≤ t1.length := (by have := Pl.lnStep_len HSH.out t1; rw [hnm] at this; exact this); have HSTP : Hid (Pl.lnStep g t1 = (st, t3)) := hnm; have HS8 : Hid (PL b (W1.heap.size + 1) t3 wq w8 (.slice av ss.length cv) (.slice (some ⟨gk, 0, none⟩) (ks.length + 1) cap')) := HS7.out.step hbN (drew_gb g8) r8; have HG8 : Hid (Grow (pS wq.heap.size (W1.heap.size + 1) (.slice (some ⟨gk, 0, none⟩) (ks.length + 1) cap')) wq.heap.size 56 2 (VS A) w8 (.slice av ss.length cv) ss) := HG7.out.move (isV_s HSUB.out) (fun j hj hjs => ⟨hj, (drew_gb g8).block j hjs (fun e => by injection e with e; rw [pS_iff] at hj; omega)⟩); have HK8 : Hid (Grow (pL (W1.heap.size + 1) (.slice av ss.length cv)) ((W1.heap.size + 1) + 1) 3 1 VI w8 (.slice (some ⟨gk, 0, none⟩) (ks.length + 1) cap') (ks ++ [(1 : Int)])) := HK7.out.move isV_i (fun j hj hjs => ⟨hj, (drew_gb g8).block j hjs (fun e => by injection e with e; rw [pL_iff] at hj; omega)⟩); have hs8 : w7.heap.size ≤ w8.heap.size := (drew_gb g8).size; have HNW : Hid (VS A (mask (Off (pS wq.heap.size (W1.heap.size + 1) (.slice (some ⟨gk, 0, none⟩) (ks.length + 1) cap')) (.slice av ss.length cv)) w8) [.string ⟨st.tag.toArray⟩, .slice au2 st.tests.length cu2] st) := ⟨_, rfl, ha8.map fun b o x hx => hx.sub HSUB.out (incl_mask fun j o x hj hx => ⟨by simp only [frm, decide_eq_true_eq] at hj; change w7.heap.size ≤ j at hj; exact Off_iff.2 ⟨pS_iff.2 ⟨by omega, by omega, by simp [Value.ownBlock]; omega⟩, fun e => by have := (HOS7.out j e).2.2.1; omega⟩, hx⟩)⟩; have q8 := (blk2c HS8.out.bx).1; have q8a := cell_on (on_alloc w8 (.cells #[.string ⟨st.tag.toArray⟩, .slice au2 st.tests.length cu2] 56)) q8; clear ha8 r8 g8 hnm) | (refine step_grow (P := pS wq.heap.size (W1.heap.size + 1) (.slice (some ⟨gk, 0, none⟩) (ks.length + 1) cap')) (B := wq.heap.size) (isV_s HSUB.out) Tryz.underlying35 inf56 rfl (by decide) (by decide) (w2 := w8) (v := (.slice av ss.length cv)) (l := ss) (x := st) (news := [.string ⟨st.tag.toArray⟩, .slice au2 st.tests.length cu2]) rfl (.tmp 49) (.tmp 53) rfl rfl rfl HG8.out HNW.out (by intro u hu; simp only [List.mem_cons, List.not_mem_nil, or_false] at hu; rcases hu with rfl | rfl <;> rfl) (by omega) (by omega) (pS_iff.2 ⟨by omega, by omega, by simp [Value.ownBlock]; omega⟩) ?_; intro gs cap2 w9 hrow2 hgr2 hat2; have HS9 : Hid (PL b (W1.heap.size + 1) t3 wq w9 (.slice av ss.length cv) (.slice (some ⟨gk, 0, none⟩) (ks.length + 1) cap')) := (HS8.out.on (on_alloc w8 _)).grown hbq hgr2 (fun q hq => ⟨(HOS7.out q hq).1, (HOS7.out q hq).2.1⟩); have q9 := (blk2c HS9.out.bx).1; have qf9 := HS9.out.frozen 0))
                  all_goals
                    have HC : Hid (∃ ss0, ss ++ [st] = s0 :: ss0 ∧ Pl.lnSteps g 5 l1 = if true = true then pre2L ss0 (ks ++ [(1 : Int)]) (Pl.lnSteps g (6 - (ss ++ [st]).length) t3) else ((ks ++ [(1 : Int)], ss0), t3)) := by
                      obtain ⟨ss0, e1, e2⟩ := HCS.out
                      refine ⟨ss0 ++ [st], by rw [e1]; rfl, ?_⟩
                      have e : 6 - (ss ++ [st]).length = 5 - ss.length := by
                        rw [List.length_append]
                        simp only [List.length_singleton]
                        omega
                      rw [if_pos (by first | rfl | trivial)] at e2 ⊢
                      rw [e2, show 6 - ss.length = (5 - ss.length) + 1 by omega, lnSteps_go ss0 ks HBG.out HSTP.out, e]
                    have HSA : Hid (PL b (W1.heap.size + 1) t3 wq (w9.setCell ⟨W1.heap.size + 1, 0, none⟩ (.slice (some ⟨gs, 0, none⟩) (ss.length + 1) cap2)) (.slice (some ⟨gs, 0, none⟩) (ss.length + 1) cap2) (.slice (some ⟨gk, 0, none⟩) (ks.length + 1) cap')) := HS9.out.put hbq (by omega) 0 _ (set2_0 HS9.out.bx _)
                    have HGA : Hid (Grow (pS wq.heap.size (W1.heap.size + 1) (.slice (some ⟨gk, 0, none⟩) (ks.length + 1) cap')) wq.heap.size 56 2 (VS A) (w9.setCell ⟨W1.heap.size + 1, 0, none⟩ (.slice (some ⟨gs, 0, none⟩) (ss.length + 1) cap2)) (.slice (some ⟨gs, 0, none⟩) (ss.length + 1) cap2) (ss ++ [st])) := hrow2.move (isV_s HSUB.out) fun j hj _ => ⟨hj, Below.heap_setCell _ _ _ _ (by show j ≠ (W1.heap.size + 1); rw [pS_iff] at hj; exact hj.2.1)⟩
                    have HKA : Hid (Grow (pL (W1.heap.size + 1) (.slice (some ⟨gs, 0, none⟩) (ss.length + 1) cap2)) ((W1.heap.size + 1) + 1) 3 1 VI (w9.setCell ⟨W1.heap.size + 1, 0, none⟩ (.slice (some ⟨gs, 0, none⟩) (ss.length + 1) cap2)) (.slice (some ⟨gk, 0, none⟩) (ks.length + 1) cap') (ks ++ [(1 : Int)])) := HK8.out.move isV_i fun j hj hjs => by
                      rw [pL_iff] at hj ⊢
                      refine ⟨⟨hj.1, ?_⟩, ?_⟩
                      · intro e
                        simp [Value.ownBlock] at e
                        rcases hat2 with h1 | h1
                        · rw [e] at h1
                          exact hj.2 h1
                        · omega
                      · rw [Below.heap_setCell _ _ _ _ (by show j ≠ (W1.heap.size + 1); omega)]
                        exact (hgr2.block j (by simp; omega) (fun e => hj.2 e.symm)).trans ((on_alloc w8 _).block j hjs)
                    have hmA : 6 - lenAt (w9.setCell ⟨W1.heap.size + 1, 0, none⟩ (.slice (some ⟨gs, 0, none⟩) (ss.length + 1) cap2)) ⟨W1.heap.size + 1, 0, none⟩ + bitV (.bool true) < 6 - lenAt wr ⟨W1.heap.size + 1, 0, none⟩ + bitV (.bool true) := by
                      rw [lenAt_eq (blk2c HSA.out.bx).1, hm0]
                      omega
                    have hlA : (ss ++ [st]).length ≤ 6 := by
                      rw [List.length_append]
                      simp only [List.length_singleton]
                      omega
                    have HCA : Hid ((ks ++ [(1 : Int)]).length + 1 = (ss ++ [st]).length) := by
                      unfold Hid
                      rw [List.length_append, List.length_append, ← HCK.out]
                      rfl
                    clear hrow2 hgr2 hat2 HS9 q9 qf9 HS8 HG8 HK8 HNW q8 q8a hm0
                    go_wp2
                    exact ⟨⟨ss ++ [st], ks ++ [(1 : Int)], t3, _, _, true, hlA, rfl, HCA, HC, HGA, HKA, HSA, by omega⟩, hmA⟩
                | false =>
                  refine (sign_no b [32] t2 _ HW3.out.ln h3).mono ?_
                  rintro e w5d ⟨rfl, r5, g5⟩
                  have HW4 : Hid (PL b (W1.heap.size + 1) t2 wq w5d (.slice av ss.length cv) (.slice ak ks.length ck)) := HW3.out.step hbN g5 r5
                  have HX4 : Hid (Grow (pS wq.heap.size (W1.heap.size + 1) (.slice ak ks.length ck)) wq.heap.size 56 2 (VS A) w5d (.slice av ss.length cv) ss) := HX3.out.move (isV_s HSUB.out) fun j hj hjs => ⟨hj, g5.block j hjs (fun e => by injection e with e; rw [pS_iff] at hj; omega)⟩
                  have HY4 : Hid (Grow (pL (W1.heap.size + 1) (.slice av ss.length cv)) ((W1.heap.size + 1) + 1) 3 1 VI w5d (.slice ak ks.length ck) ks) := HY3.out.move isV_i fun j hj hjs => ⟨hj, g5.block j hjs (fun e => by injection e with e; rw [pL_iff] at hj; omega)⟩
                  clear r5 g5 HW3 HX3 HY3
                  have HBG : Hid (Pl.lnLink t2 = none) := by
                    unfold Hid Pl.lnLink
                    simp only [h0, h1, h2, h3, Bool.false_eq_true, if_false]
                  have HC : Hid (∃ ss0, ss = s0 :: ss0 ∧ Pl.lnSteps g 5 l1 = if false = true then pre2L ss0 ks (Pl.lnSteps g (6 - ss.length) t2) else ((ks, ss0), t2)) := by
                    obtain ⟨ss0, e1, e2⟩ := HCS.out
                    refine ⟨ss0, e1, ?_⟩
                    rw [if_neg (by simp)]
                    rw [if_pos (by first | rfl | trivial)] at e2
                    rw [e2, lnSteps_stop HBG.out]
                    simp [pre2L]
                  have hmA : 6 - lenAt w5d ⟨W1.heap.size + 1, 0, none⟩ + bitV (.bool false) < 6 - lenAt wr ⟨W1.heap.size + 1, 0, none⟩ + bitV (.bool true) := by
                    rw [lenAt_eq (blk2c HW4.out.bx).1, hm0]
                    simp [bitV]
                  clear h0 h1 h2 h3 hm0
                  go_wp2
                  exact ⟨⟨ss, ks, t2, _, _, false, hcs, rfl, HCK, HC, HX4, HY4, HW4, hlt2⟩, hmA⟩
        · have HFIN : Hid (∃ ss0, ss = s0 :: ss0 ∧ Pl.lnSteps g 5 l1 = ((ks, ss0), t2)) := by
            obtain ⟨ss0, e1, e2⟩ := HCS.out
            refine ⟨ss0, e1, ?_⟩
            cases going with
            | false =>
              rw [if_neg (by simp)] at e2
              exact e2
            | true =>
              have : ss.length = 6 := by
                have h1 : ¬ ss.length ≤ 5 := fun h => hgo ⟨rfl, h⟩
                omega
              rw [if_pos (by first | rfl | trivial), this] at e2
              rw [e2]
              simp [pre2L, Pl.lnSteps]
          have HPT : Hid (Pl.lnPath g t = (⟨ss, ks⟩, t2)) := by
            obtain ⟨ss0, e1, e2⟩ := HFIN.out
            unfold Hid Pl.lnPath
            rw [HST.out]
            dsimp only
            rw [e2, e1]
          have HCN : Hid (Pl.lnPaths g 6 l = if [44, 32].isPrefixOf t2 = true then preL (ps ++ [⟨ss, ks⟩]) (Pl.lnPaths g (6 - (ps ++ [(⟨ss, ks⟩ : Pl.Pth α)]).length) (Pl.sg [44, 32] t2)) else (ps ++ [⟨ss, ks⟩], Pl.sg [44, 32] t2)) := by
            have e := HCL.out
            rw [if_pos (by first | rfl | trivial)] at e
            unfold Hid
            have e3 : 6 - (ps ++ [(⟨ss, ks⟩ : Pl.Pth α)]).length = 5 - ps.length := by
              rw [List.length_append]
              simp only [List.length_singleton]
              omega
            rw [e, show 6 - ps.length = (5 - ps.length) + 1 by omega, lnPaths_go ps HPT.out, e3]
          obtain ⟨wz, hwz⟩ : ∃ q, q = wr := ⟨_, rfl⟩
          subst hwz
          have HGV2 : Hid (Grow (frm w.heap.size) w.heap.size 38 2 (VP A) wz (.slice ap ps.length cp) ps) := HGV.out.move (isV_p HSUB.out) fun j hj hjs => ⟨hj, HSR.out.gb.block j hjs (fun e => by injection e with e; simp only [frm, decide_eq_true_eq] at hj; omega)⟩
          have HGW2 : Hid (w.grownBy wz (some b)) := gb_chain HGW.out HSR.out.gb
          have hlS : ss.length ≤ maxLen := by unfold maxLen; omega
          have hlK : ks.length ≤ maxLen := by have := HCK.out; unfold maxLen; omega
          have HNW : Hid (VP A (mask (Off (frm w.heap.size) (.slice ap ps.length cp)) wz) [(.slice av ss.length cv), (.slice ak ks.length ck)] ⟨ss, ks⟩) := ⟨_, _, rfl, (Grow.row (isV_s HSUB.out) HGSr.out hlS).map fun b o x hx => hx.sub HSUB.out (incl_mask fun j o x hj hx => by
            rw [pS_iff] at hj
            exact ⟨Off_iff.2 ⟨by simp only [frm, decide_eq_true_eq]; omega, fun e => by have := (HOV.out j e).2; omega⟩, hx⟩), ints_sub (Grow.row isV_i HGKr.out hlK) (incl_mask fun j o x hj hx => by
            rw [pL_iff] at hj
            exact ⟨Off_iff.2 ⟨by simp only [frm, decide_eq_true_eq]; omega, fun e => by have := (HOV.out j e).2; omega⟩, hx⟩)⟩
          have HLZ : Hid (LnAt b t2 wz) := HSR.out.ln
          have HONE : Hid (∀ u ∈ [(.slice av ss.length cv), (.slice ak ks.length ck)], Value.oneCell' u = true) := by
            intro u hu
            simp only [List.mem_cons, List.not_mem_nil, or_false] at hu
            rcases hu with rfl | rfl <;> rfl
          have HPHH : Hid (frm w.heap.size (wz.heap.size + 1) = true) := by
            unfold Hid
            simp only [frm, decide_eq_true_eq]
            omega
          clear HSR HGSr HGKr HFIN HCS hlS hlK hm0
          cases going
          case' true =>
            have hs5i : ¬ (ss.length : Int) ≤ 5 := by
              intro h1
              exact hgo ⟨rfl, by omega⟩
            clear hgo
          case' false => clear hgo
          all_goals
            go_wp2_with (at_builtin; refine wpList_grow (P := frm w.heap.size) (B := w.heap.size) (isV_p HSUB.out) Tryz.underlying22 inf38 rfl (by decide) (by decide) (w2 := wz) (v := .slice ap ps.length cp) (l := ps) (x := ⟨ss, ks⟩) (news := [(.slice av ss.length cv), (.slice ak ks.length ck)]) rfl (.tmp 56) (.tmp 58) rfl rfl rfl HGV2.out HNW.out HONE.out (by omega) (by omega) HPHH.out ?_)
            intro gp cap' w7 hrow hgr _
            have HR7 : Hid (LnAt b t2 w7) := ln_grown (HLZ.out.on (on_alloc wz _)) hgr (fun e => by have := HOV.out b e.symm; omega)
            have HG7w : Hid (w.grownBy w7 (some b)) := gb_new (gb_on HGW2.out (on_alloc wz _)) hgr (fun q hq => (HOV.out q hq).1)
            have HG7 : Hid (Grow (frm w.heap.size) w.heap.size 38 2 (VP A) w7 (.slice (some ⟨gp, 0, none⟩) (ps.length + 1) cap') (ps ++ [⟨ss, ks⟩])) := hrow
            have hlA : (ps ++ [(⟨ss, ks⟩ : Pl.Pth α)]).length ≤ 6 := by
              rw [List.length_append]
              simp only [List.length_singleton]
              omega
            clear hrow hgr HGV2 HNW HLZ HGW2 y0 y1
            go_wp2_with fail
            refine (sign_any b t2 [44, 32] _ HR7.out).mono ?_
            rintro e w8 ⟨rfl, r8, g8⟩
            have HR8 : Hid (LnAt b (Pl.sg [44, 32] t2) w8) := r8
            have HG8w : Hid (w.grownBy w8 (some b)) := gb_chain HG7w.out g8
            have HG8 : Hid (Grow (frm w.heap.size) w.heap.size 38 2 (VP A) w8 (.slice (some ⟨gp, 0, none⟩) (ps.length + 1) cap') (ps ++ [⟨ss, ks⟩])) := HG7.out.move (isV_p HSUB.out) fun j hj hjs => ⟨hj, g8.block j hjs (fun e => by injection e with e; simp only [frm, decide_eq_true_eq] at hj; omega)⟩
            have hle8 : (Pl.sg [44, 32] t2).length ≤ l.length := Nat.le_trans (Pl.sg_len _ _) hlt2
            clear r8 g8 HR7 HG7w HG7
            generalize hmo : [44, 32].isPrefixOf t2 = more2 at *
            clear hmo
            generalize Pl.sg [44, 32] t2 = t9 at *
            go_wp2
            exact ⟨⟨ps ++ [⟨ss, ks⟩], t9, more2, hlA, rfl, HCN, HG8, HR8, HG8w, hle8⟩, by simp only [lenV]; omega⟩
    · have HC : Hid (Pl.lnPaths g 6 l = (ps, t)) := by
        have e := HCL.out
        unfold Hid
        cases more with
        | false =>
          rw [if_neg (by simp)] at e
          exact e
        | true =>
          have : ps.length = 6 := by
            have h1 : ¬ ps.length ≤ 5 := fun h => hgo ⟨rfl, h⟩
            omega
          rw [if_pos (by first | rfl | trivial), this] at e
          rw [e]
          simp [preL, Pl.lnPaths]
      cases more
      case' true =>
        have hs5i : ¬ (ps.length : Int) ≤ 5 := by
          intro h1
          exact hgo ⟨rfl, by omega⟩
        clear hgo
      case' false => clear hgo
      all_goals
        go_wp2
        go_ret
        exact lnSays_end HSUB.out HC.out HGV.out hc6 HLR.out HGW.out
set_option maxHeartbeats 1000000 in
theorem lnReads_z : LnReads ZAt Pl.ln0 4 := by
  intro b l w h hl
  go_enter Tryz.func26, Tryz.ntmps26
  go_wp2_with fail
  go_loopw [5, 6] (fun v m wr => v = .slice none 0 0 ∧ m = .bool false ∧ wr = w) (fun _ _ _ => 0)
  case atStart => exact ⟨rfl, rfl, rfl⟩
  case round =>
    obtain ⟨rfl, rfl, rfl⟩ := hrel
    go_wp2
    go_ret
    exact ⟨[], l, none, 0, rfl, rfl, ⟨none, 0, rfl, by simp [maxLen]⟩, h, World.grownBy.refl _ _⟩
theorem lnReads_1 : LnReads A1 Pl.ln1 3 := lnReads_up isL_z isSub_z (by omega) lnReads_z Pl.short_0
theorem lnReads_2 : LnReads A2 Pl.ln2 2 := lnReads_up isL_1 (isSub_up isSub_z) (by omega) lnReads_1 Pl.short_1
theorem lnReads_3 : LnReads A3 Pl.ln3 1 := lnReads_up isL_2 (isSub_up (isSub_up isSub_z)) (by omega) lnReads_2 Pl.short_2
end Go.Proofs.YtbfkopjpfkgjhaaGreatDoor
