/-
  The strict reader of texts: an element.
-/
import Derived.Test.YthlpcmgeelkncaaRdl
namespace Go.Proofs.Ythlpcmgeelkncaa
open Go.RowKit

set_option maxRecDepth 100000 in
set_option maxHeartbeats 4000000 in
theorem node_any (b : Nat) (up : Int) (l : List UInt8) (w : World) (h : RdAt b l w) (hl : l.length ≤ maxLen) :
    Calls Try.prog 90 #[.pointer (some ⟨b, 0, none⟩), .int .i64 up] w (NodeSays b up l w) := by
  have hb := h.facts.2.2
  have h0 := h.on (on_alloc w (.cells #[.int .i64 0, .string ⟨#[]⟩, .string ⟨#[]⟩, .slice none 0 0, .slice none 0 0] 47))
  have g0 : w.grownBy (w.alloc (.cells #[.int .i64 0, .string ⟨#[]⟩, .string ⟨#[]⟩, .slice none 0 0, .slice none 0 0] 47)) (some b) := gb_on (World.grownBy.refl w _) (on_alloc _ _)
  have x0 : Blk (w.alloc (.cells #[.int .i64 0, .string ⟨#[]⟩, .string ⟨#[]⟩, .slice none 0 0, .slice none 0 0] 47)) w.heap.size (.int .i64 0) (.string ⟨#[]⟩) (.string ⟨#[]⟩) (.slice none 0 0) (.slice none 0 0) := heap_alloc_new w _
  have hz0 : (w.alloc (.cells #[.int .i64 0, .string ⟨#[]⟩, .string ⟨#[]⟩, .slice none 0 0, .slice none 0 0] 47)).heap.size = w.heap.size + 1 := by simp
  have hne : w.heap.size ≠ b := by omega
  go_enter Try.func90, Try.ntmps90
  go_wp2_with fail
  generalize w.alloc (.cells #[.int .i64 0, .string ⟨#[]⟩, .string ⟨#[]⟩, .slice none 0 0, .slice none 0 0] 47) = w0 at *
  refine (name_any b l _ h0 hl).mono ?_
  rintro e w1 (⟨hn, rfl, g1⟩ | ⟨tag, l1, hn, rfl, r1, g1⟩)
  · have G1 : Hid _ := gb_chain g0 g1
    go_wp2
    exact ⟨rfl, Or.inl ⟨by unfold Pl.rdNode; rw [hn], rfl, G1.out⟩⟩
  have G1 := gb_chain g0 g1
  have X1 := blk_gb x0 g1 hne
  have hl1 := Nat.le_trans (name_rest hn) hl
  have HN : Hid _ := hn
  have hz1 : w.heap.size + 1 ≤ w1.heap.size := by have := g1.size; omega
  have r2 := r1.on (on_alloc w1 (.cells #[.int .i64 up, .string ⟨tag.toArray⟩, .string ⟨#[]⟩, .slice none 0 0, .slice none 0 0] 47))
  have G2 := gb_on G1 (on_alloc w1 (.cells #[.int .i64 up, .string ⟨tag.toArray⟩, .string ⟨#[]⟩, .slice none 0 0, .slice none 0 0] 47))
  have X2 := X1.on (on_alloc w1 (.cells #[.int .i64 up, .string ⟨tag.toArray⟩, .string ⟨#[]⟩, .slice none 0 0, .slice none 0 0] 47))
  have Y2 : Blk (w1.alloc (.cells #[.int .i64 up, .string ⟨tag.toArray⟩, .string ⟨#[]⟩, .slice none 0 0, .slice none 0 0] 47)) w1.heap.size (.int .i64 up) (.string ⟨tag.toArray⟩) (.string ⟨#[]⟩) (.slice none 0 0) (.slice none 0 0) := heap_alloc_new w1 _
  have hz2 : (w1.alloc (.cells #[.int .i64 up, .string ⟨tag.toArray⟩, .string ⟨#[]⟩, .slice none 0 0, .slice none 0 0] 47)).heap.size = w1.heap.size + 1 := by simp
  have hny : w1.heap.size ≠ b := by omega
  clear hn g0 g1 h0 x0 r1 G1 X1
  go_wp2_with fail
  generalize w1.alloc (.cells #[.int .i64 up, .string ⟨tag.toArray⟩, .string ⟨#[]⟩, .slice none 0 0, .slice none 0 0] 47) = w2 at *
  generalize hNX : w1.heap.size = NX at *
  have HNX : Hid _ := hNX
  clear hNX
  have hbN : b < NX := by omega
  rcases h35 : Pl.need 35 l1 with _ | l2
  case' none =>
    refine (take_no b l1 35 _ r2 h35).mono ?_
    rintro e wL ⟨rfl, rL, g3⟩
    have hall : ∃ idn l3, Hid (Pl.rdId l1 = some (idn, l3)) ∧ RdAt b l3 wL ∧ Blk wL NX (.int .i64 up) (.string ⟨tag.toArray⟩) (.string ⟨idn.toArray⟩) (.slice none 0 0) (.slice none 0 0) ∧ l3.length ≤ maxLen :=
      ⟨[], l1, by unfold Hid Pl.rdId; rw [h35], rL, blk_gb Y2 g3 hny, hl1⟩
    clear rL
    obtain ⟨idn, l3, HI, rL, YL, hl3⟩ := hall
    have GL := gb_chain G2 g3
    have XL := blk_gb X2 g3 hne
    have hsL : NX + 1 ≤ wL.heap.size := by have := g3.size; omega
    clear g3 G2 X2 Y2 r2 h35 hl1
    go_wp2_with fail
  case' some =>
    refine (take_yes b l1 l2 35 _ r2 h35).mono ?_
    rintro e w3 ⟨rfl, r3, g3⟩
    have G3 := gb_chain G2 g3
    have X3 := blk_gb X2 g3 hne
    have Y3 := blk_gb Y2 g3 hny
    have hl2 := Nat.le_trans (need_len h35) hl1
    have H35 : Hid _ := h35
    have hs3 : NX + 1 ≤ w3.heap.size := by have := g3.size; omega
    clear g3 G2 X2 Y2 r2 h35
    go_wp2_with fail
    refine (name_any b l2 _ r3 hl2).mono ?_
    rintro e w4 (⟨hn, rfl, g4⟩ | ⟨idn, l3, hn, rfl, r4, g4⟩)
    · have G4 : Hid _ := gb_chain G3 g4
      go_wp2
      exact ⟨rfl, Or.inl ⟨by unfold Pl.rdNode; rw [HN.out]; simp only; unfold Pl.rdId; rw [H35.out]; simp only; rw [hn], rfl, G4.out⟩⟩
    have HI : Hid (Pl.rdId l1 = some (idn, l3)) := by unfold Hid Pl.rdId; rw [H35.out]; exact hn
    have G4 := gb_chain G3 g4
    have X4 := blk_gb X3 g4 hne
    have Y4 := blk_gb Y3 g4 hny
    have hl3 := Nat.le_trans (name_rest hn) hl2
    have hs4 : NX + 1 ≤ w4.heap.size := by have := g4.size; omega
    obtain ⟨⟨y0, y1, y2, y3, y4⟩, yf⟩ := Y4.facts
    have rL := rd_far (j := 2) r4 hny (.string ⟨idn.toArray⟩)
    have GL := gb_box G4 (M := NX) (by omega) 2 (.string ⟨idn.toArray⟩)
    have XL := X4.other (M := NX) (i := 2) (by omega) (.string ⟨idn.toArray⟩)
    have YL := Y4.set2 (.string ⟨idn.toArray⟩)
    have hsL : NX + 1 ≤ (w4.setCell ⟨NX, 2, none⟩ (.string ⟨idn.toArray⟩)).heap.size := by simpa [World.setCell] using hs4
    clear g4 G3 X3 Y3 r3 hn hl2 hl1 G4 X4 Y4 r4
    go_wp2_with fail
    generalize w4.setCell ⟨NX, 2, none⟩ (.string ⟨idn.toArray⟩) = wL at *
    clear y0 y1 y2 y3 y4 yf
  all_goals
    have HX : Hid _ := XL
    have HY : Hid (Blk wL NX (.int .i64 up) (.string ⟨tag.toArray⟩) (.string ⟨idn.toArray⟩) (.slice none 0 0) (.slice none 0 0)) := YL
    have HR : Hid _ := rL
    have HG : Hid _ := GL
    clear XL YL rL GL
    go_loopw [15] (fun _ wr => ∃ (cs : List (List UInt8)) (t : List UInt8) (v : Value), cs.length ≤ 6 ∧ Hid (Pl.rdCls 6 l3 = preC cs (Pl.rdCls (6 - cs.length) t)) ∧ Hid (wr.ownsRow (NX + 1) 9 1 v cs.length (strCells cs)) ∧ Hid (Blk wr NX (.int .i64 up) (.string ⟨tag.toArray⟩) (.string ⟨idn.toArray⟩) v (.slice none 0 0)) ∧ Hid (Blk wr w.heap.size (.int .i64 0) (.string ⟨#[]⟩) (.string ⟨#[]⟩) (.slice none 0 0) (.slice none 0 0)) ∧ Hid (RdAt b t wr) ∧ Hid (w.grownBy wr (some b)) ∧ t.length ≤ maxLen ∧ NX + 1 ≤ wr.heap.size) (fun _ wr => 6 - lenAt wr ⟨NX, 3, none⟩)
    case atStart => exact ⟨[], l3, _, by simp, by unfold Hid preC; cases Pl.rdCls 6 l3 <;> simp, World.ownsRow_nil _ _ _ _, HY, HX, HR, HG, hl3, hsL⟩
    case round =>
      obtain ⟨cs, t, v, hc6, hcl, hown, hy, hx, hr, hg, hlt, hsr⟩ := hrel
      obtain ⟨av, cv, rfl⟩ := own_form hown.out
      obtain ⟨⟨y0, y1, y2, y3, y4⟩, yf⟩ := hy.out.facts
      by_cases h6 : cs.length < 6
      case' pos =>
        have h6i : (cs.length : Int) < 6 := by omega
        rcases h46 : Pl.need 46 t with _ | t1
        case' some =>
          rcases hnm : Pl.rdName t1 with _ | ⟨c, t2⟩
          · have HC : Hid (Pl.rdCls 6 l3 = none) := by unfold Hid; rw [hcl.out, show 6 - cs.length = (5 - cs.length) + 1 by omega, rdCls_bad h46 hnm]; rfl
            go_wp2_with fail
            refine (take_yes b t t1 46 _ hr.out h46).mono ?_
            rintro e w5 ⟨rfl, r5, g5⟩
            have R5 : Hid _ := r5
            have G5 : Hid _ := gb_chain hg.out g5
            have Y5 := blk_gb hy.out g5 hny
            have hl5 := Nat.le_trans (need_len h46) hlt
            obtain ⟨⟨z0, z1, z2, z3, z4⟩, zf⟩ := Y5.facts
            have R5d : RdAt b t1 w5.drew := r5
            clear y0 y1 y2 y3 y4 yf r5 g5 Y5
            go_wp2_with fail
            refine wp_region_any (by kernel_rfl) ?_
            change wpAny _ _ _ _ _ _ _ (World.drew _)
            refine wpAny_take (i := 0) (v := .pointer (some ⟨NX, 3, none⟩)) rfl (by kernel_rfl) (by kernel_rfl) (by kernel_rfl) (fun _ _ _ h => h) (Or.inl ⟨by rfl, ?_⟩) ?_
            · intro w; go_simp
            refine wpAny_take (i := 2) (v := .pointer (some ⟨b, 0, none⟩)) rfl (by kernel_rfl) (by kernel_rfl) (by kernel_rfl) (fun _ _ _ h => h) (Or.inl ⟨by rfl, ?_⟩) ?_
            · intro w; go_simp
            refine wpAny_ready (rs := [1, 3]) (by kernel_rfl) (by simp) ?_
            refine AllReady.cons rfl (fun K hK => ?_) ?_
            · have zd : w5.drew.cell? ⟨NX, 3, none⟩ = some (.slice av cs.length cv) := z3
              go_simp
              refine hK _ _ ?_
              clear hK K
              refine wpAny_ready (rs := [3]) (by kernel_rfl) (by simp) ?_
              refine AllReady.cons rfl (fun K hK => ?_) AllReady.nil
              go_simp
              refine (name_none b t1 _ R5d hl5 hnm).mono ?_
              rintro e w6 ⟨rfl, g6⟩
              have G6 : Hid (w.grownBy w6 (some b)) := gb_chain (b := w5.drew) ⟨G5.out.os, G5.out.tape, G5.out.output, G5.out.size, G5.out.block⟩ g6
              go_wp2
              exact ⟨rfl, Or.inl ⟨by unfold Pl.rdNode; rw [HN.out]; simp only; rw [HI.out]; simp only; rw [HC.out], rfl, G6.out⟩⟩
            · refine AllReady.cons rfl (fun K hK => ?_) AllReady.nil
              go_simp
              refine (name_none b t1 _ R5d hl5 hnm).mono ?_
              rintro e w6 ⟨rfl, g6⟩
              have G6 : Hid (w.grownBy w6 (some b)) := gb_chain (b := w5.drew) ⟨G5.out.os, G5.out.tape, G5.out.output, G5.out.size, G5.out.block⟩ g6
              go_wp2
              exact ⟨rfl, Or.inl ⟨by unfold Pl.rdNode; rw [HN.out]; simp only; rw [HI.out]; simp only; rw [HC.out], rfl, G6.out⟩⟩
          · have HC : Hid (Pl.rdCls 6 l3 = preC (cs ++ [c]) (Pl.rdCls (6 - (cs ++ [c]).length) t2)) := by
              unfold Hid
              have e : 6 - (cs ++ [c]).length = 5 - cs.length := by
                rw [List.length_append]
                simp only [List.length_singleton]
                omega
              rw [hcl.out, show 6 - cs.length = (5 - cs.length) + 1 by omega, rdCls_go cs h46 hnm, e]
            go_wp2_with fail
            refine (take_yes b t t1 46 _ hr.out h46).mono ?_
            rintro e w5 ⟨rfl, r5, g5⟩
            have G5 := gb_chain hg.out g5
            have Y5 := blk_gb hy.out g5 hny
            have X5 := blk_gb hx.out g5 hne
            have O5 := own_gb hown.out g5 (by omega)
            have hl5 := Nat.le_trans (need_len h46) hlt
            have hs5 : NX + 1 ≤ w5.heap.size := Nat.le_trans hsr g5.size
            obtain ⟨⟨z0, z1, z2, z3, z4⟩, zf⟩ := Y5.facts
            have zd : w5.drew.cell? ⟨NX, 3, none⟩ = some (.slice av cs.length cv) := z3
            have hOwn : ∀ k, (Value.slice av cs.length cv).ownBlock = some k → NX + 1 ≤ k := fun k hk => (World.ownsRow.lt O5 k hk).1
            have hneX : some NX ≠ (Value.slice av cs.length cv).ownBlock := fun e => by have := hOwn NX e.symm; omega
            have hneW : some w.heap.size ≠ (Value.slice av cs.length cv).ownBlock := fun e => by have := hOwn _ e.symm; omega
            have hneB : some b ≠ (Value.slice av cs.length cv).ownBlock := fun e => by have := hOwn _ e.symm; omega
            have RD : RdAt b t1 w5.drew := r5
            clear y0 y1 y2 y4 yf g5 z0 z1 z2 z4 r5
            go_wp2_with fail
            go_region_law (first | (go_simp; go_at_call 95; refine (name_some b t1 c t2 _ RD hl5 hnm).mono ?_; rintro e w6 ⟨rfl, r6, g6⟩; have Y6 := blk_gb (w := w5.drew) Y5 g6 hny; have z6 := Y6.facts.1.2.2.2.1; have z6a := cell_on (on_alloc w6 (.cells #[.string ⟨c.toArray⟩] 9)) z6) | (refine step_sadd (B := NX + 1) (w2 := w6) (v := .slice av cs.length cv) (cs := cs) (c := c) rfl (.tmp 24) (.tmp 27) rfl rfl rfl (own_gb (w := w5.drew) O5 g6 (by omega)) (by omega) (Nat.le_trans hs5 g6.size) ?_; intro g cap' w7 hrow' hgr; have Y7 := blk_grown (Y6.on (on_alloc _ _)) hgr hneX; have z7 := Y7.facts.1.2.2.2.1; have zf7 := Y7.facts.2))
            all_goals
              have Y8 := Y7.set3 (.slice (some ⟨g, 0, none⟩) (cs.length + 1) cap')
              have q8 := Y8.facts.1.2.2.2.1
              have X8 := (blk_grown ((blk_gb (w := w5.drew) X5 g6 hne).on (on_alloc w6 (.cells #[.string ⟨c.toArray⟩] 9))) hgr hneW).other (M := NX) (i := 3) (by omega) (.slice (some ⟨g, 0, none⟩) (cs.length + 1) cap')
              have R8 := rd_far (j := 3) (rd_grown (r6.on (on_alloc w6 (.cells #[.string ⟨c.toArray⟩] 9))) hgr hneB) hny (.slice (some ⟨g, 0, none⟩) (cs.length + 1) cap')
              have GD : w.grownBy w5.drew (some b) := ⟨G5.os, G5.tape, G5.output, G5.size, G5.block⟩
              have G8 := gb_box (gb_new (gb_on (gb_chain GD g6) (on_alloc w6 (.cells #[.string ⟨c.toArray⟩] 9))) hgr (fun k hk => by have := hOwn k hk; omega)) (M := NX) (by omega) 3 (.slice (some ⟨g, 0, none⟩) (cs.length + 1) cap')
              have O8 : Hid ((w7.setCell ⟨NX, 3, none⟩ (.slice (some ⟨g, 0, none⟩) (cs.length + 1) cap')).ownsRow (NX + 1) 9 1 (.slice (some ⟨g, 0, none⟩) (cs.length + 1) cap') (cs ++ [c]).length (strCells (cs ++ [c]))) := by
                have := own_set (M := NX) (j := 3) (u := .slice (some ⟨g, 0, none⟩) (cs.length + 1) cap') hrow' (by omega)
                unfold Hid
                rw [List.length_append]
                exact this
              have hs8 : NX + 1 ≤ (w7.setCell ⟨NX, 3, none⟩ (.slice (some ⟨g, 0, none⟩) (cs.length + 1) cap')).heap.size := by
                have h1 := hgr.size
                have h2 := g6.size
                have h3 : w5.drew.heap.size = w5.heap.size := rfl
                simp [World.setCell] at *
                omega
              have HY8 : Hid _ := Y8
              have HX8 : Hid _ := X8
              have HR8 : Hid _ := R8
              have HG8 : Hid _ := G8
              have hl8 := Nat.le_trans (name_rest hnm) hl5
              have hm8 : 6 - lenAt (w7.setCell ⟨NX, 3, none⟩ (.slice (some ⟨g, 0, none⟩) (cs.length + 1) cap')) ⟨NX, 3, none⟩ < 6 - lenAt wr ⟨NX, 3, none⟩ := by
                rw [lenAt_eq q8, lenAt_eq y3]; omega
              clear Y8 X8 R8 G8 GD q8 Y7 z7 zf7 Y6 z6 z6a hrow' hgr r6 g6
              go_wp2
              exact ⟨⟨cs ++ [c], t2, _, by rw [List.length_append]; simp only [List.length_singleton]; omega, HC, O8, HY8, HX8, HR8, HG8, hl8, hs8⟩, hm8⟩
        case' none =>
          have HC : Hid (Pl.rdCls 6 l3 = some (cs, t)) := by unfold Hid; rw [hcl.out, rdCls_stop h46]; simp [preC]
          go_wp2_with fail
          refine (take_no b t 46 _ hr.out h46).mono ?_
          rintro e wM ⟨rfl, RM, g5⟩
          have GM := gb_chain hg.out g5
          have YM := blk_gb hy.out g5 hny
          have XM := blk_gb hx.out g5 hne
          have OM := own_gb hown.out g5 (by omega)
          have hsM : NX + 1 ≤ wM.heap.size := Nat.le_trans hsr g5.size
          clear y0 y1 y2 y3 y4 yf g5 h46 hcl hown hy hx hr hg hsr h6i h6
          obtain ⟨⟨_, _, _, _, y4⟩, yf⟩ := YM.facts
          go_wp2_with fail
      case' neg =>
        have h6i : ¬ (cs.length : Int) < 6 := by omega
        have HC : Hid (Pl.rdCls 6 l3 = some (cs, t)) := by unfold Hid; rw [hcl.out, show 6 - cs.length = 0 by omega]; simp [preC, Pl.rdCls]
        have GM := hg.out
        have YM := hy.out
        have XM := hx.out
        have OM := hown.out
        have RM := hr.out
        have hsM := hsr
        clear hcl hown hy hx hr hg hsr h6
        generalize wr = wM at *
        go_wp2_with fail
      all_goals
        have HO1 : Hid (∀ k, (Value.slice av cs.length cv).ownBlock = some k → NX + 1 ≤ k ∧ k < wM.heap.size) := fun k hk => World.ownsRow.lt OM k hk
        have HX2 : Hid _ := XM
        have HY2 : Hid (Blk wM NX (.int .i64 up) (.string ⟨tag.toArray⟩) (.string ⟨idn.toArray⟩) (.slice av cs.length cv) (.slice none 0 0)) := YM
        have HR2 : Hid _ := RM
        have HG2 : Hid _ := GM
        have HO2 : Hid _ := OM
        clear XM YM RM GM OM
        go_loopw [30] (fun _ wr => ∃ (ats : List (List UInt8 × List UInt8)) (u : List UInt8) (v : Value), ats.length ≤ 4 ∧ Hid (Pl.rdAts 4 t = preA ats (Pl.rdAts (4 - ats.length) u)) ∧ Hid (wr.ownsRow wM.heap.size 95 2 v ats.length (atCells ats)) ∧ Hid (wr.ownsRow (NX + 1) 9 1 (.slice av cs.length cv) cs.length (strCells cs)) ∧ Hid (Blk wr NX (.int .i64 up) (.string ⟨tag.toArray⟩) (.string ⟨idn.toArray⟩) (.slice av cs.length cv) v) ∧ Hid (Blk wr w.heap.size (.int .i64 0) (.string ⟨#[]⟩) (.string ⟨#[]⟩) (.slice none 0 0) (.slice none 0 0)) ∧ Hid (RdAt b u wr) ∧ Hid (w.grownBy wr (some b)) ∧ u.length ≤ maxLen ∧ wM.heap.size ≤ wr.heap.size) (fun _ wr => 4 - lenAt wr ⟨NX, 4, none⟩)
        case atStart => exact ⟨[], t, _, by simp, by unfold Hid preA; cases Pl.rdAts 4 t <;> simp, World.ownsRow_nil _ _ _ _, HO2, HY2, HX2, HR2, HG2, hlt, Nat.le_refl _⟩
        case round =>
          obtain ⟨ats, u, v, hc4, hcl, hown, hownC, hy, hx, hr, hg, hut, hsr⟩ := hrel
          obtain ⟨ap, cp, rfl⟩ := own_form hown.out
          obtain ⟨⟨y0, y1, y2, y3, y4⟩, yf⟩ := hy.out.facts
          by_cases h4 : ats.length < 4
          case' pos =>
            have h4i : (ats.length : Int) < 4 := by omega
            rcases h91 : Pl.need 91 u with _ | u1
            case' some =>
              rcases hnm : Pl.rdAttr u1 with _ | ⟨c, u2⟩
              · have HC2 : Hid (Pl.rdAts 4 t = none) := by unfold Hid; rw [hcl.out, show 4 - ats.length = (3 - ats.length) + 1 by omega, rdAts_bad h91 hnm]; rfl
                go_wp2_with fail
                refine (take_yes b u u1 91 _ hr.out h91).mono ?_
                rintro e w5 ⟨rfl, r5, g5⟩
                have G5 : Hid _ := gb_chain hg.out g5
                have Y5 := blk_gb hy.out g5 hny
                have hl5 := Nat.le_trans (need_len h91) hut
                obtain ⟨⟨z0, z1, z2, z3, z4⟩, zf⟩ := Y5.facts
                have R5d : RdAt b u1 w5.drew := r5
                clear y0 y1 y2 y3 y4 yf r5 g5 Y5
                go_wp2_with fail
                refine wp_region_any (by kernel_rfl) ?_
                change wpAny _ _ _ _ _ _ _ (World.drew _)
                refine wpAny_take (i := 0) (v := .pointer (some ⟨NX, 4, none⟩)) rfl (by kernel_rfl) (by kernel_rfl) (by kernel_rfl) (fun _ _ _ h => h) (Or.inl ⟨by rfl, ?_⟩) ?_
                · intro w; go_simp
                refine wpAny_take (i := 2) (v := .pointer (some ⟨b, 0, none⟩)) rfl (by kernel_rfl) (by kernel_rfl) (by kernel_rfl) (fun _ _ _ h => h) (Or.inl ⟨by rfl, ?_⟩) ?_
                · intro w; go_simp
                refine wpAny_ready (rs := [1, 3]) (by kernel_rfl) (by simp) ?_
                refine AllReady.cons rfl (fun K hK => ?_) ?_
                · have zd : w5.drew.cell? ⟨NX, 4, none⟩ = some (.slice ap ats.length cp) := z4
                  go_simp
                  refine hK _ _ ?_
                  clear hK K
                  refine wpAny_ready (rs := [3]) (by kernel_rfl) (by simp) ?_
                  refine AllReady.cons rfl (fun K hK => ?_) AllReady.nil
                  go_simp
                  refine (attr_none b u1 _ R5d hl5 hnm).mono ?_
                  rintro e w6 ⟨rfl, g6⟩
                  have G6 : Hid (w.grownBy w6 (some b)) := gb_chain (b := w5.drew) ⟨G5.out.os, G5.out.tape, G5.out.output, G5.out.size, G5.out.block⟩ g6
                  go_wp2
                  exact ⟨rfl, Or.inl ⟨by unfold Pl.rdNode; rw [HN.out]; simp only; rw [HI.out]; simp only; rw [HC.out]; simp only; rw [HC2.out], rfl, G6.out⟩⟩
                · refine AllReady.cons rfl (fun K hK => ?_) AllReady.nil
                  go_simp
                  refine (attr_none b u1 _ R5d hl5 hnm).mono ?_
                  rintro e w6 ⟨rfl, g6⟩
                  have G6 : Hid (w.grownBy w6 (some b)) := gb_chain (b := w5.drew) ⟨G5.out.os, G5.out.tape, G5.out.output, G5.out.size, G5.out.block⟩ g6
                  go_wp2
                  exact ⟨rfl, Or.inl ⟨by unfold Pl.rdNode; rw [HN.out]; simp only; rw [HI.out]; simp only; rw [HC.out]; simp only; rw [HC2.out], rfl, G6.out⟩⟩
              · have HC2 : Hid (Pl.rdAts 4 t = preA (ats ++ [c]) (Pl.rdAts (4 - (ats ++ [c]).length) u2)) := by
                  unfold Hid
                  have e : 4 - (ats ++ [c]).length = 3 - ats.length := by
                    rw [List.length_append]
                    simp only [List.length_singleton]
                    omega
                  rw [hcl.out, show 4 - ats.length = (3 - ats.length) + 1 by omega, rdAts_go ats h91 hnm, e]
                go_wp2_with fail
                refine (take_yes b u u1 91 _ hr.out h91).mono ?_
                rintro e w5 ⟨rfl, r5, g5⟩
                have G5 := gb_chain hg.out g5
                have Y5 := blk_gb hy.out g5 hny
                have X5 := blk_gb hx.out g5 hne
                have O5 := own_gb hown.out g5 (by omega)
                have OC5 := own_gb hownC.out g5 (by omega)
                have hl5 := Nat.le_trans (need_len h91) hut
                have hs5 : wM.heap.size ≤ w5.heap.size := Nat.le_trans hsr g5.size
                obtain ⟨⟨z0, z1, z2, z3, z4⟩, zf⟩ := Y5.facts
                have zd : w5.drew.cell? ⟨NX, 4, none⟩ = some (.slice ap ats.length cp) := z4
                have hOwn : ∀ k, (Value.slice ap ats.length cp).ownBlock = some k → wM.heap.size ≤ k := fun k hk => (World.ownsRow.lt O5 k hk).1
                have hneX : some NX ≠ (Value.slice ap ats.length cp).ownBlock := fun e => by have := hOwn NX e.symm; omega
                have hneW : some w.heap.size ≠ (Value.slice ap ats.length cp).ownBlock := fun e => by have := hOwn _ e.symm; omega
                have hneB : some b ≠ (Value.slice ap ats.length cp).ownBlock := fun e => by have := hOwn _ e.symm; omega
                have hneC : ∀ k, (Value.slice av cs.length cv).ownBlock = some k → some k ≠ (Value.slice ap ats.length cp).ownBlock := fun k hk e => by have := hOwn k e.symm; have := HO1.out k hk; omega
                have RD : RdAt b u1 w5.drew := r5
                clear y0 y1 y2 y3 yf g5 z0 z1 z2 z3 r5
                go_wp2_with fail
                go_region_law (first | (go_simp; go_at_call 96; refine (attr_some b u1 c u2 _ RD hl5 hnm).mono ?_; rintro e w6 ⟨rfl, r6, g6⟩; have Y6 := blk_gb (w := w5.drew) Y5 g6 hny; have z6 := Y6.facts.1.2.2.2.2; have z6a := cell_on (on_alloc w6 (.cells #[.string ⟨c.1.toArray⟩, .string ⟨c.2.toArray⟩] 95)) z6) | (refine step_aadd (B := wM.heap.size) (w2 := w6) (v := .slice ap ats.length cp) (cs := ats) (c := c) rfl (.tmp 39) (.tmp 42) rfl rfl rfl (own_gb (w := w5.drew) O5 g6 (by omega)) (by omega) (Nat.le_trans hs5 g6.size) ?_; intro g cap' w7 hrow' hgr; have Y7 := blk_grown (Y6.on (on_alloc _ _)) hgr hneX; have z7 := Y7.facts.1.2.2.2.2; have zf7 := Y7.facts.2))
                all_goals
                  have Y8 := Y7.set4 (.slice (some ⟨g, 0, none⟩) (ats.length + 1) cap')
                  have q8 := Y8.facts.1.2.2.2.2
                  have X8 := (blk_grown ((blk_gb (w := w5.drew) X5 g6 hne).on (on_alloc w6 (.cells #[.string ⟨c.1.toArray⟩, .string ⟨c.2.toArray⟩] 95))) hgr hneW).other (M := NX) (i := 4) (by omega) (.slice (some ⟨g, 0, none⟩) (ats.length + 1) cap')
                  have R8 := rd_far (j := 4) (rd_grown (r6.on (on_alloc w6 (.cells #[.string ⟨c.1.toArray⟩, .string ⟨c.2.toArray⟩] 95))) hgr hneB) hny (.slice (some ⟨g, 0, none⟩) (ats.length + 1) cap')
                  have GD : w.grownBy w5.drew (some b) := ⟨G5.os, G5.tape, G5.output, G5.size, G5.block⟩
                  have G8 := gb_box (gb_new (gb_on (gb_chain GD g6) (on_alloc w6 (.cells #[.string ⟨c.1.toArray⟩, .string ⟨c.2.toArray⟩] 95))) hgr (fun k hk => by have := hOwn k hk; omega)) (M := NX) (by omega) 4 (.slice (some ⟨g, 0, none⟩) (ats.length + 1) cap')
                  have O8 : Hid ((w7.setCell ⟨NX, 4, none⟩ (.slice (some ⟨g, 0, none⟩) (ats.length + 1) cap')).ownsRow wM.heap.size 95 2 (.slice (some ⟨g, 0, none⟩) (ats.length + 1) cap') (ats ++ [c]).length (atCells (ats ++ [c]))) := by
                    have := own_set (M := NX) (j := 4) (u := .slice (some ⟨g, 0, none⟩) (ats.length + 1) cap') hrow' (by omega)
                    unfold Hid
                    rw [List.length_append]
                    exact this
                  have OC8 : Hid _ := own_set (M := NX) (j := 4) (u := .slice (some ⟨g, 0, none⟩) (ats.length + 1) cap') (own_far (own_on (own_gb (w := w5.drew) OC5 g6 (by omega)) (on_alloc w6 (.cells #[.string ⟨c.1.toArray⟩, .string ⟨c.2.toArray⟩] 95))) hgr hneC) (by omega)
                  have hs8 : wM.heap.size ≤ (w7.setCell ⟨NX, 4, none⟩ (.slice (some ⟨g, 0, none⟩) (ats.length + 1) cap')).heap.size := by
                    have h1 := hgr.size
                    have h2 := g6.size
                    have h3 : w5.drew.heap.size = w5.heap.size := rfl
                    simp [World.setCell] at *
                    omega
                  have HY8 : Hid _ := Y8
                  have HX8 : Hid _ := X8
                  have HR8 : Hid _ := R8
                  have HG8 : Hid _ := G8
                  have hl8 := Nat.le_trans (attr_rest hnm) hl5
                  have hm8 : 4 - lenAt (w7.setCell ⟨NX, 4, none⟩ (.slice (some ⟨g, 0, none⟩) (ats.length + 1) cap')) ⟨NX, 4, none⟩ < 4 - lenAt wr ⟨NX, 4, none⟩ := by
                    rw [lenAt_eq q8, lenAt_eq y4]; omega
                  clear Y8 X8 R8 G8 GD q8 Y7 z7 zf7 Y6 z6 z6a hrow' hgr r6 g6
                  go_wp2
                  exact ⟨⟨ats ++ [c], u2, _, by rw [List.length_append]; simp only [List.length_singleton]; omega, HC2, O8, OC8, HY8, HX8, HR8, HG8, hl8, hs8⟩, hm8⟩
            case' none =>
              have HC2 : Hid (Pl.rdAts 4 t = some (ats, u)) := by unfold Hid; rw [hcl.out, rdAts_stop h91]; simp [preA]
              go_wp2_with fail
              refine (take_no b u 91 _ hr.out h91).mono ?_
              rintro e wN ⟨rfl, RN, g5⟩
              have GN := gb_chain hg.out g5
              have YN := blk_gb hy.out g5 hny
              have XN := blk_gb hx.out g5 hne
              have ON := own_gb hown.out g5 (by omega)
              have OCN := own_gb hownC.out g5 (by omega)
              clear y0 y1 y2 y3 y4 yf g5 h91 hcl hown hownC hy hx hr hg hsr h4i h4
              obtain ⟨⟨y0, y1, y2, y3, y4⟩, yf⟩ := YN.facts
              obtain ⟨⟨x0, x1, x2, x3, x4⟩, xf⟩ := XN.facts
              go_wp2_with fail
          case' neg =>
            have h4i : ¬ (ats.length : Int) < 4 := by omega
            have HC2 : Hid (Pl.rdAts 4 t = some (ats, u)) := by unfold Hid; rw [hcl.out, show 4 - ats.length = 0 by omega]; simp [preA, Pl.rdAts]
            have GN := hg.out
            have YN := hy.out
            have XN := hx.out
            have ON := hown.out
            have OCN := hownC.out
            have RN := hr.out
            obtain ⟨⟨x0, x1, x2, x3, x4⟩, xf⟩ := XN.facts
            clear hcl hown hownC hy hx hr hg hsr h4
            generalize wr = wN at *
            go_wp2_with fail
          all_goals
            have hN : Pl.rdNode up l = some (⟨up, tag, idn, cs, ats⟩, u) := by unfold Pl.rdNode; rw [HN.out]; simp only; rw [HI.out]; simp only; rw [HC.out]; simp only; rw [HC2.out]
            have F5 := five_blk XN (.int .i64 up) (.string ⟨tag.toArray⟩) (.string ⟨idn.toArray⟩) (.slice av cs.length cv) (.slice ap ats.length cp)
            have GF := five_gb GN (N := w.heap.size) (Nat.le_refl _) (.int .i64 up) (.string ⟨tag.toArray⟩) (.string ⟨idn.toArray⟩) (.slice av cs.length cv) (.slice ap ats.length cp)
            have OF := five_own ON (N := w.heap.size) (by omega) (.int .i64 up) (.string ⟨tag.toArray⟩) (.string ⟨idn.toArray⟩) (.slice av cs.length cv) (.slice ap ats.length cp)
            have OCF := five_own OCN (N := w.heap.size) (by omega) (.int .i64 up) (.string ⟨tag.toArray⟩) (.string ⟨idn.toArray⟩) (.slice av cs.length cv) (.slice ap ats.length cp)
            have RF : RdAt b u (setFive wN w.heap.size (.int .i64 up) (.string ⟨tag.toArray⟩) (.string ⟨idn.toArray⟩) (.slice av cs.length cv) (.slice ap ats.length cp)) := by
              unfold RdAt; rw [five_heap _ _ _ _ _ _ _ _ (by omega)]; exact RN
            change bodyPost _ _ _ _ _ (setFive wN w.heap.size (.int .i64 up) (.string ⟨tag.toArray⟩) (.string ⟨idn.toArray⟩) (.slice av cs.length cv) (.slice ap ats.length cp))
            generalize setFive wN w.heap.size (.int .i64 up) (.string ⟨tag.toArray⟩) (.string ⟨idn.toArray⟩) (.slice av cs.length cv) (.slice ap ats.length cp) = wF at *
            obtain ⟨⟨q0, q1, q2, q3, q4⟩, _⟩ := F5.facts
            exact bodyPost_ret (v := .agg #[.int .i64 up, .string ⟨tag.toArray⟩, .string ⟨idn.toArray⟩, .slice av cs.length cv, .slice ap ats.length cp]) (by simp [results, Try.results90, go_sem, q0, q1, q2, q3, q4]) rfl
              (node_end hN ((strs_of_row OCF).mono (by omega)) ((ats_of_row OF).mono (by omega)) RF GF)
end Go.Proofs.Ythlpcmgeelkncaa
