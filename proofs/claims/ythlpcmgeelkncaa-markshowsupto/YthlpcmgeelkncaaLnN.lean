/-
  The document's own reader of texts: an element with all below it.
-/
import Derived.Test.YthlpcmgeelkncaaLnM
import Derived.Test.YthlpcmgeelkncaaRde
namespace Go.Proofs.Ythlpcmgeelkncaa
open Go.RowKit

/-- what reading an element with all below it tells -/
def LnSays (B b f : Nat) (ns : List Pl.Nd) (up : Int) (l : List UInt8) (w : World) (e : Ending) (w' : World) : Prop :=
  ∃ v', e = .returned v' ∧ NRow B w' v' (Pl.lnEl f ns up l).1 ∧ LnAt b (Pl.lnEl f ns up l).2 w' ∧ Fr B b w w'
theorem LnSays.mk {B b f : Nat} {ns ns' : List Pl.Nd} {up : Int} {l r : List UInt8} {w w' : World} {v' : Value} (h : Pl.lnEl f ns up l = (ns', r)) (h1 : NRow B w' v' ns') (h2 : LnAt b r w') (h3 : Fr B b w w') : LnSays B b f ns up l w (.returned v') w' :=
  ⟨v', rfl, by rw [h]; exact h1, by rw [h]; exact h2, h3⟩
/-- the kids that are still to read, or what is left when there are none -/
def kidsOr (more : Bool) (f : Nat) (ns : List Pl.Nd) (n : Int) (l : List UInt8) : List Pl.Nd × List UInt8 := match more with
  | true => Pl.lnKids f ns n l
  | false => (ns, Pl.sg [41] l)
set_option maxRecDepth 100000 in
set_option maxHeartbeats 8000000 in
theorem lnode_any (B b : Nat) (hbB : b < B) : ∀ (F f : Nat) (ns : List Pl.Nd) (v : Value) (up : Int) (l : List UInt8) (w : World), f ≤ F → ns.length ≤ 64 → 2 * (64 - ns.length) + 2 ≤ f → NRow B w v ns → B ≤ w.heap.size → LnAt b l w → l.length ≤ 1048576 →
    Calls Try.prog 65 #[.pointer (some ⟨b, 0, none⟩), v, .int .i64 up] w (LnSays B b f ns up l w) := by
  intro F
  induction F with
  | zero => intro f ns v up l w h1 h2 h3; omega
  | succ F ih =>
    intro f ns v up l w hf h64 hfu hrow hBw hr hl
    obtain ⟨f, rfl⟩ : ∃ f', f = f' + 1 := ⟨f - 1, by omega⟩
    obtain ⟨a, cap, rfl⟩ := hrow.form
    have HIH : Hid _ := ih
    have HRow : Hid (NRow _ _ _ _) := hrow
    have hlt := hrow.lt
    have hb := hr.facts.2.2
    clear ih hrow
    obtain ⟨tag, htag⟩ : ∃ t, l.takeWhile Pl.isNB = t := ⟨_, rfl⟩
    obtain ⟨l1, hl1⟩ : ∃ t, l.dropWhile Pl.isNB = t := ⟨_, rfl⟩
    have HTag : Hid (l.takeWhile Pl.isNB = tag) := htag
    have HL1 : Hid (l.dropWhile Pl.isNB = l1) := hl1
    have hle1 : l1.length ≤ l.length := by rw [← hl1]; exact Pl.run_ge l
    clear htag hl1
    go_enter Try.func65, Try.ntmps65
    go_wp2_with fail
    refine (lnName_at b l tag l1 _ hr hl HTag.out HL1.out).mono ?_
    rintro e w1 ⟨rfl, r1, g1⟩
    have hz1 := g1.size
    have r2 := r1.on (on_alloc w1 (.cells #[.int .i64 up, .string ⟨tag.toArray⟩, .string ⟨#[]⟩, .slice none 0 0, .slice none 0 0] 47))
    have G2 := gb_on g1 (on_alloc w1 (.cells #[.int .i64 up, .string ⟨tag.toArray⟩, .string ⟨#[]⟩, .slice none 0 0, .slice none 0 0] 47))
    have Y2 : Blk (w1.alloc (.cells #[.int .i64 up, .string ⟨tag.toArray⟩, .string ⟨#[]⟩, .slice none 0 0, .slice none 0 0] 47)) w1.heap.size (.int .i64 up) (.string ⟨tag.toArray⟩) (.string ⟨#[]⟩) (.slice none 0 0) (.slice none 0 0) := heap_alloc_new w1 _
    have hz2 : (w1.alloc (.cells #[.int .i64 up, .string ⟨tag.toArray⟩, .string ⟨#[]⟩, .slice none 0 0, .slice none 0 0] 47)).heap.size = w1.heap.size + 1 := by simp
    clear g1 r1 hr
    go_wp2_with fail
    generalize w1.alloc (.cells #[.int .i64 up, .string ⟨tag.toArray⟩, .string ⟨#[]⟩, .slice none 0 0, .slice none 0 0] 47) = w2 at *
    generalize hNX : w1.heap.size = NX at *
    have HNX : Hid _ := hNX
    clear hNX
    have hny : NX ≠ b := by omega
    have hbN : b < NX := by omega
    rcases h35 : Pl.need 35 l1 with _ | l2
    case' none =>
      refine (sign_no b l1 35 _ r2 h35).mono ?_
      rintro e wL ⟨rfl, rL, g3⟩
      have hall : ∃ idn l3, Hid (Pl.lnId l1 = (idn, l3)) ∧ LnAt b l3 wL ∧ Blk wL NX (.int .i64 up) (.string ⟨tag.toArray⟩) (.string ⟨idn.toArray⟩) (.slice none 0 0) (.slice none 0 0) ∧ l3.length ≤ l1.length :=
        ⟨[], l1, by unfold Hid Pl.lnId; rw [h35], rL, blk_gb Y2 g3 hny, Nat.le_refl _⟩
      clear rL
      obtain ⟨idn, l3, HI, rL, YL, hl3⟩ := hall
      have GL := gb_chain G2 g3
      have hsL : NX + 1 ≤ wL.heap.size := by have := g3.size; omega
      clear g3 G2 Y2 r2 h35
      go_wp2_with fail
    case' some =>
      refine (sign_yes b l1 l2 35 _ r2 h35).mono ?_
      rintro e w3 ⟨rfl, r3, g3⟩
      have G3 := gb_chain G2 g3
      have Y3 := blk_gb Y2 g3 hny
      have hl2 := Pl.need_lt h35
      have H35 : Hid _ := h35
      have hs3 : NX + 1 ≤ w3.heap.size := by have := g3.size; omega
      clear g3 G2 Y2 r2 h35
      obtain ⟨idn, hidn⟩ : ∃ t, l2.takeWhile Pl.isNB = t := ⟨_, rfl⟩
      obtain ⟨l3, hl3e⟩ : ∃ t, l2.dropWhile Pl.isNB = t := ⟨_, rfl⟩
      have hl3 : l3.length ≤ l1.length := by have h := Pl.run_ge (p := Pl.isNB) l2; rw [hl3e] at h; omega
      have HI : Hid (Pl.lnId l1 = (idn, l3)) := by unfold Hid Pl.lnId; rw [H35.out]; simp only; rw [hidn, hl3e]
      have HA1 : Hid _ := hidn
      have HA2 : Hid _ := hl3e
      clear hidn hl3e
      go_wp2_with fail
      refine (lnName_at b l2 idn l3 _ r3 (by omega) HA1.out HA2.out).mono ?_
      rintro e w4 ⟨rfl, r4, g4⟩
      have G4 := gb_chain G3 g4
      have Y4 := blk_gb Y3 g4 hny
      have hs4 : NX + 1 ≤ w4.heap.size := by have := g4.size; omega
      obtain ⟨⟨y0, y1, y2, y3, y4⟩, yf⟩ := Y4.facts
      have rL := ln_far (j := 2) r4 hny (.string ⟨idn.toArray⟩)
      have GL := gb_box G4 (M := NX) (by omega) 2 (.string ⟨idn.toArray⟩)
      have YL := Y4.set2 (.string ⟨idn.toArray⟩)
      have hsL : NX + 1 ≤ (w4.setCell ⟨NX, 2, none⟩ (.string ⟨idn.toArray⟩)).heap.size := by simpa [World.setCell] using hs4
      clear g4 G3 Y3 r3 G4 Y4 r4 HA1 HA2 hl2
      go_wp2_with fail
      generalize w4.setCell ⟨NX, 2, none⟩ (.string ⟨idn.toArray⟩) = wL at *
      clear y0 y1 y2 y3 y4 yf
    all_goals
      have HY : Hid (Blk wL NX (.int .i64 up) (.string ⟨tag.toArray⟩) (.string ⟨idn.toArray⟩) (.slice none 0 0) (.slice none 0 0)) := YL
      have HR : Hid (LnAt _ _ _) := rL
      have HG : Hid _ := GL
      clear YL rL GL
      go_loopw [21] (fun _ wr => ∃ (n : Nat) (cs : List (List UInt8)) (t : List UInt8) (v : Value), t.length ≤ n ∧ cs.length + t.length ≤ l3.length ∧ Hid (Pl.lnCls l3.length l3 = Pl.preD cs (Pl.lnCls n t)) ∧ Hid (wr.ownsRow (NX + 1) 9 1 v cs.length (strCells cs)) ∧ Hid (Blk wr NX (.int .i64 up) (.string ⟨tag.toArray⟩) (.string ⟨idn.toArray⟩) v (.slice none 0 0)) ∧ Hid (LnAt b t wr) ∧ Hid (w.grownBy wr (some b)) ∧ NX + 1 ≤ wr.heap.size) (fun _ wr => textAt wr ⟨b, 0, none⟩)
      case atStart => exact ⟨l3.length, [], l3, _, Nat.le_refl _, by simp, by unfold Hid Pl.preD; simp, World.ownsRow_nil _ _ _ _, HY, HR, HG, hsL⟩
      case round =>
        obtain ⟨n, cs, t, v, hn, hct, hcl, hown, hy, hr, hg, hsr⟩ := hrel
        obtain ⟨av, cv, rfl⟩ := own_form hown.out
        rcases h46 : Pl.need 46 t with _ | t1
        case' some =>
          have ht1 := Pl.need_lt h46
          obtain ⟨n, rfl⟩ : ∃ n', n = n' + 1 := ⟨n - 1, by omega⟩
          obtain ⟨c, hce⟩ : ∃ x, t1.takeWhile Pl.isNB = x := ⟨_, rfl⟩
          obtain ⟨t2, ht2e⟩ : ∃ x, t1.dropWhile Pl.isNB = x := ⟨_, rfl⟩
          have ht2 : t2.length ≤ t1.length := by rw [← ht2e]; exact Pl.run_ge t1
          have HC : Hid (Pl.lnCls l3.length l3 = Pl.preD (cs ++ [c]) (Pl.lnCls n t2)) := by unfold Hid; rw [hcl.out, Pl.lnCls_go cs h46 hce ht2e]
          have HA1 : Hid (t1.takeWhile Pl.isNB = c) := hce
          have HA2 : Hid (t1.dropWhile Pl.isNB = t2) := ht2e
          clear hce ht2e
          go_wp2_with fail
          refine (sign_yes b t t1 46 _ hr.out h46).mono ?_
          rintro e w5 ⟨rfl, r5, g5⟩
          have G5 := gb_chain hg.out g5
          have Y5 := blk_gb hy.out g5 hny
          have O5 := own_gb hown.out g5 (by omega)
          have hs5 : NX + 1 ≤ w5.heap.size := Nat.le_trans hsr g5.size
          obtain ⟨⟨z0, z1, z2, z3, z4⟩, zf⟩ := Y5.facts
          have zd : w5.drew.cell? ⟨NX, 3, none⟩ = some (.slice av cs.length cv) := z3
          have hOwn : ∀ k, (Value.slice av cs.length cv).ownBlock = some k → NX + 1 ≤ k := fun k hk => (World.ownsRow.lt O5 k hk).1
          have hneX : some NX ≠ (Value.slice av cs.length cv).ownBlock := fun e => by have := hOwn NX e.symm; omega
          have hneB : some b ≠ (Value.slice av cs.length cv).ownBlock := fun e => by have := hOwn _ e.symm; omega
          have RD : LnAt b t1 w5.drew := r5
          have hm0 := textAt_eq hr.out
          have hq1 : t1.length ≤ 1048576 := by omega
          have hq2 : cs.length + 1 ≤ 2097152 := by omega
          clear g5 z0 z1 z2 z4 r5
          go_wp2_with fail
          go_region_law (first | (go_simp; go_at_call 81; refine (lnName_at b t1 c t2 _ RD hq1 HA1.out HA2.out).mono ?_; rintro e w6 ⟨rfl, r6, g6⟩; have Y6 := blk_gb (w := w5.drew) Y5 g6 hny; have z6 := Y6.facts.1.2.2.2.1; have z6a := cell_on (on_alloc w6 (.cells #[.string ⟨c.toArray⟩] 9)) z6) | (refine step_sadd2 (B := NX + 1) (w2 := w6) (v := .slice av cs.length cv) (cs := cs) (c := c) rfl (.tmp 23) (.tmp 26) rfl rfl rfl (own_gb (w := w5.drew) O5 g6 (by omega)) hq2 (Nat.le_trans hs5 g6.size) ?_; intro g cap' w7 hrow' hgr; have Y7 := blk_grown (Y6.on (on_alloc _ _)) hgr hneX; have z7 := Y7.facts.1.2.2.2.1; have zf7 := Y7.facts.2))
          all_goals
            have Y8 := Y7.set3 (.slice (some ⟨g, 0, none⟩) (cs.length + 1) cap')
            have R8 := ln_far (j := 3) (ln_grown (r6.on (on_alloc w6 (.cells #[.string ⟨c.toArray⟩] 9))) hgr hneB) hny (.slice (some ⟨g, 0, none⟩) (cs.length + 1) cap')
            have GD : w.grownBy w5.drew (some b) := ⟨G5.os, G5.tape, G5.output, G5.size, G5.block⟩
            have G8 := gb_box (gb_new (gb_on (gb_chain GD g6) (on_alloc w6 (.cells #[.string ⟨c.toArray⟩] 9))) hgr (fun k hk => by have := hOwn k hk; omega)) (M := NX) (by omega) 3 (.slice (some ⟨g, 0, none⟩) (cs.length + 1) cap')
            have O8 : Hid ((w7.setCell ⟨NX, 3, none⟩ (.slice (some ⟨g, 0, none⟩) (cs.length + 1) cap')).ownsRow (NX + 1) 9 1 (.slice (some ⟨g, 0, none⟩) (cs.length + 1) cap') (cs ++ [c]).length (strCells (cs ++ [c]))) := by
              have := own_set (M := NX) (j := 3) (u := .slice (some ⟨g, 0, none⟩) (cs.length + 1) cap') hrow' (by omega)
              unfold Hid
              rw [List.length_append]
              exact this
            have hs8 : NX + 1 ≤ (w7.setCell ⟨NX, 3, none⟩ (.slice (some ⟨g, 0, none⟩) (cs.length + 1) cap')).heap.size := by
              have h1 := hgr.size
              have h2 := g6.size
              have h3 : w5.drew.heap.size = w5.heap.size := rfl
              simp [World.setCell] at *
              omega
            have hm8 : textAt (w7.setCell ⟨NX, 3, none⟩ (.slice (some ⟨g, 0, none⟩) (cs.length + 1) cap')) ⟨b, 0, none⟩ < textAt wr ⟨b, 0, none⟩ := by
              rw [textAt_eq R8, hm0]; omega
            have HY8 : Hid _ := Y8
            have HR8 : Hid _ := R8
            have HG8 : Hid _ := G8
            clear Y8 R8 G8 GD Y7 z7 zf7 Y6 z6 z6a hrow' hgr r6 g6
            go_wp2
            exact ⟨⟨n, cs ++ [c], t2, _, by omega, by rw [List.length_append]; simp only [List.length_singleton]; omega, HC, O8, HY8, HR8, HG8, hs8⟩, hm8⟩
        case' none =>
          have HC : Hid (Pl.lnCls l3.length l3 = (cs, t)) := by unfold Hid; rw [hcl.out, Pl.lnCls_stop h46]; simp [Pl.preD]
          go_wp2_with fail
          refine (sign_no b t 46 _ hr.out h46).mono ?_
          rintro e wM ⟨rfl, RM, g5⟩
          have GM := gb_chain hg.out g5
          have YM := blk_gb hy.out g5 hny
          have OM := own_gb hown.out g5 (by omega)
          have hsM : NX + 1 ≤ wM.heap.size := Nat.le_trans hsr g5.size
          clear g5 h46 hcl hown hy hr hg hsr
          go_wp2_with fail
          have HO1 : Hid (∀ k, (Value.slice av cs.length cv).ownBlock = some k → NX + 1 ≤ k ∧ k < wM.heap.size) := fun k hk => World.ownsRow.lt OM k hk
          have HY2 : Hid (Blk wM NX (.int .i64 up) (.string ⟨tag.toArray⟩) (.string ⟨idn.toArray⟩) (.slice av cs.length cv) (.slice none 0 0)) := YM
          have HR2 : Hid (LnAt _ _ _) := RM
          have HG2 : Hid _ := GM
          have HO2 : Hid _ := OM
          clear YM RM GM OM
          go_loopw [30] (fun _ wr => ∃ (n : Nat) (ats : List (List UInt8 × List UInt8)) (u : List UInt8) (v : Value), u.length ≤ n ∧ ats.length + u.length ≤ t.length ∧ Hid (Pl.lnAts t.length t = Pl.preD ats (Pl.lnAts n u)) ∧ Hid (wr.ownsRow wM.heap.size 95 2 v ats.length (atCells ats)) ∧ Hid (wr.ownsRow (NX + 1) 9 1 (.slice av cs.length cv) cs.length (strCells cs)) ∧ Hid (Blk wr NX (.int .i64 up) (.string ⟨tag.toArray⟩) (.string ⟨idn.toArray⟩) (.slice av cs.length cv) v) ∧ Hid (LnAt b u wr) ∧ Hid (w.grownBy wr (some b)) ∧ wM.heap.size ≤ wr.heap.size) (fun _ wr => textAt wr ⟨b, 0, none⟩)
          case atStart => exact ⟨t.length, [], t, _, Nat.le_refl _, by simp, by unfold Hid Pl.preD; simp, World.ownsRow_nil _ _ _ _, HO2, HY2, HR2, HG2, Nat.le_refl _⟩
          case round =>
            obtain ⟨n, ats, u, v, hn, hau, hal, hown, hownC, hy, hr, hg, hsr⟩ := hrel
            obtain ⟨ap, cp, rfl⟩ := own_form hown.out
            rcases h91 : Pl.need 91 u with _ | u1
            case' some =>
              have hu1 := Pl.need_lt h91
              obtain ⟨n, rfl⟩ : ∃ n', n = n' + 1 := ⟨n - 1, by omega⟩
              obtain ⟨an, e1⟩ : ∃ x, u1.takeWhile Pl.isNB = x := ⟨_, rfl⟩
              obtain ⟨q1, e2⟩ : ∃ x, u1.dropWhile Pl.isNB = x := ⟨_, rfl⟩
              obtain ⟨q2, e3⟩ : ∃ x, Pl.sg [61, 34] q1 = x := ⟨_, rfl⟩
              obtain ⟨va, e4⟩ : ∃ x, q2.takeWhile Pl.notQ = x := ⟨_, rfl⟩
              obtain ⟨q3, e5⟩ : ∃ x, q2.dropWhile Pl.notQ = x := ⟨_, rfl⟩
              obtain ⟨u2, e6⟩ : ∃ x, Pl.sg [34, 93] q3 = x := ⟨_, rfl⟩
              have b1 : q1.length ≤ u1.length := by rw [← e2]; exact Pl.run_ge u1
              have b2 : q2.length ≤ q1.length := by rw [← e3]; exact Pl.sg_len _ _
              have b3 : q3.length ≤ q2.length := by rw [← e5]; exact Pl.run_ge q2
              have b4 : u2.length ≤ q3.length := by rw [← e6]; exact Pl.sg_len _ _
              have hat : Pl.lnAttr u1 = ((an, va), u2) := by unfold Pl.lnAttr; rw [e1, e2, e3, e4, e5, e6]
              have HC2 : Hid (Pl.lnAts t.length t = Pl.preD (ats ++ [(an, va)]) (Pl.lnAts n u2)) := by unfold Hid; rw [hal.out, Pl.lnAts_go ats h91 hat]
              have E1 : Hid (u1.takeWhile Pl.isNB = an) := e1
              have E2 : Hid (u1.dropWhile Pl.isNB = q1) := e2
              have E3 : Hid (Pl.sg [61, 34] q1 = q2) := e3
              have E4 : Hid (q2.takeWhile Pl.notQ = va) := e4
              have E5 : Hid (q2.dropWhile Pl.notQ = q3) := e5
              have E6 : Hid (Pl.sg [34, 93] q3 = u2) := e6
              have hm0 := textAt_eq hr.out
              clear e1 e2 e3 e4 e5 e6 hat hal
              go_wp2_with fail
              refine (sign_yes b u u1 91 _ hr.out h91).mono ?_
              rintro e w5 ⟨rfl, r5, g5⟩
              have G5 := gb_chain hg.out g5
              have Y5 := blk_gb hy.out g5 hny
              have O5 := own_gb hown.out g5 (by omega)
              have OC5 := own_gb hownC.out g5 (by omega)
              have hs5 : wM.heap.size ≤ w5.heap.size := Nat.le_trans hsr g5.size
              clear g5 hown hownC hy hr hg h91
              go_wp2_with fail
              refine (lnName_at b u1 an q1 _ r5 (by omega) E1.out E2.out).mono ?_
              rintro e w6 ⟨rfl, r6, g6⟩
              have Z7 : (w6.alloc (.cells #[.string ⟨an.toArray⟩, .string ⟨#[]⟩] 95)).heap[w6.heap.size]? = some (.cells #[.string ⟨an.toArray⟩, .string ⟨#[]⟩] 95) := heap_alloc_new w6 _
              have r7 := r6.on (on_alloc w6 (.cells #[.string ⟨an.toArray⟩, .string ⟨#[]⟩] 95))
              have G7 := gb_on (gb_chain G5 g6) (on_alloc w6 (.cells #[.string ⟨an.toArray⟩, .string ⟨#[]⟩] 95))
              have Y7 := (blk_gb Y5 g6 hny).on (on_alloc w6 (.cells #[.string ⟨an.toArray⟩, .string ⟨#[]⟩] 95))
              have hlt7 : ∀ k, (Value.slice ap ats.length cp).ownBlock = some k → wM.heap.size ≤ k ∧ k < w6.heap.size := fun k hk => World.ownsRow.lt (own_gb O5 g6 (by omega)) k hk
              have O7 := own_on (own_gb O5 g6 (by omega)) (on_alloc w6 (.cells #[.string ⟨an.toArray⟩, .string ⟨#[]⟩] 95))
              have OC7 := own_on (own_gb OC5 g6 (by omega)) (on_alloc w6 (.cells #[.string ⟨an.toArray⟩, .string ⟨#[]⟩] 95))
              have hs6 : wM.heap.size ≤ w6.heap.size := Nat.le_trans hs5 g6.size
              have hz7 : (w6.alloc (.cells #[.string ⟨an.toArray⟩, .string ⟨#[]⟩] 95)).heap.size = w6.heap.size + 1 := by simp
              clear g6 r5 r6 G5 Y5 O5 OC5
              go_wp2_with fail
              generalize w6.alloc (.cells #[.string ⟨an.toArray⟩, .string ⟨#[]⟩] 95) = w7 at *
              generalize hNA : w6.heap.size = NA at *
              have HNA : Hid _ := hNA
              clear hNA
              have hna : NA ≠ b := by omega
              have hNAX : NA ≠ NX := by omega
              refine (sign_at b q1 [61, 34] q2 _ r7 E3.out).mono ?_
              rintro e w8 ⟨t8, rfl, r8, g8⟩
              have G8 := gb_chain G7 g8
              have Y8 := blk_gb Y7 g8 hny
              have Z8 := box_kept Z7 g8 hna
              have O8 := own_gb O7 g8 (by omega)
              have OC8 := own_gb OC7 g8 (by omega)
              have hz8 := g8.size
              clear g8 r7 G7 Y7 Z7 O7 OC7
              go_wp2_with fail
              refine (lnValue_at b q2 va q3 _ r8 (by omega) E4.out E5.out).mono ?_
              rintro e w9 ⟨rfl, r9, g9⟩
              have G9 := gb_chain G8 g9
              have Y9 := blk_gb Y8 g9 hny
              have Z9 := box_kept Z8 g9 hna
              have O9 := own_gb O8 g9 (by omega)
              have OC9 := own_gb OC8 g9 (by omega)
              have hz9 := g9.size
              have d1 : w9.cell? ⟨NA, 1, none⟩ = some (.string ⟨#[]⟩) := by simp [World.cell?, Z9]
              have df : ∀ i, w9.frozen? ⟨NA, i, none⟩ = false := fun i => by simp [World.frozen?, Z9]
              have Zs : (w9.setCell ⟨NA, 1, none⟩ (.string ⟨va.toArray⟩)).heap[NA]? = some (.cells #[.string ⟨an.toArray⟩, .string ⟨va.toArray⟩] 95) := by simp [World.setCell, Array.getElem?_modify, Z9]
              have rs := ln_far (j := 1) r9 hna (.string ⟨va.toArray⟩)
              have Gs := gb_box G9 (M := NA) (by omega) 1 (.string ⟨va.toArray⟩)
              have Ys := Y9.other (M := NA) (i := 1) hNAX (.string ⟨va.toArray⟩)
              have Os := own_setne (j := 1) (u := .string ⟨va.toArray⟩) (M := NA) O9 (fun k hk => by have := hlt7 k hk; omega)
              have OCs := own_setne (j := 1) (u := .string ⟨va.toArray⟩) (M := NA) OC9 (fun k hk => by have := HO1.out k hk; omega)
              have hzs : (w9.setCell ⟨NA, 1, none⟩ (.string ⟨va.toArray⟩)).heap.size = w9.heap.size := by simp [World.setCell]
              clear g9 r8 G8 Y8 Z8 O8 OC8 r9 G9 Y9 Z9 O9 OC9
              go_wp2_with fail
              generalize w9.setCell ⟨NA, 1, none⟩ (.string ⟨va.toArray⟩) = w10 at *
              clear d1 df
              refine (sign_at b q3 [34, 93] u2 _ rs E6.out).mono ?_
              rintro e w11 ⟨t11, rfl, r11, g11⟩
              have G11 := gb_chain Gs g11
              have Y11 := blk_gb Ys g11 hny
              have Z11 := box_kept Zs g11 hna
              have O11 : Hid _ := own_gb Os g11 (by omega)
              have OC11 := own_gb OCs g11 (by omega)
              have hz11 := g11.size
              have hs11 : wM.heap.size ≤ w11.heap.size := by omega
              have d0 : w11.cell? ⟨NA, 0, none⟩ = some (.string ⟨an.toArray⟩) := by simp [World.cell?, Z11]
              have d1 : w11.cell? ⟨NA, 1, none⟩ = some (.string ⟨va.toArray⟩) := by simp [World.cell?, Z11]
              have z4 := Y11.facts.1.2.2.2.2
              have hneX : some NX ≠ (Value.slice ap ats.length cp).ownBlock := fun e => by have := (hlt7 NX e.symm).1; omega
              have hneB : some b ≠ (Value.slice ap ats.length cp).ownBlock := fun e => by have := (hlt7 _ e.symm).1; omega
              have hneC : ∀ k, (Value.slice av cs.length cv).ownBlock = some k → some k ≠ (Value.slice ap ats.length cp).ownBlock := fun k hk e => by have := hlt7 k e.symm; have := HO1.out k hk; omega
              clear g11 rs Gs Ys Zs Os OCs Z11
              go_wp2_with (at_builtin; refine Hid.out ?_)
              unfold Hid
              refine wpList_aadd2 (B := wM.heap.size) (w2 := w11) (v := .slice ap ats.length cp) (cs := ats) (c := (an, va)) ?_ (.tmp 42) (.tmp 44) ?_ ?_ ?_ O11.out (by omega) hs11 ?_
              · rfl
              · rfl
              · rfl
              · rfl
              intro g cap' w12 hrow' hgr
              have Y12 := blk_grown (Y11.on (on_alloc _ _)) hgr hneX
              have z12 := Y12.facts.1.2.2.2.2
              have zf12 := Y12.facts.2
              have Y13 : Hid _ := Y12.set4 (.slice (some ⟨g, 0, none⟩) (ats.length + 1) cap')
              have R13 := ln_far (j := 4) (ln_grown (r11.on (on_alloc w11 (.cells #[.string ⟨an.toArray⟩, .string ⟨va.toArray⟩] 95))) hgr hneB) hny (.slice (some ⟨g, 0, none⟩) (ats.length + 1) cap')
              have G13 : Hid _ := gb_box (gb_new (gb_on G11 (on_alloc w11 (.cells #[.string ⟨an.toArray⟩, .string ⟨va.toArray⟩] 95))) hgr (fun k hk => by have := hlt7 k hk; omega)) (M := NX) (by omega) 4 (.slice (some ⟨g, 0, none⟩) (ats.length + 1) cap')
              have O13 : Hid ((w12.setCell ⟨NX, 4, none⟩ (.slice (some ⟨g, 0, none⟩) (ats.length + 1) cap')).ownsRow wM.heap.size 95 2 (.slice (some ⟨g, 0, none⟩) (ats.length + 1) cap') (ats ++ [(an, va)]).length (atCells (ats ++ [(an, va)]))) := by
                have := own_set (M := NX) (j := 4) (u := .slice (some ⟨g, 0, none⟩) (ats.length + 1) cap') hrow' (by omega)
                unfold Hid
                rw [List.length_append]
                exact this
              have OC13 : Hid _ := own_set (M := NX) (j := 4) (u := .slice (some ⟨g, 0, none⟩) (ats.length + 1) cap') (own_far (own_on OC11 (on_alloc w11 (.cells #[.string ⟨an.toArray⟩, .string ⟨va.toArray⟩] 95))) hgr hneC) (by omega)
              have hs13 : wM.heap.size ≤ (w12.setCell ⟨NX, 4, none⟩ (.slice (some ⟨g, 0, none⟩) (ats.length + 1) cap')).heap.size := by
                have h1 := hgr.size
                have h2 : (w11.alloc (.cells #[.string ⟨an.toArray⟩, .string ⟨va.toArray⟩] 95)).heap.size = w11.heap.size + 1 := by simp
                have h3 : (w12.setCell ⟨NX, 4, none⟩ (.slice (some ⟨g, 0, none⟩) (ats.length + 1) cap')).heap.size = w12.heap.size := by simp [World.setCell]
                rw [h3]
                exact Nat.le_trans hs11 (Nat.le_trans (by rw [h2]; omega) h1)
              have hm13 : textAt (w12.setCell ⟨NX, 4, none⟩ (.slice (some ⟨g, 0, none⟩) (ats.length + 1) cap')) ⟨b, 0, none⟩ < textAt wr ⟨b, 0, none⟩ := by
                rw [textAt_eq R13, hm0]; omega
              have HR13 : Hid (LnAt _ _ _) := R13
              clear R13 Y12 Y11 r11 G11 OC11 O11 hrow' hgr
              go_wp2
              exact ⟨⟨n, ats ++ [(an, va)], u2, _, by omega, by rw [List.length_append]; simp only [List.length_singleton]; omega, HC2, O13, OC13, Y13, HR13, G13, hs13⟩, hm13⟩
            case' none =>
              have HC2 : Hid (Pl.lnAts t.length t = (ats, u)) := by unfold Hid; rw [hal.out, Pl.lnAts_stop h91]; simp [Pl.preD]
              go_wp2_with fail
              refine (sign_no b u 91 _ hr.out h91).mono ?_
              rintro e wN ⟨rfl, RN, g5⟩
              have GN := gb_chain hg.out g5
              have YN := blk_gb hy.out g5 hny
              have ON := own_gb hown.out g5 (by omega)
              have OCN := own_gb hownC.out g5 (by omega)
              have HN : Hid (Pl.lnNode up l = (⟨up, tag, idn, cs, ats⟩, u)) := Pl.lnNode_mk HTag.out HL1.out HI.out HC.out HC2.out
              have hNu : u.length ≤ 1048576 := by omega
              have HRN : Hid (NRow _ _ _ _) := NRow.gb HRow.out GN hbB
              have hBN : B ≤ wN.heap.size := Nat.le_trans hBw GN.size
              have FN := Fr.gb (B := B) hBw GN
              have hP : Mv (fun j => w.heap.size ≤ j) wN (fun j => B ≤ j ∧ some j ≠ (Value.slice a ns.length cap).ownBlock) wN := fun j hj _ => ⟨⟨Nat.le_trans hBw hj, fun e => by have := hlt j e.symm; omega⟩, rfl⟩
              have HVC : Hid (StrsP _ _ _ _) := (StrsP.from ((strs_of_row OCN).mono (show w.heap.size ≤ NX + 1 by omega))).to hP
              have HVA : Hid (AtsP _ _ _ _) := (AtsP.from ((ats_of_row ON).mono (show w.heap.size ≤ wM.heap.size by omega))).to hP
              obtain ⟨⟨y0, y1, y2, y3, y4⟩, yf⟩ := YN.facts
              clear g5 h91 hal hown hownC hy hr hg hsr hP ON OCN YN HC HC2 HI HTag HL1
              obtain ⟨x, hx⟩ : ∃ x : Pl.Nd, x = ⟨up, tag, idn, cs, ats⟩ := ⟨_, rfl⟩
              have hlx : (ns ++ [x]).length = ns.length + 1 := by simp
              go_wp2_with (at_builtin; refine Hid.out ?_)
              unfold Hid
              refine wpList_nadd2 (B := B) (w2 := wN) (v := .slice a ns.length cap) (ns := ns) (x := ⟨up, tag, idn, cs, ats⟩) ?_ (.tmp 49) (.tmp 51) ?_ ?_ ?_ HRN.out (by omega) hBN HVC.out HVA.out ?_
              · rfl
              · rfl
              · rfl
              · rfl
              intro g cap3 w3 hrow3 hgr
              have r3 := ln_grown (RN.on (on_alloc wN (.cells #[.int .i64 up, .string ⟨tag.toArray⟩, .string ⟨idn.toArray⟩, .slice av cs.length cv, .slice ap ats.length cp] 47))) hgr (fun e => by have := hlt b e.symm; omega)
              have F3 : Fr B b w w3 := (FN.trans (Fr.on hBN (on_alloc wN (.cells #[.int .i64 up, .string ⟨tag.toArray⟩, .string ⟨idn.toArray⟩, .slice av cs.length cv, .slice ap ats.length cp] 47)))).trans (Fr.row (by simp; omega) hgr (fun k hk => (hlt k hk).1))
              have hB3 : B ≤ w3.heap.size := Nat.le_trans hBw F3.size
              rw [← hx] at hrow3
              have HN2 : Hid (Pl.lnNode up l = (x, u)) := by unfold Hid; rw [hx]; exact HN.out
              have HR3 : Hid (NRow B w3 (.slice (some ⟨g, 0, none⟩) (ns.length + 1) cap3) (ns ++ [x])) := hrow3
              clear hgr hrow3 HVC HVA HRN RN FN hBN HN hx y0 y1 y2 y3 y4 yf
              go_wp2_with fail
              rcases h40 : Pl.need 40 u with _ | l4
              · have HE : Hid (Pl.lnEl (f + 1) ns up l = (ns ++ [x], u)) := Pl.lnEl_leaf HN2.out h40
                refine (sign_no b u 40 _ r3 h40).mono ?_
                rintro e w4 ⟨rfl, r4, g4⟩
                have HR4 : Hid (NRow _ _ _ _) := NRow.gb HR3.out g4 hbB
                have F4 : Hid (Fr _ _ _ _) := F3.trans (Fr.gb hB3 g4)
                clear g4
                go_wp2
                go_ret
                exact LnSays.mk HE.out HR4.out r4 F4.out
              · have HE : Hid (Pl.lnEl (f + 1) ns up l = kidsOr true f (ns ++ [x]) ns.length l4) := Pl.lnEl_kids HN2.out h40
                refine (sign_yes b u l4 40 _ r3 h40).mono ?_
                rintro e w4 ⟨rfl, r4, g4⟩
                have HR4 : Hid (NRow _ _ _ _) := NRow.gb HR3.out g4 hbB
                have F4 : Hid (Fr _ _ _ _) := F3.trans (Fr.gb hB3 g4)
                have R4 : Hid (LnAt _ _ _) := r4
                have hB4 : B ≤ w4.heap.size := Nat.le_trans hB3 g4.size
                have hl4 := Pl.need_lt h40
                clear g4 r4 r3 HR3 F3 h40
                go_wp2_with fail
                go_loopw [1, 10] (fun u1 m wr => ∃ (fj : Nat) (nsj : List Pl.Nd) (tj : List UInt8) (more : Bool), m = .bool more ∧ nsj.length ≤ 65 ∧ (more = true → 2 * (65 - nsj.length) + 1 ≤ fj ∧ fj ≤ f) ∧ Hid (Pl.lnEl (f + 1) ns up l = kidsOr more fj nsj ns.length tj) ∧ Hid (NRow B wr u1 nsj) ∧ Hid (LnAt b tj wr) ∧ Hid (Fr B b w wr) ∧ tj.length ≤ 1048576 ∧ B ≤ wr.heap.size) (fun u1 _ _ => 66 - lenOf u1)
                case atStart => exact ⟨f, ns ++ [x], l4, true, rfl, by rw [hlx]; omega, fun _ => ⟨by rw [hlx]; omega, Nat.le_refl _⟩, HE, HR4, R4, F4, by omega, hB4⟩
                case round =>
                  obtain ⟨fj, nsj, tj, more, rfl, hj1, hj2, hjE, hjR, hjr, hjF, hjl, hjB⟩ := hrel
                  obtain ⟨aj, cj, rfl⟩ := NRow.form hjR.out
                  cases more with
                  | false =>
                    go_wp2_with fail
                    refine (sign_at b tj [41] _ _ hjr.out rfl).mono ?_
                    rintro e w5 ⟨t5, rfl, r5, g5⟩
                    have HR5 : Hid (NRow _ _ _ _) := NRow.gb hjR.out g5 hbB
                    have F5 : Hid (Fr _ _ _ _) := hjF.out.trans (Fr.gb hjB g5)
                    clear g5
                    go_wp2
                    go_ret
                    exact LnSays.mk hjE.out HR5.out r5 F5.out
                  | true =>
                    obtain ⟨hf1, hf2⟩ := hj2 rfl
                    obtain ⟨g2, rfl⟩ : ∃ g', fj = g' + 1 := ⟨fj - 1, by omega⟩
                    by_cases hj64 : nsj.length ≤ 64
                    · have hj64i : (nsj.length : Int) ≤ 64 := by omega
                      have HJ : Hid _ := hjE.out.trans (Pl.lnKids_in (f := g2) (n := ns.length) (l := tj) hj64)
                      have hln := (Pl.ln_lens g2).1 nsj ns.length tj (by omega) hj64
                      have hge := (Pl.ln_ge g2).1 nsj ns.length tj
                      clear hjE
                      go_wp2_with fail
                      refine (HIH.out g2 nsj _ ns.length tj _ (by omega) hj64 (by omega) hjR.out hjB hjr.out hjl).mono ?_
                      rintro e w5 ⟨v1, rfl, row5, r5, f5⟩
                      generalize Pl.lnEl g2 nsj ns.length tj = p at *
                      obtain ⟨ns1, t1⟩ := p
                      have hB5 : B ≤ w5.heap.size := Nat.le_trans hjB f5.size
                      have F5 : Hid (Fr _ _ _ _) := hjF.out.trans f5
                      obtain ⟨a5, c5, rfl⟩ := row5.form
                      have HR5 : Hid (NRow _ _ _ _) := row5
                      have hln1 : nsj.length < ns1.length := hln.1
                      have hln2 : ns1.length ≤ 65 := hln.2
                      have hge2 : t1.length ≤ tj.length := hge
                      have r5' : LnAt b t1 w5 := r5
                      clear row5 f5 hjR hjr hjF hln hge r5
                      go_wp2_with fail
                      rcases h32 : Pl.need 32 t1 with _ | t2
                      · have HE7 : Hid (Pl.lnEl (f + 1) ns up l = kidsOr false 0 ns1 ns.length t1) := by unfold Hid; rw [HJ.out]; first | (rw [h32]; rfl) | (simp only; rw [h32]; rfl)
                        refine (sign_no b t1 32 _ r5' h32).mono ?_
                        rintro e w7 ⟨rfl, r7, g7⟩
                        have F7 : Hid (Fr _ _ _ _) := F5.out.trans (Fr.gb hB5 g7)
                        have HR7 : Hid (NRow _ _ _ _) := NRow.gb HR5.out g7 hbB
                        have R7 : Hid (LnAt _ _ _) := r7
                        have hB7 : B ≤ w7.heap.size := Nat.le_trans hB5 g7.size
                        clear g7 r7 r5' HR5 F5
                        go_wp2
                        exact ⟨⟨0, ns1, t1, false, rfl, hln2, (fun h => by cases h), HE7, HR7, R7, F7, by omega, hB7⟩, by simp only [lenOf]; omega⟩
                      · have HE7 : Hid (Pl.lnEl (f + 1) ns up l = kidsOr true g2 ns1 ns.length t2) := by unfold Hid; rw [HJ.out]; first | (rw [h32]; rfl) | (simp only; rw [h32]; rfl)
                        have ht2 := Pl.need_lt h32
                        refine (sign_yes b t1 t2 32 _ r5' h32).mono ?_
                        rintro e w7 ⟨rfl, r7, g7⟩
                        have F7 : Hid (Fr _ _ _ _) := F5.out.trans (Fr.gb hB5 g7)
                        have HR7 : Hid (NRow _ _ _ _) := NRow.gb HR5.out g7 hbB
                        have R7 : Hid (LnAt _ _ _) := r7
                        have hB7 : B ≤ w7.heap.size := Nat.le_trans hB5 g7.size
                        clear g7 r7 r5' HR5 F5
                        go_wp2
                        exact ⟨⟨g2, ns1, t2, true, rfl, hln2, fun _ => ⟨by omega, by omega⟩, HE7, HR7, R7, F7, by omega, hB7⟩, by simp only [lenOf]; omega⟩
                    · have hj64i : ¬ (nsj.length : Int) ≤ 64 := by omega
                      have HJ : Hid _ := hjE.out.trans (Pl.lnKids_out (f := g2) (n := ns.length) (l := tj) hj64)
                      clear hjE
                      go_wp2_with fail
                      refine (sign_at b tj [41] _ _ hjr.out rfl).mono ?_
                      rintro e w5 ⟨t5, rfl, r5, g5⟩
                      have HR5 : Hid (NRow _ _ _ _) := NRow.gb hjR.out g5 hbB
                      have F5 : Hid (Fr _ _ _ _) := hjF.out.trans (Fr.gb hjB g5)
                      clear g5
                      go_wp2
                      go_ret
                      exact LnSays.mk HJ.out HR5.out r5 F5.out
end Go.Proofs.Ythlpcmgeelkncaa
