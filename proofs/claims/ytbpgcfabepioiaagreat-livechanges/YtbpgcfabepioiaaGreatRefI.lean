/-
  InsertDoc: a document with another one laid in, as the document's own answer builds it.
-/
import Derived.Test.YtbpgcfabepioiaaGreatInsM
import Derived.Test.YtbpgcfabepioiaaGreatWiT
import Derived.Test.YtbpgcfabepioiaaGreatRefR
import Derived.Test.YtbpgcfabepioiaaGreatAsk
namespace Go.Proofs.YtbpgcfabepioiaaGreat
open Go.RowKit

theorem TV.cap {P : Nat → Prop} {w : World} {v : Value} {x : Pl.Nd} {k : Pl.F} (h : TV P w v x k) : TV (fun i => P i ∧ i < w.heap.size) w v x k := h.to fun _ hi hl => ⟨⟨hi, hl⟩, rfl⟩
theorem TV.on {P : Nat → Prop} {w w' : World} {v : Value} {x : Pl.Nd} {k : Pl.F} (h : TV P w v x k) (hb : Below w.heap.size w w') : TV P w' v x k := h.to fun i hi hl => ⟨hi, hb.block i hl⟩
theorem TV.stay {P R : Nat → Prop} {w w' : World} {v : Value} {x : Pl.Nd} {k : Pl.F} (h : TV P w v x k) (hu : Ups R w w') (hd : ∀ i, P i → ¬ R i) : TV P w' v x k := h.to fun i hi hl => ⟨hi, hu.block i hl (hd i hi)⟩
theorem lay_fit {x : Pl.Nd} {K : Pl.F} {R : List Pl.Nd} (h : Pl.layT x K 0 (-1) = R) (hl : R.length ≤ 64) : ([] : List Pl.Nd).length + K.size + 1 ≤ 64 := by
  rw [← h, Pl.layT_len] at hl
  simpa using hl
/-- the boxes of the call, and the world that it began in -/
structure Boxed (w W : World) (v1 v2 : Value) : Prop where
  below : Below w.heap.size w W
  size : w.heap.size + 3 ≤ W.heap.size
  c0 : W.cell? ⟨w.heap.size, 0, none⟩ = some v1
  c1 : W.cell? ⟨w.heap.size + 1, 0, none⟩ = some v2
  c2 : W.cell? ⟨w.heap.size + 1 + 1, 0, none⟩ = some (.slice none 0 0)
  f2 : W.frozen? ⟨w.heap.size + 1 + 1, 0, none⟩ = false
theorem Boxed.on {w W W' : World} {v1 v2 : Value} (h : Boxed w W v1 v2) (hb : Below W.heap.size W W') : Boxed w W' v1 v2 :=
  ⟨below_trans h.below hb, Nat.le_trans h.size hb.size, cell_on hb h.c0, cell_on hb h.c1, cell_on hb h.c2, (hb.frozen (p := ⟨w.heap.size + 1 + 1, 0, none⟩) (Nat.lt_of_lt_of_le (Nat.lt_succ_self _) h.size)).trans h.f2⟩
theorem Boxed.ups {w W W' : World} {v1 v2 : Value} {P : Nat → Prop} (h : Boxed w W v1 v2) (hu : Ups P W W') (hP : ∀ i, P i → w.heap.size + 3 ≤ i) : Boxed w W' v1 v2 := by
  have hb := hu.below (B := w.heap.size + 3) h.size hP
  exact ⟨h.below.trans (hb.mono (by omega)), Nat.le_trans h.size hu.size, (hb.cell (p := ⟨w.heap.size, 0, none⟩) (by simp)).trans h.c0, (hb.cell (p := ⟨w.heap.size + 1, 0, none⟩) (by simp)).trans h.c1, (hb.cell (p := ⟨w.heap.size + 1 + 1, 0, none⟩) (by simp)).trans h.c2, (hu.frozen _ 0 (Nat.lt_of_lt_of_le (Nat.lt_succ_self _) h.size)).trans h.f2⟩

set_option maxRecDepth 100000 in
set_option maxHeartbeats 8000000 in
theorem refIns_any (v v2 : Value) (ns es : List Pl.Nd) (up at_ : Int) (w : World) (hd : DocAt w v ns) (hd2 : DocAt w v2 es) :
    Calls Tryz.prog 11 #[.agg #[v], .int .i64 up, .int .i64 at_, .agg #[v2]] w fun e w' => ∃ v', e = .returned (.tuple #[.agg #[v'], .int .i64 (insErr ns up at_ es)]) ∧ DocAt w' v' (insOf ns up at_ es) ∧ Below w.heap.size w w' := by
  obtain ⟨hv, hcap, hf⟩ := hd
  obtain ⟨a, cap, rfl, hc⟩ := id hv
  have HV : Hid _ := hv
  obtain ⟨hv2, hcap2, hf2⟩ := hd2
  obtain ⟨a2, cap2, rfl, hcc⟩ := id hv2
  have HV2 : Hid _ := hv2
  have hm1 := hf.1
  have hm2 := hf2.1
  unfold maxLen at hm1 hm2
  clear hv hv2 hcap hcap2
  have HC : Hid _ := hc
  have HCC : Hid _ := hcc
  clear hc hcc
  have hB0 := two_cells w (.cells #[.slice a ns.length cap] 24) (.cells #[.slice a2 es.length cap2] 24) (.cells #[.slice none 0 0] 24)
  go_enter Tryz.func11, Tryz.ntmps11
  go_wp2_with fail
  refine (refCheck_any _ ns _ hf (NdsAt.on HV.out hB0)).mono ?_
  rintro e w1 ⟨rfl, h1⟩
  have hB : Below w.heap.size w w1 := below_trans hB0 h1
  have c0 := cell_on (p := ⟨w.heap.size, 0, none⟩) (v := .slice a ns.length cap) h1 (by simp [go_sem])
  have c1 := cell_on (p := ⟨w.heap.size + 1, 0, none⟩) (v := .slice a2 es.length cap2) h1 (by simp [go_sem])
  have c2 := cell_on (p := ⟨w.heap.size + 1 + 1, 0, none⟩) (v := .slice none 0 0) h1 (by simp [go_sem])
  have f2 : w1.frozen? ⟨w.heap.size + 1 + 1, 0, none⟩ = false := by rw [h1.frozen (by simp)]; simp [go_sem]
  have hsz : w.heap.size + 3 ≤ w1.heap.size := by have := h1.size; simp at this; omega
  clear h1 hB0
  cases hz : (Pl.checkDoc ns != 0) with
  | true =>
    have hz1 : ¬ Pl.checkDoc ns = 0 := by simpa using hz
    have HE : Hid (insErr ns up at_ es = Pl.checkDoc ns) := by unfold Hid insErr; rw [if_neg hz1]
    have HP : Hid (insOf ns up at_ es = []) := by unfold Hid insOf; rw [if_neg (by rw [HE.out]; exact hz1)]
    clear hz1
    generalize hE : Pl.checkDoc ns = E at *
    go_wp2
    have q := World.cell?_setCell_same w1 ⟨w.heap.size + 1 + 1, 0, none⟩ (.slice none 0 0) c2
    exact bodyPost_ret (v := .tuple #[.agg #[.slice none 0 0], .int .i64 E]) (by simp [results, Tryz.results11, go_sem, q]) rfl
      ⟨_, by rw [HE.out], by rw [HP.out]; exact DocAt.nil _, hB.setCell (p := ⟨w.heap.size + 1 + 1, 0, none⟩) (by simp; omega) _⟩
  | false =>
  have hz0 : Pl.checkDoc ns = 0 := by simpa using hz
  clear hz
  rw [hz0]
  go_wp2_with fail
  refine (refCheck_any _ es _ hf2 (NdsAt.on HV2.out hB)).mono ?_
  rintro e w2 ⟨rfl, h1⟩
  replace c0 := cell_on h1 c0
  replace c1 := cell_on h1 c1
  replace c2 := cell_on h1 c2
  replace f2 : w2.frozen? ⟨w.heap.size + 1 + 1, 0, none⟩ = false := by rw [h1.frozen (by simp; omega)]; exact f2
  replace hB := below_trans hB h1
  replace hsz : w.heap.size + 3 ≤ w2.heap.size := Nat.le_trans hsz h1.size
  clear h1
  cases hz : (Pl.checkDoc es != 0) with
  | true =>
    have hz1 : ¬ Pl.checkDoc es = 0 := by simpa using hz
    have HE : Hid (insErr ns up at_ es = Pl.checkDoc es) := by unfold Hid insErr; rw [if_pos hz0, if_neg hz1]
    have HP : Hid (insOf ns up at_ es = []) := by unfold Hid insOf; rw [if_neg (by rw [HE.out]; exact hz1)]
    clear hz1
    generalize hE : Pl.checkDoc es = E at *
    go_wp2
    have q := World.cell?_setCell_same w2 ⟨w.heap.size + 1 + 1, 0, none⟩ (.slice none 0 0) c2
    exact bodyPost_ret (v := .tuple #[.agg #[.slice none 0 0], .int .i64 E]) (by simp [results, Tryz.results11, go_sem, q]) rfl
      ⟨_, by rw [HE.out], by rw [HP.out]; exact DocAt.nil _, hB.setCell (p := ⟨w.heap.size + 1 + 1, 0, none⟩) (by simp; omega) _⟩
  | false =>
  have hy0 : Pl.checkDoc es = 0 := by simpa using hz
  clear hz
  rw [hy0]
  obtain ⟨hl1, hl64, hok⟩ := check_zero hz0
  obtain ⟨hl2, hl642, hok2⟩ := check_zero hy0
  have HG : Hid _ := ((Pl.check_iff ns).1 hz0).2.2.2
  have HG2 : Hid _ := ((Pl.check_iff es).1 hy0).2.2.2
  have HLw : Hid _ := Pl.okTo_low ns.length hok
  have HLw2 : Hid _ := Pl.okTo_low es.length hok2
  have HS : Hid _ := check_short hz0
  have HS2 : Hid _ := check_short hy0
  rcases HC.out with hc | ⟨b, o, rfl, hc⟩
  · subst hc; simp at hl1
  rcases HCC.out with hcc | ⟨b2, o2, rfl, hcc⟩
  · subst hcc; simp at hl2
  clear HC HCC hok hok2
  have HC : Hid _ := hc
  have HCC : Hid _ := hcc
  clear hc hcc
  have hwi := within_has ns.length up
  cases hh : hasB ns.length up with
  | false =>
    have HE : Hid (insErr ns up at_ es = 5) := by unfold Hid insErr; rw [if_pos hz0, if_pos hy0, if_neg (by rw [hh]; simp)]
    have HP : Hid (insOf ns up at_ es = []) := by unfold Hid insOf; rw [if_neg (by rw [HE.out]; omega)]
    rw [hh] at hwi
    clear hh
    go_wp2_with (go_at_call 27; refine (within_any _ _ _ _).mono ?_; rintro e w' ⟨rfl, rfl⟩; rw [hwi])
    have q := World.cell?_setCell_same _ ⟨w.heap.size + 1 + 1, 0, none⟩ (.slice none 0 0) c2
    exact bodyPost_ret (v := .tuple #[.agg #[.slice none 0 0], .int .i64 5]) (by simp [results, Tryz.results11, go_sem, q]) rfl
      ⟨_, by rw [HE.out], by rw [HP.out]; exact DocAt.nil _, hB.setCell (p := ⟨w.heap.size + 1 + 1, 0, none⟩) (by simp; omega) _⟩
  | true =>
  obtain ⟨k, rfl, hk⟩ : ∃ k : Nat, up = k ∧ k < ns.length := by
    unfold hasB at hh
    simp only [Bool.and_eq_true, decide_eq_true_eq] at hh
    exact ⟨up.toNat, by omega, by omega⟩
  rw [hh] at hwi
  have HH : Hid _ := hh
  clear hh
  go_wp2_with (go_at_call 27; refine (within_any _ _ _ _).mono ?_; rintro e w' ⟨rfl, rfl⟩; rw [hwi]; refine Hid.out ?_)
  unfold Hid
  go_wp2_with fail
  refine (refKids_some b o cap ns _ _ hl64 (fun i hi => (HC.out i hi).on hB)).mono ?_
  rintro e w4 ⟨vk, rfl, hik, h1⟩
  replace c0 := cell_on h1 c0
  replace c1 := cell_on h1 c1
  replace c2 := cell_on h1 c2
  replace f2 : w4.frozen? ⟨w.heap.size + 1 + 1, 0, none⟩ = false := by rw [h1.frozen (by simp; omega)]; exact f2
  replace hB := below_trans hB h1
  replace hsz : w.heap.size + 3 ≤ w4.heap.size := Nat.le_trans hsz h1.size
  clear h1
  have hkl : (Pl.kidsOf ns k).length ≤ 64 := Nat.le_trans (Pl.kidsTo_len ns k ns.length) hl64
  obtain ⟨ak, ck, rfl, _⟩ := hik
  by_cases hat : at_ < 0 ∨ ((Pl.kidsOf ns k).length : Int) < at_
  · have HE : Hid (insErr ns k at_ es = 3) := by unfold Hid insErr; rw [if_pos hz0, if_pos hy0, if_pos HH.out, if_pos hat]
    have HP : Hid (insOf ns k at_ es = []) := by unfold Hid insOf; rw [if_neg (by rw [HE.out]; omega)]
    have hw3 : within at_ 0 ((Pl.kidsOf ns k).length : Int) = false := by unfold within; simp; omega
    clear hat
    go_wp2_with (go_at_call 27; refine (within_any _ _ _ _).mono ?_; rintro e w' ⟨rfl, rfl⟩; rw [hw3])
    have q := World.cell?_setCell_same _ ⟨w.heap.size + 1 + 1, 0, none⟩ (.slice none 0 0) c2
    exact bodyPost_ret (v := .tuple #[.agg #[.slice none 0 0], .int .i64 3]) (by simp [results, Tryz.results11, go_sem, q]) rfl
      ⟨_, by rw [HE.out], by rw [HP.out]; exact DocAt.nil _, hB.setCell (p := ⟨w.heap.size + 1 + 1, 0, none⟩) (by simp; omega) _⟩
  obtain ⟨j, rfl, hj⟩ : ∃ j : Nat, at_ = j ∧ j ≤ (Pl.kidsOf ns k).length := ⟨at_.toNat, by omega, by omega⟩
  have hw3 : within (j : Int) 0 ((Pl.kidsOf ns k).length : Int) = true := by unfold within; simp; omega
  by_cases hmn : 64 < ns.length + es.length
  · have HE : Hid (insErr ns k j es = 2) := by unfold Hid insErr; rw [if_pos hz0, if_pos hy0, if_pos HH.out, if_neg hat, if_pos hmn]
    have HP : Hid (insOf ns k j es = []) := by unfold Hid insOf; rw [if_neg (by rw [HE.out]; omega)]
    have i9 : (64 : Int) < (ns.length : Int) + (es.length : Int) := by omega
    clear hat
    go_wp2_with (go_at_call 27; refine (within_any _ _ _ _).mono ?_; rintro e w' ⟨rfl, rfl⟩; rw [hw3])
    have q := World.cell?_setCell_same _ ⟨w.heap.size + 1 + 1, 0, none⟩ (.slice none 0 0) c2
    exact bodyPost_ret (v := .tuple #[.agg #[.slice none 0 0], .int .i64 2]) (by simp [results, Tryz.results11, go_sem, q]) rfl
      ⟨_, by rw [HE.out], by rw [HP.out]; exact DocAt.nil _, hB.setCell (p := ⟨w.heap.size + 1 + 1, 0, none⟩) (by simp; omega) _⟩
  have HE : Hid (insErr ns k j es = 0) := by unfold Hid insErr; rw [if_pos hz0, if_pos hy0, if_pos HH.out, if_neg hat, if_neg hmn]
  have HP : Hid (insOf ns k j es = insRow ns k (placeOf ns k j) es) := by unfold Hid insOf; rw [if_pos HE.out]
  have i9 : ¬ (64 : Int) < (ns.length : Int) + (es.length : Int) := by omega
  clear hat
  go_wp2_with (go_at_call 27; refine (within_any _ _ _ _).mono ?_; rintro e w5 ⟨rfl, rfl⟩; rw [hw3])
  have HM : Hid (∀ W, Below w.heap.size w W → Calls Tryz.prog 33 #[.agg #[.slice (some ⟨b, o, none⟩) ns.length cap], .int .i64 0] W fun e w' => ∃ v, e = .returned v ∧ TV (fun i => W.heap.size ≤ i) w' v (Pl.mark ns 0) (Pl.markedF ns ns.length (Pl.kidsOf ns (0 : Nat))) ∧ Below W.heap.size W w') :=
    fun W hW => marked_any b o cap ns hl64 HS.out HLw.out ns.length 0 W (by omega) (by omega) (fun i hi => (HC.out i hi).on hW)
  have HT : Hid (∀ W, Below w.heap.size w W → Calls Tryz.prog 35 #[.agg #[.slice (some ⟨b2, o2, none⟩) es.length cap2], .int .i64 0] W fun e w' => ∃ v, e = .returned v ∧ TV (fun i => W.heap.size ≤ i) w' v (Pl.ndAt es 0) (Pl.forestOf es es.length (Pl.kidsOf es (0 : Nat))) ∧ Below W.heap.size W w') :=
    fun W hW => tree_any b2 o2 cap2 es hl642 HS2.out HLw2.out es.length 0 W (by omega) (by omega) (fun i hi => (HCC.out i hi).on hW)
  have hzm : (Pl.markedF ns ns.length (Pl.kidsOf ns (0 : Nat))).size + 2 ≤ 64 := by
    have := congrArg List.length (Pl.mark_tree HG.out ns.length 0 0 (-1) (by omega) (by omega))
    rw [Pl.layT_len, Pl.seg_len (Pl.behind_spec (by omega)).2.1] at this
    have := (Pl.behind_spec (ns := ns) (n := 0) (by omega)).2.1
    omega
  have hze : (Pl.forestOf es es.length (Pl.kidsOf es (0 : Nat))).size ≤ 64 := by
    have := congrArg List.length (Pl.lay_tree HG2.out es.length 0 0 (-1) (by omega) (by omega))
    rw [Pl.layT_len, Pl.seg_len (Pl.behind_spec (by omega)).2.1] at this
    have := (Pl.behind_spec (ns := es) (n := 0) (by omega)).2.1
    omega
  have HR0 : Hid (∀ (g : Pl.F) (u : Int), g.bare = (Pl.forestOf es es.length (Pl.kidsOf es (0 : Nat))).bare → Pl.layT (Pl.mark ns 0) (Pl.insIf { Pl.ndAt es 0 with up := u } g ((Pl.mark ns 0).up == (k : Int)) j (Pl.withF k j { Pl.ndAt es 0 with up := u } g (Pl.markedF ns ns.length (Pl.kidsOf ns (0 : Nat))))) 0 (-1) = insRow ns k (placeOf ns k j) es) :=
    fun g u hg => ins_root HG.out HG2.out hl2 hk hj (by omega) hg u
  have hlen : (insRow ns k (placeOf ns k j) es).length ≤ 64 := by rw [insRow_len]; omega
  have HSh : Hid _ := insRow_short HS.out HS2.out k (placeOf ns k j)
  generalize insRow ns k (placeOf ns k j) es = R at *
  generalize hKm : Pl.markedF ns ns.length (Pl.kidsOf ns (0 : Nat)) = Km at *
  generalize hKe : Pl.forestOf es es.length (Pl.kidsOf es (0 : Nat)) = Ke at *
  generalize Pl.mark ns 0 = xm at *
  generalize Pl.ndAt es 0 = xe at *
  obtain ⟨eu, etag, eid, ecls, eats⟩ := xe
  dsimp only at *
  have HR : Hid _ := HR0.out
  clear hKm hKe HC HCC HS HS2 HG HG2 HLw HLw2 hw3 hwi HV HV2 hj hk HR0 hz0 hy0 HH i9
  have hX : Boxed w w5.drew (.slice (some ⟨b, o, none⟩) ns.length cap) (.slice (some ⟨b2, o2, none⟩) es.length cap2) := ⟨hB.drew, hsz, c0, c1, c2, f2⟩
  clear hB hsz c0 c1 c2 f2
  obtain ⟨_, hsz, c0, c1, c2, f2⟩ := id hX
  go_region_law (first
    | (go_simp; go_at_call 33; refine (HM.out _ hX.below).mono ?_; rintro e wm ⟨vm, rfl, hTm, hbm⟩; replace hTm := hTm.cap; replace hX := hX.on hbm; obtain ⟨_, hsz, c0, c1, c2, f2⟩ := id hX; obtain ⟨_, _, _, rfl, _, _, _⟩ := id hTm)
    | (go_simp; go_at_call 35; refine (HT.out _ hX.below).mono ?_; rintro e wt ⟨vt, rfl, hTe, hbt⟩; replace hTe := hTe.cap; replace hTm := TV.on hTm hbt; have hszt := hX.size; replace hX := hX.on hbt; obtain ⟨_, hsz, c0, c1, c2, f2⟩ := id hX; obtain ⟨vc, va, vk, rfl, tc, ta, tk⟩ := hTe; obtain ⟨ac, cc, rfl, _⟩ := id tc; obtain ⟨aa, ca, rfl, _⟩ := id ta; obtain ⟨ak2, ck2, rfl, _⟩ := id tk)
    | (go_simp; go_at_call 34; refine (foreign_any _ _ Ke eu etag eid ac _ cc aa _ ca ak2 ck2 _ (Nat.lt_succ_self _) hze tk).mono ?_; rintro e wf ⟨rfl, hu⟩; replace hTm := TV.stay hTm hu (fun i h1 h2 => by omega); replace hX := hX.ups hu (fun i h => by omega); obtain ⟨_, hsz, c0, c1, c2, f2⟩ := id hX; obtain ⟨g, hTe, hgb⟩ := TV.ups (v := -2) (tag := etag) (idn := eid) tc ta tk hu; clear tc ta tk)
    | (go_simp; go_at_call 32; refine (with_any k j _ g _ AllB xm Km _ _ _ (Nat.lt_succ_self _) hzm hTm.all hTe.all).mono ?_; rintro e ww ⟨vw, rfl, hTw, hbw⟩; have HL := HR.out g (-2) hgb; replace hX := hX.on hbw; obtain ⟨_, hsz, c0, c1, c2, f2⟩ := id hX; obtain ⟨_, _, _, rfl, _, _, _⟩ := id hTw)
    | (go_simp; go_at_call 31; refine (lay_any _ _ _ _ _ _ [] _ _ (Nat.lt_succ_self _) hTw.all (Below.refl _ _) (Row.nil _ _) (lay_fit HL hlen)).mono ?_; rintro e w8 ⟨v8, rfl, hrow, hgr, _⟩; have hb8 := (Below.refl _ _).grown hgr (Nat.le_refl _) (fun k hk => by simp [Value.ownBlock] at hk); have hX8 := hX.on hb8; have hszw := hX.size; obtain ⟨_, hsz, c0, c1, c2, f2⟩ := id hX8; obtain ⟨a8, l8, c8, rfl, _, _⟩ := Row.cap hrow))
  all_goals
    have HRow : Hid _ := hrow
    have HX : Hid _ := hX8
    clear hrow hgr hb8 hX8 hX hTw hTm hTe hu
    go_wp2
    have q := World.cell?_setCell_same w8 ⟨w.heap.size + 1 + 1, 0, none⟩ (.slice a8 l8 c8) c2
    refine bodyPost_ret (v := .tuple #[.agg #[.slice a8 l8 c8], .int .i64 0]) (by simp [results, Tryz.results11, go_sem, q]) rfl
      ⟨_, by rw [HE.out], ?_, HX.out.below.setCell (p := ⟨w.heap.size + 1 + 1, 0, none⟩) (by simp; omega) _⟩
    have hr := Row.set HRow.out (M := w.heap.size + 1 + 1) (j := 0) (by omega) c2 (by simp) (.slice a8 l8 c8)
    rw [List.nil_append] at hr
    change Row _ _ _ (Pl.layT _ _ 0 _) at hr
    rw [HL, ← HP.out] at hr
    exact hr.doc (by rw [HP.out]; exact hlen) (by rw [HP.out]; exact HSh.out)
end Go.Proofs.YtbpgcfabepioiaaGreat
