/-
  The small page, and what its changes come to.
-/
import Derived.Test.YtbpgcfabepioiaaGreatLiy
import Derived.Test.YtbpgcfabepioiaaGreatRpg
import Derived.Test.YtbpgcfabepioiaaGreatPut
namespace Go.Proofs.YtbpgcfabepioiaaGreat
open Go.RowKit

theorem s_chk : Pl.checkDoc smallNs = 0 := by kernel_rfl
def nodeX1 : Pl.Nd := ⟨-1, [120], [], [], []⟩
def nodeY1 : Pl.Nd := ⟨0, [121], [], [], []⟩
/-- what is left, what is put in, what is changed -/
def nsA : List Pl.Nd := [⟨-1, [108, 105, 115, 116], [116, 111, 112], [], []⟩, ⟨0, [105, 116, 101, 109], [], [[97]], []⟩, ⟨0, [105, 116, 101, 109], [], [[97]], []⟩]
def nsB : List Pl.Nd := [⟨-1, [108, 105, 115, 116], [116, 111, 112], [], []⟩, ⟨0, [105, 116, 101, 109], [], [[97]], []⟩, ⟨0, [105, 116, 101, 109], [], [[97]], []⟩, ⟨0, [120], [], [], []⟩]
def nsC : List Pl.Nd := [⟨-1, [108, 105, 115, 116], [116, 111, 112], [], []⟩, ⟨0, [105, 116, 101, 109], [], [[97]], []⟩, ⟨0, [105, 116, 101, 109], [], [[97]], []⟩, ⟨0, [121], [], [], []⟩]
theorem a_err : remErr smallNs 2 = 0 := by kernel_rfl
theorem a_of : remOf smallNs 2 = nsA := by kernel_rfl
theorem b_err : insErr nsA 0 2 [nodeX1] = 0 := by kernel_rfl
theorem b_of : insOf nsA 0 2 [nodeX1] = nsB := by kernel_rfl
theorem c_err : putErr nsB 3 nodeY1 = 0 := by kernel_rfl
theorem c_of : putOf nsB 3 nodeY1 = nsC := by kernel_rfl
theorem a_len : (Pl.idxAns nsA).length = 4 := by kernel_rfl
theorem b_len : (Pl.idxAns nsB).length = 5 := by kernel_rfl
theorem a_chk : Pl.checkDoc nsA = 0 := by rw [← a_of]; exact rem_right a_err
theorem b_chk : Pl.checkDoc nsB = 0 := by rw [← b_of]; exact ins_right b_err
theorem c_chk : Pl.checkDoc nsC = 0 := by rw [← c_of]; exact put_right c_err
theorem page_ok {ns : List Pl.Nd} (h : Pl.checkDoc ns = 0) : pageErr ns (Pl.idxAns ns) = 0 := by
  unfold pageErr
  rw [if_pos h, if_pos rfl]
theorem pg_ok {ms : List Pl.Nd} (h : Pl.checkDoc ms = 0) : pgErr 0 ms = 0 ∧ pgDoc 0 ms = ms ∧ pgIdx 0 ms = Pl.idxAns ms := by
  unfold pgErr pgDoc pgIdx
  simp [h]
theorem ch_ok {ns ms : List Pl.Nd} {E : Int} (h : Pl.checkDoc ns = 0) (hE : E = 0) (hm : Pl.checkDoc ms = 0) : chErr (pageErr ns (Pl.idxAns ns)) E ms = 0 ∧ chDoc (pageErr ns (Pl.idxAns ns)) E ms = ms ∧ chIdx (pageErr ns (Pl.idxAns ns)) E ms = Pl.idxAns ms := by
  unfold chErr chDoc chIdx
  rw [page_ok h, hE, if_pos rfl, if_pos rfl, if_pos rfl]
  exact pg_ok hm
theorem open_ok {ns : List Pl.Nd} (h : Pl.checkDoc ns = 0) : pgErr (checkAtOf ns 0) (partOf ns 0) = 0 ∧ pgDoc (checkAtOf ns 0) (partOf ns 0) = ns ∧ pgIdx (checkAtOf ns 0) (partOf ns 0) = Pl.idxAns ns := by
  obtain ⟨h1, h2⟩ := part_whole h
  rw [h1, h2]
  exact pg_ok h
set_option maxRecDepth 100000 in
set_option maxHeartbeats 2000000 in
theorem page_any (w : World) : Calls Tryz.prog 39 #[] w fun e w' => ∃ v, e = .returned v ∧ PgAt w' v smallNs (Pl.idxAns smallNs) ∧ Below w.heap.size w w' := by
  have hb0 := on_alloc w (.cells #[.slice none 0 0, .slice none 0 0] 27)
  have HB0 : Hid (Below _ _ _) := hb0
  have HBR0 : Hid (Blk2 _ _ _ _) := Blk2.new w (.slice none 0 0) (.slice none 0 0)
  clear hb0
  go_enter Tryz.func39, Tryz.ntmps39
  go_wp2_with fail
  generalize w.alloc (.cells #[.slice none 0 0, .slice none 0 0] 27) = w0 at *
  refine (small_any _).mono ?_
  rintro e w1 ⟨v1, rfl, hd1, hb1⟩
  obtain ⟨a1, c1, rfl⟩ := hd1.form
  have HD1 : Hid (DocAt _ _ _) := hd1
  have HBR1 : Hid (Blk2 _ _ _ _) := Blk2.on HBR0.out hb1
  have HB1 : Hid (Below w.heap.size w w1) := below_trans HB0.out hb1
  clear hd1 hb1
  go_wp2_with fail
  refine (open_any _ smallNs _ HD1.out).mono ?_
  rintro e w2 ⟨v2, rfl, hp2, hb2⟩
  obtain ⟨o1, o2, o3⟩ := open_ok s_chk
  rw [o2, o3] at hp2
  rw [o1]
  obtain ⟨a8, c8, a9, c9, rfl, hd8, he9⟩ := hp2
  have HB2 : Hid (Below w.heap.size w w2) := below_trans HB1.out hb2
  have bR2 := Blk2.on HBR1.out hb2
  obtain ⟨⟨r0, r1⟩, fR⟩ := bR2.facts
  obtain ⟨p1, p2⟩ := PgAt.box hd8 he9 bR2
  have hb3 := on_alloc ((w2.setCell ⟨w.heap.size, 0, none⟩ (.slice a8 smallNs.length c8)).setCell ⟨w.heap.size, 1, none⟩ (.slice a9 (Pl.idxAns smallNs).length c9)) (.cells #[.slice a8 smallNs.length c8, .slice a9 (Pl.idxAns smallNs).length c9] 27)
  obtain ⟨⟨q0, q1⟩, _⟩ := (p2.on hb3).facts
  have HP1 : Hid (PgAt _ _ _ _) := p1.on hb3
  have HQ0 : Hid _ := q0
  have HQ1 : Hid _ := q1
  have HB3 : Hid (Below w.heap.size w (((w2.setCell ⟨w.heap.size, 0, none⟩ (.slice a8 smallNs.length c8)).setCell ⟨w.heap.size, 1, none⟩ (.slice a9 (Pl.idxAns smallNs).length c9)).alloc (.cells #[.slice a8 smallNs.length c8, .slice a9 (Pl.idxAns smallNs).length c9] 27))) := below_trans ((HB2.out.setCell (p := ⟨w.heap.size, 0, none⟩) (by simp) _).setCell (p := ⟨w.heap.size, 1, none⟩) (by simp) _) hb3
  have hne : w.heap.size < w2.heap.size := bR2.lt
  clear p1 p2 q0 q1 hd8 he9 bR2 hb2 hb3 o1 o2 o3
  generalize hI : Pl.idxAns smallNs = I at *
  generalize hN : smallNs = N at *
  have HIe : Hid _ := hI
  have HNe : Hid _ := hN
  clear hI hN
  go_wp2
  have q0 := HQ0.out
  have q1 := HQ1.out
  exact bodyPost_ret (v := .agg #[.slice a8 N.length c8, .slice a9 I.length c9]) (by simp [results, Tryz.results39, go_sem, q0, q1]) rfl
    ⟨_, rfl, by first | exact HP1.out | (rw [HNe.out, HIe.out]; exact HP1.out), HB3.out⟩
end Go.Proofs.YtbpgcfabepioiaaGreat
/-
  liveBegun: what must be in any case.
-/
namespace Go.Proofs.YtbpgcfabepioiaaGreat
open Go.RowKit

theorem cinq_on {w W w' : World} {p0 p1 p2 p3 p4 : Addr} {v0 v1 v2 v3 v4 : Value} (h : W.cell? p0 = some v0 ∧ W.cell? p1 = some v1 ∧ W.cell? p2 = some v2 ∧ W.cell? p3 = some v3 ∧ W.cell? p4 = some v4 ∧ Below w.heap.size w W) (hb : Below W.heap.size W w') :
    w'.cell? p0 = some v0 ∧ w'.cell? p1 = some v1 ∧ w'.cell? p2 = some v2 ∧ w'.cell? p3 = some v3 ∧ w'.cell? p4 = some v4 ∧ Below w.heap.size w w' :=
  ⟨cell_on hb h.1, cell_on hb h.2.1, cell_on hb h.2.2.1, cell_on hb h.2.2.2.1, cell_on hb h.2.2.2.2.1, below_trans h.2.2.2.2.2 hb⟩
theorem cinq_last {w W : World} {p0 p1 p2 p3 p4 : Addr} {v0 v1 v2 v3 v4 : Value} (h : W.cell? p0 = some v0 ∧ W.cell? p1 = some v1 ∧ W.cell? p2 = some v2 ∧ W.cell? p3 = some v3 ∧ W.cell? p4 = some v4 ∧ Below w.heap.size w W) : Below w.heap.size w W := h.2.2.2.2.2
theorem doc_one {w : World} (up : Int) (tag : List UInt8) : DocAt (w.alloc (.cells #[.int .i64 up, .string ⟨tag.toArray⟩, .string ⟨#[]⟩, .slice none 0 0, .slice none 0 0] 31)) (.slice (some ⟨w.heap.size, 0, none⟩) 1 1) [⟨up, tag, [], [], []⟩] := by
  refine ⟨⟨_, 1, rfl, Or.inr ⟨w.heap.size, 0, rfl, fun i hi => ?_⟩⟩, ⟨_, _, _, rfl, Nat.le_refl _, by decide⟩, by unfold maxLen; simp, fun i hi => ?_⟩
  · match i, hi with
    | 0, _ => exact ⟨.slice none 0 0, .slice none 0 0, by simp [go_sem], by simp [go_sem], by simp [go_sem], by simp [go_sem], by simp [go_sem], strs_nil _, ats_nil _⟩
  · match i, hi with
    | 0, _ => exact ⟨by simp, by simp⟩
set_option maxRecDepth 100000 in
set_option maxHeartbeats 8000000 in
theorem liveBegun_any (w : World) : Calls Tryz.prog 14 #[] w fun e w' => e = .returned (.bool true) ∧ Below w.heap.size w w' := by
  go_enter Tryz.func14, Tryz.ntmps14
  go_wp2_with fail
  refine (page_any _).mono ?_
  rintro e w1 ⟨v1, rfl, hp1, hb1⟩
  obtain ⟨a, c, a2, c2, rfl⟩ := hp1.form
  have HP1 : Hid (PgAt _ _ _ _) := hp1
  have hB : Below w.heap.size w w1 := hb1
  clear hp1 hb1
  go_wp2_with fail
  refine (lremove_any _ smallNs (Pl.idxAns smallNs) 2 _ HP1.out (ix_ans _)).mono ?_
  rintro e w2 ⟨v2, rfl, hp2, hb2⟩
  obtain ⟨o1, o2, o3⟩ := ch_ok (E := remErr smallNs 2) (ms := remOf smallNs 2) s_chk a_err (by rw [a_of]; exact a_chk)
  rw [o2, o3, a_of] at hp2
  rw [o1]
  obtain ⟨a, c, a2, c2, rfl⟩ := hp2.form
  replace hB := below_trans hB hb2
  clear o1 o2 o3 hb2
  have b1 := Blk2.new w2 (.slice a nsA.length c) (.slice a2 (Pl.idxAns nsA).length c2)
  have hb3 := on_alloc w2 (.cells #[.slice a nsA.length c, .slice a2 (Pl.idxAns nsA).length c2] 27)
  obtain ⟨⟨x0, x1⟩, _⟩ := b1.facts
  have HPA : Hid (PgAt _ _ _ _) := hp2.on hb3
  replace hB := below_trans hB hb3
  clear b1 hb3 hp2
  have hone := doc_one (w := w2.alloc (.cells #[.slice a nsA.length c, .slice a2 (Pl.idxAns nsA).length c2] 27)) (-1) [120]
  have hb4 := on_alloc (w2.alloc (.cells #[.slice a nsA.length c, .slice a2 (Pl.idxAns nsA).length c2] 27)) (.cells #[.int .i64 (-1), .string ⟨#[120]⟩, .string ⟨#[]⟩, .slice none 0 0, .slice none 0 0] 31)
  have y0 := cell_on hb4 x0
  have y1 := cell_on hb4 x1
  have HONE : Hid (DocAt _ _ _) := hone
  have HPA2 : Hid (PgAt _ _ _ _) := PgAt.on HPA.out hb4
  have hB4 := below_trans hB hb4
  have hz : (w2.alloc (.cells #[.slice a nsA.length c, .slice a2 (Pl.idxAns nsA).length c2] 27)).heap.size = w2.heap.size + 1 := by simp
  clear hone hb4
  go_wp2_with fail
  rw [hz] at HONE
  refine (linsert_any _ nsA (Pl.idxAns nsA) 0 2 _ [nodeX1] _ HPA2.out (ix_ans _) HONE.out).mono ?_
  rintro e w3 ⟨v3, rfl, hp3, hb3⟩
  obtain ⟨o1, o2, o3⟩ := ch_ok (E := insErr nsA 0 2 [nodeX1]) (ms := insOf nsA 0 2 [nodeX1]) a_chk b_err (by rw [b_of]; exact b_chk)
  rw [o2, o3, b_of] at hp3
  rw [o1]
  obtain ⟨ab, cb, ab2, cb2, rfl⟩ := hp3.form
  replace hB := below_trans hB4 hb3
  replace x1 := cell_on hb3 y1
  clear o1 o2 o3 hb3 hB4 HPA HPA2 HONE hz x0 y0 y1
  have b1 := Blk2.new w3 (.slice ab nsB.length cb) (.slice ab2 (Pl.idxAns nsB).length cb2)
  have hb4 := on_alloc w3 (.cells #[.slice ab nsB.length cb, .slice ab2 (Pl.idxAns nsB).length cb2] 27)
  obtain ⟨⟨z0, z1⟩, _⟩ := b1.facts
  have HPB : Hid (PgAt _ _ _ _) := hp3.on hb4
  replace x1 := cell_on hb4 x1
  replace hB := below_trans hB hb4
  clear b1 hb4 hp3
  go_wp2_with fail
  generalize w3.alloc (.cells #[.slice ab nsB.length cb, .slice ab2 (Pl.idxAns nsB).length cb2] 27) = w4 at *
  refine (lput_any _ nsB (Pl.idxAns nsB) 3 _ nodeY1 _ HPB.out (ix_ans _) ⟨_, _, rfl, strs_nil _, ats_nil _⟩ ⟨by decide, by decide⟩).mono ?_
  rintro e w5 ⟨v5, rfl, hp5, hb5⟩
  obtain ⟨o1, o2, o3⟩ := ch_ok (E := putErr nsB 3 nodeY1) (ms := putOf nsB 3 nodeY1) b_chk c_err (by rw [c_of]; exact c_chk)
  rw [o2, o3, c_of] at hp5
  rw [o1]
  obtain ⟨ac, cc, ac2, cc2, rfl, hdc, hec⟩ := hp5
  replace hB := below_trans hB hb5
  replace x1 := cell_on hb5 x1
  replace z1 := cell_on hb5 z1
  clear o1 o2 o3 hb5 HPB z0
  obtain ⟨_, _, e3, hnil | ⟨bx, ox, hax, hcell⟩⟩ := hdc.1
  · cases hnil
  injection e3 with q1 _ q3
  subst q1 q3 hax
  obtain ⟨vc3, va3, _, n1, _⟩ := hcell 3 (by decide)
  have b1 := Blk2.new w5 (.slice (some ⟨bx, ox, none⟩) nsC.length cc) (.slice ac2 (Pl.idxAns nsC).length cc2)
  have hb6 := on_alloc w5 (.cells #[.slice (some ⟨bx, ox, none⟩) nsC.length cc, .slice ac2 (Pl.idxAns nsC).length cc2] 27)
  obtain ⟨⟨z3, z4⟩, _⟩ := b1.facts
  replace x1 := cell_on hb6 x1
  replace z1 := cell_on hb6 z1
  replace n1 := cell_on hb6 n1
  have HEC : Hid (EnsAt _ _ _) := hec.on hb6
  have HCELL : Hid (∀ W, Below (w5.alloc (.cells #[.slice (some ⟨bx, ox, none⟩) nsC.length cc, .slice ac2 (Pl.idxAns nsC).length cc2] 27)).heap.size (w5.alloc (.cells #[.slice (some ⟨bx, ox, none⟩) nsC.length cc, .slice ac2 (Pl.idxAns nsC).length cc2] 27)) W → ∀ i (h : i < nsC.length), NdAt W bx (ox + i * 5) nsC[i]) := fun W hW i hi => ((hcell i hi).on hb6).on hW
  replace hB := below_trans hB hb6
  rw [a_len] at x1
  rw [b_len] at z1
  clear b1 hb6 hec hdc hcell
  have n2 : (w5.alloc (.cells #[.slice (some ⟨bx, ox, none⟩) nsC.length cc, .slice ac2 (Pl.idxAns nsC).length cc2] 27)).cell? ⟨bx, ox + 3 * 5 + 1, none⟩ = some (.string ⟨#[121]⟩) := n1
  clear n1
  go_wp2
  generalize w5.alloc (.cells #[.slice (some ⟨bx, ox, none⟩) nsC.length cc, .slice ac2 (Pl.idxAns nsC).length cc2] 27) = w6 at *
  have hl4 : nsC.length = 4 := rfl
  rw [hl4] at z3 ⊢
  have HIO : Hid (∀ W, Below w6.heap.size w6 W → Calls Tryz.prog 26 #[.agg #[.slice (some ⟨bx, ox, none⟩) 4 cc]] W fun e w' => ∃ v ps, e = .returned v ∧ ERow (W.heap.size + 1) w' v ps ∧ ps.map (·.1) = Pl.idxTo nsC nsC.length ∧ Below W.heap.size W w') := fun W hW => idxOf_any bx ox cc nsC W (by decide) (by decide) (HCELL.out W hW)
  have HSE : Hid (sameE (Pl.idxAns nsC) (Pl.idxAns nsC) = true) := decide_eq_true rfl
  have S0 : w6.drew.cell? ⟨w2.heap.size, 1, none⟩ = some (.slice a2 4 c2) ∧ w6.drew.cell? ⟨w3.heap.size, 1, none⟩ = some (.slice ab2 5 cb2) ∧ w6.drew.cell? ⟨w5.heap.size, 0, none⟩ = some (.slice (some ⟨bx, ox, none⟩) 4 cc) ∧ w6.drew.cell? ⟨w5.heap.size, 1, none⟩ = some (.slice ac2 (Pl.idxAns nsC).length cc2) ∧ w6.drew.cell? ⟨bx, ox + 3 * 5 + 1, none⟩ = some (.string ⟨#[121]⟩) ∧ Below w6.heap.size w6 w6.drew := ⟨x1, z1, z3, z4, n2, (Below.refl _ _).drew⟩
  clear x1 z1 z3 z4 n2 hl4 HCELL
  go_region_held3 (fun w' => w'.cell? ⟨w2.heap.size, 1, none⟩ = some (.slice a2 4 c2) ∧ w'.cell? ⟨w3.heap.size, 1, none⟩ = some (.slice ab2 5 cb2) ∧ w'.cell? ⟨w5.heap.size, 0, none⟩ = some (.slice (some ⟨bx, ox, none⟩) 4 cc) ∧ w'.cell? ⟨w5.heap.size, 1, none⟩ = some (.slice ac2 (Pl.idxAns nsC).length cc2) ∧ w'.cell? ⟨bx, ox + 3 * 5 + 1, none⟩ = some (.string ⟨#[121]⟩) ∧ Below w6.heap.size w6 w')
    (first | with_reducible assumption | exact cinq_on (by with_reducible assumption) (by with_reducible assumption))
    (first | (go_at_call 26; refine (HIO.out _ (cinq_last (by with_reducible assumption))).mono ?_; rintro e w' ⟨u, ps, rfl, hrow, hmp, hw⟩; obtain ⟨au, cu, rfl⟩ := hrow.form) | (go_at_call 29; refine (sameIdx_ref c_chk hrow hmp (EnsAt.on HEC.out (cinq_last (by with_reducible assumption))) (ix_ans _) HSE.out).mono ?_; rintro e w' ⟨rfl, hw⟩))
  have hB3 := below_trans hB (cinq_last (by with_reducible assumption))
  clear S0
  go_wp2
  go_ret
  exact ⟨rfl, hB3⟩
end Go.Proofs.YtbpgcfabepioiaaGreat
