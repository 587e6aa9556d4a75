/-
  slices.EqualFunc over entries.
-/
import Derived.Test.YtephhllfodlfbaaGreatDoorFdE
import Derived.Test.YtephhllfodlfbaaGreatDoorLiy
import Derived.Test.YtephhllfodlfbaaGreatDoorRem
import Derived.Test.YtephhllfodlfbaaGreatDoorIdxM
import Derived.Test.YtephhllfodlfbaaGreatDoorMem
import Derived.Test.YtephhllfodlfbaaGreatDoorTrek
import Derived.Test.YtephhllfodlfbaaGreatDoorIdxP
import Derived.Test.YtephhllfodlfbaaGreatDoorMbD
import Derived.Test.YtephhllfodlfbaaGreatDoorIdxO
import Derived.Test.YtephhllfodlfbaaGreatDoorAsk
import Derived.Test.YtephhllfodlfbaaGreatDoorPut
import Derived.Test.YtephhllfodlfbaaGreatDoorVLiy
import Derived.Test.YtephhllfodlfbaaGreatDoorVLix
import Derived.Test.YtephhllfodlfbaaGreatDoorIsR
import Derived.BigQuiet
import Derived.Deep.QuietTactic
import Derived.Test.YtephhllfodlfbaaGreatDoorKids
import Derived.Test.YtephhllfodlfbaaGreatDoorVAsk
import Derived.Test.YtephhllfodlfbaaGreatDoorRcB
import Derived.Test.YtephhllfodlfbaaGreatDoorVRem
import Derived.Test.YtephhllfodlfbaaGreatDoorOwnD
import Derived.Test.YtephhllfodlfbaaGreatDoorMapK
import Derived.Test.YtephhllfodlfbaaGreatDoorFor
import Derived.Test.YtephhllfodlfbaaGreatDoorRmD
import Derived.Deep.RegionHeld3
import Derived.Test.YtephhllfodlfbaaGreatDoorAdd
import Derived.Test.YtephhllfodlfbaaGreatDoorFresh
import Derived.Deep.RegionLaw
import Derived.Test.YtephhllfodlfbaaGreatDoorMtQ
import Derived.Test.YtephhllfodlfbaaGreatDoorVIdxU
import Derived.Test.YtephhllfodlfbaaGreatDoorVPut
namespace Go.Proofs.YtephhllfodlfbaaGreatDoor
open Go.RowKit

set_option maxRecDepth 100000 in
set_option maxHeartbeats 4000000 in
theorem eqFunc_any (v1 v2 : Value) (l m : List Pl.Er) (w : World) (hl : l.length ≤ maxLen) (hs : ∀ e ∈ l, e.2.length ≤ maxLen) (h1 : EnsAt w v1 l) (h2 : EnsAt w v2 m) :
    Calls Tryz.prog 41 #[v1, v2, .func (.func 43) #[] #[]] w fun e w' => e = .returned (.bool (sameE l m)) ∧ Below w.heap.size w w' := by
  obtain ⟨a1, c1, rfl, h1⟩ := h1
  obtain ⟨a2, c2, rfl, h2⟩ := h2
  have H1 : Hid _ := h1
  have H2 : Hid _ := h2
  have HS : Hid _ := hs
  clear h1 h2 hs
  unfold maxLen at hl
  by_cases hlen : l.length = m.length
  · have hle : ((l.length : Int) == (m.length : Int)) = true := by simp; omega
    have hle2 : ((l.length : Int) != (m.length : Int)) = false := by simp; omega
    have HLn : Hid (l.length = m.length) := hlen
    clear hlen
    go_enter Tryz.func41, Tryz.ntmps41
    go_wp2
    clear hle hle2
    go_loopw [17] (fun i wr => ∃ k : Nat, k ≤ l.length ∧ i = .int .i64 k ∧ Hid (l.take k = m.take k) ∧ Hid (Below w.heap.size w wr)) (fun i _ => l.length - (intOf i).toNat)
    case atStart => exact ⟨0, Nat.zero_le _, rfl, by simp [Hid], Below.refl _ _⟩
    case round =>
      obtain ⟨k, hk, rfl, ht, hD⟩ := hrel
      have hB := hD.out
      by_cases hlt : k < l.length
      · have hlt2 : k < m.length := by have := HLn.out; omega
        rcases H1.out with h0 | ⟨b, o, rfl, hc⟩
        · subst h0; simp at hlt
        rcases H2.out with h0 | ⟨b2, o2, rfl, hc2⟩
        · subst h0; simp at hlt2
        obtain ⟨vi, n0, n1, n2, n3⟩ := (hc k hlt).on hB
        obtain ⟨wi, p0, p1, p2, p3⟩ := (hc2 k hlt2).on hB
        have hlk := HS.out l[k] (List.getElem_mem hlt)
        have i1 : (0 : Int) ≤ (k : Int) := by omega
        have i2 : (k : Int) < (l.length : Int) := by omega
        have i3 : (k : Int) < (m.length : Int) := by omega
        have HT : Hid (l[k] = m[k] → l.take (k + 1) = m.take (k + 1)) := fun he => take_next hlt hlt2 ht.out he
        have HF : Hid (l[k] ≠ m[k] → sameE l m = false) := by
          intro he
          unfold sameE
          rw [decide_eq_false_iff_not]
          intro e
          subst e
          exact he rfl
        obtain ⟨ai, ci, rfl, _⟩ := id n3
        obtain ⟨aj, cj, rfl, _⟩ := id p3
        have N3 : Hid (IntsAt _ _ _) := n3
        have P3 : Hid (IntsAt _ _ _) := p3
        clear hc hc2 n3 p3 ht
        generalize l[k] = x at *
        generalize m[k] = y at *
        obtain ⟨⟨k1, s1⟩, q1⟩ := x
        obtain ⟨⟨k2, s2⟩, q2⟩ := y
        dsimp only at n0 n1 n2 p0 p1 p2 hlk N3 P3
        have hb2 := boxes wr (.cells #[.int .i64 k1, .string ⟨s1.toArray⟩, .slice ai q1.length ci] 61) (.cells #[.int .i64 k2, .string ⟨s2.toArray⟩, .slice aj q2.length cj] 61)
        have q : Hid (Calls Tryz.prog 43 _ _ _) := sameEntry_any ((k1, s1), q1) ((k2, s2), q2) _ _ _ hlk (N3.out.on hb2) (P3.out.on hb2)
        have HB2 : Hid (Below w.heap.size w _) := below_trans hB hb2
        clear hb2 N3 P3
        unfold enV at q
        dsimp only at q
        have g0 := cell_on (on_alloc wr (.cells #[.int .i64 k1, .string ⟨s1.toArray⟩, .slice ai q1.length ci] 61)) p0
        have g1 := cell_on (on_alloc wr (.cells #[.int .i64 k1, .string ⟨s1.toArray⟩, .slice ai q1.length ci] 61)) p1
        have g2 := cell_on (on_alloc wr (.cells #[.int .i64 k1, .string ⟨s1.toArray⟩, .slice ai q1.length ci] 61)) p2
        go_wp2_with fail
        refine q.out.mono ?_
        rintro e w5 ⟨rfl, hb5⟩
        have HB5 : Hid (Below w.heap.size w w5) := below_trans HB2.out hb5
        clear hb5 q HB2 g0 g1 g2
        cases hq : sameEn ((k1, s1), q1) ((k2, s2), q2) with
        | false =>
          have HF2 : Hid (sameE l m = false) := HF.out (of_decide_eq_false hq)
          go_wp2
          go_ret
          exact ⟨by rw [HF2.out]; rfl, HB5.out⟩
        | true =>
          have HT2 : Hid (l.take (k + 1) = m.take (k + 1)) := HT.out (of_decide_eq_true hq)
          go_wp2
          exact ⟨⟨k + 1, hlt, by go_num, HT2, HB5⟩, by simp [intOf]; omega⟩
      · have HT : Hid (sameE l m = true) := by
          have := ht.out
          rw [List.take_of_length_le (by omega), List.take_of_length_le (by have := HLn.out; omega)] at this
          simp [Hid, sameE, this]
        go_wp2
        go_ret
        exact ⟨by rw [HT.out]; rfl, hD.out⟩
  · have hle : ((l.length : Int) == (m.length : Int)) = false := by simp; omega
    have hle2 : ((l.length : Int) != (m.length : Int)) = true := by simp; omega
    have HF : Hid (sameE l m = false) := by
      unfold Hid sameE
      rw [decide_eq_false_iff_not]
      intro e
      subst e
      exact hlen rfl
    go_enter Tryz.func41, Tryz.ntmps41
    go_wp2
    go_ret
    exact ⟨by rw [HF.out]; rfl, Below.refl _ _⟩
end Go.Proofs.YtephhllfodlfbaaGreatDoor
/-
  The page that the laws begin with.
-/
namespace Go.Proofs.YtephhllfodlfbaaGreatDoor
open Go.RowKit

theorem s_chk : Pl.checkDoc smallNs = 0 := by kernel_rfl
theorem s_at : checkAtOf smallNs 0 = 0 := by kernel_rfl
theorem s_part : partOf smallNs 0 = smallNs := by kernel_rfl
theorem s_err : pgErr (checkAtOf smallNs 0) (partOf smallNs 0) = 0 := by rw [s_at, s_part]; unfold pgErr; rw [if_pos rfl, s_chk]
theorem s_doc : pgDoc (checkAtOf smallNs 0) (partOf smallNs 0) = smallNs := by rw [s_at, s_part]; unfold pgDoc; rw [if_pos rfl, s_chk]; rfl
theorem s_idx : pgIdx (checkAtOf smallNs 0) (partOf smallNs 0) = Pl.idxAns smallNs := by rw [s_at, s_part]; unfold pgIdx; rw [if_pos rfl]
set_option maxRecDepth 100000 in
set_option maxHeartbeats 2000000 in
theorem page_any (w : World) : Calls Tryz.prog 31 #[] w fun e w' => ∃ v, e = .returned v ∧ PgAt w' v smallNs (Pl.idxAns smallNs) ∧ Below w.heap.size w w' := by
  have bR := Blk2.new w (.slice none 0 0) (.slice none 0 0)
  have HB0 : Hid (Below w.heap.size w (w.alloc (.cells #[.slice none 0 0, .slice none 0 0] 32))) := on_alloc _ _
  have HBR0 : Hid (Blk2 _ _ _ _) := bR
  clear bR
  go_enter Tryz.func31, Tryz.ntmps31
  go_wp2_with fail
  generalize w.alloc (.cells #[.slice none 0 0, .slice none 0 0] 32) = w0 at *
  refine (small_any _).mono ?_
  rintro e w1 ⟨v1, rfl, hd1, hb1⟩
  have HD1 : Hid (DocAt _ _ _) := hd1
  have HBR1 : Hid (Blk2 _ _ _ _) := Blk2.on HBR0.out hb1
  have HB1 : Hid (Below w.heap.size w w1) := below_trans HB0.out hb1
  clear hd1 hb1 HBR0 HB0
  go_wp2_with fail
  refine (open_any _ smallNs _ HD1.out).mono ?_
  rintro e wy ⟨vz, rfl, hpz, hbz⟩
  rw [s_err]
  rw [s_doc, s_idx] at hpz
  obtain ⟨a8, c8, a9, c9, rfl, hd8, he9⟩ := hpz
  generalize hsm : smallNs = S at *
  generalize hI : Pl.idxAns S = I at *
  have hba := on_alloc wy (.cells #[.slice a8 S.length c8, .slice a9 I.length c9] 32)
  have HBz : Hid (Below w.heap.size w (wy.alloc (.cells #[.slice a8 S.length c8, .slice a9 I.length c9] 32))) := below_trans (below_trans HB1.out hbz) hba
  have bRz := Blk2.on (Blk2.on HBR1.out hbz) hba
  obtain ⟨⟨r0, r1⟩, fR⟩ := bRz.facts
  obtain ⟨p1, p2⟩ := PgAt.box (hd8.on hba) (he9.on hba) bRz
  obtain ⟨⟨q0, q1⟩, _⟩ := p2.facts
  have HP1 : Hid (PgAt _ _ _ _) := p1
  have HQ0 : Hid _ := q0
  have HQ1 : Hid _ := q1
  clear p1 p2 q0 q1 hd8 he9 bRz hbz hba HD1 HBR1 HB1
  have HS : Hid _ := hsm
  have HI : Hid _ := hI
  clear hsm hI
  go_wp2
  have q0 := HQ0.out
  have q1 := HQ1.out
  exact bodyPost_ret (v := .agg #[.slice a8 S.length c8, .slice a9 I.length c9]) (by simp [results, Tryz.results31, go_sem, q0, q1]) rfl
    ⟨_, rfl, by rw [HS.out, HI.out]; exact HP1.out, (HBz.out.setCell (p := ⟨w.heap.size, 0, none⟩) (by first | (simp; done) | (simp; omega)) _).setCell (p := ⟨w.heap.size, 1, none⟩) (by first | (simp; done) | (simp; omega)) _⟩
end Go.Proofs.YtephhllfodlfbaaGreatDoor
/-
  liveBegun: what must be in any case.
-/
namespace Go.Proofs.YtephhllfodlfbaaGreatDoor
open Go.RowKit

theorem cinq_on {w W w' : World} {p0 p1 p2 p3 p4 : Addr} {v0 v1 v2 v3 v4 : Value} (h : W.cell? p0 = some v0 ∧ W.cell? p1 = some v1 ∧ W.cell? p2 = some v2 ∧ W.cell? p3 = some v3 ∧ W.cell? p4 = some v4 ∧ Below w.heap.size w W) (hb : Below W.heap.size W w') :
    w'.cell? p0 = some v0 ∧ w'.cell? p1 = some v1 ∧ w'.cell? p2 = some v2 ∧ w'.cell? p3 = some v3 ∧ w'.cell? p4 = some v4 ∧ Below w.heap.size w w' :=
  ⟨cell_on hb h.1, cell_on hb h.2.1, cell_on hb h.2.2.1, cell_on hb h.2.2.2.1, cell_on hb h.2.2.2.2.1, below_trans h.2.2.2.2.2 hb⟩
theorem cinq_last {w W : World} {p0 p1 p2 p3 p4 : Addr} {v0 v1 v2 v3 v4 : Value} (h : W.cell? p0 = some v0 ∧ W.cell? p1 = some v1 ∧ W.cell? p2 = some v2 ∧ W.cell? p3 = some v3 ∧ W.cell? p4 = some v4 ∧ Below w.heap.size w W) : Below w.heap.size w W := h.2.2.2.2.2
theorem doc_one {w : World} (up : Int) (tag : List UInt8) : DocAt (w.alloc (.cells #[.int .i64 up, .string ⟨tag.toArray⟩, .string ⟨#[]⟩, .slice none 0 0, .slice none 0 0] 28)) (.slice (some ⟨w.heap.size, 0, none⟩) 1 1) [⟨up, tag, [], [], []⟩] := by
  refine ⟨⟨_, 1, rfl, Or.inr ⟨w.heap.size, 0, rfl, fun i hi => ?_⟩⟩, ⟨_, _, _, rfl, Nat.le_refl _, by decide⟩, by unfold maxLen; simp, fun i hi => ?_⟩
  · match i, hi with
    | 0, _ => exact ⟨.slice none 0 0, .slice none 0 0, by simp [go_sem], by simp [go_sem], by simp [go_sem], by simp [go_sem], by simp [go_sem], strs_nil _, ats_nil _⟩
  · match i, hi with
    | 0, _ => exact ⟨by simp, by simp⟩
set_option maxRecDepth 100000 in
set_option maxHeartbeats 8000000 in
theorem liveBegun_any (w : World) : Calls Tryz.prog 7 #[] w fun e w' => e = .returned (.bool true) ∧ Below w.heap.size w w' := by
  go_enter Tryz.func7, Tryz.ntmps7
  go_wp2_with fail
  refine (page_any _).mono ?_
  rintro e w1 ⟨v1, rfl, hp1, hb1⟩
  obtain ⟨a, c, a2, c2, rfl⟩ := hp1.form
  have HP1 : Hid (PgAt _ _ _ _) := hp1
  have hB : Below w.heap.size w w1 := hb1
  clear hp1 hb1
  go_wp2_with fail
  refine (lremove_any _ smallNs (Pl.idxAns smallNs) 2 _ HP1.out (ix_ans _)).mono ?_
  rintro e w2 ⟨v2, rfl, hp2, hb2⟩
  obtain ⟨o1, o2, o3⟩ := ch_ok (E := remErr smallNs 2) (ms := remOf smallNs 2) s_chk a_err (by rw [a_of]; exact a_chk)
  rw [o2, o3, a_of] at hp2
  rw [o1]
  obtain ⟨a, c, a2, c2, rfl⟩ := hp2.form
  replace hB := below_trans hB hb2
  clear o1 o2 o3 hb2
  have b1 := Blk2.new w2 (.slice a nsA.length c) (.slice a2 (Pl.idxAns nsA).length c2)
  have hb3 := on_alloc w2 (.cells #[.slice a nsA.length c, .slice a2 (Pl.idxAns nsA).length c2] 32)
  obtain ⟨⟨x0, x1⟩, _⟩ := b1.facts
  have HPA : Hid (PgAt _ _ _ _) := hp2.on hb3
  replace hB := below_trans hB hb3
  clear b1 hb3 hp2
  have hone := doc_one (w := w2.alloc (.cells #[.slice a nsA.length c, .slice a2 (Pl.idxAns nsA).length c2] 32)) (-1) [120]
  have hb4 := on_alloc (w2.alloc (.cells #[.slice a nsA.length c, .slice a2 (Pl.idxAns nsA).length c2] 32)) (.cells #[.int .i64 (-1), .string ⟨#[120]⟩, .string ⟨#[]⟩, .slice none 0 0, .slice none 0 0] 28)
  have y0 := cell_on hb4 x0
  have y1 := cell_on hb4 x1
  have HONE : Hid (DocAt _ _ _) := hone
  have HPA2 : Hid (PgAt _ _ _ _) := PgAt.on HPA.out hb4
  have hB4 := below_trans hB hb4
  have hz : (w2.alloc (.cells #[.slice a nsA.length c, .slice a2 (Pl.idxAns nsA).length c2] 32)).heap.size = w2.heap.size + 1 := by simp
  clear hone hb4
  go_wp2_with fail
  rw [hz] at HONE
  refine (linsert_any _ nsA (Pl.idxAns nsA) 0 2 _ [nodeX1] _ HPA2.out (ix_ans _) HONE.out).mono ?_
  rintro e w3 ⟨v3, rfl, hp3, hb3⟩
  obtain ⟨o1, o2, o3⟩ := ch_ok (E := insErr nsA 0 2 [nodeX1]) (ms := insOf nsA 0 2 [nodeX1]) a_chk b_err (by rw [b_of]; exact b_chk)
  rw [o2, o3, b_of] at hp3
  rw [o1]
  obtain ⟨ab, cb, ab2, cb2, rfl⟩ := hp3.form
  replace hB := below_trans hB4 hb3
  replace x1 := cell_on hb3 y1
  clear o1 o2 o3 hb3 hB4 HPA HPA2 HONE hz x0 y0 y1
  have b1 := Blk2.new w3 (.slice ab nsB.length cb) (.slice ab2 (Pl.idxAns nsB).length cb2)
  have hb4 := on_alloc w3 (.cells #[.slice ab nsB.length cb, .slice ab2 (Pl.idxAns nsB).length cb2] 32)
  obtain ⟨⟨z0, z1⟩, _⟩ := b1.facts
  have HPB : Hid (PgAt _ _ _ _) := hp3.on hb4
  replace x1 := cell_on hb4 x1
  replace hB := below_trans hB hb4
  clear b1 hb4 hp3
  go_wp2_with fail
  generalize w3.alloc (.cells #[.slice ab nsB.length cb, .slice ab2 (Pl.idxAns nsB).length cb2] 32) = w4 at *
  refine (lput_any _ nsB (Pl.idxAns nsB) 3 _ nodeY1 _ HPB.out (ix_ans _) ⟨_, _, rfl, strs_nil _, ats_nil _⟩ ⟨by decide, by decide⟩).mono ?_
  rintro e w5 ⟨v5, rfl, hp5, hb5⟩
  obtain ⟨o1, o2, o3⟩ := ch_ok (E := putErr nsB 3 nodeY1) (ms := putOf nsB 3 nodeY1) b_chk c_err (by rw [c_of]; exact c_chk)
  rw [o2, o3, c_of] at hp5
  rw [o1]
  obtain ⟨ac, cc, ac2, cc2, rfl, hdc, hec⟩ := hp5
  replace hB := below_trans hB hb5
  replace x1 := cell_on hb5 x1
  replace z1 := cell_on hb5 z1
  clear o1 o2 o3 hb5 HPB z0
  obtain ⟨_, _, e3, hnil | ⟨bx, ox, hax, hcell⟩⟩ := hdc.1
  · cases hnil
  injection e3 with q1 _ q3
  subst q1 q3 hax
  obtain ⟨vc3, va3, _, n1, _⟩ := hcell 3 (by decide)
  have b1 := Blk2.new w5 (.slice (some ⟨bx, ox, none⟩) nsC.length cc) (.slice ac2 (Pl.idxAns nsC).length cc2)
  have hb6 := on_alloc w5 (.cells #[.slice (some ⟨bx, ox, none⟩) nsC.length cc, .slice ac2 (Pl.idxAns nsC).length cc2] 32)
  obtain ⟨⟨z3, z4⟩, _⟩ := b1.facts
  replace x1 := cell_on hb6 x1
  replace z1 := cell_on hb6 z1
  replace n1 := cell_on hb6 n1
  have HEC : Hid (EnsAt _ _ _) := hec.on hb6
  have HCELL : Hid (∀ W, Below (w5.alloc (.cells #[.slice (some ⟨bx, ox, none⟩) nsC.length cc, .slice ac2 (Pl.idxAns nsC).length cc2] 32)).heap.size (w5.alloc (.cells #[.slice (some ⟨bx, ox, none⟩) nsC.length cc, .slice ac2 (Pl.idxAns nsC).length cc2] 32)) W → ∀ i (h : i < nsC.length), NdAt W bx (ox + i * 5) nsC[i]) := fun W hW i hi => ((hcell i hi).on hb6).on hW
  replace hB := below_trans hB hb6
  rw [a_len] at x1
  rw [b_len] at z1
  clear b1 hb6 hec hdc hcell
  have n2 : (w5.alloc (.cells #[.slice (some ⟨bx, ox, none⟩) nsC.length cc, .slice ac2 (Pl.idxAns nsC).length cc2] 32)).cell? ⟨bx, ox + 3 * 5 + 1, none⟩ = some (.string ⟨#[121]⟩) := n1
  clear n1
  go_wp2
  generalize w5.alloc (.cells #[.slice (some ⟨bx, ox, none⟩) nsC.length cc, .slice ac2 (Pl.idxAns nsC).length cc2] 32) = w6 at *
  have hl4 : nsC.length = 4 := rfl
  rw [hl4] at z3 ⊢
  have HIO : Hid (∀ W, Below w6.heap.size w6 W → Calls Tryz.prog 23 #[.agg #[.slice (some ⟨bx, ox, none⟩) 4 cc]] W fun e w' => ∃ v ps, e = .returned v ∧ ERow (W.heap.size + 1) w' v ps ∧ ps.map (·.1) = Pl.idxTo nsC nsC.length ∧ Below W.heap.size W w') := fun W hW => idxOf_any bx ox cc nsC W (by decide) (by decide) (HCELL.out W hW)
  have HSE : Hid (sameE (Pl.idxAns nsC) (Pl.idxAns nsC) = true) := decide_eq_true rfl
  have S0 : w6.drew.cell? ⟨w2.heap.size, 1, none⟩ = some (.slice a2 4 c2) ∧ w6.drew.cell? ⟨w3.heap.size, 1, none⟩ = some (.slice ab2 5 cb2) ∧ w6.drew.cell? ⟨w5.heap.size, 0, none⟩ = some (.slice (some ⟨bx, ox, none⟩) 4 cc) ∧ w6.drew.cell? ⟨w5.heap.size, 1, none⟩ = some (.slice ac2 (Pl.idxAns nsC).length cc2) ∧ w6.drew.cell? ⟨bx, ox + 3 * 5 + 1, none⟩ = some (.string ⟨#[121]⟩) ∧ Below w6.heap.size w6 w6.drew := ⟨x1, z1, z3, z4, n2, (Below.refl _ _).drew⟩
  clear x1 z1 z3 z4 n2 hl4 HCELL
  go_region_held3 (fun w' => w'.cell? ⟨w2.heap.size, 1, none⟩ = some (.slice a2 4 c2) ∧ w'.cell? ⟨w3.heap.size, 1, none⟩ = some (.slice ab2 5 cb2) ∧ w'.cell? ⟨w5.heap.size, 0, none⟩ = some (.slice (some ⟨bx, ox, none⟩) 4 cc) ∧ w'.cell? ⟨w5.heap.size, 1, none⟩ = some (.slice ac2 (Pl.idxAns nsC).length cc2) ∧ w'.cell? ⟨bx, ox + 3 * 5 + 1, none⟩ = some (.string ⟨#[121]⟩) ∧ Below w6.heap.size w6 w')
    (first | with_reducible assumption | exact cinq_on (by with_reducible assumption) (by with_reducible assumption))
    (first | (go_at_call 23; refine (HIO.out _ (cinq_last (by with_reducible assumption))).mono ?_; rintro e w' ⟨u, ps, rfl, hrow, hmp, hw⟩; obtain ⟨au, cu, rfl⟩ := hrow.form) | (go_at_call 32; refine (sameIdx_ref c_chk hrow hmp (EnsAt.on HEC.out (cinq_last (by with_reducible assumption))) (ix_ans _) HSE.out).mono ?_; rintro e w' ⟨rfl, hw⟩))
  have hB3 := below_trans hB (cinq_last (by with_reducible assumption))
  clear S0
  go_wp2
  go_ret
  exact ⟨rfl, hB3⟩
end Go.Proofs.YtephhllfodlfbaaGreatDoor
