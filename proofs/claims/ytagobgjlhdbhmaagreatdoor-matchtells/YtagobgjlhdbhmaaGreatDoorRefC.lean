/-
  A right document, as the document's own answer tells it.
-/
import Derived.Test.YtagobgjlhdbhmaaGreatDoorRefF
import Derived.Test.YtagobgjlhdbhmaaGreatDoorKids
namespace Go.Proofs.YtagobgjlhdbhmaaGreatDoor
open Go.RowKit

set_option maxHeartbeats 400000 in
theorem refCheck_many (a : Option Addr) (n cap : Nat) (w : World) (h : n < 1 ∨ 64 < n) (hm : n ≤ maxLen) :
    Calls Tryz.prog 21 #[.agg #[.slice a n cap]] w fun e w' => e = .returned (.int .i64 2) ∧ Below w.heap.size w w' := by
  unfold maxLen at hm
  have hw : within (n : Int) 1 64 = false := by unfold within; simp; omega
  go_enter Tryz.func21, Tryz.ntmps21
  go_wp2_with (go_at_call 33; refine (within_any _ _ _ _).mono ?_; rintro e w' ⟨rfl, rfl⟩; rw [hw])
  go_ret
  exact ⟨rfl, on_alloc _ _⟩
set_option maxHeartbeats 2000000 in
theorem refCheck_some (b o cap : Nat) (ns : List Pl.Nd) (w : World) (h1 : 1 ≤ ns.length) (h64 : ns.length ≤ 64) (hf : FitsAll ns) (hc : ∀ i (h : i < ns.length), NdAt w b (o + i * 5) ns[i]) :
    Calls Tryz.prog 21 #[.agg #[.slice (some ⟨b, o, none⟩) ns.length cap]] w fun e w' => e = .returned (.int .i64 (Pl.checkDoc ns)) ∧ Below w.heap.size w w' := by
  have HC : Hid (∀ i (h : i < ns.length), NdAt w b (o + i * 5) ns[i]) := hc
  have HFit : Hid (FitsAll ns) := hf
  clear hc hf
  have hw : within (ns.length : Int) 1 64 = true := by unfold within; simp; omega
  go_enter Tryz.func21, Tryz.ntmps21
  go_wp2_with (go_at_call 33; refine (within_any _ _ _ _).mono ?_; rintro e w' ⟨rfl, rfl⟩; rw [hw])
  go_loopw [3] (fun i wr => ∃ k : Nat, k ≤ ns.length ∧ i = .int .i64 k ∧ Hid (Pl.okTo ns k = true) ∧ Below w.heap.size w wr ∧ wr.cell? ⟨w.heap.size, 0, none⟩ = some (.slice (some ⟨b, o, none⟩) ns.length cap)) (fun i _ => ns.length - (intOf i).toNat)
  case atStart => exact ⟨0, Nat.zero_le _, rfl, rfl, on_alloc _ _, by simp [go_sem]⟩
  case round =>
    obtain ⟨k, hk, rfl, hd, hB, hbox⟩ := hrel
    by_cases hlt : k < ns.length
    · obtain ⟨vc, va, n0, n1, n2, n3, n4, nc, na⟩ := (HC.out k hlt).on hB
      obtain ⟨ac, cc, rfl, _⟩ := id nc
      obtain ⟨aa, ca, rfl, _⟩ := id na
      have HV : Hid (NdV wr (.agg #[.int .i64 ns[k].up, .string ⟨ns[k].tag.toArray⟩, .string ⟨ns[k].id.toArray⟩, .slice ac ns[k].cls.length cc, .slice aa ns[k].ats.length ca]) ns[k]) := ⟨_, _, rfl, nc, na⟩
      clear nc na
      cases hr : Pl.right ns[k] with
      | false =>
        have HF : Hid (Pl.checkDoc ns = 1) := checkDoc_one h1 h64 (okTo_false hlt (by rw [hr]; rfl))
        go_wp2_with fail
        refine (fine_any _ ns[k] _ (HFit.out.2 k hlt) HV.out).mono ?_
        rintro e w1 ⟨rfl, hw1⟩
        rw [hr]
        have hB1 := below_trans hB hw1
        go_wp2
        go_ret
        exact ⟨by rw [HF.out]; rfl, hB1⟩
      | true =>
        go_wp2_with fail
        refine (fine_any _ ns[k] _ (HFit.out.2 k hlt) HV.out).mono ?_
        rintro e w1 ⟨rfl, hw1⟩
        rw [hr]
        have hB1 := below_trans hB hw1
        have hbox1 := cell_on hw1 hbox
        have HC1 : Hid (∀ k, k < ns.length → w1.cell? ⟨b, o + k * 5, none⟩ = some (.int .i64 (Pl.upOf ns k))) := fun k h => up_cell (fun i h => (HC.out i h).on hB1) k h
        have ck := HC1.out k hlt
        clear hw1 hbox n0 n1 n2 n3 n4 HV
        rcases Nat.eq_zero_or_pos k with rfl | hkp
        · rw [Nat.zero_mul, Nat.add_zero] at ck
          have i0 : (0 : Int) < (ns.length : Int) := by omega
          cases hh : (Pl.upOf ns 0 == -1) with
          | false =>
            have hhang : Pl.hangs ns 0 = false := by simp [Pl.hangs, hh]
            have HF : Hid (Pl.checkDoc ns = 1) := checkDoc_one h1 h64 (okTo_false hlt (by rw [hhang]; simp))
            generalize Pl.upOf ns 0 = u at *
            go_wp2
            go_ret
            exact ⟨by rw [HF.out]; rfl, hB1⟩
          | true =>
            have hhang : Pl.hangs ns 0 = true := by simp [Pl.hangs, hh]
            have HN : Hid (Pl.okTo ns (0 + 1) = true) := okTo_next hlt hd.out hr hhang
            generalize Pl.upOf ns 0 = u at *
            go_wp2
            refine wp_loop_rounds 1 ?_
            rw [rounds_succ]
            go_wp2
            exact ⟨⟨1, hlt, by go_num, HN, hB1, hbox1⟩, by simp [intOf]; omega⟩
        · have hz : ((k : Int) == 0) = false := by simp; omega
          have HH : Hid (Pl.hangs ns k = way ns ((k : Int) - 1) (Pl.upOf ns k)) := hangs_way ns k (by omega)
          have HL : Hid (Pl.Low ns k) := Pl.okTo_low k hd.out
          have HF : Hid (Pl.hangs ns k = false → Pl.checkDoc ns = 1) := fun hh => checkDoc_one h1 h64 (okTo_false hlt (by rw [hh]; simp))
          have HN : Hid (Pl.hangs ns k = true → Pl.okTo ns (k + 1) = true) := fun hh => okTo_next hlt hd.out hr hh
          generalize Pl.upOf ns k = t at *
          go_wp2
          go_loop [4, 5] (fun f u => ∃ (fb : Bool) (q : Int), f = .bool fb ∧ u = .int .i64 q ∧ -1 ≤ q ∧ q < k ∧ Hid (fb = true → Pl.hangs ns k = true) ∧ Hid (fb = false → Pl.hangs ns k = way ns q t)) (fun _ u => (intOf u + 1).toNat)
          case atStart => exact ⟨false, (k : Int) - 1, rfl, rfl, by omega, by omega, (fun h => by cases h), fun _ => HH.out⟩
          case round =>
            obtain ⟨fb, q, rfl, rfl, hq1, hq2, hf1, hf2⟩ := hrel
            by_cases hneg : q < 0
            · cases fb with
              | true =>
                have HO : Hid (Pl.okTo ns (k + 1) = true) := HN.out (hf1.out rfl)
                go_wp2
                exact ⟨⟨k + 1, hlt, by go_num, HO, hB1, hbox1⟩, by simp [intOf]; omega⟩
              | false =>
                have HO : Hid (Pl.checkDoc ns = 1) := by
                  refine HF.out ?_
                  have : q = -1 := by omega
                  subst this
                  exact (hf2.out rfl).trans (way_neg ns t)
                go_wp2
                go_ret
                exact ⟨by rw [HO.out]; rfl, hB1⟩
            · cases fb with
              | true =>
                have HO : Hid (Pl.okTo ns (k + 1) = true) := HN.out (hf1.out rfl)
                go_wp2
                exact ⟨⟨k + 1, hlt, by go_num, HO, hB1, hbox1⟩, by simp [intOf]; omega⟩
              | false =>
                obtain ⟨j, rfl⟩ : ∃ j : Nat, q = j := ⟨q.toNat, by omega⟩
                have hj : j < k := by omega
                have cj := HC1.out j (by omega)
                obtain ⟨u1, u2⟩ := HL.out j hj
                cases he : ((j : Int) == t) with
                | true =>
                  have HT : Hid (Pl.hangs ns k = true) := by
                    have : (j : Int) = t := by simpa using he
                    rw [Hid, hf2.out rfl, ← this]; exact way_hit ns j
                  generalize Pl.upOf ns j = u at *
                  go_wp2
                  exact ⟨⟨true, u, rfl, rfl, u1, by omega, fun _ => HT.out, (fun h => by cases h)⟩, by simp [intOf]; omega⟩
                | false =>
                  have HS : Hid (Pl.hangs ns k = way ns (Pl.upOf ns j) t) := (hf2.out rfl).trans (way_step HL.out j hj t he)
                  generalize Pl.upOf ns j = u at *
                  go_wp2
                  exact ⟨⟨false, u, rfl, rfl, u1, by omega, (fun h => by cases h), fun _ => HS.out⟩, by simp [intOf]; omega⟩
    · have HF : Hid (Pl.checkDoc ns = 0) := by
        have he : k = ns.length := by omega
        have := hd.out
        rw [he] at this
        exact checkDoc_zero h1 h64 this
      go_wp2
      go_ret
      exact ⟨by rw [HF.out]; rfl, hB⟩
theorem refCheck_any (v : Value) (ns : List Pl.Nd) (w : World) (hf : FitsAll ns) (hv : NdsAt w v ns) :
    Calls Tryz.prog 21 #[.agg #[v]] w fun e w' => e = .returned (.int .i64 (Pl.checkDoc ns)) ∧ Below w.heap.size w w' := by
  obtain ⟨a, cap, rfl, h⟩ := hv
  by_cases hl : ns.length < 1 ∨ 64 < ns.length
  · have : Pl.checkDoc ns = 2 := by unfold Pl.checkDoc; rw [if_pos hl]
    rw [this]
    exact refCheck_many a ns.length cap w hl hf.1
  · rcases h with rfl | ⟨b, o, rfl, hc⟩
    · simp at hl
    · exact refCheck_some b o cap ns w (by omega) (by omega) hf hc

theorem within_has (len : Nat) (n : Int) : within n 0 ((len : Int) - 1) = hasB len n := by
  unfold within hasB
  congr 1
  rw [decide_eq_decide]; omega
set_option maxHeartbeats 800000 in
theorem there_any (v : Value) (ns : List Pl.Nd) (n : Int) (w : World) (hf : FitsAll ns) (hv : NdsAt w v ns) :
    Calls Tryz.prog 29 #[.agg #[v], .int .i64 n] w fun e w' => e = .returned (.int .i64 (checkAtOf ns n)) ∧ Below w.heap.size w w' := by
  obtain ⟨a, cap, rfl, _⟩ := id hv
  have HV : Hid _ := hv
  clear hv
  have hm := hf.1
  unfold maxLen at hm
  cases hz : (Pl.checkDoc ns != 0) with
  | true =>
    have HH : Hid (checkAtOf ns n = Pl.checkDoc ns) := by unfold Hid checkAtOf; rw [if_neg (by simpa using hz)]
    go_enter Tryz.func29, Tryz.ntmps29
    go_wp2_with fail
    refine (refCheck_any _ ns _ hf (NdsAt.on HV.out (on_alloc _ _))).mono ?_
    rintro e w1 ⟨rfl, h1⟩
    have hB := below_trans (on_alloc _ _) h1
    go_wp2
    go_ret
    exact ⟨by rw [HH.out]; rfl, hB⟩
  | false =>
    have hz0 : Pl.checkDoc ns = 0 := by simpa using hz
    clear hz
    have hl1 : 1 ≤ ns.length := by
      rcases Nat.lt_or_ge ns.length 1 with h | h
      · unfold Pl.checkDoc at hz0; rw [if_pos (Or.inl h)] at hz0; cases hz0
      · exact h
    have hwi := within_has ns.length n
    cases hh : hasB ns.length n with
    | true =>
      have HH : Hid (checkAtOf ns n = 0) := by unfold Hid checkAtOf; rw [if_pos hz0, hh]; rfl
      rw [hh] at hwi
      go_enter Tryz.func29, Tryz.ntmps29
      go_wp2_with fail
      refine (refCheck_any _ ns _ hf (NdsAt.on HV.out (on_alloc _ _))).mono ?_
      rintro e w1 ⟨rfl, h1⟩
      rw [hz0]
      have hB := below_trans (on_alloc _ _) h1
      have c0 := cell_on (p := ⟨w.heap.size, 0, none⟩) (v := .slice a ns.length cap) h1 (by simp [go_sem])
      clear h1
      go_wp2_with (go_at_call 33; refine (within_any _ _ _ _).mono ?_; rintro e w' ⟨rfl, rfl⟩; rw [hwi])
      go_ret
      exact ⟨by rw [HH.out]; rfl, hB⟩
    | false =>
      have HH : Hid (checkAtOf ns n = 5) := by unfold Hid checkAtOf; rw [if_pos hz0, hh]; rfl
      rw [hh] at hwi
      go_enter Tryz.func29, Tryz.ntmps29
      go_wp2_with fail
      refine (refCheck_any _ ns _ hf (NdsAt.on HV.out (on_alloc _ _))).mono ?_
      rintro e w1 ⟨rfl, h1⟩
      rw [hz0]
      have hB := below_trans (on_alloc _ _) h1
      have c0 := cell_on (p := ⟨w.heap.size, 0, none⟩) (v := .slice a ns.length cap) h1 (by simp [go_sem])
      clear h1
      go_wp2_with (go_at_call 33; refine (within_any _ _ _ _).mono ?_; rintro e w' ⟨rfl, rfl⟩; rw [hwi])
      go_ret
      exact ⟨by rw [HH.out]; rfl, hB⟩
end Go.Proofs.YtagobgjlhdbhmaaGreatDoor
