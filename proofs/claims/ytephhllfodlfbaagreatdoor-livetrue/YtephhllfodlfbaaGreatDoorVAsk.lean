/-
  insert: elements laid in among others.
-/
import Derived.Test.YtephhllfodlfbaaGreatDoorAsk
import Derived.Test.YtephhllfodlfbaaGreatDoorVRem
import Derived.Test.YtephhllfodlfbaaGreatDoorRem
import Derived.Test.YtephhllfodlfbaaGreatDoorMem
import Derived.Test.YtephhllfodlfbaaGreatDoorKids
import Derived.Test.YtephhllfodlfbaaGreatDoorAdd
import Derived.Test.YtephhllfodlfbaaGreatDoorIdxM
namespace Go.Proofs.YtephhllfodlfbaaGreatDoor
open Go.RowKit

set_option maxRecDepth 100000 in
set_option maxHeartbeats 4000000 in
theorem insert_some (b o cap b2 o2 cap2 : Nat) (ns es : List Pl.Nd) (up : Int) (place : Nat) (w : World) (hp : place ≤ ns.length) (h64 : ns.length + es.length ≤ 64) (hcap : ns.length ≤ cap)
    (hc : ∀ i (h : i < ns.length), NdAt w b (o + i * 5) ns[i]) (hc2 : ∀ i (h : i < es.length), NdAt w b2 (o2 + i * 5) es[i]) (hs1 : ∀ x ∈ ns, x.cls.length ≤ 6 ∧ x.ats.length ≤ 4) (hs2 : ∀ x ∈ es, x.cls.length ≤ 6 ∧ x.ats.length ≤ 4) :
    Calls Tryz.prog 82 #[.slice (some ⟨b, o, none⟩) ns.length cap, .int .i64 up, .int .i64 place, .slice (some ⟨b2, o2, none⟩) es.length cap2] w fun e w' => ∃ v' B, e = .returned v' ∧ w.heap.size ≤ B ∧ Row B w' v' (insRow ns up place es) ∧ Below w.heap.size w w' := by
  have HC : Hid _ := hc
  have HC2 : Hid _ := hc2
  have HS : Hid _ := hs1
  have HS2 : Hid _ := hs2
  clear hc hc2 hs1 hs2
  have i1 : (0 : Int) ≤ (place : Int) := by omega
  have i3 : (place : Int) ≤ (ns.length : Int) := by omega
  have i5 : (ns.length : Int) ≤ (cap : Int) := by omega
  have i7 : (place : Int) ≤ (cap : Int) := by omega
  have hB0 := two_cells w (.cells #[.int .i64 up] 3) (.cells #[.int .i64 place] 3) (.cells #[.slice (some ⟨b2, o2, none⟩) es.length cap2] 22)
  have c0 : (((w.alloc (.cells #[.int .i64 up] 3)).alloc (.cells #[.int .i64 place] 3)).alloc (.cells #[.slice (some ⟨b2, o2, none⟩) es.length cap2] 22)).cell? ⟨w.heap.size, 0, none⟩ = some (.int .i64 up) := by simp [go_sem]
  have c1 : (((w.alloc (.cells #[.int .i64 up] 3)).alloc (.cells #[.int .i64 place] 3)).alloc (.cells #[.slice (some ⟨b2, o2, none⟩) es.length cap2] 22)).cell? ⟨w.heap.size + 1, 0, none⟩ = some (.int .i64 place) := by simp [go_sem]
  have c2 : (((w.alloc (.cells #[.int .i64 up] 3)).alloc (.cells #[.int .i64 place] 3)).alloc (.cells #[.slice (some ⟨b2, o2, none⟩) es.length cap2] 22)).cell? ⟨w.heap.size + 1 + 1, 0, none⟩ = some (.slice (some ⟨b2, o2, none⟩) es.length cap2) := by simp [go_sem]
  have hsz : (((w.alloc (.cells #[.int .i64 up] 3)).alloc (.cells #[.int .i64 place] 3)).alloc (.cells #[.slice (some ⟨b2, o2, none⟩) es.length cap2] 22)).heap.size = w.heap.size + 3 := by simp
  go_enter Tryz.func82, Tryz.ntmps82
  go_wp2_with fail
  generalize ((w.alloc (.cells #[.int .i64 up] 3)).alloc (.cells #[.int .i64 place] 3)).alloc (.cells #[.slice (some ⟨b2, o2, none⟩) es.length cap2] 22) = w2 at *
  have HD : Hid (∀ W, Below w2.heap.size w2 W → ∀ i (h : i < ns.length), NdAt W b (o + i * 5) ns[i]) := fun W hW i hi => ((HC.out i hi).on hB0).on hW
  have HD2 : Hid (∀ W, Below w2.heap.size w2 W → NdsAt W (.slice (some ⟨b2, o2, none⟩) es.length cap2) es) := fun W hW => ⟨_, _, rfl, Or.inr ⟨_, _, rfl, fun i hi => ((HC2.out i hi).on hB0).on hW⟩⟩
  refine (add_any 83 #[] id w2.heap.size _ _ [] (ns.take place) w2 (Nat.le_refl _) (Row.nil _ _) (by simp; omega) enter52 (fun x hx => HS.out x (List.mem_of_mem_take hx)) (NdsAt.head (HD.out _ (Below.refl _ _)) place cap (by omega)) (fun W hW => NdsAt.head (HD.out _ hW) place cap (by omega)) (fun W u _ => stay_any u W)).mono ?_
  rintro e w3 ⟨v3, rfl, hrow, hb3⟩
  rw [List.nil_append] at hrow
  replace c0 := cell_on hb3 c0
  replace c1 := cell_on hb3 c1
  replace c2 := cell_on hb3 c2
  obtain ⟨a3, l3, c3, rfl, _, _⟩ := Row.cap hrow
  have HR : Hid _ := hrow
  have HB3 : Hid _ := hb3
  have HB0 : Hid _ := hB0
  clear hrow hb3 hB0
  go_wp2_with fail
  refine (add_any 120 #[.pointer (some ⟨w.heap.size, 0, none⟩), .pointer (some ⟨w.heap.size + 1, 0, none⟩)] (Pl.mvIn up place) w2.heap.size _ _ _ es w3 HB3.out.size HR.out ?_ enter75 HS2.out (HD2.out _ HB3.out) (fun W hW => HD2.out _ (HB3.out.trans hW)) ?_).mono ?_
  · simp; omega
  · intro W u hW
    exact ins1_any _ _ _ _ _ _ (by rw [hW.cell (by simp; omega)]; exact c0) (by rw [hW.cell (by simp; omega)]; exact c1)
  rintro e w4 ⟨v4, rfl, hrow, hb4⟩
  replace c0 : w4.cell? ⟨w.heap.size, 0, none⟩ = some (.int .i64 up) := by rw [hb4.cell (by simp; omega)]; exact c0
  replace c1 : w4.cell? ⟨w.heap.size + 1, 0, none⟩ = some (.int .i64 place) := by rw [hb4.cell (by simp; omega)]; exact c1
  replace c2 : w4.cell? ⟨w.heap.size + 1 + 1, 0, none⟩ = some (.slice (some ⟨b2, o2, none⟩) es.length cap2) := by rw [hb4.cell (by simp; omega)]; exact c2
  obtain ⟨a4, l4, c4, rfl, _, _⟩ := Row.cap hrow
  have HR4 : Hid _ := hrow
  have HB4 : Hid _ := HB3.out.trans hb4
  clear hb4 hrow
  go_wp2_with fail
  all_goals
    refine (add_any 121 #[.pointer (some ⟨w.heap.size + 1, 0, none⟩), .pointer (some ⟨w.heap.size + 1 + 1, 0, none⟩)] (Pl.mvOut place es.length) w2.heap.size _ _ _ (ns.drop place) w4 HB4.out.size HR4.out ?_ enter76 (fun x hx => HS.out x (List.mem_of_mem_drop hx)) ?_ ?_ ?_).mono ?_
    · simp; omega
    · first | exact NdsAt.tail (HD.out _ HB4.out) place _ (by omega) | exact NdsAt.void _ _ _ (by omega)
    · intro W hW
      first | exact NdsAt.tail (HD.out _ (HB4.out.trans hW)) place _ (by omega) | exact NdsAt.void _ _ _ (by omega)
    · intro W u hW
      exact ins2_any _ _ _ _ _ _ _ _ (by rw [hW.cell (by simp; omega)]; exact c1) (by rw [hW.cell (by simp; omega)]; exact c2)
    rintro e w5 ⟨v5, rfl, hrow, hb5⟩
    obtain ⟨a5, l5, c5, rfl, _, _⟩ := Row.cap hrow
    have HR5 : Hid _ := hrow
    have HB5 : Hid _ := HB4.out.trans hb5
    clear hb5 hrow
    go_wp2
    go_ret
    exact ⟨_, _, rfl, by omega, HR5.out, below_trans HB0.out HB5.out⟩
end Go.Proofs.YtephhllfodlfbaaGreatDoor
/-
  Insert: a document laid in below an element.
-/
namespace Go.Proofs.YtephhllfodlfbaaGreatDoor
open Go.RowKit

set_option maxRecDepth 100000 in
set_option maxHeartbeats 8000000 in
theorem insert_any (v v2 : Value) (ns es : List Pl.Nd) (up at_ : Int) (w : World) (hd : DocAt w v ns) (hd2 : DocAt w v2 es) :
    Calls Tryz.prog 35 #[.agg #[v], .int .i64 up, .int .i64 at_, .agg #[v2]] w fun e w' => ∃ v', e = .returned (.tuple #[.agg #[v'], .int .i64 (insErr ns up at_ es)]) ∧ DocAt w' v' (insOf ns up at_ es) ∧ Below w.heap.size w w' := by
  obtain ⟨hv, hcap, hf⟩ := hd
  obtain ⟨a, cap, rfl, hc⟩ := id hv
  have HV : Hid _ := hv
  obtain ⟨_, _, _, e0, hc1, hc2⟩ := hcap
  injection e0 with e1 e2 e3
  subst e1 e2 e3
  obtain ⟨hv2, hcap2, hf2⟩ := hd2
  obtain ⟨a2, cap2, rfl, hcc⟩ := id hv2
  have HV2 : Hid _ := hv2
  clear hv hv2 hcap2
  have HC : Hid _ := hc
  have HCC : Hid _ := hcc
  clear hc hcc
  have hB0 := two_cells w (.cells #[.slice a ns.length cap] 24) (.cells #[.slice a2 es.length cap2] 24) (.cells #[.slice none 0 0] 24)
  go_enter Tryz.func35, Tryz.ntmps35
  go_wp2_with fail
  refine (check_any _ ns _ hf (NdsAt.on HV.out hB0)).mono ?_
  rintro e w1 ⟨rfl, h1⟩
  have hB : Below w.heap.size w w1 := below_trans hB0 h1
  have c0 := cell_on (p := ⟨w.heap.size, 0, none⟩) (v := .slice a ns.length cap) h1 (by simp [go_sem])
  have c1 := cell_on (p := ⟨w.heap.size + 1, 0, none⟩) (v := .slice a2 es.length cap2) h1 (by simp [go_sem])
  have c2 := cell_on (p := ⟨w.heap.size + 1 + 1, 0, none⟩) (v := .slice none 0 0) h1 (by simp [go_sem])
  have f2 : w1.frozen? ⟨w.heap.size + 1 + 1, 0, none⟩ = false := by rw [h1.frozen (by simp)]; simp [go_sem]
  have hsz : w.heap.size + 3 ≤ w1.heap.size := by have := h1.size; simp at this; omega
  clear h1 hB0
  cases hz : (Pl.checkDoc ns != 0) with
  | true =>
    have hz1 : ¬ Pl.checkDoc ns = 0 := by simpa using hz
    have HE : Hid (insErr ns up at_ es = Pl.checkDoc ns) := by unfold Hid insErr; rw [if_neg hz1]
    have HP : Hid (insOf ns up at_ es = []) := by unfold Hid insOf; rw [if_neg (by rw [HE.out]; exact hz1)]
    clear hz1
    generalize hE : Pl.checkDoc ns = E at *
    go_wp2
    have q := World.cell?_setCell_same w1 ⟨w.heap.size + 1 + 1, 0, none⟩ (.slice none 0 0) c2
    exact bodyPost_ret (v := .tuple #[.agg #[.slice none 0 0], .int .i64 E]) (by simp [results, Tryz.results35, go_sem, q]) rfl
      ⟨_, by rw [HE.out], by rw [HP.out]; exact DocAt.nil _, hB.setCell (p := ⟨w.heap.size + 1 + 1, 0, none⟩) (by simp; omega) _⟩
  | false =>
  have hz0 : Pl.checkDoc ns = 0 := by simpa using hz
  clear hz
  rw [hz0]
  go_wp2_with fail
  refine (check_any _ es _ hf2 (NdsAt.on HV2.out hB)).mono ?_
  rintro e w2 ⟨rfl, h1⟩
  replace c0 := cell_on h1 c0
  replace c1 := cell_on h1 c1
  replace c2 := cell_on h1 c2
  replace f2 : w2.frozen? ⟨w.heap.size + 1 + 1, 0, none⟩ = false := by rw [h1.frozen (by simp; omega)]; exact f2
  replace hB := below_trans hB h1
  replace hsz : w.heap.size + 3 ≤ w2.heap.size := Nat.le_trans hsz h1.size
  clear h1
  cases hz : (Pl.checkDoc es != 0) with
  | true =>
    have hz1 : ¬ Pl.checkDoc es = 0 := by simpa using hz
    have HE : Hid (insErr ns up at_ es = Pl.checkDoc es) := by unfold Hid insErr; rw [if_pos hz0, if_neg hz1]
    have HP : Hid (insOf ns up at_ es = []) := by unfold Hid insOf; rw [if_neg (by rw [HE.out]; exact hz1)]
    clear hz1
    generalize hE : Pl.checkDoc es = E at *
    go_wp2
    have q := World.cell?_setCell_same w2 ⟨w.heap.size + 1 + 1, 0, none⟩ (.slice none 0 0) c2
    exact bodyPost_ret (v := .tuple #[.agg #[.slice none 0 0], .int .i64 E]) (by simp [results, Tryz.results35, go_sem, q]) rfl
      ⟨_, by rw [HE.out], by rw [HP.out]; exact DocAt.nil _, hB.setCell (p := ⟨w.heap.size + 1 + 1, 0, none⟩) (by simp; omega) _⟩
  | false =>
  have hy0 : Pl.checkDoc es = 0 := by simpa using hz
  clear hz
  rw [hy0]
  obtain ⟨hl1, hl64, _⟩ := check_zero hz0
  obtain ⟨hl2, hl642, _⟩ := check_zero hy0
  have HS : Hid _ := check_short hz0
  have HS2 : Hid _ := check_short hy0
  rcases HC.out with hc | ⟨b, o, rfl, hc⟩
  · subst hc; simp at hl1
  rcases HCC.out with hcc | ⟨b2, o2, rfl, hcc⟩
  · subst hcc; simp at hl2
  clear HC HCC
  have HC : Hid _ := hc
  have HCC : Hid _ := hcc
  clear hc hcc
  go_wp2_with fail
  refine (d_has_any _ _ _ _ _ hf.1).mono ?_
  rintro e w3 ⟨rfl, h1⟩
  replace c0 := cell_on h1 c0
  replace c1 := cell_on h1 c1
  replace c2 := cell_on h1 c2
  replace f2 : w3.frozen? ⟨w.heap.size + 1 + 1, 0, none⟩ = false := by rw [h1.frozen (by simp; omega)]; exact f2
  replace hB := below_trans hB h1
  replace hsz : w.heap.size + 3 ≤ w3.heap.size := Nat.le_trans hsz h1.size
  clear h1
  cases hh : hasB ns.length up with
  | false =>
    have HE : Hid (insErr ns up at_ es = 5) := by unfold Hid insErr; rw [if_pos hz0, if_pos hy0, if_neg (by rw [hh]; simp)]
    have HP : Hid (insOf ns up at_ es = []) := by unfold Hid insOf; rw [if_neg (by rw [HE.out]; omega)]
    go_wp2
    have q := World.cell?_setCell_same w3 ⟨w.heap.size + 1 + 1, 0, none⟩ (.slice none 0 0) c2
    exact bodyPost_ret (v := .tuple #[.agg #[.slice none 0 0], .int .i64 5]) (by simp [results, Tryz.results35, go_sem, q]) rfl
      ⟨_, by rw [HE.out], by rw [HP.out]; exact DocAt.nil _, hB.setCell (p := ⟨w.heap.size + 1 + 1, 0, none⟩) (by simp; omega) _⟩
  | true =>
  obtain ⟨k, rfl, hk⟩ : ∃ k : Nat, up = k ∧ k < ns.length := by
    unfold hasB at hh
    simp only [Bool.and_eq_true, decide_eq_true_eq] at hh
    exact ⟨up.toNat, by omega, by omega⟩
  have HH : Hid _ := hh
  clear hh
  go_wp2_with fail
  refine (kids_some b o cap ns _ _ hl64 (fun i hi => (HC.out i hi).on hB)).mono ?_
  rintro e w4 ⟨vk, rfl, hown, h1⟩
  replace c0 := cell_on h1 c0
  replace c1 := cell_on h1 c1
  replace c2 := cell_on h1 c2
  replace f2 : w4.frozen? ⟨w.heap.size + 1 + 1, 0, none⟩ = false := by rw [h1.frozen (by simp; omega)]; exact f2
  replace hB := below_trans hB h1
  replace hsz : w.heap.size + 3 ≤ w4.heap.size := Nat.le_trans hsz h1.size
  clear h1
  have hkl : (Pl.kidsOf ns k).length ≤ 64 := Nat.le_trans (Pl.kidsTo_len ns k ns.length) hl64
  have hik := ints_of_row hown
  obtain ⟨ak, ck, rfl, hik⟩ := hik
  simp only [List.length_map] at hik
  rw [List.length_map]
  clear hown
  by_cases hat : at_ < 0 ∨ ((Pl.kidsOf ns k).length : Int) < at_
  · have HE : Hid (insErr ns k at_ es = 3) := by unfold Hid insErr; rw [if_pos hz0, if_pos hy0, if_pos HH.out, if_pos hat]
    have HP : Hid (insOf ns k at_ es = []) := by unfold Hid insOf; rw [if_neg (by rw [HE.out]; omega)]
    rcases hat with hat | hat
    · clear hik
      go_wp2
      have q := World.cell?_setCell_same w4 ⟨w.heap.size + 1 + 1, 0, none⟩ (.slice none 0 0) c2
      exact bodyPost_ret (v := .tuple #[.agg #[.slice none 0 0], .int .i64 3]) (by simp [results, Tryz.results35, go_sem, q]) rfl
        ⟨_, by rw [HE.out], by rw [HP.out]; exact DocAt.nil _, hB.setCell (p := ⟨w.heap.size + 1 + 1, 0, none⟩) (by simp; omega) _⟩
    · have hat0 : ¬ at_ < 0 := by omega
      clear hik
      go_wp2
      have q := World.cell?_setCell_same w4 ⟨w.heap.size + 1 + 1, 0, none⟩ (.slice none 0 0) c2
      exact bodyPost_ret (v := .tuple #[.agg #[.slice none 0 0], .int .i64 3]) (by simp [results, Tryz.results35, go_sem, q]) rfl
        ⟨_, by rw [HE.out], by rw [HP.out]; exact DocAt.nil _, hB.setCell (p := ⟨w.heap.size + 1 + 1, 0, none⟩) (by simp; omega) _⟩
  obtain ⟨j, rfl, hj⟩ : ∃ j : Nat, at_ = j ∧ j ≤ (Pl.kidsOf ns k).length := ⟨at_.toNat, by omega, by omega⟩
  have g1 : ¬ (j : Int) < 0 := by omega
  have g2 : ¬ ((Pl.kidsOf ns k).length : Int) < (j : Int) := by omega
  by_cases hmn : 64 < ns.length + es.length
  · have HE : Hid (insErr ns k j es = 2) := by unfold Hid insErr; rw [if_pos hz0, if_pos hy0, if_pos HH.out, if_neg hat, if_pos hmn]
    have HP : Hid (insOf ns k j es = []) := by unfold Hid insOf; rw [if_neg (by rw [HE.out]; omega)]
    have i9 : (64 : Int) < (ns.length : Int) + (es.length : Int) := by omega
    clear hik hat
    go_wp2
    have q := World.cell?_setCell_same w4 ⟨w.heap.size + 1 + 1, 0, none⟩ (.slice none 0 0) c2
    exact bodyPost_ret (v := .tuple #[.agg #[.slice none 0 0], .int .i64 2]) (by simp [results, Tryz.results35, go_sem, q]) rfl
      ⟨_, by rw [HE.out], by rw [HP.out]; exact DocAt.nil _, hB.setCell (p := ⟨w.heap.size + 1 + 1, 0, none⟩) (by simp; omega) _⟩
  have HE : Hid (insErr ns k j es = 0) := by unfold Hid insErr; rw [if_pos hz0, if_pos hy0, if_pos HH.out, if_neg hat, if_neg hmn]
  have HP : Hid (insOf ns k j es = insRow ns k (placeOf ns k j) es) := by unfold Hid insOf; rw [if_pos HE.out]
  have i9 : ¬ (64 : Int) < (ns.length : Int) + (es.length : Int) := by omega
  have hbe := behind_le hk
  have HIK : Hid _ := hik
  clear hik hat
  go_wp2_with fail
  refine (behind_some b o cap ns k _ hk hl64 (fun i hi => (HC.out i hi).on hB)).mono ?_
  rintro e w9 ⟨rfl, hw⟩
  rw [hw]
  clear hw w9
  by_cases hjl : j < (Pl.kidsOf ns k).length
  · rcases HIK.out with h0 | ⟨g, og, rfl, hcell⟩
    · rw [List.map_eq_nil_iff] at h0; rw [h0] at hjl; simp at hjl
    have hcj := hcell j hjl
    rw [List.getElem_map] at hcj
    have HPl : Hid (placeOf ns k j = (Pl.kidsOf ns k)[j]) := by
      unfold Hid placeOf
      rw [if_pos (by omega)]
      simp [List.getD, List.getElem?_eq_getElem hjl]
    have hpl : (Pl.kidsOf ns k)[j] < ns.length := kids_lt (List.getElem_mem hjl)
    generalize (Pl.kidsOf ns k)[j] = P at *
    have j1 : (j : Int) < ((Pl.kidsOf ns k).length : Int) := by omega
    clear hcell
    go_wp2_with fail
    refine (insert_some b o cap b2 o2 cap2 ns es k P w4 (by omega) (by omega) hc1 (fun i hi => (HC.out i hi).on hB) (fun i hi => (HCC.out i hi).on hB) HS.out HS2.out).mono ?_
    rintro e w5 ⟨v5, B, rfl, hBB, hrow, hb5⟩
    replace c2 := cell_on hb5 c2
    replace f2 : w5.frozen? ⟨w.heap.size + 1 + 1, 0, none⟩ = false := by rw [hb5.frozen (by simp; omega)]; exact f2
    replace hB := below_trans hB hb5
    obtain ⟨a5, l5, c5, rfl, _, _⟩ := Row.cap hrow
    have HR : Hid _ := hrow
    clear hb5 hrow c0 c1
    go_wp2
    have q := World.cell?_setCell_same w5 ⟨w.heap.size + 1 + 1, 0, none⟩ (.slice a5 l5 c5) c2
    refine bodyPost_ret (v := .tuple #[.agg #[.slice a5 l5 c5], .int .i64 0]) (by simp [results, Tryz.results35, go_sem, q]) rfl
      ⟨_, by rw [HE.out], ?_, hB.setCell (p := ⟨w.heap.size + 1 + 1, 0, none⟩) (by simp; omega) _⟩
    rw [HP.out, HPl.out]
    exact (Row.set HR.out (M := w.heap.size + 1 + 1) (j := 0) (by omega) c2 (by simp) (.slice a5 l5 c5)).doc (by rw [insRow_len]; omega) (insRow_short HS.out HS2.out _ _)
  · have HPl : Hid (placeOf ns k j = Pl.behind ns k) := by
      unfold Hid placeOf
      rw [if_neg (by omega)]
      rfl
    have j1 : ¬ (j : Int) < ((Pl.kidsOf ns k).length : Int) := by omega
    go_wp2_with fail
    refine (insert_some b o cap b2 o2 cap2 ns es k (Pl.behind ns k) w4 (by omega) (by omega) hc1 (fun i hi => (HC.out i hi).on hB) (fun i hi => (HCC.out i hi).on hB) HS.out HS2.out).mono ?_
    rintro e w5 ⟨v5, B, rfl, hBB, hrow, hb5⟩
    replace c2 := cell_on hb5 c2
    replace f2 : w5.frozen? ⟨w.heap.size + 1 + 1, 0, none⟩ = false := by rw [hb5.frozen (by simp; omega)]; exact f2
    replace hB := below_trans hB hb5
    obtain ⟨a5, l5, c5, rfl, _, _⟩ := Row.cap hrow
    have HR : Hid _ := hrow
    clear hb5 hrow c0 c1
    go_wp2
    have q := World.cell?_setCell_same w5 ⟨w.heap.size + 1 + 1, 0, none⟩ (.slice a5 l5 c5) c2
    refine bodyPost_ret (v := .tuple #[.agg #[.slice a5 l5 c5], .int .i64 0]) (by simp [results, Tryz.results35, go_sem, q]) rfl
      ⟨_, by rw [HE.out], ?_, hB.setCell (p := ⟨w.heap.size + 1 + 1, 0, none⟩) (by simp; omega) _⟩
    rw [HP.out, HPl.out]
    exact (Row.set HR.out (M := w.heap.size + 1 + 1) (j := 0) (by omega) c2 (by simp) (.slice a5 l5 c5)).doc (by rw [insRow_len]; omega) (insRow_short HS.out HS2.out _ _)
end Go.Proofs.YtephhllfodlfbaaGreatDoor
/-
  Kids and Under.
-/
namespace Go.Proofs.YtephhllfodlfbaaGreatDoor
open Go.RowKit

end Go.Proofs.YtephhllfodlfbaaGreatDoor
