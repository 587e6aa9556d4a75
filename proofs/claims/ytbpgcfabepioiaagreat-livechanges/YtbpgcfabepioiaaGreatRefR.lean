/-
  PartOf: the part of an element, as the document's own answer builds it.
-/
import Derived.Test.YtbpgcfabepioiaaGreatLay
import Derived.Test.YtbpgcfabepioiaaGreatLayM
import Derived.Test.YtbpgcfabepioiaaGreatBox
import Derived.Test.YtbpgcfabepioiaaGreatRemM
namespace Go.Proofs.YtbpgcfabepioiaaGreat
open Go.RowKit

theorem part_seg {ns : List Pl.Nd} {n : Nat} (hg : Pl.GoodTo ns ns.length) (hn : n < ns.length) (h64 : ns.length ≤ 64) : Pl.seg ns n (Pl.behind ns n) (fun u => if u < n then -1 else u - n + (0 : Nat)) = ((ns.drop n).take (Pl.behind ns n - n)).map (Pl.mvd (Pl.mvPart n)) := by
  obtain ⟨a1, a2, _, _⟩ := Pl.behind_spec hn
  refine Pl.seg_congr a2 fun m h1 h2 => ?_
  have hlow : Pl.upOf ns m < m := by
    rcases Nat.eq_zero_or_pos m with h | h
    · rw [(hg m (by omega)).1 h]; omega
    · exact ((hg m (by omega)).2 h).2.1
  unfold Pl.mvPart
  by_cases hu : Pl.upOf ns m < n
  · rw [if_pos hu, if_pos hu]
  · rw [if_neg hu, if_neg hu, Pl.wr_in (by omega) (by omega)]
    omega
theorem TV.all {P : Nat → Prop} {w : World} {v : Value} {x : Pl.Nd} {k : Pl.F} (h : TV P w v x k) : TV AllB w v x k := h.to fun _ _ _ => ⟨trivial, rfl⟩
end Go.Proofs.YtbpgcfabepioiaaGreat
/-
  RemoveDoc: a document without an element, as the document's own answer builds it.
-/
namespace Go.Proofs.YtbpgcfabepioiaaGreat
open Go.RowKit

theorem rem_root {ns : List Pl.Nd} {n : Nat} (hg : Pl.GoodTo ns ns.length) (hn0 : 0 < n) (hn : n < ns.length) (h64 : ns.length ≤ 64) :
    Pl.layT (Pl.mark ns 0) (Pl.withoutF (Pl.markedF ns ns.length (Pl.kidsOf ns (0 : Nat))) n) 0 (-1) = (ns.take n).map (Pl.mvd id) ++ (ns.drop (Pl.behind ns n)).map (Pl.mvd (Pl.mvRem n ((Pl.behind ns n : Int) - n))) := by
  obtain ⟨e1, e2, e3, e4⟩ := Pl.behind_spec hn
  have hb : Pl.behind ns 0 = ns.length := Pl.behind_eq (by omega) (by omega) (Nat.le_refl _) (fun m h1 h2 => by have := (hg m h2).2 h1; omega) (fun h => by omega)
  rw [Pl.rem_tree hg hn ns.length 0 0 (-1) hn0 (by omega) (by omega), hb]
  congr 1
  · have : (ns.take n).map (Pl.mvd id) = Pl.seg ns 0 n id := by unfold Pl.seg; simp
    rw [this]
    refine Pl.seg_congr (by omega) fun x h1 h2 => ?_
    rcases Nat.eq_zero_or_pos x with h | h
    · rw [(hg x (by omega)).1 h]; rfl
    · have := (hg x (by omega)).2 h
      rw [if_neg (by omega)]
      simp
  · have : (ns.drop (Pl.behind ns n)).map (Pl.mvd (Pl.mvRem n ((Pl.behind ns n : Int) - n))) = Pl.seg ns (Pl.behind ns n) ns.length (Pl.mvRem n ((Pl.behind ns n : Int) - n)) := by
      unfold Pl.seg
      rw [List.take_of_length_le (by simp)]
    rw [this]
    refine Pl.seg_congr (Nat.le_refl _) fun x h1 h2 => ?_
    have hx := (hg x h2).2 (by omega)
    unfold Pl.mvRem
    by_cases hu : Pl.upOf ns x < n
    · rw [if_pos hu, if_pos hu]; omega
    · rw [if_neg hu, if_neg hu, Pl.wr_in (by omega) (by omega)]
      omega
set_option maxRecDepth 100000 in
set_option maxHeartbeats 2000000 in
theorem refRem_any (v : Value) (ns : List Pl.Nd) (n : Int) (w : World) (hd : DocAt w v ns) :
    Calls Tryz.prog 12 #[.agg #[v], .int .i64 n] w fun e w' => ∃ v', e = .returned (.tuple #[.agg #[v'], .int .i64 (remErr ns n)]) ∧ DocAt w' v' (remOf ns n) ∧ Below w.heap.size w w' := by
  obtain ⟨hv, hcap, hf⟩ := hd
  obtain ⟨a, cap, rfl, hc⟩ := id hv
  have HV : Hid _ := hv
  have hB0 := ((Below.refl w.heap.size w).alloc (Nat.le_refl _) (.cells #[.slice a ns.length cap] 24)).alloc (by simp) (.cells #[.slice none 0 0] 24)
  clear hv hcap
  go_enter Tryz.func12, Tryz.ntmps12
  go_wp2_with fail
  refine (there_any _ ns n _ hf (NdsAt.on HV.out hB0)).mono ?_
  rintro e w1 ⟨rfl, h1⟩
  have hB1 := below_trans hB0 h1
  have c0 := cell_on (p := ⟨w.heap.size, 0, none⟩) (v := .slice a ns.length cap) h1 (by simp [go_sem])
  have c1 := cell_on (p := ⟨w.heap.size + 1, 0, none⟩) (v := .slice none 0 0) h1 (by simp [go_sem])
  have f1 : w1.frozen? ⟨w.heap.size + 1, 0, none⟩ = false := by rw [h1.frozen (by simp)]; simp [go_sem]
  have hsz : w.heap.size + 2 ≤ w1.heap.size := by have := h1.size; simp at this; omega
  clear h1 hB0
  cases hz : (checkAtOf ns n != 0) with
  | true =>
    have HP : Hid (remErr ns n = checkAtOf ns n ∧ remOf ns n = []) := by
      have hne : ¬ checkAtOf ns n = 0 := by simpa using hz
      have h1 : remErr ns n = checkAtOf ns n := by unfold remErr; rw [if_neg hne]
      exact ⟨h1, by unfold remOf; rw [h1, if_neg hne]⟩
    clear hc
    generalize hE : checkAtOf ns n = E at *
    go_wp2
    have q := World.cell?_setCell_same w1 ⟨w.heap.size + 1, 0, none⟩ (.slice none 0 0) c1
    exact bodyPost_ret (v := .tuple #[.agg #[.slice none 0 0], .int .i64 E]) (by simp [results, Tryz.results12, go_sem, q]) rfl
      ⟨_, by rw [HP.out.1], by rw [HP.out.2]; exact DocAt.nil _, hB1.setCell (p := ⟨w.heap.size + 1, 0, none⟩) (by simp) _⟩
  | false =>
    have hz0 : checkAtOf ns n = 0 := by simpa using hz
    clear hz
    rw [hz0]
    cases hn0 : (n == 0) with
    | true =>
      have hn0' : n = 0 := by simpa using hn0
      have HP : Hid (remErr ns n = 3 ∧ remOf ns n = []) := by
        have h1 : remErr ns n = 3 := by unfold remErr; rw [if_pos hz0, if_pos hn0']
        exact ⟨h1, by unfold remOf; rw [h1]; rfl⟩
      clear hc hn0'
      go_wp2
      have q := World.cell?_setCell_same w1 ⟨w.heap.size + 1, 0, none⟩ (.slice none 0 0) c1
      exact bodyPost_ret (v := .tuple #[.agg #[.slice none 0 0], .int .i64 3]) (by simp [results, Tryz.results12, go_sem, q]) rfl
        ⟨_, by rw [HP.out.1], by rw [HP.out.2]; exact DocAt.nil _, hB1.setCell (p := ⟨w.heap.size + 1, 0, none⟩) (by simp) _⟩
    | false =>
      obtain ⟨hk0, k, rfl, hk⟩ := checkAt_zero hz0
      have hkp : 0 < k := by
        rcases Nat.eq_zero_or_pos k with h | h
        · subst h; simp at hn0
        · exact h
      obtain ⟨hl1, hl64, hok⟩ := check_zero hk0
      have hsh := check_short hk0
      have hgood := ((Pl.check_iff ns).1 hk0).2.2.2
      have hlow := Pl.okTo_low ns.length hok
      rcases hc with hc | ⟨b, o, rfl, hc⟩
      · subst hc; simp at hl1
      have hE : remErr ns k = 0 := by
        unfold remErr
        rw [if_pos hz0, if_neg (by omega)]
      have HP : Hid (remOf ns k = (ns.take k).map (Pl.mvd id) ++ (ns.drop (Pl.behind ns k)).map (Pl.mvd (Pl.mvRem k ((Pl.behind ns k : Int) - k)))) := by unfold Hid remOf; rw [hE]; rfl
      have HL : Hid _ := rem_root hgood hkp hk hl64
      have HC : Hid _ := hc
      have HS : Hid _ := hsh
      have HW : Hid _ := hlow
      have hbe := behind_le hk
      have hz1 : (Pl.withoutF (Pl.markedF ns ns.length (Pl.kidsOf ns (0 : Nat))) k).size + 1 ≤ 64 := by
        have := congrArg List.length HL.out
        rw [Pl.layT_len] at this
        simp only [List.length_append, List.length_map, List.length_take, List.length_drop] at this
        omega
      have hz2 : (Pl.markedF ns ns.length (Pl.kidsOf ns (0 : Nat))).size ≤ 64 := by
        have := congrArg List.length (Pl.mark_tree hgood ns.length 0 0 (-1) (by omega) (by omega))
        rw [Pl.layT_len, Pl.seg_len (Pl.behind_spec (by omega)).2.1] at this
        have := (Pl.behind_spec (ns := ns) (n := 0) (by omega)).2.1
        omega
      clear hc hsh hgood hlow hok
      go_wp2_with fail
      refine (marked_any b o cap ns hl64 HS.out HW.out ns.length 0 _ (by omega) (by omega) (fun i hi => (HC.out i hi).on hB1)).mono ?_
      rintro e w2 ⟨t2, rfl, hT2, h2⟩
      have hB2 := below_trans hB1 h2
      have HT2 : Hid _ := TV.all hT2
      obtain ⟨_, _, _, rfl, _, _, _⟩ := hT2
      replace c1 := cell_on h2 c1
      replace f1 : w2.frozen? ⟨w.heap.size + 1, 0, none⟩ = false := by rw [h2.frozen (by simp; omega)]; exact f1
      replace hsz : w.heap.size + 2 ≤ w2.heap.size := Nat.le_trans hsz h2.size
      clear h2 hB1 c0
      go_wp2_with fail
      refine (without_any _ _ AllB _ _ _ _ (Nat.lt_succ_self _) hz2 HT2.out).mono ?_
      rintro e w3 ⟨t3, rfl, hT3, h3⟩
      have hB3 := below_trans hB2 h3
      have HT3 : Hid _ := TV.all hT3
      obtain ⟨_, _, _, rfl, _, _, _⟩ := hT3
      replace c1 := cell_on h3 c1
      replace f1 : w3.frozen? ⟨w.heap.size + 1, 0, none⟩ = false := by rw [h3.frozen (by simp; omega)]; exact f1
      replace hsz : w.heap.size + 2 ≤ w3.heap.size := Nat.le_trans hsz h3.size
      clear h3 hB2
      go_wp2_with fail
      refine (lay_any w3 _ _ _ _ _ [] _ _ (Nat.lt_succ_self _) HT3.out (Below.refl _ _) (Row.nil _ _) (by simpa using hz1)).mono ?_
      rintro e w4 ⟨v4, rfl, hrow, hgr, _⟩
      have hb4 : Below w3.heap.size w3 w4 := (Below.refl _ _).grown hgr (Nat.le_refl _) (fun k hk => by simp [Value.ownBlock] at hk)
      have c4 := cell_on hb4 c1
      have f4 : w4.frozen? ⟨w.heap.size + 1, 0, none⟩ = false := by rw [hb4.frozen (by show _ < w3.heap.size; simp; omega)]; exact f1
      have hB4 : Below w.heap.size w w4 := below_trans hB3 hb4
      obtain ⟨a4, l4, c5, rfl, _, _⟩ := Row.cap hrow
      have HR : Hid _ := hrow
      clear hb4 hrow hgr c1 f1 hB3
      go_wp2
      have q := World.cell?_setCell_same w4 ⟨w.heap.size + 1, 0, none⟩ (.slice a4 l4 c5) c4
      refine bodyPost_ret (v := .tuple #[.agg #[.slice a4 l4 c5], .int .i64 0]) (by simp [results, Tryz.results12, go_sem, q]) rfl
        ⟨_, by rw [hE], ?_, hB4.setCell (p := ⟨w.heap.size + 1, 0, none⟩) (by simp) _⟩
      have hr := Row.set HR.out (M := w.heap.size + 1) (j := 0) (by omega) c4 (by simp) (.slice a4 l4 c5)
      rw [List.nil_append] at hr
      have e := HL.out
      change Row _ _ _ (Pl.layT _ _ 0 _) at hr
      rw [e, ← HP.out] at hr
      refine hr.doc ?_ ?_
      · rw [HP.out]; simp; omega
      · rw [HP.out]
        intro x hx
        rcases List.mem_append.1 hx with h | h
        · exact mvd_short (fun x hx => HS.out x (List.mem_of_mem_take hx)) x h
        · exact mvd_short (fun x hx => HS.out x (List.mem_of_mem_drop hx)) x h
end Go.Proofs.YtbpgcfabepioiaaGreat
