/-
  What the document says of families and links.
-/
import Derived.Test.YtagobgjlhdbhmaaGreatDoorMtP
import Derived.Deep.RegionHeld3
namespace Go.Proofs.YtagobgjlhdbhmaaGreatDoor
open Go.RowKit

/-- a right document in memory -/
structure RD (w : World) (b o : Nat) (ns : List Pl.Nd) : Prop where
  at_ : ∀ i (h : i < ns.length), NdAt w b (o + i * 5) ns[i]
  n64 : ns.length ≤ 64
  low : Pl.Low ns ns.length
  rt : ∀ x ∈ ns, Pl.right x = true
theorem RD.on {w w' : World} {b o : Nat} {ns : List Pl.Nd} (h : RD w b o ns) (hb : Below w.heap.size w w') : RD w' b o ns := ⟨fun i hi => (h.at_ i hi).on hb, h.n64, h.low, h.rt⟩
theorem famOf_len (ns : List Pl.Nd) (n : Nat) (h : ns.length ≤ 64) : (famOf ns n).length ≤ 64 := by
  unfold famOf
  split
  · simp
  · have := Pl.kidsTo_len ns (Pl.upOf ns n) ns.length
    simp only [List.length_map]
    exact Nat.le_trans this h
theorem plc_low (ks : List Int) (n : Int) : -1 ≤ plc ks n ∧ plc ks n < ks.length := by
  unfold plc
  split
  · rename_i i h
    rw [List.find?_range_eq_some] at h
    have := h.2.1
    simp at this
    omega
  · omega
theorem two_on {W W' : World} {p q : Addr} {u v : Value} (h : W.cell? p = some u ∧ W.cell? q = some v) (hb : Below W.heap.size W W') : W'.cell? p = some u ∧ W'.cell? q = some v := ⟨cell_on hb h.1, cell_on hb h.2⟩
set_option maxRecDepth 100000 in
set_option maxHeartbeats 2000000 in
theorem family_any (b o cap : Nat) (ns : List Pl.Nd) (n : Nat) (w : World) (hd : RD w b o ns) (hn : n < ns.length) :
    Calls Tryz.prog 32 #[.agg #[.slice (some ⟨b, o, none⟩) ns.length cap], .int .i64 n] w fun e w' => ∃ v, e = .returned v ∧ IntsAt w' v (famOf ns n) ∧ Below w.heap.size w w' := by
  have HB : Hid (Below w.heap.size w (w.alloc (.cells #[.slice (some ⟨b, o, none⟩) ns.length cap] 24))) := on_alloc _ _
  have HD : Hid (RD w b o ns) := hd
  clear hd
  by_cases hz : n = 0
  · subst hz
    go_enter Tryz.func32, Tryz.ntmps32
    go_wp2_with fail
    go_ret
    refine ⟨_, rfl, ⟨some ⟨w.heap.size + 1, 0, none⟩, 1, rfl, Or.inr ⟨w.heap.size + 1, 0, rfl, fun i hi => ?_⟩⟩, below_trans HB.out (on_alloc _ _)⟩
    have h0 : i = 0 := by simp [famOf] at hi; omega
    subst h0
    simp [famOf, go_sem]
  · have cu := cell_on HB.out (up_cell HD.out.at_ n hn)
    have c0 : (w.alloc (.cells #[.slice (some ⟨b, o, none⟩) ns.length cap] 24)).cell? ⟨w.heap.size, 0, none⟩ = some (.slice (some ⟨b, o, none⟩) ns.length cap) := by simp [go_sem]
    have HF : Hid (famOf ns n = (Pl.kidsOf ns (Pl.upOf ns n)).map fun (k : Nat) => (k : Int)) := by
      unfold Hid famOf
      rw [if_neg hz]
    have HDW := HD.out.on HB.out
    have hnb : ((n : Int) == 0) = false := by simpa using hz
    have i1 : (0 : Int) ≤ (n : Int) := by omega
    have i2 : (n : Int) < (ns.length : Int) := by omega
    clear hz
    go_enter Tryz.func32, Tryz.ntmps32
    go_wp2_with fail
    generalize w.alloc (.cells #[.slice (some ⟨b, o, none⟩) ns.length cap] 24) = W at *
    generalize Pl.upOf ns n = up at *
    have HK : Hid (Calls Tryz.prog 38 _ _ _) := refKids_some b o cap ns up W.drew HDW.n64 HDW.at_
    have S0 : W.drew.cell? ⟨w.heap.size, 0, none⟩ = some (.slice (some ⟨b, o, none⟩) ns.length cap) ∧ W.drew.cell? ⟨b, o + n * 5, none⟩ = some (.int .i64 up) := ⟨c0, cu⟩
    clear c0 cu HDW
    go_region_held3 (fun w' => w'.cell? ⟨w.heap.size, 0, none⟩ = some (.slice (some ⟨b, o, none⟩) ns.length cap) ∧ w'.cell? ⟨b, o + n * 5, none⟩ = some (.int .i64 up)) (first | with_reducible assumption | exact two_on (by with_reducible assumption) (by with_reducible assumption))
      (first | (go_at_call 38; refine HK.out.mono ?_; rintro e w2 ⟨v2, rfl, hr2, hb2⟩))
    all_goals
      have HI : Hid (IntsAt w2 v2 _) := hr2.ints
      have HB2 : Hid (Below w.heap.size w w2) := below_trans HB.out (below_trans ((Below.refl _ W).drew) hb2)
      clear hr2 hb2 S0
      go_wp2
      go_ret
      exact ⟨_, rfl, by rw [HF.out]; exact HI.out, HB2.out⟩
set_option maxRecDepth 100000 in
set_option maxHeartbeats 4000000 in
theorem reaches_any (b o cap : Nat) (ns : List Pl.Nd) (k : Int) (m n : Nat) (w : World) (hd : RD w b o ns) (hn : n < ns.length) :
    Calls Tryz.prog 66 #[.agg #[.slice (some ⟨b, o, none⟩) ns.length cap], .int .i64 k, .int .i64 m, .int .i64 n] w fun e w' => e = .returned (.bool (reach ns k m n)) ∧ Below w.heap.size w w' := by
  have HB : Hid (Below w.heap.size w (w.alloc (.cells #[.slice (some ⟨b, o, none⟩) ns.length cap] 24))) := on_alloc _ _
  have HDW := hd.on HB.out
  have HD : Hid (RD (w.alloc (.cells #[.slice (some ⟨b, o, none⟩) ns.length cap] 24)) b o ns) := HDW
  have cu := up_cell HDW.at_ n hn
  have c0 : (w.alloc (.cells #[.slice (some ⟨b, o, none⟩) ns.length cap] 24)).cell? ⟨w.heap.size, 0, none⟩ = some (.slice (some ⟨b, o, none⟩) ns.length cap) := by simp [go_sem]
  clear hd HDW
  by_cases h1 : k = 1
  · subst h1
    have HV : Hid (reach ns 1 m n = aboveB ns m n) := rfl
    clear cu
    go_enter Tryz.func66, Tryz.ntmps66
    go_wp2_with fail
    refine (above_some b o cap ns m n _ hn HD.out.n64 HD.out.low HD.out.at_).mono ?_
    rintro e w1 ⟨rfl, hb1⟩
    have HB1 : Hid (Below w.heap.size w w1) := below_trans HB.out hb1
    clear hb1 c0
    go_wp2
    go_ret
    exact ⟨by rw [HV.out]; rfl, HB1.out⟩
  have b1 : (k == 1) = false := by simpa using h1
  by_cases h2 : k = 2
  · subst h2
    have HV : Hid (reach ns 2 m n = (Pl.upOf ns n == (m : Int))) := rfl
    generalize Pl.upOf ns n = up at *
    clear h1 b1
    go_enter Tryz.func66, Tryz.ntmps66
    go_wp2_with fail
    go_ret
    exact ⟨by rw [HV.out]; rfl, HB.out⟩
  have b2 : (k == 2) = false := by simpa using h2
  have HV : Hid (reach ns k m n = if k = 3 then decide (0 ≤ plc (famOf ns n) m) && (plc (famOf ns n) m + 1 == plc (famOf ns n) n) else decide (0 ≤ plc (famOf ns n) m) && decide (plc (famOf ns n) m < plc (famOf ns n) n)) := by
    unfold Hid reach
    rw [if_neg h1, if_neg h2]
  have hfl := famOf_len ns n HD.out.n64
  have hp1 := plc_low (famOf ns n) m
  have hp2 := plc_low (famOf ns n) n
  clear cu h1 h2
  go_enter Tryz.func66, Tryz.ntmps66
  go_wp2_with fail
  refine (family_any b o cap ns n _ HD.out hn).mono ?_
  rintro e w1 ⟨vf, rfl, hi, hb1⟩
  obtain ⟨af, cf, rfl, -⟩ := id hi
  have HI : Hid (IntsAt w1 (.slice af (famOf ns n).length cf) (famOf ns n)) := hi
  have HB1 : Hid (Below w.heap.size w w1) := below_trans HB.out hb1
  have c1 := cell_on hb1 c0
  clear hi hb1 c0
  have HP1 : Hid (Calls Tryz.prog 37 _ _ _) := placeIn_any _ _ m w1 HI.out (by omega)
  have HP2 : Hid (Calls Tryz.prog 37 _ _ _) := placeIn_any _ _ n w1 HI.out (by omega)
  generalize plc (famOf ns n) m = a at *
  generalize plc (famOf ns n) n = a2 at *
  generalize (famOf ns n).length = fl at *
  go_wp2_with fail
  refine HP1.out.mono ?_
  rintro e w2 ⟨rfl, rfl⟩
  go_wp2_with fail
  refine HP2.out.mono ?_
  rintro e w3 ⟨rfl, rfl⟩
  by_cases h3 : k = 3
  · subst h3
    rw [if_pos rfl] at HV
    by_cases ha : 0 ≤ a
    · rw [decide_eq_true ha, Bool.true_and] at HV
      go_wp2
      go_ret
      exact ⟨by rw [HV.out]; rfl, HB1.out⟩
    · rw [decide_eq_false ha, Bool.false_and] at HV
      go_wp2
      go_ret
      exact ⟨by rw [HV.out]; rfl, HB1.out⟩
  · rw [if_neg h3] at HV
    have b3 : (k == 3) = false := by simpa using h3
    clear h3
    by_cases ha : 0 ≤ a
    · rw [decide_eq_true ha, Bool.true_and] at HV
      go_wp2
      go_ret
      exact ⟨by rw [HV.out]; rfl, HB1.out⟩
    · rw [decide_eq_false ha, Bool.false_and] at HV
      go_wp2
      go_ret
      exact ⟨by rw [HV.out]; rfl, HB1.out⟩
end Go.Proofs.YtagobgjlhdbhmaaGreatDoor
