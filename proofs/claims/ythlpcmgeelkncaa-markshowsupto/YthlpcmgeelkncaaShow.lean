/-
  mark.Show.
-/
import Derived.Test.YthlpcmgeelkncaaShx
import Derived.Test.YthlpcmgeelkncaaBox
import Derived.Test.YthlpcmgeelkncaaMkC
namespace Go.Proofs.Ythlpcmgeelkncaa
open Go.RowKit

/-- what Show tells -/
def showOf (ns : List Pl.Nd) : List UInt8 := if Pl.checkDoc ns = 0 then Pl.showDoc ns else []
theorem name_len {s : List UInt8} (h : Pl.isName s = true) : s.length ≤ 12 := by
  unfold Pl.isName at h
  simp only [Bool.and_eq_true, decide_eq_true_eq] at h
  omega
theorem value_len {s : List UInt8} (h : Pl.isValue s = true) : s.length ≤ 16 := by
  unfold Pl.isValue at h
  simp only [Bool.and_eq_true, decide_eq_true_eq] at h
  omega
theorem short_of {x : Pl.Nd} (h : Pl.right x = true) : Short x := by
  obtain ⟨h1, h2, h3, h4, h5, h6⟩ := Pl.right_parts h
  refine ⟨name_len h1, ?_, h3, fun i hi => name_len (h4 _ (List.getElem_mem hi)), h5, fun i hi => ⟨name_len (h6 _ (List.getElem_mem hi)).1, value_len (h6 _ (List.getElem_mem hi)).2⟩⟩
  rcases h2 with h | h
  · rw [h]; simp
  · exact name_len h
theorem showNd_len {x : Pl.Nd} (h : Short x) : (Pl.showNd x).length ≤ 235 := by
  obtain ⟨h1, h2, h3, h4, h5, h6⟩ := h
  have a1 := flat_len (fun c : List UInt8 => 46 :: c) 13 x.cls (fun i hi => by have := h4 i hi; simp only [List.length_cons]; omega)
  have a2 := flat_len (fun a : List UInt8 × List UInt8 => 91 :: (a.1 ++ [61, 34] ++ a.2 ++ [34, 93])) 33 x.ats (fun i hi => by have := h6 i hi; simp only [List.length_cons, List.length_append, List.length_nil]; omega)
  unfold Pl.showNd
  have a3 : (if x.id = [] then ([] : List UInt8) else 35 :: x.id).length ≤ 13 := by
    split
    · simp
    · simp only [List.length_cons]; omega
  simp only [List.length_append]
  omega
theorem showTo_len {ns : List Pl.Nd} (h : ∀ x ∈ ns, Short x) (h64 : ns.length ≤ 64) : ∀ n, n ≤ ns.length → (Pl.showTo ns n).length ≤ 300 * n
  | 0, _ => by simp [Pl.showTo]
  | n + 1, hn => by
    have ih := showTo_len h h64 n (by omega)
    have h1 := showNd_len (h ns[n] (List.getElem_mem (by omega)))
    have h2 : (if n = 0 then ([] : List UInt8) else Pl.linkTo ns n (Pl.upOf ns n)).length ≤ 65 := by
      split
      · simp
      · unfold Pl.linkTo
        split
        · simp
        · have := Pl.cl_len ns (Pl.upOf ns n) (n - 1)
          simp only [List.length_append, List.length_cons, List.length_nil]
          omega
    rw [Pl.showTo, Pl.ndAt_eq ns n (by omega)]
    simp only [List.length_append]
    omega
theorem builder_new (w : World) : BB w.heap.size w.heap.size [] (w.alloc (.cells #[.pointer none, .slice none 0 0] 83)) := by
  refine Or.inl ⟨Nat.le_refl _, .slice none 0 0, heap_alloc_new w _, ?_, by simp [Value.ownBlock]⟩
  exact ⟨by simp [Lib.byteCells], Or.inl ⟨rfl, rfl⟩⟩
set_option maxRecDepth 100000 in
set_option maxHeartbeats 2000000 in
theorem show_any (v : Value) (ns : List Pl.Nd) (w : World) (hd : DocAt w v ns) :
    Calls Try.prog 27 #[.agg #[v]] w fun e w' => e = .returned (.tuple #[.string ⟨(showOf ns).toArray⟩, .int .i64 (Pl.checkDoc ns)]) ∧ Below w.heap.size w w' := by
  obtain ⟨hv, ⟨a0, l0, c0, e0, hcap, hcm⟩, hf⟩ := hd
  obtain ⟨a, cap, rfl, hc⟩ := id hv
  injection e0 with e1 e2 e3
  subst e1 e2 e3
  have HV : Hid _ := hv
  have hB0 := on_alloc w (.cells #[.slice a ns.length cap] 24)
  clear hv
  go_enter Try.func27, Try.ntmps27
  go_wp2_with fail
  refine (check_any _ ns _ hf (NdsAt.on HV.out hB0)).mono ?_
  rintro e w1 ⟨rfl, h1⟩
  have hB : Below w.heap.size w w1 := below_trans hB0 h1
  have d0 := cell_on (p := ⟨w.heap.size, 0, none⟩) (v := .slice a ns.length cap) h1 (by simp [go_sem])
  have hsz : w.heap.size + 1 ≤ w1.heap.size := by have := h1.size; simpa using this
  clear h1 hB0
  cases hz : (Pl.checkDoc ns != 0) with
  | true =>
    have hz1 : ¬ Pl.checkDoc ns = 0 := by simpa using hz
    have HP : Hid (showOf ns = []) := by unfold Hid showOf; rw [if_neg hz1]
    clear hz1 hc
    generalize hE : Pl.checkDoc ns = E at *
    go_wp2
    go_ret2
    exact ⟨by rw [HP.out, hE]; rfl, hB⟩
  | false =>
  have hz0 : Pl.checkDoc ns = 0 := by simpa using hz
  clear hz
  rw [hz0]
  obtain ⟨hl1, hl64, hr, hg⟩ := (Pl.check_iff ns).1 hz0
  have HG : Hid _ := hg
  have HSh : Hid (∀ x ∈ ns, Short x) := fun x hx => short_of (hr x hx)
  have HP : Hid (showOf ns = Pl.showTo ns ns.length ++ Pl.cl ns (-1) (ns.length - 1)) := by unfold Hid showOf; rw [if_pos hz0]; rfl
  rcases hc with hc | ⟨bn, on, rfl, hc⟩
  · subst hc; simp at hl1
  have HC : Hid (∀ i (h : i < ns.length), NdAt w1 bn (on + i * 5) ns[i]) := fun i hi => (hc i hi).on hB
  have hbn : bn < w1.heap.size := by
    obtain ⟨_, _, g0, _⟩ := HC.out 0 (by omega)
    exact cell_lt g0
  have HB2 : Hid _ := builder_new w1
  have hk2 : Keep w1.heap.size w1.heap.size w1 (w1.alloc (.cells #[.pointer none, .slice none 0 0] 83)) := (Keep.refl _ _ _).alloc (Nat.le_refl _) _
  have HK2 : Hid _ := hk2
  have d2 := cell_on (on_alloc w1 (.cells #[.pointer none, .slice none 0 0] 83)) d0
  have hs2 : w1.heap.size < (w1.alloc (.cells #[.pointer none, .slice none 0 0] 83)).heap.size := by simp
  have HZ : Hid (Pl.checkDoc ns = 0) := hz0
  clear hc hr hg hk2 hz0
  go_wp2_with fail
  generalize w1.alloc (.cells #[.pointer none, .slice none 0 0] 83) = w2 at *
  have HD : Hid (∀ W, Below w1.heap.size w1 W → W.cell? ⟨w.heap.size, 0, none⟩ = some (.slice (some ⟨bn, on, none⟩) ns.length cap)) := fun W hW => cell_on hW d0
  clear d0
  go_loopw [16] (fun i wr => ∃ j : Nat, j ≤ ns.length ∧ i = .int .i64 j ∧ Hid (BB w1.heap.size w1.heap.size (Pl.showTo ns j) wr) ∧ Hid (Keep w1.heap.size w1.heap.size w1 wr) ∧ w1.heap.size < wr.heap.size) (fun i _ => ns.length - (intOf i).toNat)
  case atStart => exact ⟨0, Nat.zero_le _, rfl, HB2, HK2, hs2⟩
  case round =>
    obtain ⟨j, hj, rfl, hbb, hkp, hsr⟩ := hrel
    have hlen := showTo_len HSh.out hl64 j hj
    have dr := HD.out wr hkp.out.below
    by_cases hlt : j < ns.length
    · have hNd := HC.out j hlt
      obtain ⟨vc, va, n0, n1, n2, n3, n4, nc, na⟩ := hNd
      have HNV : Hid (NdV w1 (.agg #[.int .i64 ns[j].up, .string ⟨ns[j].tag.toArray⟩, .string ⟨ns[j].id.toArray⟩, vc, va]) ns[j]) := ⟨_, _, rfl, nc, na⟩
      have hShx := HSh.out ns[j] (List.getElem_mem hlt)
      have HShx : Hid (Short ns[j]) := hShx
      have hSl := showNd_len hShx
      obtain ⟨ac, cc, rfl, _⟩ := nc
      obtain ⟨aa, ca, rfl, _⟩ := na
      have p0 := cell_on hkp.out.below n0
      have p1 := cell_on hkp.out.below n1
      have p2 := cell_on hkp.out.below n2
      have p3 := cell_on hkp.out.below n3
      have p4 := cell_on hkp.out.below n4
      have HBa : Hid _ := BB.alloc hbb.out (.cells #[.int .i64 ns[j].up, .string ⟨ns[j].tag.toArray⟩, .string ⟨ns[j].id.toArray⟩, .slice ac ns[j].cls.length cc, .slice aa ns[j].ats.length ca] 47)
      have HKa : Hid _ := hkp.out.alloc (Nat.le_of_lt hsr) (.cells #[.int .i64 ns[j].up, .string ⟨ns[j].tag.toArray⟩, .string ⟨ns[j].id.toArray⟩, .slice ac ns[j].cls.length cc, .slice aa ns[j].ats.length ca] 47)
      have hbx : Blk (wr.alloc (.cells #[.int .i64 ns[j].up, .string ⟨ns[j].tag.toArray⟩, .string ⟨ns[j].id.toArray⟩, .slice ac ns[j].cls.length cc, .slice aa ns[j].ats.length ca] 47)) wr.heap.size (.int .i64 ns[j].up) (.string ⟨ns[j].tag.toArray⟩) (.string ⟨ns[j].id.toArray⟩) (.slice ac ns[j].cls.length cc) (.slice aa ns[j].ats.length ca) := heap_alloc_new wr _
      have HBX : Hid _ := hbx
      have dA := HD.out _ HKa.out.below
      have hsa : w1.heap.size < (wr.alloc (.cells #[.int .i64 ns[j].up, .string ⟨ns[j].tag.toArray⟩, .string ⟨ns[j].id.toArray⟩, .slice ac ns[j].cls.length cc, .slice aa ns[j].ats.length ca] 47)).heap.size := by simp; omega
      have HT : Hid (Pl.showTo ns (j + 1) = Pl.showTo ns j ++ (if j = 0 then [] else Pl.linkTo ns j (Pl.upOf ns j)) ++ Pl.showNd ns[j]) := by unfold Hid; rw [Pl.showTo, Pl.ndAt_eq ns j hlt]
      clear n0 n1 n2 n3 n4 hShx hbx
      rcases Nat.eq_zero_or_pos j with hj0 | hj0
      · subst hj0
        simp only [Nat.zero_mul, Nat.add_zero] at p0 p1 p2 p3 p4
        clear hbb hkp
        go_wp2_with fail
        generalize wr.alloc (.cells #[.int .i64 ns[0].up, .string ⟨ns[0].tag.toArray⟩, .string ⟨ns[0].id.toArray⟩, .slice ac ns[0].cls.length cc, .slice aa ns[0].ats.length ca] 47) = wa at *
        refine (showNode_any w1.heap.size w1.heap.size _ ns[0] (Pl.showTo ns 0) w1 _ HNV.out HShx.out (Nat.le_refl _) HKa.out.below (by omega) (Nat.le_of_lt hsa) hsa HBa.out).mono ?_
        rintro e w4 ⟨rfl, hb4, hk4⟩
        have HB4 : Hid (BB w1.heap.size w1.heap.size (Pl.showTo ns (0 + 1)) w4) := by unfold Hid; rw [HT.out, if_pos (by trivial), List.append_nil]; exact hb4
        have HK4 : Hid _ := HKa.out.trans hk4
        have hs4 : w1.heap.size < w4.heap.size := Nat.lt_of_lt_of_le hsa hk4.below.size
        clear hb4 hk4 p0 p1 p2 p3 p4 dr dA HBX
        go_wp2
        exact ⟨⟨1, hlt, by go_num, HB4, HK4, hs4⟩, by simp [intOf]; omega⟩
      · have hji : (0 : Int) < (j : Int) := by omega
        have hne : j ≠ 0 := by omega
        clear hbb hkp
        go_wp2_with fail
        generalize hwa : wr.alloc (.cells #[.int .i64 ns[j].up, .string ⟨ns[j].tag.toArray⟩, .string ⟨ns[j].id.toArray⟩, .slice ac ns[j].cls.length cc, .slice aa ns[j].ats.length ca] 47) = wa at *
        refine (showLink_any w1.heap.size w1.heap.size bn on j cap ns (Pl.showTo ns j) _ hj0 hlt hl64 hcap hcm HG.out (by omega) hbn (Nat.le_of_lt hsa) HBa.out (fun i hi => (HC.out i hi).on HKa.out.below)).mono ?_
        rintro e w3 ⟨rfl, hb3, hk3⟩
        have HB3 : Hid _ := hb3
        have HK3 : Hid _ := HKa.out.trans hk3
        have hs3 : w1.heap.size < w3.heap.size := Nat.lt_of_lt_of_le hsa hk3.below.size
        have hbx3 : Blk w3 wr.heap.size (.int .i64 ns[j].up) (.string ⟨ns[j].tag.toArray⟩) (.string ⟨ns[j].id.toArray⟩) (.slice ac ns[j].cls.length cc) (.slice aa ns[j].ats.length ca) := hk3.blk (Nat.ne_of_gt hsr) (by decide) HBX.out
        obtain ⟨⟨x0, x1, x2, x3, x4⟩, _⟩ := hbx3.facts
        have hll : (Pl.showTo ns j ++ Pl.linkTo ns j (Pl.upOf ns j)).length ≤ 900000 := by
          have h2 : (Pl.linkTo ns j (Pl.upOf ns j)).length ≤ 65 := by
            unfold Pl.linkTo
            split
            · simp
            · have := Pl.cl_len ns (Pl.upOf ns j) (j - 1)
              simp only [List.length_append, List.length_cons, List.length_nil]
              omega
          rw [List.length_append]; omega
        clear hb3 hk3 p0 p1 p2 p3 p4 dr dA HBX hwa hbx3
        go_wp2_with fail
        refine (showNode_any w1.heap.size w1.heap.size _ ns[j] _ w1 _ HNV.out HShx.out (Nat.le_refl _) HK3.out.below hll (Nat.le_of_lt hs3) hs3 HB3.out).mono ?_
        rintro e w4 ⟨rfl, hb4, hk4⟩
        have HB4 : Hid (BB w1.heap.size w1.heap.size (Pl.showTo ns (j + 1)) w4) := by unfold Hid; rw [HT.out, if_neg hne]; exact hb4
        have HK4 : Hid _ := HK3.out.trans hk4
        have hs4 : w1.heap.size < w4.heap.size := Nat.lt_of_lt_of_le hs3 hk4.below.size
        clear hb4 hk4 x0 x1 x2 x3 x4
        go_wp2
        exact ⟨⟨j + 1, hlt, by go_num, HB4, HK4, hs4⟩, by simp [intOf]; omega⟩
    · have hjl : j = ns.length := by omega
      subst hjl
      have HCl : Hid (Pl.Clo ns (-1) (ns.length - 1)) := by
        refine ⟨by omega, by omega, fun m _ h5 => ?_⟩
        rcases Nat.eq_zero_or_pos m with h | h
        · rw [(HG.out m (by omega)).1 h]; omega
        · have := (HG.out m (by omega)).2 h; omega
      go_wp2_with fail
      refine (closeUp_any w1.heap.size w1.heap.size bn on ns.length cap ns (-1) (Pl.showTo ns ns.length) wr (by omega) (Nat.le_refl _) hl64 HCl.out (by omega) hbn (Nat.le_of_lt hsr) hbb.out (fun i hi => (HC.out i hi).on hkp.out.below)).mono ?_
      rintro e w5 ⟨rfl, hb5, hk5⟩
      have HB5 : Hid _ := hb5
      have HK5 : Hid _ := hkp.out.trans hk5
      have hs5 : w1.heap.size ≤ w5.heap.size := Nat.le_trans (Nat.le_of_lt hsr) hk5.below.size
      clear hb5 hk5 dr
      go_wp2_with fail
      refine (Try.Builder_String_any_k w1.heap.size w1.heap.size _ _ HB5.out hs5).mono ?_
      rintro e w6 ⟨rfl, _, hb6, _⟩
      have HB6 : Hid (Below w.heap.size w w6) := (hB.trans ((HK5.out.below.trans hb6).mono (by omega)))
      go_wp2
      go_ret2
      exact ⟨by rw [HP.out, HZ.out]; rfl, HB6.out⟩
end Go.Proofs.Ythlpcmgeelkncaa
