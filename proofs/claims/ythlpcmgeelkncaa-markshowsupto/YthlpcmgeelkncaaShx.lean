/-
  Show's pieces: an element, and what stands ahead of it.
-/
import Derived.Test.YthlpcmgeelkncaaShw
import Derived.Deep.RegionLaw
namespace Go.Proofs.Ythlpcmgeelkncaa
open Go.RowKit

theorem clo_of {ns : List Pl.Nd} (hg : Pl.GoodTo ns ns.length) {n : Nat} (hn : n < ns.length) (hp : 0 < n) (hne : Pl.upOf ns n ≠ (n : Int) - 1) : Pl.Clo ns (Pl.upOf ns n) (n - 1) := by
  obtain ⟨h1, h2, h3⟩ := (hg n hn).2 hp
  refine ⟨by omega, by omega, fun m h4 h5 => ⟨h3 m h4 (by omega), ?_⟩⟩
  rcases Nat.eq_zero_or_pos m with h | h
  · rw [(hg m (by omega)).1 h]; omega
  · exact ((hg m (by omega)).2 h).2.1
set_option maxRecDepth 100000 in
set_option maxHeartbeats 1000000 in
theorem showLink_any (B b bn on n cap : Nat) (ns : List Pl.Nd) (l : List UInt8) (w : World) (hp : 0 < n) (hn : n < ns.length) (h64 : ns.length ≤ 64) (hcap : ns.length ≤ cap) (hcm : cap ≤ maxLen) (hg : Pl.GoodTo ns ns.length) (hl : l.length ≤ 900000) (hbn : bn < B) (hBw : B ≤ w.heap.size) (hb : BB B b l w)
    (hc : ∀ i (h : i < ns.length), NdAt w bn (on + i * 5) ns[i]) :
    Calls Try.prog 58 #[.pointer (some ⟨b, 0, none⟩), .slice (some ⟨bn, on, none⟩) ns.length cap, .int .i64 n] w fun e w' => e = .returned (.tuple #[]) ∧ BB B b (l ++ Pl.linkTo ns n (Pl.upOf ns n)) w' ∧ Keep B b w w' := by
  have HB : Hid (BB B b l w) := hb
  have HC : Hid _ := hc
  have q := up_cell hc n hn
  unfold maxLen at hcm
  cases hx : (Pl.upOf ns n == (n : Int) - 1) with
  | true =>
    have HE : Hid (Pl.linkTo ns n (Pl.upOf ns n) = [40]) := by unfold Hid Pl.linkTo; rw [if_pos (by simpa using hx)]
    clear hb hc hg
    go_enter Try.func58, Try.ntmps58
    go_wp2_with fail
    refine (write_any B b l ⟨#[40]⟩ _ HB.out (by show l.length + 1 ≤ _; omega) hBw).mono ?_
    rintro e w2 ⟨rfl, hb2, hk2⟩
    have HB2 : Hid (BB B b (l ++ [40]) w2) := hb2
    clear hb2
    go_wp2
    exact bodyPost_ret (v := .tuple #[]) (by simp [results, Try.results58, go_sem]) rfl ⟨rfl, by rw [HE.out]; exact HB2.out, hk2⟩
  | false =>
    have hne : Pl.upOf ns n ≠ (n : Int) - 1 := by simpa using hx
    have HE : Hid (Pl.linkTo ns n (Pl.upOf ns n) = Pl.cl ns (Pl.upOf ns n) (n - 1) ++ [32]) := by unfold Hid Pl.linkTo; rw [if_neg hne]
    have HCl : Hid _ := clo_of hg hn hp hne
    have hcl := Pl.cl_len ns (Pl.upOf ns n) (n - 1)
    have hnc : n ≤ cap := by omega
    have qd : w.drew.cell? ⟨bn, on + n * 5, none⟩ = some (.int .i64 (Pl.upOf ns n)) := q
    clear hb hc hg hne
    go_enter Try.func58, Try.ntmps58
    go_wp2_with fail
    go_region_law (go_simp; go_at_call 60; refine (closeUp_any B b bn on n cap ns (Pl.upOf ns n) l w.drew hp (by omega) h64 HCl.out (by omega) hbn hBw (BB.drew HB.out) (fun i hi => HC.out i hi)).mono ?_; rintro e w2 ⟨rfl, hb2, hk2⟩)
    have HB2 : Hid _ := hb2
    have hB2 : B ≤ w2.heap.size := Nat.le_trans hBw hk2.below.size
    clear hb2 q qd hx
    go_wp2_with fail
    refine (write_any B b (l ++ Pl.cl ns (Pl.upOf ns n) (n - 1)) ⟨#[32]⟩ _ HB2.out (by show (l ++ Pl.cl ns (Pl.upOf ns n) (n - 1)).length + 1 ≤ _; rw [List.length_append]; omega) hB2).mono ?_
    rintro e w3 ⟨rfl, hb3, hk3⟩
    have HB3 : Hid (BB B b ((l ++ Pl.cl ns (Pl.upOf ns n) (n - 1)) ++ [32]) w3) := hb3
    have HK3 : Hid (Keep B b w w3) := ((Keep.refl B b w).drew.trans hk2).trans hk3
    clear hb3
    go_wp2
    go_end0
    exact ⟨rfl, by rw [HE.out, ← List.append_assoc]; exact HB3.out, HK3.out⟩
/-- an element whose texts are short -/
def Short (x : Pl.Nd) : Prop := x.tag.length ≤ 12 ∧ x.id.length ≤ 12 ∧ x.cls.length ≤ 6 ∧ (∀ i (h : i < x.cls.length), x.cls[i].length ≤ 12) ∧ x.ats.length ≤ 4 ∧ ∀ i (h : i < x.ats.length), x.ats[i].1.length ≤ 12 ∧ x.ats[i].2.length ≤ 16
theorem low_cell {w0 wr : World} {B : Nat} {p : Addr} {v : Value} (h0 : w0.heap.size ≤ B) (hb : Below B w0 wr) (h : w0.cell? p = some v) : wr.cell? p = some v :=
  (hb.cell (Nat.lt_of_lt_of_le (cell_lt h) h0)).trans h
theorem cat_list (a : List UInt8) (c : List UInt8) : ((⟨a.toArray⟩ : ByteArray) ++ ⟨c.toArray⟩).data.toList = a ++ c := by simp
theorem cat_size (a b : ByteArray) : (a ++ b).size = a.size + b.size := by simp
theorem cat_five (n v : List UInt8) : ((((⟨#[91]⟩ : ByteArray) ++ ⟨n.toArray⟩) ++ ⟨#[61, 34]⟩) ++ ⟨v.toArray⟩ ++ ⟨#[34, 93]⟩).data.toList = 91 :: (n ++ [61, 34] ++ v ++ [34, 93]) := by simp
theorem cat_five_size (n v : List UInt8) : ((((⟨#[91]⟩ : ByteArray) ++ ⟨n.toArray⟩) ++ ⟨#[61, 34]⟩) ++ ⟨v.toArray⟩ ++ ⟨#[34, 93]⟩).size = n.length + v.length + 5 := by
  rw [cat_size, cat_size, cat_size, cat_size]
  show 1 + n.length + 2 + v.length + 2 = _
  omega
theorem flat_len {α : Type} (f : α → List UInt8) (m : Nat) : ∀ (l : List α), (∀ i (h : i < l.length), (f l[i]).length ≤ m) → (l.flatMap f).length ≤ l.length * m := by
  intro l
  induction l with
  | nil => intro _; simp
  | cons a r ih =>
    intro h
    have h1 := h 0 (by simp)
    have h2 := ih (fun i hi => h (i + 1) (by simpa using hi))
    simp only [List.flatMap_cons, List.length_append, List.length_cons]
    simp only [List.getElem_cons_zero] at h1
    rw [Nat.add_mul]
    omega
theorem flat_snoc {α : Type} (f : α → List UInt8) (l : List α) (k : Nat) (h : k < l.length) : (l.take (k + 1)).flatMap f = (l.take k).flatMap f ++ f l[k] := by
  rw [List.take_succ_eq_append_getElem h, List.flatMap_append]
  simp
set_option maxRecDepth 100000 in
set_option maxHeartbeats 2000000 in
theorem showNode_any (B b : Nat) (v : Value) (x : Pl.Nd) (l : List UInt8) (w0 w : World) (hv : NdV w0 v x) (hs : Short x) (h0 : w0.heap.size ≤ B) (hW : Below B w0 w) (hl : l.length ≤ 900000) (hBw : B ≤ w.heap.size) (hbw : b < w.heap.size) (hb : BB B b l w) :
    Calls Try.prog 59 #[.pointer (some ⟨b, 0, none⟩), v] w fun e w' => e = .returned (.tuple #[]) ∧ BB B b (l ++ Pl.showNd x) w' ∧ Keep B b w w' := by
  obtain ⟨vc, va, rfl, hvc, hva⟩ := hv
  obtain ⟨ac, cc, rfl, hcc⟩ := hvc
  obtain ⟨aa, ca, rfl, hca⟩ := hva
  obtain ⟨s1, s2, s3, s4, s5, s6⟩ := hs
  have HCC : Hid _ := hcc
  have HCA : Hid _ := hca
  have HS4 : Hid _ := s4
  have HS6 : Hid _ := s6
  have hbx : (w.alloc (.cells #[.int .i64 x.up, .string ⟨x.tag.toArray⟩, .string ⟨x.id.toArray⟩, .slice ac x.cls.length cc, .slice aa x.ats.length ca] 47)).heap[w.heap.size]? = some (.cells #[.int .i64 x.up, .string ⟨x.tag.toArray⟩, .string ⟨x.id.toArray⟩, .slice ac x.cls.length cc, .slice aa x.ats.length ca] 47) := heap_alloc_new w _
  have HBx : Hid _ := hbx
  have HB : Hid _ := hb.alloc (.cells #[.int .i64 x.up, .string ⟨x.tag.toArray⟩, .string ⟨x.id.toArray⟩, .slice ac x.cls.length cc, .slice aa x.ats.length ca] 47)
  have HK : Hid _ := (Keep.refl B b w).alloc hBw (.cells #[.int .i64 x.up, .string ⟨x.tag.toArray⟩, .string ⟨x.id.toArray⟩, .slice ac x.cls.length cc, .slice aa x.ats.length ca] 47)
  clear hcc hca s4 s6 hbx hb
  go_enter Try.func59, Try.ntmps59
  go_wp2_with fail
  generalize w.alloc (.cells #[.int .i64 x.up, .string ⟨x.tag.toArray⟩, .string ⟨x.id.toArray⟩, .slice ac x.cls.length cc, .slice aa x.ats.length ca] 47) = w1 at *
  have hB1 : B ≤ w1.heap.size := Nat.le_trans hBw HK.out.below.size
  refine (write_any B b l ⟨x.tag.toArray⟩ _ HB.out (by show l.length + x.tag.length ≤ _; omega) hB1).mono ?_
  rintro e w2 ⟨rfl, hb2, hk2⟩
  have HB2 : Hid (BB B b (l ++ x.tag) w2) := hb2
  have HK2 : Hid _ := HK.out.trans hk2
  have HBx2 : Hid _ := hk2.blk (Nat.ne_of_gt hbw) (by decide) HBx.out
  have hB2 : B ≤ w2.heap.size := Nat.le_trans hB1 hk2.below.size
  clear hb2 hk2 hB1 HBx HB HK
  have hcase : x.id.isEmpty = true ∨ x.id.isEmpty = false := by cases x.id.isEmpty <;> simp
  obtain ⟨⟨_, _, x2, x3, x4⟩, _⟩ := (show Blk w2 w.heap.size _ _ _ _ _ from HBx2.out).facts
  rcases hcase with hi | hi
  case' inl =>
    have hT : Pl.showNd x = (x.tag ++ []) ++ x.cls.flatMap (fun c => 46 :: c) ++ x.ats.flatMap (fun a => 91 :: (a.1 ++ [61, 34] ++ a.2 ++ [34, 93])) := by
      unfold Pl.showNd
      rw [if_pos (List.isEmpty_iff.1 hi)]
    have HB3 : Hid (BB B b (l ++ (x.tag ++ [])) w2) := by
      unfold Hid; rw [List.append_nil]; exact HB2.out
    have hlen : (x.tag ++ []).length ≤ 100 := by simp; omega
    generalize (x.tag ++ [] : List UInt8) = T at *
    have HT : Hid _ := hT
    clear hT HB2
    have HK3 := HK2
    have HBx3 := HBx2
    have hB3 := hB2
    clear HK2 HBx2 hB2
    generalize w2 = w3 at *
    go_wp2_with fail
  case' inr =>
    have hT : Pl.showNd x = (x.tag ++ 35 :: x.id) ++ x.cls.flatMap (fun c => 46 :: c) ++ x.ats.flatMap (fun a => 91 :: (a.1 ++ [61, 34] ++ a.2 ++ [34, 93])) := by
      unfold Pl.showNd
      rw [if_neg (by intro e; rw [e] at hi; simp at hi)]
    have hlen : (x.tag ++ 35 :: x.id).length ≤ 100 := by simp; omega
    have HL : Hid (l ++ (x.tag ++ 35 :: x.id) = (l ++ x.tag) ++ ([35] ++ x.id)) := by unfold Hid; simp
    generalize (x.tag ++ 35 :: x.id : List UInt8) = T at *
    have HT : Hid _ := hT
    clear hT
    go_wp2_with fail
    refine (write_any B b (l ++ x.tag) _ _ HB2.out (by rw [cat_size, List.length_append]; show l.length + x.tag.length + (1 + x.id.length) ≤ _; omega) hB2).mono ?_
    rintro e w3 ⟨rfl, hb3, hk3⟩
    have HB3 : Hid (BB B b (l ++ T) w3) := by unfold Hid; rw [HL.out, ← cat_list]; exact hb3
    have HK3 : Hid _ := HK2.out.trans hk3
    have HBx3 : Hid _ := hk3.blk (Nat.ne_of_gt hbw) (by decide) HBx2.out
    have hB3 : B ≤ w3.heap.size := Nat.le_trans hB2 hk3.below.size
    clear hb3 hk3 HB2 HK2 HBx2 hB2 x2 x3 x4 HL
    obtain ⟨⟨_, _, _, x3, x4⟩, _⟩ := (show Blk w3 w.heap.size _ _ _ _ _ from HBx3.out).facts
    go_wp2_with fail
  all_goals
    go_loopw [23] (fun i wr => ∃ j : Nat, j ≤ x.cls.length ∧ i = .int .i64 j ∧ Hid (BB B b (l ++ (T ++ (x.cls.take j).flatMap (fun c => 46 :: c))) wr) ∧ Hid (Keep B b w wr) ∧ Hid (wr.heap[w.heap.size]? = some (.cells #[.int .i64 x.up, .string ⟨x.tag.toArray⟩, .string ⟨x.id.toArray⟩, .slice ac x.cls.length cc, .slice aa x.ats.length ca] 47))) (fun i _ => x.cls.length - (intOf i).toNat)
    case atStart => exact ⟨0, Nat.zero_le _, rfl, by simpa using HB3, HK3, HBx3⟩
    case round =>
      obtain ⟨j, hj, rfl, hbb, hkp, hbx⟩ := hrel
      have hfl := flat_len (fun c : List UInt8 => 46 :: c) 13 (x.cls.take j) (fun i hi => by
        have := HS4.out i (by simp at hi; omega)
        simp only [List.getElem_take, List.length_cons]; omega)
      have hfl2 : ((x.cls.take j).flatMap (fun c => 46 :: c)).length ≤ 78 := by
        have : (x.cls.take j).length ≤ 6 := by simp; omega
        omega
      have hBr : B ≤ wr.heap.size := Nat.le_trans hBw hkp.out.below.size
      clear x3 x4 hfl
      by_cases hlt : j < x.cls.length
      · obtain ⟨bc, oc, rfl, hcell⟩ := HCC.out.resolve_left (by intro h; rw [h] at hlt; simp at hlt)
        have q := low_cell h0 (hW.trans hkp.out.below) (hcell j hlt)
        have hcl := HS4.out j hlt
        have HE : Hid (l ++ (T ++ (x.cls.take (j + 1)).flatMap (fun c => 46 :: c)) = (l ++ (T ++ (x.cls.take j).flatMap (fun c => 46 :: c))) ++ ([46] ++ x.cls[j])) := by
          unfold Hid
          rw [flat_snoc _ _ _ hlt]
          simp
        clear hcell
        go_wp2_with fail
        refine (write_any B b _ _ _ hbb.out (by rw [cat_size, List.length_append, List.length_append]; show l.length + (T.length + _) + (1 + x.cls[j].length) ≤ _; omega) hBr).mono ?_
        rintro e w4 ⟨rfl, hb4, hk4⟩
        have HB4 : Hid (BB B b (l ++ (T ++ (x.cls.take (j + 1)).flatMap (fun c => 46 :: c))) w4) := by unfold Hid; rw [HE.out, ← cat_list]; exact hb4
        have HK4 : Hid _ := hkp.out.trans hk4
        have HX4 : Hid _ := hk4.blk (Nat.ne_of_gt hbw) (by decide) hbx.out
        clear hb4 hk4 q HE
        go_wp2
        exact ⟨⟨j + 1, hlt, by go_num, HB4, HK4, HX4⟩, by simp [intOf]; omega⟩
      · have hjl : x.cls.take j = x.cls := List.take_of_length_le (by omega)
        rw [hjl] at hfl2
        have HB5 : Hid (BB B b (l ++ (T ++ x.cls.flatMap (fun c => 46 :: c))) wr) := by unfold Hid; rw [← hjl]; exact hbb.out
        have hT2 : (T ++ x.cls.flatMap (fun c => 46 :: c)).length ≤ 200 := by rw [List.length_append]; omega
        generalize T ++ x.cls.flatMap (fun c => 46 :: c) = T2 at *
        obtain ⟨⟨_, _, _, x3, x4⟩, _⟩ := (show Blk wr w.heap.size _ _ _ _ _ from hbx.out).facts
        clear hbb hjl hfl2
        go_wp2_with fail
        go_loopw [35] (fun i wr => ∃ j : Nat, j ≤ x.ats.length ∧ i = .int .i64 j ∧ Hid (BB B b (l ++ (T2 ++ (x.ats.take j).flatMap (fun a => 91 :: (a.1 ++ [61, 34] ++ a.2 ++ [34, 93])))) wr) ∧ Hid (Keep B b w wr)) (fun i _ => x.ats.length - (intOf i).toNat)
        case atStart => exact ⟨0, Nat.zero_le _, rfl, by simpa using HB5, hkp⟩
        case round =>
          obtain ⟨j, hj, rfl, hbb, hkq⟩ := hrel
          have hfl := flat_len (fun a : List UInt8 × List UInt8 => 91 :: (a.1 ++ [61, 34] ++ a.2 ++ [34, 93])) 33 (x.ats.take j) (fun i hi => by
            have := HS6.out i (by simp at hi; omega)
            simp only [List.getElem_take, List.length_cons, List.length_append, List.length_nil]; omega)
          have hfl2 : ((x.ats.take j).flatMap (fun a => 91 :: (a.1 ++ [61, 34] ++ a.2 ++ [34, 93]))).length ≤ 132 := by
            have : (x.ats.take j).length ≤ 4 := by simp; omega
            omega
          have hBq : B ≤ wr.heap.size := Nat.le_trans hBw hkq.out.below.size
          clear hfl
          by_cases hlt : j < x.ats.length
          · obtain ⟨ba, oa, rfl, hcell⟩ := HCA.out.resolve_left (by intro h; rw [h] at hlt; simp at hlt)
            have q1 := low_cell h0 (hW.trans hkq.out.below) (hcell j hlt).1
            have q2 := low_cell h0 (hW.trans hkq.out.below) (hcell j hlt).2
            have hcl := HS6.out j hlt
            have HE : Hid (l ++ (T2 ++ (x.ats.take (j + 1)).flatMap (fun a => 91 :: (a.1 ++ [61, 34] ++ a.2 ++ [34, 93]))) = (l ++ (T2 ++ (x.ats.take j).flatMap (fun a => 91 :: (a.1 ++ [61, 34] ++ a.2 ++ [34, 93])))) ++ (91 :: (x.ats[j].1 ++ [61, 34] ++ x.ats[j].2 ++ [34, 93]))) := by
              unfold Hid
              rw [flat_snoc _ _ _ hlt]
              simp
            have HBa : Hid _ := BB.alloc hbb.out (.cells #[.string ⟨x.ats[j].1.toArray⟩, .string ⟨x.ats[j].2.toArray⟩] 95)
            have HKa : Hid _ := hkq.out.alloc hBq (.cells #[.string ⟨x.ats[j].1.toArray⟩, .string ⟨x.ats[j].2.toArray⟩] 95)
            clear hcell
            go_wp2_with fail
            refine (write_any B b _ _ _ HBa.out (by rw [cat_five_size, List.length_append, List.length_append]; omega) (by simp; omega)).mono ?_
            rintro e w4 ⟨rfl, hb4, hk4⟩
            have HB4 : Hid (BB B b (l ++ (T2 ++ (x.ats.take (j + 1)).flatMap (fun a => 91 :: (a.1 ++ [61, 34] ++ a.2 ++ [34, 93])))) w4) := by unfold Hid; rw [HE.out, ← cat_five]; exact hb4
            have HK4 : Hid _ := HKa.out.trans hk4
            clear hb4 hk4 q1 q2 HE HBa HKa
            go_wp2
            exact ⟨⟨j + 1, hlt, by go_num, HB4, HK4⟩, by simp [intOf]; omega⟩
          · have hjl : x.ats.take j = x.ats := List.take_of_length_le (by omega)
            have HB6 : Hid (BB B b (l ++ Pl.showNd x) wr) := by unfold Hid; rw [HT.out, ← hjl]; exact hbb.out
            clear hbb hjl hfl2
            go_wp2
            go_end0
            exact ⟨rfl, HB6.out, hkq.out⟩
end Go.Proofs.Ythlpcmgeelkncaa
