/-
  plain.Size, plain.Once.
-/
import Derived.Test.YtephhllfodlfbaaDoorPnR
import Derived.Test.YtephhllfodlfbaaDoorPnZ
import Derived.Test.YtephhllfodlfbaaDoorChQ
namespace Go.Proofs.YtephhllfodlfbaaDoor
open Go.RowKit

/-- a right list is one that is made plainer -/
theorem okL_of {α : Type} {W : List α → Prop} {f g : List α → Bool} (h0 : W []) (hfg : ∀ l, f l = true → g l = true → W l) {l : List (Pl.Pth α)} (hf : Pl.fitUp f l = true) (hg : Pl.evUp (Pl.pForm Pl.isName Pl.isValue) g l = true) : Pl.okL W l := by
  rw [fit_eq, Bool.and_eq_true, List.all_eq_true, decide_eq_true_eq] at hf
  unfold Pl.evUp at hg
  rw [List.all_eq_true] at hg
  refine ⟨hf.1.2, fun p hp => ?_⟩
  have h1 := hf.2 p hp
  unfold fitP at h1
  rw [Bool.and_eq_true, List.all_eq_true, decide_eq_true_eq] at h1
  have h2 := hg p hp
  rw [Bool.and_eq_true] at h2
  obtain ⟨h3, h4⟩ := h2
  unfold Pl.pForm at h3
  rw [Bool.and_eq_true, List.all_eq_true, List.all_eq_true] at h3
  unfold Pl.inner at h4
  rw [List.all_eq_true] at h4
  refine ⟨h1.1.1, h1.1.2.1, by have := h1.1.2.2; have := h1.1.2.1; omega, fun s hs => ?_⟩
  have h5 := h1.2 s hs
  unfold fitS at h5
  rw [Bool.and_eq_true, List.all_eq_true, decide_eq_true_eq] at h5
  refine ⟨h5.1, fun t ht => ?_⟩
  have hmem : t ∈ p.tests := by unfold Pl.Pth.tests; exact List.mem_flatMap.2 ⟨s, hs, ht⟩
  have h6 := h5.2 t ht
  have h7 := h4 t hmem
  have h8 := h3.2 t hmem
  unfold fitT at h6
  unfold Pl.tForm at h8
  rw [Bool.and_eq_true] at h8
  cases hk : Pl.kList t.kind with
  | true =>
    rw [hk] at h6 h7
    exact hfg _ (by simpa using h6) (by simpa using h7)
  | false =>
    have h9 := h8.2
    rw [hk, Bool.false_or, decide_eq_true_eq] at h9
    rw [List.length_eq_zero_iff.1 h9]
    exact h0
theorem W3_of {l : List Pl.D3} (h : chkList l = 0) : Pl.W3 l := by
  unfold chkList Pl.pick4 at h
  have hf : Pl.fit3 l = true := by
    cases hq : Pl.fit3 l with
    | true => rfl
    | false => rw [hq] at h; simp at h
  have hg : Pl.form3 l = true := by
    cases hq : Pl.form3 l with
    | true => rfl
    | false =>
      rw [hq, hf] at h
      revert h
      cases Pl.kind3 l <;> simp
  have n1 : Pl.L1.W [] := ⟨by simp, fun p hp => by simp at hp⟩
  have n2 : Pl.L2.W [] := ⟨by simp, fun p hp => by simp at hp⟩
  have w1 : ∀ l : List Pl.D1, Pl.fitUp (fun _ => false) l = true → Pl.evUp (Pl.pForm Pl.isName Pl.isValue) (fun _ => true) l = true → Pl.L1.W l := fun l h1 h2 => okL_of (W := Pl.L0.W) rfl (fun _ h _ => by cases h) h1 h2
  have w2 : ∀ l : List Pl.D2, Pl.fitUp (Pl.fitUp fun _ => false) l = true → Pl.evUp (Pl.pForm Pl.isName Pl.isValue) (Pl.evUp (Pl.pForm Pl.isName Pl.isValue) fun _ => true) l = true → Pl.L2.W l := fun l h1 h2 => okL_of (W := Pl.L1.W) n1 w1 h1 h2
  exact okL_of (W := Pl.L2.W) n2 w2 hf hg
theorem size_z (w : World) (v : Value) (l : List Unit) (h : ZAt w v l) (hw : Pl.L0.W l) : Calls Tryd.prog 14 #[v] w fun e w' => e = .returned (.int .i64 (Pl.L0.z l)) ∧ Below w.heap.size w w' := by
  have hw : l = [] := hw
  subst hw
  obtain ⟨a, c, rfl, h1, h2⟩ := h
  exact size_up isL_z (fun _ => False) (fun _ => 0) 0 (by omega) (fun _ h => h.elim) (fun _ _ _ _ h => h.elim) w (.slice a 0 c) [] ⟨a, c, rfl, ⟨h1, h2⟩, Or.inl rfl⟩ ⟨by simp, fun p hp => by simp at hp⟩
theorem size_1 (w : World) (v : Value) (l : List Pl.D1) (h : A1 w v l) (hw : Pl.L1.W l) : Calls Tryd.prog 14 #[v] w fun e w' => e = .returned (.int .i64 (Pl.L1.z l)) ∧ Below w.heap.size w w' :=
  size_up isL_z Pl.L0.W Pl.L0.z 0 (by omega) Pl.z_le0 size_z w v l h hw
theorem size_2 (w : World) (v : Value) (l : List Pl.D2) (h : A2 w v l) (hw : Pl.L2.W l) : Calls Tryd.prog 14 #[v] w fun e w' => e = .returned (.int .i64 (Pl.L2.z l)) ∧ Below w.heap.size w w' :=
  size_up isL_1 Pl.L1.W Pl.L1.z 175 (by omega) Pl.z_le1 size_1 w v l h hw
theorem size_3 (w : World) (v : Value) (l : List Pl.D3) (h : A3 w v l) (hw : Pl.L3.W l) : Calls Tryd.prog 14 #[v] w fun e w' => e = .returned (.int .i64 (Pl.L3.z l)) ∧ Below w.heap.size w w' :=
  size_up isL_2 Pl.L2.W Pl.L2.z 26425 (by omega) Pl.z_le2 size_2 w v l h hw
def sizeOfL (l : List Pl.D3) : Nat := if chkList l = 0 then Pl.size3 l else 0
def onceOfL (l : List Pl.D3) : List Pl.D3 := if chkList l = 0 then Pl.once3 l else []
def plainOfL (l : List Pl.D3) : List Pl.D3 := if chkList l = 0 then Pl.plain3 l else []
set_option maxRecDepth 100000 in
set_option maxHeartbeats 4000000 in
theorem plainSize_any (w : World) (v : Value) (l : List Pl.D3) (h : A3 w v l) (hF : FormsAt w) : Calls Tryd.prog 4 #[v] w fun e w' => e = .returned (.tuple #[.int .i64 (sizeOfL l), .int .i64 (chkList l)]) ∧ Below w.heap.size w w' := by
  have hC := pathCheck_any w v l h hF
  have HV : Hid (A3 w v l) := h
  obtain ⟨a, c, rfl, -⟩ := isL_3.form h
  by_cases h0 : chkList l = 0
  · have HSZ : Hid (∀ w', Below w.heap.size w w' → Calls Tryd.prog 14 #[.slice a l.length c] w' fun e w2 => e = .returned (.int .i64 (Pl.L3.z l)) ∧ Below w'.heap.size w' w2) := fun w' hb => size_3 w' _ l (isL_3.on HV.out hb) (W3_of h0)
    have hs : sizeOfL l = Pl.L3.z l := by unfold sizeOfL; rw [if_pos h0]; rfl
    rw [hs, h0]
    rw [h0] at hC
    have HC : Hid (Calls Tryd.prog 13 _ _ _) := hC
    generalize Pl.L3.z l = z at *
    clear h hF hC h0 hs HV
    go_enter Tryd.func4, Tryd.ntmps4
    go_wp2_with fail
    refine HC.out.mono ?_
    rintro e w1 ⟨rfl, hb1⟩
    have HB1 : Hid (Below w.heap.size w w1) := hb1
    have HC2 : Hid (Calls Tryd.prog 14 _ _ _) := HSZ.out w1 hb1
    clear hb1
    go_wp2_with fail
    refine HC2.out.mono ?_
    rintro e w2 ⟨rfl, hb2⟩
    have HB2 : Hid (Below w.heap.size w w2) := below_trans HB1.out hb2
    clear hb2
    go_wp2
    go_ret2
    exact ⟨rfl, HB2.out⟩
  · have hs : sizeOfL l = 0 := by unfold sizeOfL; rw [if_neg h0]
    rw [hs]
    have HC : Hid (Calls Tryd.prog 13 _ _ _) := hC
    have hne : (chkList l == 0) = false := by simpa using h0
    generalize chkList l = er at *
    clear h hF hC h0 hs HV
    go_enter Tryd.func4, Tryd.ntmps4
    go_wp2_with fail
    refine HC.out.mono ?_
    rintro e w1 ⟨rfl, hb1⟩
    have HB1 : Hid (Below w.heap.size w w1) := hb1
    clear hb1
    go_wp2
    go_ret2
    exact ⟨rfl, HB1.out⟩
set_option maxRecDepth 100000 in
set_option maxHeartbeats 4000000 in
theorem plainOnce_any (w : World) (v : Value) (l : List Pl.D3) (h : A3 w v l) (hF : FormsAt w) : Calls Tryd.prog 5 #[v] w fun e w' => ∃ a c, e = .returned (.tuple #[.slice a (onceOfL l).length c, .int .i64 (chkList l)]) ∧ A3 (mask (frm w.heap.size) w') (.slice a (onceOfL l).length c) (onceOfL l) ∧ Below w.heap.size w w' := by
  have hC := pathCheck_any w v l h hF
  have HV : Hid (A3 w v l) := h
  obtain ⟨a, c, rfl, -⟩ := isL_3.form h
  by_cases h0 : chkList l = 0
  · have HSZ : Hid (∀ w', Below w.heap.size w w' → Calls Tryd.prog 15 #[.slice a l.length c] w' fun e w2 => ∃ a c, e = .returned (.slice a (Pl.L3.f l).length c) ∧ A3 (mask (frm w'.heap.size) w2) (.slice a (Pl.L3.f l).length c) (Pl.L3.f l) ∧ Below w'.heap.size w' w2) := fun w' hb => plC_3 w' _ l (isL_3.on HV.out hb) (W3_of h0)
    have hs : onceOfL l = Pl.L3.f l := by unfold onceOfL; rw [if_pos h0]; rfl
    rw [hs, h0]
    rw [h0] at hC
    have HC : Hid (Calls Tryd.prog 13 _ _ _) := hC
    generalize Pl.L3.f l = m at *
    clear h hF hC h0 hs HV
    go_enter Tryd.func5, Tryd.ntmps5
    go_wp2_with fail
    refine HC.out.mono ?_
    rintro e w1 ⟨rfl, hb1⟩
    have HB1 : Hid (Below w.heap.size w w1) := hb1
    have HC2 : Hid (Calls Tryd.prog 15 _ _ _) := HSZ.out w1 hb1
    clear hb1
    go_wp2_with fail
    refine HC2.out.mono ?_
    rintro e w2 ⟨a2, c2, rfl, hr2, hb2⟩
    have HB2 : Hid (Below w.heap.size w w2) := below_trans HB1.out hb2
    have HR2 : Hid (A3 (mask (frm w.heap.size) w2) (.slice a2 m.length c2) m) := (isSub_up (isSub_up (isSub_up isSub_z))).sub hr2 (incl_mask fun j o x hj hx => ⟨by have := HB1.out.size; simp only [frm, decide_eq_true_eq] at hj ⊢; omega, hx⟩)
    clear hb2 hr2
    go_wp2
    go_ret2
    exact ⟨a2, c2, rfl, HR2.out, HB2.out⟩
  · have hs : onceOfL l = [] := by unfold onceOfL; rw [if_neg h0]
    rw [hs]
    have HC : Hid (Calls Tryd.prog 13 _ _ _) := hC
    have hne : (chkList l == 0) = false := by simpa using h0
    generalize chkList l = er at *
    clear h hF hC h0 hs HV
    go_enter Tryd.func5, Tryd.ntmps5
    go_wp2_with fail
    refine HC.out.mono ?_
    rintro e w1 ⟨rfl, hb1⟩
    have HB1 : Hid (Below w.heap.size w w1) := hb1
    clear hb1
    go_wp2
    go_ret2
    exact ⟨none, 0, rfl, isL_3.nil _, HB1.out⟩
end Go.Proofs.YtephhllfodlfbaaDoor
