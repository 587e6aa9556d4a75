/-
  plain.Plain: again and again, till nothing changes.
-/
import Derived.Test.YtephhllfodlfbaaDoorPnT
namespace Go.Proofs.YtephhllfodlfbaaDoor
open Go.RowKit

/-- what lies there is one list and no other -/
def Uni {α : Type} (A : MemL α) : Prop := ∀ (w : World) (v : Value) (l m : List α), A w v l → A w v m → l = m
theorem uni_z : Uni ZAt := by
  rintro w v l m ⟨a, c, e, -⟩ ⟨a', c', e', -⟩
  rw [e] at e'
  injection e' with _ e2 _
  exact List.ext_getElem e2 fun _ _ _ => rfl
theorem uni_row {β : Type} {E : World → Nat → Nat → β → Prop} {k : Nat} (hE : ∀ w b o x y, E w b o x → E w b o y → x = y) (w : World) (v : Value) (l m : List β) (h : RowAt E k w v l) (h2 : RowAt E k w v m) : l = m := by
  obtain ⟨a, c, e, -, hc⟩ := h
  obtain ⟨a', c', e', -, hc'⟩ := h2
  rw [e] at e'
  injection e' with e1 e2 _
  subst e1
  rcases hc with rfl | ⟨b, o, e3, hc⟩
  · exact (List.length_eq_zero_iff.1 (by simpa using e2.symm)).symm
  rcases hc' with rfl | ⟨b', o', e4, hc'⟩
  · exact List.length_eq_zero_iff.1 (by simpa using e2)
  rw [e3] at e4
  injection e4 with e4
  injection e4 with e5 e6 _
  subst e5 e6
  exact List.ext_getElem e2 fun i h1 h2 => hE w b _ _ _ (hc i h1) (hc' i h2)
theorem str_inj {s t : List UInt8} (h : some (Value.string ⟨s.toArray⟩) = some (Value.string ⟨t.toArray⟩)) : s = t := by
  injection h with h
  injection h with h
  injection h with h
  simpa using h
theorem int_inj {s t : Int} (h : some (Value.int .i64 s) = some (Value.int .i64 t)) : s = t := by
  injection h with h
  injection h
theorem uni_up {α : Type} {A : MemL α} (hA : Uni A) : Uni (LstAt A) := fun w v l m => uni_row (fun w b o p q hp hq => by
  obtain ⟨v, u, p0, p1, p2, p3⟩ := hp
  obtain ⟨v', u', q0, q1, q2, q3⟩ := hq
  rw [p0] at q0; injection q0 with q0; subst q0
  rw [p1] at q1; injection q1 with q1; subst q1
  have e1 : p.steps = q.steps := uni_row (fun w b o s r hs hr => by
    obtain ⟨v, s0, s1, s2⟩ := hs
    obtain ⟨v', r0, r1, r2⟩ := hr
    rw [s1] at r1; injection r1 with r1; subst r1
    rw [s0] at r0
    have e0 := str_inj r0
    have e1 : s.tests = r.tests := uni_row (fun w b o t y ht hy => by
      obtain ⟨v, t0, t1, t2, t3, t4, t5, t6⟩ := ht
      obtain ⟨v', y0, y1, y2, y3, y4, y5, y6⟩ := hy
      rw [t5] at y5; injection y5 with y5; subst y5
      rw [t0] at y0; rw [t1] at y1; rw [t2] at y2; rw [t3] at y3; rw [t4] at y4
      have f0 := int_inj y0
      have f1 := str_inj y1
      have f2 := str_inj y2
      have f3 := int_inj y3
      have f4 := int_inj y4
      have f5 := hA _ _ _ _ t6 y6
      cases t; cases y
      dsimp only at f0 f1 f2 f3 f4 f5
      subst f0 f1 f2 f3 f4 f5
      rfl) _ _ _ _ s2 r2
    cases s; cases r
    dsimp only at e0 e1
    subst e0 e1
    rfl) _ _ _ _ p2 q2
  have e2 : p.links = q.links := uni_row (fun w b o s r hs hr => by
    unfold IntAt at hs hr
    rw [hs] at hr
    exact int_inj hr) _ _ _ _ p3 q3
  cases p; cases q
  dsimp only at e1 e2
  subst e1 e2
  rfl) w v l m
theorem uni_3 : Uni A3 := uni_up (uni_up (uni_up uni_z))
/-- how great the list is that lies there -/
theorem mz_there : ∃ mz : Value → World → Nat, ∀ v w l, A3 w v l → mz v w = Pl.size3 l := by
  classical
  refine ⟨fun v w => if h : ∃ l, A3 w v l then Pl.size3 h.choose else 0, fun v w l h => ?_⟩
  have hex : ∃ l, A3 w v l := ⟨l, h⟩
  show (if h : ∃ l, A3 w v l then Pl.size3 h.choose else 0) = _
  rw [dif_pos hex, uni_3 w v _ l hex.choose_spec h]
set_option maxRecDepth 100000 in
set_option maxHeartbeats 4000000 in
theorem plainPlain_any (w : World) (v : Value) (l : List Pl.D3) (h : A3 w v l) (hF : FormsAt w) : Calls Tryd.prog 6 #[v] w fun e w' => ∃ a c, e = .returned (.tuple #[.slice a (plainOfL l).length c, .int .i64 (chkList l)]) ∧ A3 (mask (frm w.heap.size) w') (.slice a (plainOfL l).length c) (plainOfL l) ∧ Below w.heap.size w w' := by
  have hC := pathCheck_any w v l h hF
  have HV : Hid (A3 w v l) := h
  obtain ⟨mz, hmz⟩ := mz_there
  have HMZ : Hid (∀ v w l, A3 w v l → mz v w = Pl.size3 l) := hmz
  clear hmz
  obtain ⟨a, c, rfl, -⟩ := isL_3.form h
  by_cases h0 : chkList l = 0
  · have hs : plainOfL l = Pl.plain3 l := by unfold plainOfL; rw [if_pos h0]
    have HW : Hid (Pl.W3 l) := W3_of h0
    rw [hs, h0]
    rw [h0] at hC
    have HC : Hid (Calls Tryd.prog 13 _ _ _) := hC
    obtain ⟨pl, hpl⟩ : ∃ q, q = Pl.plain3 l := ⟨_, rfl⟩
    rw [← hpl]
    have HPL : Hid (pl = Pl.plain3 l) := hpl
    clear h hF hC h0 hs hpl
    go_enter Tryd.func6, Tryd.ntmps6
    go_wp2_with fail
    refine HC.out.mono ?_
    rintro e w1 ⟨rfl, hb1⟩
    have HB1 : Hid (Below w.heap.size w w1) := hb1
    have HA1 : Hid (A3 w1 (.slice a l.length c) l) := isL_3.on HV.out hb1
    clear hb1 HC
    go_wp2
    go_loopw [0] (fun v wr => ∃ (l' : List Pl.D3) (a' : Option Addr) (c' : Nat), v = .slice a' l'.length c' ∧ Hid (A3 wr (.slice a' l'.length c') l') ∧ Hid (Pl.W3 l') ∧ Hid (pl = Pl.plain3 l') ∧ Hid (Below w.heap.size w wr)) (fun v wr => mz v wr)
    case atStart => exact ⟨l, a, c, rfl, HA1, HW, HPL, HB1⟩
    case round =>
      obtain ⟨l', a', c', rfl, HA, HWl, HP, HB⟩ := hrel
      have HC : Hid (Calls Tryd.prog 15 _ _ _) := plC_3 wr _ l' HA.out HWl.out
      have hmz := HMZ.out _ _ _ HA.out
      have HZ : Hid _ := hmz
      clear hmz HA1 HB1 HV HW HPL
      obtain ⟨wq, hwq⟩ : ∃ q, q = wr := ⟨_, rfl⟩
      subst hwq
      go_wp2_with fail
      refine HC.out.mono ?_
      rintro e w2 ⟨a2, c2, rfl, hr2, hb2⟩
      have hA2 : A3 w2 (.slice a2 (Pl.L3.f l').length c2) (Pl.L3.f l') := (isSub_up (isSub_up (isSub_up isSub_z))).sub hr2 (incl_real _ _)
      have HA2 : Hid (A3 w2 (.slice a2 (Pl.L3.f l').length c2) (Pl.L3.f l')) := hA2
      have HS2 : Hid (Calls Tryd.prog 16 _ _ _) := sameL_3 w2 _ _ l' (Pl.L3.f l') (isL_3.on HA.out hb2) hA2 HWl.out (Pl.once_ok HWl.out)
      have HR2 : Hid (A3 (mask (frm w.heap.size) w2) (.slice a2 (Pl.L3.f l').length c2) (Pl.L3.f l')) := (isSub_up (isSub_up (isSub_up isSub_z))).sub hr2 (incl_mask fun j o x hj hx => ⟨by have := HB.out.size; simp only [frm, decide_eq_true_eq] at hj ⊢; omega, hx⟩)
      have HB2 : Hid (Below w.heap.size w w2) := below_trans HB.out hb2
      have HW2 : Hid (Pl.W3 (Pl.L3.f l')) := Pl.once_ok HWl.out
      have HST : Hid (l' = Pl.L3.f l' → pl = Pl.L3.f l') := fun e => by rw [HP.out, Pl.plain_stays (show Pl.once3 l' = l' from e.symm)]; exact e
      have HGO : Hid (¬ l' = Pl.L3.f l' → pl = Pl.plain3 (Pl.L3.f l') ∧ Pl.size3 (Pl.L3.f l') < Pl.size3 l') := fun e => ⟨by rw [HP.out]; exact Pl.plain_goes HWl.out (fun h => e h.symm), (Pl.once_sz HWl.out).resolve_left (fun h => e h.symm)⟩
      clear hA2 hr2 hb2 HC HA HB
      generalize Pl.L3.f l' = m at *
      by_cases hem : l' = m
      · have hsm : sm l' m = true := by unfold sm; exact decide_eq_true hem
        rw [hsm] at HS2
        have hpm := HST.out hem
        clear HGO HST hem
        go_wp2_with fail
        refine HS2.out.mono ?_
        rintro e w3 ⟨rfl, hb3⟩
        have HB3 : Hid (Below w.heap.size w w3) := below_trans HB2.out hb3
        have HR3 : Hid (A3 (mask (frm w.heap.size) w3) (.slice a2 m.length c2) m) := (isSub_up (isSub_up (isSub_up isSub_z))).sub HR2.out (mask_on hb3)
        subst hpm
        clear hb3
        go_wp2
        go_ret2
        exact ⟨a2, c2, rfl, HR3.out, HB3.out⟩
      · have hsm : sm l' m = false := by unfold sm; exact decide_eq_false hem
        rw [hsm] at HS2
        obtain ⟨hp3, hlt⟩ := HGO.out hem
        have HP3 : Hid (pl = Pl.plain3 m) := hp3
        have HLT : Hid _ := hlt
        clear HGO HST hem hp3 hlt
        go_wp2_with fail
        refine HS2.out.mono ?_
        rintro e w3 ⟨rfl, hb3⟩
        have HB3 : Hid (Below w.heap.size w w3) := below_trans HB2.out hb3
        have HA3 : Hid (A3 w3 (.slice a2 m.length c2) m) := isL_3.on HA2.out hb3
        clear hb3
        go_wp2
        refine ⟨⟨m, a2, c2, rfl, HA3, HW2, HP3, HB3⟩, ?_⟩
        have h1 := HMZ.out _ _ _ HA3.out
        have h2 := HZ.out
        have h3 := HLT.out
        omega
  · have hs : plainOfL l = [] := by unfold plainOfL; rw [if_neg h0]
    rw [hs]
    have HC : Hid (Calls Tryd.prog 13 _ _ _) := hC
    have hne : (chkList l == 0) = false := by simpa using h0
    generalize chkList l = er at *
    clear h hF hC h0 hs HV HMZ
    go_enter Tryd.func6, Tryd.ntmps6
    go_wp2_with fail
    refine HC.out.mono ?_
    rintro e w1 ⟨rfl, hb1⟩
    have HB1 : Hid (Below w.heap.size w w1) := hb1
    clear hb1
    go_wp2
    go_ret2
    exact ⟨none, 0, rfl, isL_3.nil _, HB1.out⟩
end Go.Proofs.YtephhllfodlfbaaDoor
