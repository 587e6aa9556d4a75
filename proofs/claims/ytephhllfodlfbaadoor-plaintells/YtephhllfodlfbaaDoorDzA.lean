/-
  The document's own SizeOf: how many steps and tests a list has.
-/
import Derived.Test.YtephhllfodlfbaaDoorPnZ
namespace Go.Proofs.YtephhllfodlfbaaDoor
open Go.RowKit

section
variable {α : Type} {A : MemL α} (hA : IsL A) (W0 : List α → Prop) (z : List α → Nat) (Z : Nat) (hZ : Z ≤ 30000) (hz : ∀ l, W0 l → z l ≤ Z) (hS : ∀ (w : World) (v : Value) (l : List α), A w v l → W0 l → Calls Tryd.prog 8 #[v] w fun e w' => e = .returned (.int .i64 (z l)) ∧ Below w.heap.size w w')
include hA hZ hz hS
set_option maxRecDepth 100000 in
set_option maxHeartbeats 8000000 in
theorem sizeOf_up (w : World) (v : Value) (l : List (Pl.Pth α)) (hl : LstAt A w v l) (hw : Pl.okL W0 l) : Calls Tryd.prog 8 #[v] w fun e w' => e = .returned (.int .i64 (Pl.szL z l)) ∧ Below w.heap.size w w' := by
  obtain ⟨a, c, rfl, -, hcs⟩ := hl
  have HR : Hid _ := hcs
  have HW : Hid _ := hw
  have HS : Hid _ := hS
  have HZ : Hid _ := hz
  have h5 := hw.1
  clear hcs hw hS hz
  go_enter Tryd.func8, Tryd.ntmps8
  go_wp2
  go_loopw [3, 4] (fun n i wr => ∃ k : Nat, k ≤ l.length ∧ i = .int .i64 k ∧ n = .int .i64 (Pl.szL z (l.take k) : Nat) ∧ Hid (Below w.heap.size w wr)) (fun _ i _ => l.length - (intOf i).toNat)
  case atStart => exact ⟨0, Nat.zero_le _, rfl, rfl, Below.refl _ _⟩
  case round =>
    obtain ⟨k, hk, rfl, rfl, HB⟩ := hrel
    by_cases hlt : k < l.length
    · rcases HR.out with h0 | ⟨b, o, rfl, hc⟩
      · subst h0; simp at hlt
      obtain ⟨vs, vl, n0, n1, hP, hL⟩ := hc k hlt
      obtain ⟨as_, cs, rfl⟩ := hP.form
      have hokp := HW.out.2 l[k] (List.getElem_mem hlt)
      have HN : Hid _ := Pl.szL_next (z := z) hlt
      have hbk : Pl.szL z (l.take k) ≤ 5 * (5 + 5 * (6 + 6 * Z)) := Pl.szL_le HZ.out ⟨by rw [List.length_take]; omega, fun p hp => HW.out.2 p (List.mem_of_mem_take hp)⟩
      have i1 : (0 : Int) ≤ (k : Int) := by omega
      have i2 : (k : Int) < (l.length : Int) := by omega
      have HN0 : Hid (∀ W, Below w.heap.size w W → W.cell? ⟨b, o + k * 2, none⟩ = some (.slice as_ l[k].steps.length cs)) := fun W hW => cell_on hW n0
      have HP : Hid (∀ W, Below w.heap.size w W → RowAt (StpAt A) 2 W (.slice as_ l[k].steps.length cs) l[k].steps) := fun W hW => hP.map fun _ _ _ hq => hq.on hA hW
      clear hc hP hL n0 n1
      generalize l[k] = p at *
      generalize Pl.szL z (l.take k) = base at *
      have h5p := hokp.2.1
      have HOK : Hid _ := hokp.2.2.2
      clear hokp
      go_wp2
      go_loopw [3, 5] (fun n i wr => ∃ j : Nat, j ≤ p.steps.length ∧ i = .int .i64 j ∧ n = .int .i64 ((base + j + Pl.zSs z (p.steps.take j) : Nat) : Int) ∧ Hid (Below w.heap.size w wr)) (fun _ i _ => p.steps.length - (intOf i).toNat)
      case atStart => exact ⟨0, Nat.zero_le _, rfl, by simp [Pl.zSs], HB⟩
      case round =>
        obtain ⟨j, hj, rfl, rfl, HB2⟩ := hrel
        have n0 := HN0.out wr HB2.out
        by_cases hjl : j < p.steps.length
        · obtain ⟨_, _, es, _, hcs2⟩ := HP.out w (Below.refl _ _)
          injection es with es1 _ es3
          subst es1 es3
          rcases hcs2 with h0 | ⟨b2, o2, rfl, hc2⟩
          · rw [h0] at hjl; simp at hjl
          obtain ⟨vt, m0, m1, hT⟩ := hc2 j hjl
          obtain ⟨at_, ct, rfl⟩ := hT.form
          have hoks := HOK.out p.steps[j] (List.getElem_mem hjl)
          have HN2 : Hid _ := Pl.zSs_next (z := z) hjl
          have hbj : Pl.zSs z (p.steps.take j) ≤ 5 * (6 + 6 * Z) := Pl.zSs_le HZ.out (fun s hs => HOK.out s (List.mem_of_mem_take hs)) (by rw [List.length_take]; omega)
          have j1 : (0 : Int) ≤ (j : Int) := by omega
          have j2 : (j : Int) < (p.steps.length : Int) := by omega
          have HM1 : Hid (∀ W, Below w.heap.size w W → W.cell? ⟨b2, o2 + j * 2 + 1, none⟩ = some (.slice at_ p.steps[j].tests.length ct)) := fun W hW => cell_on hW m1
          have HT : Hid (∀ W, Below w.heap.size w W → RowAt (TstAt A) 6 W (.slice at_ p.steps[j].tests.length ct) p.steps[j].tests) := fun W hW => hT.map fun _ _ _ hq => hq.on hA hW
          clear hc2 hT m0 m1
          generalize p.steps[j] = s at *
          have hb2 : base + j + Pl.zSs z (p.steps.take j) ≤ 20000000 := by omega
          obtain ⟨base2, hbe⟩ : ∃ q, q = base + j + Pl.zSs z (p.steps.take j) := ⟨_, rfl⟩
          rw [← hbe] at hb2 ⊢
          have HBE : Hid _ := hbe
          clear hbe
          have h6 := hoks.1
          have HOS : Hid _ := hoks.2
          clear hoks hbj hbk
          have v1 : IntKind.i64.wrap ((base2 : Int) + 1) = (base2 : Int) + 1 := IntWalk.i64_in _ ⟨by omega, by omega⟩
          go_wp2
          clear v1 n0
          go_loopw [3, 6] (fun n i wr => ∃ q : Nat, q ≤ s.tests.length ∧ i = .int .i64 q ∧ n = .int .i64 ((base2 + 1 + q + Pl.zT z (s.tests.take q) : Nat) : Int) ∧ Hid (Below w.heap.size w wr)) (fun _ i _ => s.tests.length - (intOf i).toNat)
          case atStart => exact ⟨0, Nat.zero_le _, rfl, by simp [Pl.zT], HB2⟩
          case round =>
            obtain ⟨q, hq, rfl, rfl, HB3⟩ := hrel
            have n0 := HN0.out wr HB3.out
            have m1 := HM1.out wr HB3.out
            by_cases hql : q < s.tests.length
            · obtain ⟨_, _, et, _, hcs3⟩ := HT.out wr HB3.out
              injection et with et1 _ et3
              subst et1 et3
              rcases hcs3 with h0 | ⟨b3, o3, rfl, hc3⟩
              · rw [h0] at hql; simp at hql
              obtain ⟨vv, t0, t1, t2, t3, t4, t5, t6⟩ := hc3 q hql
              obtain ⟨al, dl, rfl, -⟩ := hA.form t6
              have hwl := HOS.out s.tests[q] (List.getElem_mem hql)
              have HN3 : Hid _ := Pl.zT_next (z := z) hql
              have hbq : Pl.zT z (s.tests.take q) ≤ 6 * Z := Pl.zT_le (fun t ht => HZ.out _ (HOS.out t (List.mem_of_mem_take ht))) (by rw [List.length_take]; omega)
              have hzl := HZ.out _ hwl
              have HC : Hid (Calls Tryd.prog 8 _ _ _) := HS.out wr _ _ t6 hwl
              clear hc3 t0 t1 t2 t3 t4 t6 hwl
              generalize s.tests[q] = t at *
              generalize z t.list = zl at *
              have q1 : (0 : Int) ≤ (q : Int) := by omega
              have q2 : (q : Int) < (s.tests.length : Int) := by omega
              obtain ⟨base3, hbe3⟩ : ∃ x, x = base2 + 1 + q + Pl.zT z (s.tests.take q) := ⟨_, rfl⟩
              have hb3 : base3 ≤ 21000000 := by omega
              rw [← hbe3]
              have HBE3 : Hid _ := hbe3
              clear hbe3 hbq
              have u1 : IntKind.i64.wrap ((base3 : Int) + 1) = (base3 : Int) + 1 := IntWalk.i64_in _ ⟨by omega, by omega⟩
              have u2 : IntKind.i64.wrap ((base3 : Int) + 1 + (zl : Int)) = (base3 : Int) + 1 + (zl : Int) := IntWalk.i64_in _ ⟨by omega, by omega⟩
              obtain ⟨wq, hwq⟩ : ∃ x, x = wr := ⟨_, rfl⟩
              subst hwq
              go_wp2_with fail
              refine HC.out.mono ?_
              rintro e w4 ⟨rfl, hb4⟩
              have HB4 : Hid (Below w.heap.size w w4) := below_trans HB3.out hb4
              clear hb4
              go_wp2
              refine ⟨⟨q + 1, hql, by go_num, ?_, HB4⟩, by simp [intOf]; omega⟩
              rw [HN3.out]
              congr 1
              have := HBE3.out
              omega
            · have hqe : q = s.tests.length := by omega
              subst hqe
              rw [List.take_length] at *
              have hzs : Pl.zS z s = s.tests.length + Pl.zT z s.tests := rfl
              have HZS : Hid _ := hzs
              clear hzs
              go_wp2
              refine ⟨⟨j + 1, hjl, by go_num, ?_, HB3⟩, by simp [intOf]; omega⟩
              rw [HN2.out, HZS.out]
              congr 1
              have := HBE.out
              omega
        · have hje : j = p.steps.length := by omega
          subst hje
          rw [List.take_length] at *
          have HSP : Hid _ := Pl.szP_eq z p
          go_wp2
          refine ⟨⟨k + 1, hlt, by go_num, ?_, HB2⟩, by simp [intOf]; omega⟩
          rw [HN.out, HSP.out]
          congr 1
          omega
    · have hke : k = l.length := by omega
      subst hke
      rw [List.take_length]
      go_wp2
      go_ret
      exact ⟨rfl, HB.out⟩
end
theorem sizeOf_z (w : World) (v : Value) (l : List Unit) (h : ZAt w v l) (hw : Pl.L0.W l) : Calls Tryd.prog 8 #[v] w fun e w' => e = .returned (.int .i64 (Pl.L0.z l)) ∧ Below w.heap.size w w' := by
  have hw : l = [] := hw
  subst hw
  obtain ⟨a, c, rfl, h1, h2⟩ := h
  exact sizeOf_up isL_z (fun _ => False) (fun _ => 0) 0 (by omega) (fun _ h => h.elim) (fun _ _ _ _ h => h.elim) w (.slice a 0 c) [] ⟨a, c, rfl, ⟨h1, h2⟩, Or.inl rfl⟩ ⟨by simp, fun p hp => by simp at hp⟩
theorem sizeOf_1 (w : World) (v : Value) (l : List Pl.D1) (h : A1 w v l) (hw : Pl.L1.W l) : Calls Tryd.prog 8 #[v] w fun e w' => e = .returned (.int .i64 (Pl.L1.z l)) ∧ Below w.heap.size w w' :=
  sizeOf_up isL_z Pl.L0.W Pl.L0.z 0 (by omega) Pl.z_le0 sizeOf_z w v l h hw
theorem sizeOf_2 (w : World) (v : Value) (l : List Pl.D2) (h : A2 w v l) (hw : Pl.L2.W l) : Calls Tryd.prog 8 #[v] w fun e w' => e = .returned (.int .i64 (Pl.L2.z l)) ∧ Below w.heap.size w w' :=
  sizeOf_up isL_1 Pl.L1.W Pl.L1.z 175 (by omega) Pl.z_le1 sizeOf_1 w v l h hw
theorem sizeOf_3 (w : World) (v : Value) (l : List Pl.D3) (h : A3 w v l) (hw : Pl.L3.W l) : Calls Tryd.prog 8 #[v] w fun e w' => e = .returned (.int .i64 (Pl.L3.z l)) ∧ Below w.heap.size w w' :=
  sizeOf_up isL_2 Pl.L2.W Pl.L2.z 26425 (by omega) Pl.z_le2 sizeOf_2 w v l h hw
end Go.Proofs.YtephhllfodlfbaaDoor
