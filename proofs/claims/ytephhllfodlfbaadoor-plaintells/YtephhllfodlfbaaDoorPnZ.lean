/-
  plain.size: how many steps and tests a list has.
-/
import Derived.Test.YtephhllfodlfbaaDoorPnS
namespace Go.Proofs.YtephhllfodlfbaaDoor
open Go.RowKit
namespace Pl
section
variable {α : Type}
/-- of a step without itself; of the first tests, steps, paths -/
def zT (z : List α → Nat) (ts : List (Tst α)) : Nat := (ts.map fun t => z t.list).sum
def zS (z : List α → Nat) (s : Stp α) : Nat := s.tests.length + zT z s.tests
def zSs (z : List α → Nat) (ss : List (Stp α)) : Nat := (ss.map (zS z)).sum
theorem szS_eq (z : List α → Nat) (s : Stp α) : szS z s = 1 + zS z s := by
  unfold szS zS zT
  congr 1
  induction s.tests with
  | nil => rfl
  | cons t r ih =>
    simp only [List.map_cons, List.sum_cons, List.length_cons, ih]
    unfold szT
    omega
theorem szP_eq (z : List α → Nat) (p : Pth α) : szP z p = p.steps.length + zSs z p.steps := by
  unfold szP zSs
  induction p.steps with
  | nil => rfl
  | cons s r ih =>
    simp only [List.map_cons, List.sum_cons, List.length_cons, ih, szS_eq]
    omega
theorem zT_next {z : List α → Nat} {ts : List (Tst α)} {k : Nat} (h : k < ts.length) : zT z (ts.take (k + 1)) = zT z (ts.take k) + z ts[k].list := by
  unfold zT
  rw [List.take_succ_eq_append_getElem h, List.map_append, List.sum_append]
  simp
theorem zSs_next {z : List α → Nat} {ss : List (Stp α)} {k : Nat} (h : k < ss.length) : zSs z (ss.take (k + 1)) = zSs z (ss.take k) + zS z ss[k] := by
  unfold zSs
  rw [List.take_succ_eq_append_getElem h, List.map_append, List.sum_append]
  simp
theorem szL_next {z : List α → Nat} {l : List (Pth α)} {k : Nat} (h : k < l.length) : szL z (l.take (k + 1)) = szL z (l.take k) + szP z l[k] := by
  unfold szL
  rw [List.take_succ_eq_append_getElem h, List.map_append, List.sum_append]
  simp
theorem sum_le {β : Type} {g : β → Nat} {M : Nat} : ∀ {l : List β}, (∀ x ∈ l, g x ≤ M) → (l.map g).sum ≤ l.length * M
  | [], _ => by simp
  | x :: r, h => by
    have h1 := h x List.mem_cons_self
    have h2 := sum_le (l := r) fun y hy => h y (List.mem_cons_of_mem _ hy)
    rw [List.map_cons, List.sum_cons, List.length_cons, Nat.succ_mul]
    omega
theorem mul_le {a b c : Nat} (h : a ≤ b) : a * c ≤ b * c := Nat.mul_le_mul_right c h
theorem zT_le {z : List α → Nat} {Z : Nat} {ts : List (Tst α)} (h : ∀ t ∈ ts, z t.list ≤ Z) (h6 : ts.length ≤ 6) : zT z ts ≤ 6 * Z := Nat.le_trans (sum_le (g := fun t : Tst α => z t.list) h) (mul_le h6)
theorem zS_le {W : List α → Prop} {z : List α → Nat} {Z : Nat} (hz : ∀ l, W l → z l ≤ Z) {s : Stp α} (hs : okS W s) : zS z s ≤ 6 + 6 * Z := by
  have := zT_le (z := z) (ts := s.tests) (fun t ht => hz _ (hs.2 t ht)) hs.1
  unfold zS
  have := hs.1
  omega
theorem zSs_le {W : List α → Prop} {z : List α → Nat} {Z : Nat} (hz : ∀ l, W l → z l ≤ Z) {ss : List (Stp α)} (hs : ∀ s ∈ ss, okS W s) (h5 : ss.length ≤ 5) : zSs z ss ≤ 5 * (6 + 6 * Z) := Nat.le_trans (sum_le (g := zS z) fun s h => zS_le hz (hs s h)) (mul_le h5)
theorem szP_le {W : List α → Prop} {z : List α → Nat} {Z : Nat} (hz : ∀ l, W l → z l ≤ Z) {p : Pth α} (hp : okP W p) : szP z p ≤ 5 + 5 * (6 + 6 * Z) := by
  rw [szP_eq]
  have := zSs_le hz hp.2.2.2 hp.2.1
  have := hp.2.1
  omega
theorem szL_le {W : List α → Prop} {z : List α → Nat} {Z : Nat} (hz : ∀ l, W l → z l ≤ Z) {l : List (Pth α)} (hl : okL W l) : szL z l ≤ 5 * (5 + 5 * (6 + 6 * Z)) := Nat.le_trans (sum_le (g := szP z) fun p h => szP_le hz (hl.2 p h)) (mul_le hl.1)
end
theorem z_le0 (l : List Unit) (_ : L0.W l) : L0.z l ≤ 0 := Nat.le_refl _
theorem z_le1 (l : List D1) (h : L1.W l) : L1.z l ≤ 175 := szL_le z_le0 h
theorem z_le2 (l : List D2) (h : L2.W l) : L2.z l ≤ 26425 := szL_le z_le1 h
end Pl
section
variable {α : Type} {A : MemL α} (hA : IsL A) (W0 : List α → Prop) (z : List α → Nat) (Z : Nat) (hZ : Z ≤ 30000) (hz : ∀ l, W0 l → z l ≤ Z) (hS : ∀ (w : World) (v : Value) (l : List α), A w v l → W0 l → Calls Tryd.prog 14 #[v] w fun e w' => e = .returned (.int .i64 (z l)) ∧ Below w.heap.size w w')
include hA hZ hz hS
set_option maxRecDepth 100000 in
set_option maxHeartbeats 8000000 in
theorem size_up (w : World) (v : Value) (l : List (Pl.Pth α)) (hl : LstAt A w v l) (hw : Pl.okL W0 l) : Calls Tryd.prog 14 #[v] w fun e w' => e = .returned (.int .i64 (Pl.szL z l)) ∧ Below w.heap.size w w' := by
  obtain ⟨a, c, rfl, -, hcs⟩ := hl
  have HR : Hid _ := hcs
  have HW : Hid _ := hw
  have HS : Hid _ := hS
  have HZ : Hid _ := hz
  have h5 := hw.1
  clear hcs hw hS hz
  go_enter Tryd.func14, Tryd.ntmps14
  go_wp2
  go_loopw [3, 12] (fun n i wr => ∃ k : Nat, k ≤ l.length ∧ i = .int .i64 k ∧ n = .int .i64 (Pl.szL z (l.take k) : Nat) ∧ Hid (Below w.heap.size w wr)) (fun _ i _ => l.length - (intOf i).toNat)
  case atStart => exact ⟨0, Nat.zero_le _, rfl, rfl, Below.refl _ _⟩
  case round =>
    obtain ⟨k, hk, rfl, rfl, HB⟩ := hrel
    by_cases hlt : k < l.length
    · rcases HR.out with h0 | ⟨b, o, rfl, hc⟩
      · subst h0; simp at hlt
      obtain ⟨vs, vl, n0, n1, hP, hL⟩ := hc k hlt
      obtain ⟨as_, cs, rfl⟩ := hP.form
      obtain ⟨al, cl, rfl⟩ := hL.form
      replace n0 := cell_on HB.out n0
      replace n1 := cell_on HB.out n1
      have hokp := HW.out.2 l[k] (List.getElem_mem hlt)
      have HN : Hid _ := Pl.szL_next (z := z) hlt
      have hbk : Pl.szL z (l.take k) ≤ 5 * (5 + 5 * (6 + 6 * Z)) := Pl.szL_le HZ.out ⟨by rw [List.length_take]; omega, fun p hp => HW.out.2 p (List.mem_of_mem_take hp)⟩
      have i1 : (0 : Int) ≤ (k : Int) := by omega
      have i2 : (k : Int) < (l.length : Int) := by omega
      have HP : Hid (∀ W, Below w.heap.size w W → RowAt (StpAt A) 2 W (.slice as_ l[k].steps.length cs) l[k].steps) := fun W hW => hP.map fun _ _ _ hq => hq.on hA hW
      clear hc hP hL
      generalize l[k] = p at *
      generalize Pl.szL z (l.take k) = base at *
      have h5p := hokp.2.1
      have HBa : Hid (Below w.heap.size w (wr.alloc (.cells #[.slice as_ p.steps.length cs, .slice al p.links.length cl] 38))) := below_trans HB.out (on_alloc _ _)
      have HOK : Hid _ := hokp.2.2.2
      clear hokp
      go_wp2
      generalize wr.alloc (.cells #[.slice as_ p.steps.length cs, .slice al p.links.length cl] 38) = w1 at *
      go_loopw [3, 24] (fun n i wr => ∃ j : Nat, j ≤ p.steps.length ∧ i = .int .i64 j ∧ n = .int .i64 ((base + p.steps.length + Pl.zSs z (p.steps.take j) : Nat) : Int) ∧ Hid (Below w.heap.size w wr)) (fun _ i _ => p.steps.length - (intOf i).toNat)
      case atStart => exact ⟨0, Nat.zero_le _, rfl, by simp [Pl.zSs], HBa⟩
      case round =>
        obtain ⟨j, hj, rfl, rfl, HB2⟩ := hrel
        by_cases hjl : j < p.steps.length
        · obtain ⟨_, _, es, _, hcs2⟩ := HP.out wr HB2.out
          injection es with es1 _ es3
          subst es1 es3
          rcases hcs2 with h0 | ⟨b2, o2, rfl, hc2⟩
          · rw [h0] at hjl; simp at hjl
          obtain ⟨vt, m0, m1, hT⟩ := hc2 j hjl
          obtain ⟨at_, ct, rfl⟩ := hT.form
          have hoks := HOK.out p.steps[j] (List.getElem_mem hjl)
          have HN2 : Hid _ := Pl.zSs_next (z := z) hjl
          have hbj : Pl.zSs z (p.steps.take j) ≤ 5 * (6 + 6 * Z) := Pl.zSs_le HZ.out (fun s hs => HOK.out s (List.mem_of_mem_take hs)) (by rw [List.length_take]; omega)
          have j1 : (0 : Int) ≤ (j : Int) := by omega
          have j2 : (j : Int) < (p.steps.length : Int) := by omega
          obtain ⟨wq, hwq⟩ : ∃ q, q = wr := ⟨_, rfl⟩
          subst hwq
          have HT : Hid (∀ W, Below wq.heap.size wq W → RowAt (TstAt A) 6 W (.slice at_ p.steps[j].tests.length ct) p.steps[j].tests) := fun W hW => hT.map fun _ _ _ hq => hq.on hA hW
          clear hc2 hT
          generalize p.steps[j] = s at *
          have hb2 : base + p.steps.length + Pl.zSs z (p.steps.take j) ≤ 20000000 := by omega
          obtain ⟨base2, hbe⟩ : ∃ q, q = base + p.steps.length + Pl.zSs z (p.steps.take j) := ⟨_, rfl⟩
          rw [← hbe] at hb2 ⊢
          have HBE : Hid _ := hbe
          clear hbe
          have h6 := hoks.1
          have HOS : Hid _ := hoks.2
          have HBb : Hid (Below wq.heap.size wq (wq.alloc (.cells #[.string ⟨s.tag.toArray⟩, .slice at_ s.tests.length ct] 41))) := on_alloc _ _
          clear hoks
          go_wp2
          generalize wq.alloc (.cells #[.string ⟨s.tag.toArray⟩, .slice at_ s.tests.length ct] 41) = w2 at *
          go_loopw [3, 36] (fun n i wr => ∃ q : Nat, q ≤ s.tests.length ∧ i = .int .i64 q ∧ n = .int .i64 ((base2 + s.tests.length + Pl.zT z (s.tests.take q) : Nat) : Int) ∧ Hid (Below wq.heap.size wq wr)) (fun _ i _ => s.tests.length - (intOf i).toNat)
          case atStart => exact ⟨0, Nat.zero_le _, rfl, by simp [Pl.zT], HBb⟩
          case round =>
            obtain ⟨q, hq, rfl, rfl, HB3⟩ := hrel
            by_cases hql : q < s.tests.length
            · obtain ⟨_, _, es, _, hcs3⟩ := HT.out wr HB3.out
              injection es with es1 _ es3
              subst es1 es3
              rcases hcs3 with h0 | ⟨b3, o3, rfl, hc3⟩
              · rw [h0] at hql; simp at hql
              obtain ⟨vv, t0, t1, t2, t3, t4, t5, hv⟩ := hc3 q hql
              obtain ⟨av, cv, rfl, -⟩ := hA.form hv
              have hw0 := HOS.out s.tests[q] (List.getElem_mem hql)
              have hzz := HZ.out _ hw0
              have HN3 : Hid _ := Pl.zT_next (z := z) hql
              have hbq : Pl.zT z (s.tests.take q) ≤ 6 * Z := Pl.zT_le (fun t ht => HZ.out _ (HOS.out t (List.mem_of_mem_take ht))) (by rw [List.length_take]; omega)
              have q1 : (0 : Int) ≤ (q : Int) := by omega
              have q2 : (q : Int) < (s.tests.length : Int) := by omega
              clear hc3
              generalize s.tests[q] = t at *
              have hba := on_alloc wr (.cells #[.int .i64 t.kind, .string ⟨t.name.toArray⟩, .string ⟨t.value.toArray⟩, .int .i64 t.a, .int .i64 t.b, .slice av t.list.length cv] 45)
              have HC : Hid (Calls Tryd.prog 14 _ _ _) := HS.out _ _ t.list (hA.on hv hba) hw0
              have HBc : Hid (Below wq.heap.size wq (wr.alloc (.cells #[.int .i64 t.kind, .string ⟨t.name.toArray⟩, .string ⟨t.value.toArray⟩, .int .i64 t.a, .int .i64 t.b, .slice av t.list.length cv] 45))) := below_trans HB3.out hba
              clear hba hv hw0
              generalize z t.list = zl at *
              go_wp2_with fail
              refine HC.out.mono ?_
              rintro e w4 ⟨rfl, hb4⟩
              have HB4 : Hid (Below wq.heap.size wq w4) := below_trans HBc.out hb4
              clear hb4 t0 t1 t2 t3 t4 t5
              go_wp2
              refine ⟨⟨q + 1, hql, by go_num, ?_, HB4⟩, by simp [intOf]; omega⟩
              rw [HN3.out]
              go_num
            · have hqe : q = s.tests.length := by omega
              subst hqe
              rw [List.take_length] at *
              have HB5 : Hid (Below w.heap.size w wr) := below_trans HB2.out HB3.out
              have hzs : Pl.zS z s = s.tests.length + Pl.zT z s.tests := rfl
              have HZS : Hid _ := hzs
              clear hzs
              go_wp2
              refine ⟨⟨j + 1, hjl, by go_num, ?_, HB5⟩, by simp [intOf]; omega⟩
              rw [HN2.out, HZS.out, HBE.out]
              congr 1
              omega
        · have hje : j = p.steps.length := by omega
          subst hje
          rw [List.take_length] at *
          have HSP : Hid _ := Pl.szP_eq z p
          go_wp2
          refine ⟨⟨k + 1, hlt, by go_num, ?_, HB2⟩, by simp [intOf]; omega⟩
          rw [HN.out, HSP.out]
          congr 1
          omega
    · have hke : k = l.length := by omega
      subst hke
      rw [List.take_length]
      go_wp2
      go_ret
      exact ⟨rfl, HB.out⟩
end
end Go.Proofs.YtephhllfodlfbaaDoor
