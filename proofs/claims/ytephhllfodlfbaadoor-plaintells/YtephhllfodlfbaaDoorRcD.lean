/-
  The document's own check of a list of paths: its counts.
-/
import Derived.Test.YtephhllfodlfbaaDoorRcB
namespace Go.Proofs.YtephhllfodlfbaaDoor
open Go.RowKit

def nB (a b : Int) : Bool := within a (-1048576) 1048576 && within b (-1048576) 1048576
def nErr (a b : Int) : Int := if nB a b = true then 0 else 3
theorem nErr_ok {a b : Int} (h : nB a b = true) : nErr a b = 0 := by unfold nErr; rw [if_pos h]
theorem nErr_no {a b : Int} (h : nB a b = false) : nErr a b = 3 := by unfold nErr; rw [h]; rfl
theorem Blk6r.new (w : World) (u0 u1 u2 u3 u4 u5 : Value) : (w.alloc (.cells #[u0, u1, u2, u3, u4, u5] 45)).cell? ⟨w.heap.size, 3, none⟩ = some u3 ∧ (w.alloc (.cells #[u0, u1, u2, u3, u4, u5] 45)).cell? ⟨w.heap.size, 4, none⟩ = some u4 := by
  constructor <;> simp [go_sem]
set_option maxHeartbeats 1000000 in
theorem checkNth_any (a b : Int) (w : World) : Calls Tryd.prog 38 #[.agg #[.int .i64 a, .int .i64 b]] w fun e w' => e = .returned (.int .i64 (nErr a b)) ∧ Below w.heap.size w w' := by
  have HB := on_alloc w (.cells #[.int .i64 a, .int .i64 b] 43)
  have HBB : Hid (Below _ _ _) := HB
  clear HB
  cases ha : within a (-1048576) 1048576 with
  | false =>
    have HN : Hid (nErr a b = 3) := nErr_no (by simp [nB, ha])
    go_enter Tryd.func38, Tryd.ntmps38
    go_wp2_with fail
    refine (within_any _ _ _ _).mono ?_
    rintro e w1 ⟨rfl, rfl⟩
    rw [ha]
    go_wp2
    go_ret
    exact ⟨by rw [HN.out]; rfl, HBB.out⟩
  | true =>
    cases hb : within b (-1048576) 1048576 with
    | false =>
      have HN : Hid (nErr a b = 3) := nErr_no (by simp [nB, hb])
      go_enter Tryd.func38, Tryd.ntmps38
      go_wp2_with fail
      refine (within_any _ _ _ _).mono ?_
      rintro e w1 ⟨rfl, rfl⟩
      rw [ha]
      go_wp2_with fail
      refine (within_any _ _ _ _).mono ?_
      rintro e w1 ⟨rfl, rfl⟩
      rw [hb]
      go_wp2
      go_ret
      exact ⟨by rw [HN.out]; rfl, HBB.out⟩
    | true =>
      have HN : Hid (nErr a b = 0) := nErr_ok (by simp [nB, ha, hb])
      go_enter Tryd.func38, Tryd.ntmps38
      go_wp2_with fail
      refine (within_any _ _ _ _).mono ?_
      rintro e w1 ⟨rfl, rfl⟩
      rw [ha]
      go_wp2_with fail
      refine (within_any _ _ _ _).mono ?_
      rintro e w1 ⟨rfl, rfl⟩
      rw [hb]
      go_wp2
      go_ret
      exact ⟨by rw [HN.out]; rfl, HBB.out⟩
/-- of every list within, asked for or not -/
def InnerA {α : Type} (ok : List α → Prop) (l : List (Pl.Pth α)) : Prop := ∀ p ∈ l, ∀ s ∈ p.steps, ∀ t ∈ s.tests, ok t.list
def nthT {α : Type} (g : List α → Bool) (t : Pl.Tst α) : Bool := nB t.a t.b && g t.list
def nthS {α : Type} (g : List α → Bool) (s : Pl.Stp α) : Bool := s.tests.all (nthT g)
def nthP {α : Type} (g : List α → Bool) (p : Pl.Pth α) : Bool := p.steps.all (nthS g)
def nthL {α : Type} (g : List α → Bool) (l : List (Pl.Pth α)) : Bool := l.all (nthP g)
set_option maxRecDepth 100000 in
set_option maxHeartbeats 8000000 in
theorem nth_up {α : Type} {A : MemL α} (hA : IsL A) (ok : List α → Prop) (g : List α → Bool) (hf : ∀ w v l, A w v l → ok l → Calls Tryd.prog 20 #[v] w fun e w' => e = .returned (.bool (!g l)) ∧ Below w.heap.size w w') (w : World) (v : Value) (l : List (Pl.Pth α)) (h : LstAt A w v l) (hok : InnerA ok l) :
    Calls Tryd.prog 20 #[v] w fun e w' => e = .returned (.bool (!nthL g l)) ∧ Below w.heap.size w w' := by
  obtain ⟨a, c, rfl⟩ := RowAt.form h
  have HL : Hid (LstAt A w (.slice a l.length c) l) := h
  have HF : Hid (∀ w v l, A w v l → ok l → Calls Tryd.prog 20 #[v] w fun e w' => e = .returned (.bool (!g l)) ∧ Below w.heap.size w w') := hf
  have HA : Hid (IsL A) := hA
  have HIN : Hid (InnerA ok l) := hok
  obtain ⟨EV, hEV⟩ : ∃ x, nthL g l = x := ⟨_, rfl⟩
  rw [hEV]
  have HE : Hid (EV = l.all (nthP g)) := hEV.symm
  have fl0 := RowAt.fit h
  unfold maxLen at fl0
  clear h hf hA hok hEV
  go_enter Tryd.func20, Tryd.ntmps20
  go_wp2_with fail
  go_loopw [3] (fun i wr => ∃ k : Nat, k ≤ l.length ∧ i = .int .i64 k ∧ Hid ((l.take k).all (nthP g) = true) ∧ Hid (Below w.heap.size w wr)) (fun i _ => l.length - (intOf i).toNat)
  case atStart => exact ⟨0, Nat.zero_le _, rfl, by simp [Hid], Below.refl _ _⟩
  case round =>
    obtain ⟨i, hi, rfl, HT, HB⟩ := hrel
    obtain ⟨wq, hwq⟩ : ∃ q, q = wr := ⟨_, rfl⟩
    subst hwq
    by_cases hlt : i < l.length
    · obtain ⟨-, b, o, rfl, hc⟩ := RowAt.at HL.out (by omega)
      obtain ⟨vs, vl, n0, n1, rs, -⟩ := (hc i hlt).on HA.out HB.out
      obtain ⟨ax, cx, rfl⟩ := rs.form
      have i1 : (0 : Int) ≤ (i : Int) := by omega
      have i2 : (i : Int) < (l.length : Int) := by omega
      have HBAD : Hid (nthP g l[i] = false → EV = false) := fun h => HE.out.trans (all_bad hlt h)
      have HOK : Hid (nthP g l[i] = true → (l.take (i + 1)).all (nthP g) = true) := fun h => all_next hlt HT.out h
      have HIP : Hid (∀ s ∈ l[i].steps, ∀ t ∈ s.tests, ok t.list) := HIN.out _ (List.getElem_mem hlt)
      clear hc HT n1
      generalize l[i] = p at *
      have fs := rs.fit
      unfold maxLen at fs
      have HRS1 : Hid (RowAt (StpAt A) 2 _ (.slice ax p.steps.length cx) p.steps) := rs
      clear rs
      go_wp2_with fail
      go_loopw [4] (fun i wr => ∃ k : Nat, k ≤ p.steps.length ∧ i = .int .i64 k ∧ Hid ((p.steps.take k).all (nthS g) = true) ∧ Hid (Below wq.heap.size wq wr)) (fun i _ => p.steps.length - (intOf i).toNat)
      case atStart => exact ⟨0, Nat.zero_le _, rfl, by simp [Hid], Below.refl _ _⟩
      case round =>
        obtain ⟨k, hk, rfl, HT2, HB3⟩ := hrel
        obtain ⟨ww, hww⟩ : ∃ q, q = wr := ⟨_, rfl⟩
        subst hww
        have x0 := cell_on HB3.out n0
        by_cases hlt3 : k < p.steps.length
        · obtain ⟨-, b2, o2, rfl, hc2⟩ := RowAt.at HRS1.out (by omega)
          obtain ⟨vt, m0, m1, rt⟩ := (hc2 k hlt3).on HA.out HB3.out
          obtain ⟨at_, ct, rfl⟩ := rt.form
          have k1 : (0 : Int) ≤ (k : Int) := by omega
          have k2 : (k : Int) < (p.steps.length : Int) := by omega
          have HBAD2 : Hid (nthS g p.steps[k] = false → EV = false) := fun h => HBAD.out (all_bad hlt3 h)
          have HOK2 : Hid (nthS g p.steps[k] = true → (p.steps.take (k + 1)).all (nthS g) = true) := fun h => all_next hlt3 HT2.out h
          have HIS : Hid (∀ t ∈ p.steps[k].tests, ok t.list) := HIP.out _ (List.getElem_mem hlt3)
          clear hc2 HT2
          generalize p.steps[k] = st at *
          have ft := rt.fit
          unfold maxLen at ft
          have HRT : Hid (RowAt (TstAt A) 6 _ (.slice at_ st.tests.length ct) st.tests) := rt
          clear rt
          go_wp2_with fail
          go_loopw [5] (fun i wr => ∃ k : Nat, k ≤ st.tests.length ∧ i = .int .i64 k ∧ Hid ((st.tests.take k).all (nthT g) = true) ∧ Hid (Below ww.heap.size ww wr)) (fun i _ => st.tests.length - (intOf i).toNat)
          case atStart => exact ⟨0, Nat.zero_le _, rfl, by simp [Hid], Below.refl _ _⟩
          case round =>
            obtain ⟨j, hj, rfl, HT3, HB4⟩ := hrel
            have z0 := cell_on HB4.out x0
            have z1 := cell_on HB4.out m1
            by_cases hlt4 : j < st.tests.length
            · obtain ⟨-, b3, o3, rfl, hc3⟩ := RowAt.at HRT.out (by omega)
              obtain ⟨vu, q0, q1, q2, q3, q4, q5, rl⟩ := (hc3 j hlt4).on HA.out HB4.out
              obtain ⟨au, cu, rfl, -⟩ := HA.out.form rl
              have j1 : (0 : Int) ≤ (j : Int) := by omega
              have j2 : (j : Int) < (st.tests.length : Int) := by omega
              have HBAD3 : Hid (nthT g st.tests[j] = false → EV = false) := fun h => HBAD2.out (all_bad hlt4 h)
              have HOK3 : Hid (nthT g st.tests[j] = true → (st.tests.take (j + 1)).all (nthT g) = true) := fun h => all_next hlt4 HT3.out h
              have HIT : Hid (ok st.tests[j].list) := HIS.out _ (List.getElem_mem hlt4)
              clear hc3 HT3
              generalize st.tests[j] = t at *
              have hbt := on_alloc wr (.cells #[.int .i64 t.kind, .string ⟨t.name.toArray⟩, .string ⟨t.value.toArray⟩, .int .i64 t.a, .int .i64 t.b, .slice au t.list.length cu] 45)
              have HRL : Hid (A _ (.slice au t.list.length cu) t.list) := HA.out.on rl hbt
              obtain ⟨r0, r5⟩ := Blk6p.new wr (.int .i64 t.kind) (.string ⟨t.name.toArray⟩) (.string ⟨t.value.toArray⟩) (.int .i64 t.a) (.int .i64 t.b) (.slice au t.list.length cu)
              have HB5 : Hid (Below ww.heap.size ww _) := below_trans HB4.out hbt
              clear rl hbt r0
              go_wp2_with fail
              generalize wr.alloc (.cells #[.int .i64 t.kind, .string ⟨t.name.toArray⟩, .string ⟨t.value.toArray⟩, .int .i64 t.a, .int .i64 t.b, .slice au t.list.length cu] 45) = w4 at *
              obtain ⟨bn, hbn⟩ : ∃ x, nB t.a t.b = x := ⟨_, rfl⟩
              refine (checkNth_any _ _ _).mono ?_
              rintro e w5 ⟨rfl, hb5⟩
              replace HRL : Hid (A _ (.slice au t.list.length cu) t.list) := HA.out.on HRL.out hb5
              replace HB5 : Hid (Below ww.heap.size ww _) := below_trans HB5.out hb5
              replace r5 := cell_on hb5 r5
              clear hb5
              cases bn with
              | false =>
                have HK : Hid (EV = false) := HBAD3.out (by simp [nthT, hbn])
                rw [nErr_no hbn]
                go_wp2
                go_ret
                exact ⟨by rw [HK.out]; rfl, below_trans HB.out (below_trans HB3.out HB5.out)⟩
              | true =>
                rw [nErr_ok hbn]
                obtain ⟨bf, hbf⟩ : ∃ x, g t.list = x := ⟨_, rfl⟩
                have hcon := HF.out _ _ _ HRL.out HIT.out
                rw [hbf] at hcon
                have HCON : Hid (Calls Tryd.prog 20 _ _ _) := hcon
                clear hcon
                go_wp2_with fail
                refine HCON.out.mono ?_
                rintro e w7 ⟨rfl, hb6⟩
                replace HB5 : Hid (Below ww.heap.size ww _) := below_trans HB5.out hb6
                clear hb6
                cases bf with
                | true =>
                  have HK : Hid ((st.tests.take (j + 1)).all (nthT g) = true) := HOK3.out (by simp [nthT, hbf, hbn])
                  go_wp2
                  exact ⟨⟨j + 1, hlt4, by go_num, HK, HB5⟩, by simp [intOf]; omega⟩
                | false =>
                  have HK : Hid (EV = false) := HBAD3.out (by simp [nthT, hbf])
                  go_wp2
                  go_ret
                  exact ⟨by rw [HK.out]; rfl, below_trans HB.out (below_trans HB3.out HB5.out)⟩
            · have HE3 : Hid ((p.steps.take (k + 1)).all (nthS g) = true) := HOK2.out (all_done hlt4 HT3.out)
              go_wp2
              exact ⟨⟨k + 1, hlt3, by go_num, HE3, below_trans HB3.out HB4.out⟩, by simp [intOf]; omega⟩
        · have HE2 : Hid ((l.take (i + 1)).all (nthP g) = true) := HOK.out (all_done hlt3 HT2.out)
          go_wp2
          exact ⟨⟨i + 1, hlt, by go_num, HE2, below_trans HB.out HB3.out⟩, by simp [intOf]; omega⟩
    · have HE2 : Hid (EV = true) := HE.out.trans (all_done hlt HT.out)
      go_wp2
      go_ret
      exact ⟨by rw [HE2.out]; rfl, HB.out⟩
set_option maxHeartbeats 1000000 in
/-- of nothing -/
theorem nth_z (w : World) (v : Value) (l : List Unit) (h : ZAt w v l) (hl : l = []) : Calls Tryd.prog 20 #[v] w fun e w' => e = .returned (.bool (!(fun _ => true : List Unit → Bool) l)) ∧ Below w.heap.size w w' := by
  subst hl
  obtain ⟨a, c, rfl, -⟩ := h
  go_enter Tryd.func20, Tryd.ntmps20
  go_wp2
  refine wp_loop_rounds 1 ?_
  rw [rounds_succ]
  go_wp2
  go_ret
  exact ⟨rfl, Below.refl _ _⟩
end Go.Proofs.YtephhllfodlfbaaDoor
