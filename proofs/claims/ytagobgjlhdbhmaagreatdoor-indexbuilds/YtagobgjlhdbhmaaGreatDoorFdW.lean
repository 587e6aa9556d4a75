/-
  IndexBuilds: the law, where a key is looked up.
-/
import Derived.Test.YtagobgjlhdbhmaaGreatDoorFdV
namespace Go.Proofs.YtagobgjlhdbhmaaGreatDoor
open Go.RowKit

set_option maxRecDepth 100000 in
set_option maxHeartbeats 8000000 in
theorem builds_bad_L (v u : Value) (ns : List Pl.Nd) (l : List Pl.Er) (kind : Int) (name : List UInt8) (w : World) (hv : DocAt w v ns) (hl : EnsAt w u l) (hz : ∀ e ∈ l, e.2.length * 8 ≤ 140737488351232) (hL : Laid w) (hD : Pl.checkDoc ns ≠ 0) (k0 : ¬ kind < 1) (k1 : ¬ 3 < kind) (k2 : ¬ 512 < l.length) :
    Calls Tryz.prog 5 #[.agg #[v], u, .int .i64 kind, .string ⟨name.toArray⟩] w fun e w' => e = .returned (.bool true) ∧ Below w.heap.size w w' := by
  have hle : lookErr l kind = 0 := by unfold lookErr; rw [if_neg (by omega), if_neg k2]
  have hlo : lookOf l kind name = lookIn (kind, name) l := by unfold lookOf; rw [hle]; rfl
  obtain ⟨av, cv, rfl, -⟩ := id hv.1
  obtain ⟨al, cl, rfl, hcl⟩ := id hl
  have HB0 : Hid (Below w.heap.size w (w.alloc (.cells #[.slice av ns.length cv] 24))) := on_alloc _ _
  have c0 : (w.alloc (.cells #[.slice av ns.length cv] 24)).cell? ⟨w.heap.size, 0, none⟩ = some (.slice av ns.length cv) := by simp [go_sem]
  have H20 : Hid (∀ W, Below w.heap.size w W → Calls Tryz.prog 20 #[.agg #[.slice av ns.length cv]] W fun e w' => ∃ a c, e = .returned (.tuple #[.slice a (Pl.idxAns ns).length c, .int .i64 (Pl.checkDoc ns)]) ∧ EnsAt w' (.slice a (Pl.idxAns ns).length c) (Pl.idxAns ns) ∧ Below W.heap.size W w') := fun W hW => by
    refine (build_any _ ns W (hv.on hW)).mono ?_
    rintro e w' ⟨x, rfl, hx, hb⟩
    obtain ⟨a, c, rfl, -⟩ := id hx
    exact ⟨a, c, rfl, hx, hb⟩
  have H21 : Hid (∀ W, Below w.heap.size w W → Calls Tryz.prog 21 #[.agg #[.slice av ns.length cv]] W fun e w' => e = .returned (.int .i64 (Pl.checkDoc ns)) ∧ Below W.heap.size W w') := fun W hW => by
    have := refCheck_any _ ns W hv.2.2 (hv.1.on hW)
    exact this
  have hin : Pl.idxAns ns = [] := by unfold Pl.idxAns; rw [if_neg hD]
  rw [hin] at H20
  have H23 : Hid (∀ W, Below w.heap.size w W → Calls Tryz.prog 23 #[.slice al l.length cl, .int .i64 kind, .string ⟨name.toArray⟩] W fun e w' => ∃ a c, e = .returned (.tuple #[.slice a (lookIn (kind, name) l).length c, .int .i64 0]) ∧ IntsAt w' (.slice a (lookIn (kind, name) l).length c) (lookIn (kind, name) l) ∧ Below W.heap.size W w') := fun W hW => by
    refine (look_any _ l kind name W (hl.on hW) hz).mono ?_
    rintro e w' ⟨x, rfl, hx, hb⟩
    rw [hlo] at hx
    obtain ⟨a, c, rfl, -⟩ := id hx
    exact ⟨a, c, by rw [hle], hx, hb⟩
  have H24 : Hid (∀ W, Below w.heap.size w W → Calls Tryz.prog 24 #[] W fun e w' => e = .returned (.bool true) ∧ Below W.heap.size W w') := fun W hW => ixbegun_any W (hL.on hW)
  have H25 : Hid (∀ W v1 v2, EnsAt W v1 ([] : List Pl.Er) → EnsAt W v2 ([] : List Pl.Er) → Calls Tryz.prog 25 #[v1, v2] W fun e w' => e = .returned (.bool true) ∧ Below W.heap.size W w') := fun W v1 v2 h1 h2 => by
    refine (sameIndexes_any v1 v2 _ _ W (by simp) (by simp) h1 h2).mono ?_
    rintro e w' ⟨rfl, hd⟩
    exact ⟨by unfold sameE; rw [decide_eq_true rfl], hd.below⟩
  have H19 : Hid (∀ W v1 v2, IntsAt W v1 (lookIn (kind, name) l) → IntsAt W v2 (lookIn (kind, name) l) → Calls Tryz.prog 19 #[v1, v2] W fun e w' => e = .returned (.bool true) ∧ Below W.heap.size W w') := fun W v1 v2 h1 h2 => by
    refine (sameInts_any v1 v2 _ _ W (look_len hz) h1 h2).mono ?_
    rintro e w' ⟨rfl, hd⟩
    exact ⟨by unfold sameI; rw [decide_eq_true rfl], hd.below⟩
  have HCL : Hid _ := hcl
  have hl5 : l.length ≤ 512 := by omega
  have k3 : ¬ (512 : Int) < (l.length : Int) := by omega
  have r1 : (Pl.checkDoc ns == 0) = false := by simpa using hD
  have r2 : ¬ Pl.checkDoc ns = 0 := hD
  clear hv hl hz hL hD hle hlo hcl hin k2
  generalize Pl.checkDoc ns = r at *
  generalize hqq : lookIn (kind, name) l = lo at *
  have HQQ : Hid _ := hqq
  clear hqq
  go_enter Tryz.func5, Tryz.ntmps5
  go_wp2_with fail
  generalize w.alloc (.cells #[.slice av ns.length cv] 24) = w0 at *
  refine (H20.out _ HB0.out).mono ?_
  rintro e w1 ⟨ax, cx, rfl, hx1, hb1⟩
  have HB1 : Hid (Below w.heap.size w w1) := below_trans HB0.out hb1
  have c1 := cell_on hb1 c0
  have HX1 : Hid (EnsAt w1 (.slice ax 0 cx) ([] : List Pl.Er)) := hx1
  clear hx1 hb1 c0 HB0
  go_wp2_with fail
  refine (H21.out _ HB1.out).mono ?_
  rintro e w2 ⟨rfl, hb2⟩
  have HB2 : Hid (Below w.heap.size w w2) := below_trans HB1.out hb2
  have c2 := cell_on hb2 c1
  have HX2 : Hid (EnsAt w2 (.slice ax 0 cx) ([] : List Pl.Er)) := HX1.out.on hb2
  clear hb2 c1 HB1 HX1
  have HY2 : Hid (EnsAt w2 (.slice none 0 0) ([] : List Pl.Er)) := EnsAt.nil _
  go_wp2_with fail
  refine (H23.out _ HB2.out).mono ?_
  rintro e w4 ⟨az, cz, rfl, hz4, hb4⟩
  have HB4 : Hid (Below w.heap.size w w4) := below_trans HB2.out hb4
  have HX4 : Hid (EnsAt w4 (.slice ax 0 cx) ([] : List Pl.Er)) := HX2.out.on hb4
  have HY4 : Hid (EnsAt w4 (.slice none 0 0) ([] : List Pl.Er)) := HY2.out.on hb4
  have HZ4 : Hid (IntsAt w4 (.slice az lo.length cz) lo) := hz4
  clear hz4 hb4 HB2 HX2 HY2
  go_wp2
  clear k3 k0 k1
  go_loopw [16, 17] (fun s i wr => ∃ j : Nat, j ≤ l.length ∧ i = .int .i64 ((j : Int) - 1) ∧ wr = w4 ∧ Hid (IntsAt w4 s (lookIn (kind, name) (l.drop j)))) (fun _ i _ => (intOf i + 1).toNat)
  case atStart => exact ⟨l.length, Nat.le_refl _, by go_num, rfl, by unfold Hid; rw [List.drop_length]; exact ⟨none, 0, rfl, Or.inl rfl⟩⟩
  case round =>
    obtain ⟨j, hj, rfl, rfl, HS⟩ := hrel
    cases j with
    | succ j =>
      obtain ⟨as_, cs, rfl, -⟩ := id HS.out
      generalize hqn : (lookIn (kind, name) (l.drop (j + 1))).length = qn at *
      have HQN : Hid _ := hqn
      clear hqn
      have hlt : j < l.length := by omega
      rcases HCL.out with h0 | ⟨b5, o5, rfl, hc5⟩
      · subst h0; simp at hlt
      obtain ⟨vi, n0, n1, n2, n3⟩ := (hc5 j hlt).on HB4.out
      have HH : Hid (l[j].1 = (kind, name) → lookIn (kind, name) (l.drop j) = l[j].2) := fun he => look_hit hlt he
      have HM : Hid (l[j].1 ≠ (kind, name) → lookIn (kind, name) (l.drop j) = lookIn (kind, name) (l.drop (j + 1))) := fun he => look_miss hlt he
      obtain ⟨ai, ci, rfl, _⟩ := id n3
      have N3 : Hid (IntsAt _ _ _) := n3
      rw [show ((j + 1 : Nat) : Int) - 1 = (j : Int) by omega]
      have i1 : (0 : Int) ≤ (j : Int) := by omega
      have i2 : (j : Int) < (l.length : Int) := by omega
      clear hc5 n3 hj
      generalize l[j] = x at *
      obtain ⟨⟨x1, s1⟩, q1⟩ := x
      dsimp only at n0 n1 n2 N3
      by_cases e1 : x1 = kind
      · by_cases e2 : s1 = name
        · subst e1
          subst e2
          have HL : Hid (lookIn (x1, s1) (l.drop j) = q1) := HH.out rfl
          clear HH HM
          go_wp2
          exact ⟨⟨j, by omega, by go_num, by trivial, by unfold Hid; rw [HL.out]; exact N3.out⟩, by first | (simp [intOf]; done) | (simp [intOf]; omega)⟩
        · have HM2 : Hid _ := HM.out (by intro e; injection e with _ e4; exact e2 e4)
          have e5 : (s1 == name) = false := by simpa using e2
          clear e2
          subst e1
          go_wp2
          exact ⟨⟨j, by omega, by go_num, by trivial, by unfold Hid; rw [HM2.out]; exact HS.out⟩, by first | (simp [intOf]; done) | (simp [intOf]; omega)⟩
      · have HM2 : Hid _ := HM.out (by intro e; injection e with e3 _; exact e1 e3)
        go_wp2
        exact ⟨⟨j, by omega, by go_num, by trivial, by unfold Hid; rw [HM2.out]; exact HS.out⟩, by first | (simp [intOf]; done) | (simp [intOf]; omega)⟩
    | zero =>
      rw [List.drop_zero, HQQ.out] at HS
      obtain ⟨as_, cs, rfl, -⟩ := id HS.out
      rw [show ((0 : Nat) : Int) - 1 = -1 by omega]
      go_wp2_with fail
      refine (H24.out _ HB4.out).mono ?_
      rintro e w5 ⟨rfl, hb5⟩
      have HB5 : Hid (Below w.heap.size w w5) := below_trans HB4.out hb5
      have HC5 : Hid (Calls Tryz.prog 25 _ _ _) := H25.out w5 _ _ (HX4.out.on hb5) (HY4.out.on hb5)
      have HZ5 : Hid (IntsAt w5 (.slice az lo.length cz) lo) := HZ4.out.on hb5
      have HN5 : Hid (IntsAt w5 (.slice as_ lo.length cs) lo) := HS.out.on hb5
      clear hb5
      go_wp2_with fail
      refine HC5.out.mono ?_
      rintro e w6 ⟨rfl, hb6⟩
      have HB6 : Hid (Below w.heap.size w w6) := below_trans HB5.out hb6
      have HC6 : Hid (Calls Tryz.prog 19 _ _ _) := H19.out w6 (.slice az lo.length cz) (.slice as_ lo.length cs) (HZ5.out.on hb6) (HN5.out.on hb6)
      clear hb6
      go_wp2_with fail
      refine HC6.out.mono ?_
      rintro e w7 ⟨rfl, hb7⟩
      have HB7 : Hid (Below w.heap.size w w7) := below_trans HB6.out hb7
      clear hb7
      go_wp2
      go_ret
      exact ⟨rfl, HB7.out⟩
set_option maxRecDepth 100000 in
set_option maxHeartbeats 8000000 in
theorem builds_ok_L (v u : Value) (ns : List Pl.Nd) (l : List Pl.Er) (kind : Int) (name : List UInt8) (w : World) (hv : DocAt w v ns) (hl : EnsAt w u l) (hz : ∀ e ∈ l, e.2.length * 8 ≤ 140737488351232) (hL : Laid w) (hD : Pl.checkDoc ns = 0) (k0 : ¬ kind < 1) (k1 : ¬ 3 < kind) (k2 : ¬ 512 < l.length) :
    Calls Tryz.prog 5 #[.agg #[v], u, .int .i64 kind, .string ⟨name.toArray⟩] w fun e w' => e = .returned (.bool true) ∧ Below w.heap.size w w' := by
  have hle : lookErr l kind = 0 := by unfold lookErr; rw [if_neg (by omega), if_neg k2]
  have hlo : lookOf l kind name = lookIn (kind, name) l := by unfold lookOf; rw [hle]; rfl
  obtain ⟨b, o, cv, rfl, hRD, -, -, -⟩ := doc_parts hv hD
  obtain ⟨al, cl, rfl, hcl⟩ := id hl
  have HB0 : Hid (Below w.heap.size w (w.alloc (.cells #[.slice (some ⟨b, o, none⟩) ns.length cv] 24))) := on_alloc _ _
  have c0 : (w.alloc (.cells #[.slice (some ⟨b, o, none⟩) ns.length cv] 24)).cell? ⟨w.heap.size, 0, none⟩ = some (.slice (some ⟨b, o, none⟩) ns.length cv) := by simp [go_sem]
  have H20 : Hid (∀ W, Below w.heap.size w W → Calls Tryz.prog 20 #[.agg #[.slice (some ⟨b, o, none⟩) ns.length cv]] W fun e w' => ∃ a c, e = .returned (.tuple #[.slice a (Pl.idxAns ns).length c, .int .i64 (0)]) ∧ EnsAt w' (.slice a (Pl.idxAns ns).length c) (Pl.idxAns ns) ∧ Below W.heap.size W w') := fun W hW => by
    refine (build_any _ ns W (hv.on hW)).mono ?_
    rintro e w' ⟨x, rfl, hx, hb⟩
    obtain ⟨a, c, rfl, -⟩ := id hx
    exact ⟨a, c, by rw [hD], hx, hb⟩
  have H21 : Hid (∀ W, Below w.heap.size w W → Calls Tryz.prog 21 #[.agg #[.slice (some ⟨b, o, none⟩) ns.length cv]] W fun e w' => e = .returned (.int .i64 (0)) ∧ Below W.heap.size W w') := fun W hW => by
    have := refCheck_any _ ns W hv.2.2 (hv.1.on hW)
    rw [hD] at this
    exact this
  have H22 : Hid (∀ W, Below w.heap.size w W → Calls Tryz.prog 22 #[.agg #[.slice (some ⟨b, o, none⟩) ns.length cv]] W fun e w' => ∃ a c, e = .returned (.slice a (Pl.idxAns ns).length c) ∧ EnsAt w' (.slice a (Pl.idxAns ns).length c) (Pl.idxAns ns) ∧ Below W.heap.size W w') := fun W hW => by
    refine (idxOf_any b o cv ns W hRD.n64 (fun x hx => (check_short hD x hx).1) (hRD.on hW).at_).mono ?_
    rintro e w' ⟨x, ps, rfl, hrow, hm, hb⟩
    have h1 := hrow.ens
    rw [ref_idx hD hm] at h1
    obtain ⟨a, c, rfl, -⟩ := id h1
    exact ⟨a, c, rfl, h1, hb⟩
  have H23 : Hid (∀ W, Below w.heap.size w W → Calls Tryz.prog 23 #[.slice al l.length cl, .int .i64 kind, .string ⟨name.toArray⟩] W fun e w' => ∃ a c, e = .returned (.tuple #[.slice a (lookIn (kind, name) l).length c, .int .i64 0]) ∧ IntsAt w' (.slice a (lookIn (kind, name) l).length c) (lookIn (kind, name) l) ∧ Below W.heap.size W w') := fun W hW => by
    refine (look_any _ l kind name W (hl.on hW) hz).mono ?_
    rintro e w' ⟨x, rfl, hx, hb⟩
    rw [hlo] at hx
    obtain ⟨a, c, rfl, -⟩ := id hx
    exact ⟨a, c, by rw [hle], hx, hb⟩
  have H24 : Hid (∀ W, Below w.heap.size w W → Calls Tryz.prog 24 #[] W fun e w' => e = .returned (.bool true) ∧ Below W.heap.size W w') := fun W hW => ixbegun_any W (hL.on hW)
  have H25 : Hid (∀ W v1 v2, EnsAt W v1 (Pl.idxAns ns) → EnsAt W v2 (Pl.idxAns ns) → Calls Tryz.prog 25 #[v1, v2] W fun e w' => e = .returned (.bool true) ∧ Below W.heap.size W w') := fun W v1 v2 h1 h2 => by
    refine (sameIndexes_any v1 v2 _ _ W (ix_ans ns).1 (ix_ans ns).2 h1 h2).mono ?_
    rintro e w' ⟨rfl, hd⟩
    exact ⟨by unfold sameE; rw [decide_eq_true rfl], hd.below⟩
  have H19 : Hid (∀ W v1 v2, IntsAt W v1 (lookIn (kind, name) l) → IntsAt W v2 (lookIn (kind, name) l) → Calls Tryz.prog 19 #[v1, v2] W fun e w' => e = .returned (.bool true) ∧ Below W.heap.size W w') := fun W v1 v2 h1 h2 => by
    refine (sameInts_any v1 v2 _ _ W (look_len hz) h1 h2).mono ?_
    rintro e w' ⟨rfl, hd⟩
    exact ⟨by unfold sameI; rw [decide_eq_true rfl], hd.below⟩
  have HCL : Hid _ := hcl
  have hl5 : l.length ≤ 512 := by omega
  have k3 : ¬ (512 : Int) < (l.length : Int) := by omega
  clear hv hl hz hL hD hle hlo hcl hRD k2
  generalize Pl.idxAns ns = iL at *
  generalize hqq : lookIn (kind, name) l = lo at *
  have HQQ : Hid _ := hqq
  clear hqq
  go_enter Tryz.func5, Tryz.ntmps5
  go_wp2_with fail
  generalize w.alloc (.cells #[.slice (some ⟨b, o, none⟩) ns.length cv] 24) = w0 at *
  refine (H20.out _ HB0.out).mono ?_
  rintro e w1 ⟨ax, cx, rfl, hx1, hb1⟩
  have HB1 : Hid (Below w.heap.size w w1) := below_trans HB0.out hb1
  have c1 := cell_on hb1 c0
  have HX1 : Hid (EnsAt w1 (.slice ax iL.length cx) iL) := hx1
  clear hx1 hb1 c0 HB0
  go_wp2_with fail
  refine (H21.out _ HB1.out).mono ?_
  rintro e w2 ⟨rfl, hb2⟩
  have HB2 : Hid (Below w.heap.size w w2) := below_trans HB1.out hb2
  have c2 := cell_on hb2 c1
  have HX2 : Hid (EnsAt w2 (.slice ax iL.length cx) iL) := HX1.out.on hb2
  clear hb2 c1 HB1 HX1
  go_wp2_with fail
  refine (H22.out _ HB2.out).mono ?_
  rintro e w3 ⟨ay, cy, rfl, hy3, hb3⟩
  have HB3 : Hid (Below w.heap.size w w3) := below_trans HB2.out hb3
  have HX3 : Hid (EnsAt w3 (.slice ax iL.length cx) iL) := HX2.out.on hb3
  have HY3 : Hid (EnsAt w3 (.slice ay iL.length cy) iL) := hy3
  clear hy3 hb3 c2 HB2 HX2
  go_wp2_with fail
  refine (H23.out _ HB3.out).mono ?_
  rintro e w4 ⟨az, cz, rfl, hz4, hb4⟩
  have HB4 : Hid (Below w.heap.size w w4) := below_trans HB3.out hb4
  have HX4 : Hid (EnsAt w4 (.slice ax iL.length cx) iL) := HX3.out.on hb4
  have HY4 : Hid (EnsAt w4 (.slice ay iL.length cy) iL) := HY3.out.on hb4
  have HZ4 : Hid (IntsAt w4 (.slice az lo.length cz) lo) := hz4
  clear hz4 hb4 HB3 HX3 HY3
  go_wp2
  clear k3 k0 k1
  go_loopw [16, 17] (fun s i wr => ∃ j : Nat, j ≤ l.length ∧ i = .int .i64 ((j : Int) - 1) ∧ wr = w4 ∧ Hid (IntsAt w4 s (lookIn (kind, name) (l.drop j)))) (fun _ i _ => (intOf i + 1).toNat)
  case atStart => exact ⟨l.length, Nat.le_refl _, by go_num, rfl, by unfold Hid; rw [List.drop_length]; exact ⟨none, 0, rfl, Or.inl rfl⟩⟩
  case round =>
    obtain ⟨j, hj, rfl, rfl, HS⟩ := hrel
    cases j with
    | succ j =>
      obtain ⟨as_, cs, rfl, -⟩ := id HS.out
      generalize hqn : (lookIn (kind, name) (l.drop (j + 1))).length = qn at *
      have HQN : Hid _ := hqn
      clear hqn
      have hlt : j < l.length := by omega
      rcases HCL.out with h0 | ⟨b5, o5, rfl, hc5⟩
      · subst h0; simp at hlt
      obtain ⟨vi, n0, n1, n2, n3⟩ := (hc5 j hlt).on HB4.out
      have HH : Hid (l[j].1 = (kind, name) → lookIn (kind, name) (l.drop j) = l[j].2) := fun he => look_hit hlt he
      have HM : Hid (l[j].1 ≠ (kind, name) → lookIn (kind, name) (l.drop j) = lookIn (kind, name) (l.drop (j + 1))) := fun he => look_miss hlt he
      obtain ⟨ai, ci, rfl, _⟩ := id n3
      have N3 : Hid (IntsAt _ _ _) := n3
      rw [show ((j + 1 : Nat) : Int) - 1 = (j : Int) by omega]
      have i1 : (0 : Int) ≤ (j : Int) := by omega
      have i2 : (j : Int) < (l.length : Int) := by omega
      clear hc5 n3 hj
      generalize l[j] = x at *
      obtain ⟨⟨x1, s1⟩, q1⟩ := x
      dsimp only at n0 n1 n2 N3
      by_cases e1 : x1 = kind
      · by_cases e2 : s1 = name
        · subst e1
          subst e2
          have HL : Hid (lookIn (x1, s1) (l.drop j) = q1) := HH.out rfl
          clear HH HM
          go_wp2
          exact ⟨⟨j, by omega, by go_num, by trivial, by unfold Hid; rw [HL.out]; exact N3.out⟩, by first | (simp [intOf]; done) | (simp [intOf]; omega)⟩
        · have HM2 : Hid _ := HM.out (by intro e; injection e with _ e4; exact e2 e4)
          have e5 : (s1 == name) = false := by simpa using e2
          clear e2
          subst e1
          go_wp2
          exact ⟨⟨j, by omega, by go_num, by trivial, by unfold Hid; rw [HM2.out]; exact HS.out⟩, by first | (simp [intOf]; done) | (simp [intOf]; omega)⟩
      · have HM2 : Hid _ := HM.out (by intro e; injection e with e3 _; exact e1 e3)
        go_wp2
        exact ⟨⟨j, by omega, by go_num, by trivial, by unfold Hid; rw [HM2.out]; exact HS.out⟩, by first | (simp [intOf]; done) | (simp [intOf]; omega)⟩
    | zero =>
      rw [List.drop_zero, HQQ.out] at HS
      obtain ⟨as_, cs, rfl, -⟩ := id HS.out
      rw [show ((0 : Nat) : Int) - 1 = -1 by omega]
      go_wp2_with fail
      refine (H24.out _ HB4.out).mono ?_
      rintro e w5 ⟨rfl, hb5⟩
      have HB5 : Hid (Below w.heap.size w w5) := below_trans HB4.out hb5
      have HC5 : Hid (Calls Tryz.prog 25 _ _ _) := H25.out w5 _ _ (HX4.out.on hb5) (HY4.out.on hb5)
      have HZ5 : Hid (IntsAt w5 (.slice az lo.length cz) lo) := HZ4.out.on hb5
      have HN5 : Hid (IntsAt w5 (.slice as_ lo.length cs) lo) := HS.out.on hb5
      clear hb5
      go_wp2_with fail
      refine HC5.out.mono ?_
      rintro e w6 ⟨rfl, hb6⟩
      have HB6 : Hid (Below w.heap.size w w6) := below_trans HB5.out hb6
      have HC6 : Hid (Calls Tryz.prog 19 _ _ _) := H19.out w6 (.slice az lo.length cz) (.slice as_ lo.length cs) (HZ5.out.on hb6) (HN5.out.on hb6)
      clear hb6
      go_wp2_with fail
      refine HC6.out.mono ?_
      rintro e w7 ⟨rfl, hb7⟩
      have HB7 : Hid (Below w.heap.size w w7) := below_trans HB6.out hb7
      clear hb7
      go_wp2
      go_ret
      exact ⟨rfl, HB7.out⟩
theorem builds_law (v u : Value) (ns : List Pl.Nd) (l : List Pl.Er) (kind : Int) (name : List UInt8) (w : World) (hv : DocAt w v ns) (hl : EnsAt w u l) (hz : ∀ e ∈ l, e.2.length * 8 ≤ 140737488351232) (hL : Laid w) :
    Calls Tryz.prog 5 #[.agg #[v], u, .int .i64 kind, .string ⟨name.toArray⟩] w fun e w' => e = .returned (.bool true) ∧ Below w.heap.size w w' := by
  by_cases hD : Pl.checkDoc ns = 0 <;> by_cases k0 : kind < 1
  · exact builds_ok_K0 v u ns l kind name w hv hl hz hL hD k0
  · by_cases k1 : 3 < kind
    · exact builds_ok_K1 v u ns l kind name w hv hl hz hL hD k0 k1
    · by_cases k2 : 512 < l.length
      · exact builds_ok_M v u ns l kind name w hv hl hz hL hD k0 k1 k2
      · exact builds_ok_L v u ns l kind name w hv hl hz hL hD k0 k1 k2
  · exact builds_bad_K0 v u ns l kind name w hv hl hz hL hD k0
  · by_cases k1 : 3 < kind
    · exact builds_bad_K1 v u ns l kind name w hv hl hz hL hD k0 k1
    · by_cases k2 : 512 < l.length
      · exact builds_bad_M v u ns l kind name w hv hl hz hL hD k0 k1 k2
      · exact builds_bad_L v u ns l kind name w hv hl hz hL hD k0 k1 k2
end Go.Proofs.YtagobgjlhdbhmaaGreatDoor
