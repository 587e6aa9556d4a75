/-
  IndexBuilds: the law, where nothing is looked up.
-/
import Derived.Test.YtagobgjlhdbhmaaGreatDoorFdT
namespace Go.Proofs.YtagobgjlhdbhmaaGreatDoor
open Go.RowKit

theorem look_len {l : List Pl.Er} {k : Pl.Key} (h : ∀ e ∈ l, e.2.length * 8 ≤ 140737488351232) : (lookIn k l).length ≤ maxLen := by
  induction l with
  | nil => simp [lookIn]
  | cons x r ih =>
    unfold lookIn
    split
    · have := h x List.mem_cons_self
      unfold maxLen
      omega
    · exact ih fun e he => h e (List.mem_cons_of_mem _ he)
set_option maxRecDepth 100000 in
set_option maxHeartbeats 8000000 in
theorem builds_bad_K0 (v u : Value) (ns : List Pl.Nd) (l : List Pl.Er) (kind : Int) (name : List UInt8) (w : World) (hv : DocAt w v ns) (hl : EnsAt w u l) (hz : ∀ e ∈ l, e.2.length * 8 ≤ 140737488351232) (hL : Laid w) (hD : Pl.checkDoc ns ≠ 0) (k0 : kind < 1) :
    Calls Tryz.prog 5 #[.agg #[v], u, .int .i64 kind, .string ⟨name.toArray⟩] w fun e w' => e = .returned (.bool true) ∧ Below w.heap.size w w' := by
  have hle : lookErr l kind = 4 := by unfold lookErr; rw [if_pos (Or.inl k0)]
  have hlo : lookOf l kind name = ([] : List Int) := by unfold lookOf; rw [hle]; rfl
  obtain ⟨av, cv, rfl, -⟩ := id hv.1
  obtain ⟨al, cl, rfl, hcl⟩ := id hl
  have HB0 : Hid (Below w.heap.size w (w.alloc (.cells #[.slice av ns.length cv] 24))) := on_alloc _ _
  have c0 : (w.alloc (.cells #[.slice av ns.length cv] 24)).cell? ⟨w.heap.size, 0, none⟩ = some (.slice av ns.length cv) := by simp [go_sem]
  have H20 : Hid (∀ W, Below w.heap.size w W → Calls Tryz.prog 20 #[.agg #[.slice av ns.length cv]] W fun e w' => ∃ a c, e = .returned (.tuple #[.slice a (Pl.idxAns ns).length c, .int .i64 (Pl.checkDoc ns)]) ∧ EnsAt w' (.slice a (Pl.idxAns ns).length c) (Pl.idxAns ns) ∧ Below W.heap.size W w') := fun W hW => by
    refine (build_any _ ns W (hv.on hW)).mono ?_
    rintro e w' ⟨x, rfl, hx, hb⟩
    obtain ⟨a, c, rfl, -⟩ := id hx
    exact ⟨a, c, rfl, hx, hb⟩
  have H21 : Hid (∀ W, Below w.heap.size w W → Calls Tryz.prog 21 #[.agg #[.slice av ns.length cv]] W fun e w' => e = .returned (.int .i64 (Pl.checkDoc ns)) ∧ Below W.heap.size W w') := fun W hW => by
    have := refCheck_any _ ns W hv.2.2 (hv.1.on hW)
    exact this
  have hin : Pl.idxAns ns = [] := by unfold Pl.idxAns; rw [if_neg hD]
  rw [hin] at H20
  have H23 : Hid (∀ W, Below w.heap.size w W → Calls Tryz.prog 23 #[.slice al l.length cl, .int .i64 kind, .string ⟨name.toArray⟩] W fun e w' => ∃ a c, e = .returned (.tuple #[.slice a (([] : List Int)).length c, .int .i64 4]) ∧ IntsAt w' (.slice a (([] : List Int)).length c) (([] : List Int)) ∧ Below W.heap.size W w') := fun W hW => by
    refine (look_any _ l kind name W (hl.on hW) hz).mono ?_
    rintro e w' ⟨x, rfl, hx, hb⟩
    rw [hlo] at hx
    obtain ⟨a, c, rfl, -⟩ := id hx
    exact ⟨a, c, by rw [hle], hx, hb⟩
  have H24 : Hid (∀ W, Below w.heap.size w W → Calls Tryz.prog 24 #[] W fun e w' => e = .returned (.bool true) ∧ Below W.heap.size W w') := fun W hW => ixbegun_any W (hL.on hW)
  have H25 : Hid (∀ W v1 v2, EnsAt W v1 ([] : List Pl.Er) → EnsAt W v2 ([] : List Pl.Er) → Calls Tryz.prog 25 #[v1, v2] W fun e w' => e = .returned (.bool true) ∧ Below W.heap.size W w') := fun W v1 v2 h1 h2 => by
    refine (sameIndexes_any v1 v2 _ _ W (by simp) (by simp) h1 h2).mono ?_
    rintro e w' ⟨rfl, hd⟩
    exact ⟨by unfold sameE; rw [decide_eq_true rfl], hd.below⟩
  have H19 : Hid (∀ W v1 v2, IntsAt W v1 (([] : List Int)) → IntsAt W v2 (([] : List Int)) → Calls Tryz.prog 19 #[v1, v2] W fun e w' => e = .returned (.bool true) ∧ Below W.heap.size W w') := fun W v1 v2 h1 h2 => by
    refine (sameInts_any v1 v2 _ _ W (by simp) h1 h2).mono ?_
    rintro e w' ⟨rfl, hd⟩
    exact ⟨by unfold sameI; rw [decide_eq_true rfl], hd.below⟩
  have r1 : (Pl.checkDoc ns == 0) = false := by simpa using hD
  have r2 : ¬ Pl.checkDoc ns = 0 := hD
  clear hv hl hz hL hD hle hlo hcl hin
  generalize Pl.checkDoc ns = r at *
  go_enter Tryz.func5, Tryz.ntmps5
  go_wp2_with fail
  generalize w.alloc (.cells #[.slice av ns.length cv] 24) = w0 at *
  refine (H20.out _ HB0.out).mono ?_
  rintro e w1 ⟨ax, cx, rfl, hx1, hb1⟩
  have HB1 : Hid (Below w.heap.size w w1) := below_trans HB0.out hb1
  have c1 := cell_on hb1 c0
  have HX1 : Hid (EnsAt w1 (.slice ax 0 cx) ([] : List Pl.Er)) := hx1
  clear hx1 hb1 c0 HB0
  go_wp2_with fail
  refine (H21.out _ HB1.out).mono ?_
  rintro e w2 ⟨rfl, hb2⟩
  have HB2 : Hid (Below w.heap.size w w2) := below_trans HB1.out hb2
  have c2 := cell_on hb2 c1
  have HX2 : Hid (EnsAt w2 (.slice ax 0 cx) ([] : List Pl.Er)) := HX1.out.on hb2
  clear hb2 c1 HB1 HX1
  have HY2 : Hid (EnsAt w2 (.slice none 0 0) ([] : List Pl.Er)) := EnsAt.nil _
  go_wp2_with fail
  refine (H23.out _ HB2.out).mono ?_
  rintro e w4 ⟨az, cz, rfl, hz4, hb4⟩
  have HB4 : Hid (Below w.heap.size w w4) := below_trans HB2.out hb4
  have HX4 : Hid (EnsAt w4 (.slice ax 0 cx) ([] : List Pl.Er)) := HX2.out.on hb4
  have HY4 : Hid (EnsAt w4 (.slice none 0 0) ([] : List Pl.Er)) := HY2.out.on hb4
  have HZ4 : Hid (IntsAt w4 (.slice az 0 cz) []) := hz4
  clear hz4 hb4 HB2 HX2 HY2
  go_wp2_with fail
  refine (H24.out _ HB4.out).mono ?_
  rintro e w5 ⟨rfl, hb5⟩
  have HB5 : Hid (Below w.heap.size w w5) := below_trans HB4.out hb5
  have HC5 : Hid (Calls Tryz.prog 25 _ _ _) := H25.out w5 _ _ (HX4.out.on hb5) (HY4.out.on hb5)
  have HZ5 : Hid (IntsAt w5 (.slice az 0 cz) []) := HZ4.out.on hb5
  clear hb5
  go_wp2_with fail
  refine HC5.out.mono ?_
  rintro e w6 ⟨rfl, hb6⟩
  have HB6 : Hid (Below w.heap.size w w6) := below_trans HB5.out hb6
  have HC6 : Hid (Calls Tryz.prog 19 _ _ _) := H19.out w6 (.slice az 0 cz) (.slice none 0 0) (HZ5.out.on hb6) ⟨none, 0, rfl, Or.inl rfl⟩
  clear hb6
  go_wp2_with fail
  refine HC6.out.mono ?_
  rintro e w7 ⟨rfl, hb7⟩
  have HB7 : Hid (Below w.heap.size w w7) := below_trans HB6.out hb7
  clear hb7
  go_wp2
  go_ret
  exact ⟨rfl, HB7.out⟩
set_option maxRecDepth 100000 in
set_option maxHeartbeats 8000000 in
theorem builds_bad_K1 (v u : Value) (ns : List Pl.Nd) (l : List Pl.Er) (kind : Int) (name : List UInt8) (w : World) (hv : DocAt w v ns) (hl : EnsAt w u l) (hz : ∀ e ∈ l, e.2.length * 8 ≤ 140737488351232) (hL : Laid w) (hD : Pl.checkDoc ns ≠ 0) (k0 : ¬ kind < 1) (k1 : 3 < kind) :
    Calls Tryz.prog 5 #[.agg #[v], u, .int .i64 kind, .string ⟨name.toArray⟩] w fun e w' => e = .returned (.bool true) ∧ Below w.heap.size w w' := by
  have hle : lookErr l kind = 4 := by unfold lookErr; rw [if_pos (Or.inr k1)]
  have hlo : lookOf l kind name = ([] : List Int) := by unfold lookOf; rw [hle]; rfl
  obtain ⟨av, cv, rfl, -⟩ := id hv.1
  obtain ⟨al, cl, rfl, hcl⟩ := id hl
  have HB0 : Hid (Below w.heap.size w (w.alloc (.cells #[.slice av ns.length cv] 24))) := on_alloc _ _
  have c0 : (w.alloc (.cells #[.slice av ns.length cv] 24)).cell? ⟨w.heap.size, 0, none⟩ = some (.slice av ns.length cv) := by simp [go_sem]
  have H20 : Hid (∀ W, Below w.heap.size w W → Calls Tryz.prog 20 #[.agg #[.slice av ns.length cv]] W fun e w' => ∃ a c, e = .returned (.tuple #[.slice a (Pl.idxAns ns).length c, .int .i64 (Pl.checkDoc ns)]) ∧ EnsAt w' (.slice a (Pl.idxAns ns).length c) (Pl.idxAns ns) ∧ Below W.heap.size W w') := fun W hW => by
    refine (build_any _ ns W (hv.on hW)).mono ?_
    rintro e w' ⟨x, rfl, hx, hb⟩
    obtain ⟨a, c, rfl, -⟩ := id hx
    exact ⟨a, c, rfl, hx, hb⟩
  have H21 : Hid (∀ W, Below w.heap.size w W → Calls Tryz.prog 21 #[.agg #[.slice av ns.length cv]] W fun e w' => e = .returned (.int .i64 (Pl.checkDoc ns)) ∧ Below W.heap.size W w') := fun W hW => by
    have := refCheck_any _ ns W hv.2.2 (hv.1.on hW)
    exact this
  have hin : Pl.idxAns ns = [] := by unfold Pl.idxAns; rw [if_neg hD]
  rw [hin] at H20
  have H23 : Hid (∀ W, Below w.heap.size w W → Calls Tryz.prog 23 #[.slice al l.length cl, .int .i64 kind, .string ⟨name.toArray⟩] W fun e w' => ∃ a c, e = .returned (.tuple #[.slice a (([] : List Int)).length c, .int .i64 4]) ∧ IntsAt w' (.slice a (([] : List Int)).length c) (([] : List Int)) ∧ Below W.heap.size W w') := fun W hW => by
    refine (look_any _ l kind name W (hl.on hW) hz).mono ?_
    rintro e w' ⟨x, rfl, hx, hb⟩
    rw [hlo] at hx
    obtain ⟨a, c, rfl, -⟩ := id hx
    exact ⟨a, c, by rw [hle], hx, hb⟩
  have H24 : Hid (∀ W, Below w.heap.size w W → Calls Tryz.prog 24 #[] W fun e w' => e = .returned (.bool true) ∧ Below W.heap.size W w') := fun W hW => ixbegun_any W (hL.on hW)
  have H25 : Hid (∀ W v1 v2, EnsAt W v1 ([] : List Pl.Er) → EnsAt W v2 ([] : List Pl.Er) → Calls Tryz.prog 25 #[v1, v2] W fun e w' => e = .returned (.bool true) ∧ Below W.heap.size W w') := fun W v1 v2 h1 h2 => by
    refine (sameIndexes_any v1 v2 _ _ W (by simp) (by simp) h1 h2).mono ?_
    rintro e w' ⟨rfl, hd⟩
    exact ⟨by unfold sameE; rw [decide_eq_true rfl], hd.below⟩
  have H19 : Hid (∀ W v1 v2, IntsAt W v1 (([] : List Int)) → IntsAt W v2 (([] : List Int)) → Calls Tryz.prog 19 #[v1, v2] W fun e w' => e = .returned (.bool true) ∧ Below W.heap.size W w') := fun W v1 v2 h1 h2 => by
    refine (sameInts_any v1 v2 _ _ W (by simp) h1 h2).mono ?_
    rintro e w' ⟨rfl, hd⟩
    exact ⟨by unfold sameI; rw [decide_eq_true rfl], hd.below⟩
  have r1 : (Pl.checkDoc ns == 0) = false := by simpa using hD
  have r2 : ¬ Pl.checkDoc ns = 0 := hD
  clear hv hl hz hL hD hle hlo hcl hin
  generalize Pl.checkDoc ns = r at *
  go_enter Tryz.func5, Tryz.ntmps5
  go_wp2_with fail
  generalize w.alloc (.cells #[.slice av ns.length cv] 24) = w0 at *
  refine (H20.out _ HB0.out).mono ?_
  rintro e w1 ⟨ax, cx, rfl, hx1, hb1⟩
  have HB1 : Hid (Below w.heap.size w w1) := below_trans HB0.out hb1
  have c1 := cell_on hb1 c0
  have HX1 : Hid (EnsAt w1 (.slice ax 0 cx) ([] : List Pl.Er)) := hx1
  clear hx1 hb1 c0 HB0
  go_wp2_with fail
  refine (H21.out _ HB1.out).mono ?_
  rintro e w2 ⟨rfl, hb2⟩
  have HB2 : Hid (Below w.heap.size w w2) := below_trans HB1.out hb2
  have c2 := cell_on hb2 c1
  have HX2 : Hid (EnsAt w2 (.slice ax 0 cx) ([] : List Pl.Er)) := HX1.out.on hb2
  clear hb2 c1 HB1 HX1
  have HY2 : Hid (EnsAt w2 (.slice none 0 0) ([] : List Pl.Er)) := EnsAt.nil _
  go_wp2_with fail
  refine (H23.out _ HB2.out).mono ?_
  rintro e w4 ⟨az, cz, rfl, hz4, hb4⟩
  have HB4 : Hid (Below w.heap.size w w4) := below_trans HB2.out hb4
  have HX4 : Hid (EnsAt w4 (.slice ax 0 cx) ([] : List Pl.Er)) := HX2.out.on hb4
  have HY4 : Hid (EnsAt w4 (.slice none 0 0) ([] : List Pl.Er)) := HY2.out.on hb4
  have HZ4 : Hid (IntsAt w4 (.slice az 0 cz) []) := hz4
  clear hz4 hb4 HB2 HX2 HY2
  go_wp2_with fail
  refine (H24.out _ HB4.out).mono ?_
  rintro e w5 ⟨rfl, hb5⟩
  have HB5 : Hid (Below w.heap.size w w5) := below_trans HB4.out hb5
  have HC5 : Hid (Calls Tryz.prog 25 _ _ _) := H25.out w5 _ _ (HX4.out.on hb5) (HY4.out.on hb5)
  have HZ5 : Hid (IntsAt w5 (.slice az 0 cz) []) := HZ4.out.on hb5
  clear hb5
  go_wp2_with fail
  refine HC5.out.mono ?_
  rintro e w6 ⟨rfl, hb6⟩
  have HB6 : Hid (Below w.heap.size w w6) := below_trans HB5.out hb6
  have HC6 : Hid (Calls Tryz.prog 19 _ _ _) := H19.out w6 (.slice az 0 cz) (.slice none 0 0) (HZ5.out.on hb6) ⟨none, 0, rfl, Or.inl rfl⟩
  clear hb6
  go_wp2_with fail
  refine HC6.out.mono ?_
  rintro e w7 ⟨rfl, hb7⟩
  have HB7 : Hid (Below w.heap.size w w7) := below_trans HB6.out hb7
  clear hb7
  go_wp2
  go_ret
  exact ⟨rfl, HB7.out⟩
set_option maxRecDepth 100000 in
set_option maxHeartbeats 8000000 in
theorem builds_bad_M (v u : Value) (ns : List Pl.Nd) (l : List Pl.Er) (kind : Int) (name : List UInt8) (w : World) (hv : DocAt w v ns) (hl : EnsAt w u l) (hz : ∀ e ∈ l, e.2.length * 8 ≤ 140737488351232) (hL : Laid w) (hD : Pl.checkDoc ns ≠ 0) (k0 : ¬ kind < 1) (k1 : ¬ 3 < kind) (k2 : 512 < l.length) :
    Calls Tryz.prog 5 #[.agg #[v], u, .int .i64 kind, .string ⟨name.toArray⟩] w fun e w' => e = .returned (.bool true) ∧ Below w.heap.size w w' := by
  have hle : lookErr l kind = 2 := by unfold lookErr; rw [if_neg (by omega), if_pos k2]
  have hlo : lookOf l kind name = ([] : List Int) := by unfold lookOf; rw [hle]; rfl
  obtain ⟨av, cv, rfl, -⟩ := id hv.1
  obtain ⟨al, cl, rfl, hcl⟩ := id hl
  have HB0 : Hid (Below w.heap.size w (w.alloc (.cells #[.slice av ns.length cv] 24))) := on_alloc _ _
  have c0 : (w.alloc (.cells #[.slice av ns.length cv] 24)).cell? ⟨w.heap.size, 0, none⟩ = some (.slice av ns.length cv) := by simp [go_sem]
  have H20 : Hid (∀ W, Below w.heap.size w W → Calls Tryz.prog 20 #[.agg #[.slice av ns.length cv]] W fun e w' => ∃ a c, e = .returned (.tuple #[.slice a (Pl.idxAns ns).length c, .int .i64 (Pl.checkDoc ns)]) ∧ EnsAt w' (.slice a (Pl.idxAns ns).length c) (Pl.idxAns ns) ∧ Below W.heap.size W w') := fun W hW => by
    refine (build_any _ ns W (hv.on hW)).mono ?_
    rintro e w' ⟨x, rfl, hx, hb⟩
    obtain ⟨a, c, rfl, -⟩ := id hx
    exact ⟨a, c, rfl, hx, hb⟩
  have H21 : Hid (∀ W, Below w.heap.size w W → Calls Tryz.prog 21 #[.agg #[.slice av ns.length cv]] W fun e w' => e = .returned (.int .i64 (Pl.checkDoc ns)) ∧ Below W.heap.size W w') := fun W hW => by
    have := refCheck_any _ ns W hv.2.2 (hv.1.on hW)
    exact this
  have hin : Pl.idxAns ns = [] := by unfold Pl.idxAns; rw [if_neg hD]
  rw [hin] at H20
  have H23 : Hid (∀ W, Below w.heap.size w W → Calls Tryz.prog 23 #[.slice al l.length cl, .int .i64 kind, .string ⟨name.toArray⟩] W fun e w' => ∃ a c, e = .returned (.tuple #[.slice a (([] : List Int)).length c, .int .i64 2]) ∧ IntsAt w' (.slice a (([] : List Int)).length c) (([] : List Int)) ∧ Below W.heap.size W w') := fun W hW => by
    refine (look_any _ l kind name W (hl.on hW) hz).mono ?_
    rintro e w' ⟨x, rfl, hx, hb⟩
    rw [hlo] at hx
    obtain ⟨a, c, rfl, -⟩ := id hx
    exact ⟨a, c, by rw [hle], hx, hb⟩
  have H24 : Hid (∀ W, Below w.heap.size w W → Calls Tryz.prog 24 #[] W fun e w' => e = .returned (.bool true) ∧ Below W.heap.size W w') := fun W hW => ixbegun_any W (hL.on hW)
  have H25 : Hid (∀ W v1 v2, EnsAt W v1 ([] : List Pl.Er) → EnsAt W v2 ([] : List Pl.Er) → Calls Tryz.prog 25 #[v1, v2] W fun e w' => e = .returned (.bool true) ∧ Below W.heap.size W w') := fun W v1 v2 h1 h2 => by
    refine (sameIndexes_any v1 v2 _ _ W (by simp) (by simp) h1 h2).mono ?_
    rintro e w' ⟨rfl, hd⟩
    exact ⟨by unfold sameE; rw [decide_eq_true rfl], hd.below⟩
  have H19 : Hid (∀ W v1 v2, IntsAt W v1 (([] : List Int)) → IntsAt W v2 (([] : List Int)) → Calls Tryz.prog 19 #[v1, v2] W fun e w' => e = .returned (.bool true) ∧ Below W.heap.size W w') := fun W v1 v2 h1 h2 => by
    refine (sameInts_any v1 v2 _ _ W (by simp) h1 h2).mono ?_
    rintro e w' ⟨rfl, hd⟩
    exact ⟨by unfold sameI; rw [decide_eq_true rfl], hd.below⟩
  have k3 : (512 : Int) < (l.length : Int) := by omega
  have r1 : (Pl.checkDoc ns == 0) = false := by simpa using hD
  have r2 : ¬ Pl.checkDoc ns = 0 := hD
  clear hv hl hz hL hD hle hlo hcl hin k2
  generalize Pl.checkDoc ns = r at *
  go_enter Tryz.func5, Tryz.ntmps5
  go_wp2_with fail
  generalize w.alloc (.cells #[.slice av ns.length cv] 24) = w0 at *
  refine (H20.out _ HB0.out).mono ?_
  rintro e w1 ⟨ax, cx, rfl, hx1, hb1⟩
  have HB1 : Hid (Below w.heap.size w w1) := below_trans HB0.out hb1
  have c1 := cell_on hb1 c0
  have HX1 : Hid (EnsAt w1 (.slice ax 0 cx) ([] : List Pl.Er)) := hx1
  clear hx1 hb1 c0 HB0
  go_wp2_with fail
  refine (H21.out _ HB1.out).mono ?_
  rintro e w2 ⟨rfl, hb2⟩
  have HB2 : Hid (Below w.heap.size w w2) := below_trans HB1.out hb2
  have c2 := cell_on hb2 c1
  have HX2 : Hid (EnsAt w2 (.slice ax 0 cx) ([] : List Pl.Er)) := HX1.out.on hb2
  clear hb2 c1 HB1 HX1
  have HY2 : Hid (EnsAt w2 (.slice none 0 0) ([] : List Pl.Er)) := EnsAt.nil _
  go_wp2_with fail
  refine (H23.out _ HB2.out).mono ?_
  rintro e w4 ⟨az, cz, rfl, hz4, hb4⟩
  have HB4 : Hid (Below w.heap.size w w4) := below_trans HB2.out hb4
  have HX4 : Hid (EnsAt w4 (.slice ax 0 cx) ([] : List Pl.Er)) := HX2.out.on hb4
  have HY4 : Hid (EnsAt w4 (.slice none 0 0) ([] : List Pl.Er)) := HY2.out.on hb4
  have HZ4 : Hid (IntsAt w4 (.slice az 0 cz) []) := hz4
  clear hz4 hb4 HB2 HX2 HY2
  go_wp2_with fail
  refine (H24.out _ HB4.out).mono ?_
  rintro e w5 ⟨rfl, hb5⟩
  have HB5 : Hid (Below w.heap.size w w5) := below_trans HB4.out hb5
  have HC5 : Hid (Calls Tryz.prog 25 _ _ _) := H25.out w5 _ _ (HX4.out.on hb5) (HY4.out.on hb5)
  have HZ5 : Hid (IntsAt w5 (.slice az 0 cz) []) := HZ4.out.on hb5
  clear hb5
  go_wp2_with fail
  refine HC5.out.mono ?_
  rintro e w6 ⟨rfl, hb6⟩
  have HB6 : Hid (Below w.heap.size w w6) := below_trans HB5.out hb6
  have HC6 : Hid (Calls Tryz.prog 19 _ _ _) := H19.out w6 (.slice az 0 cz) (.slice none 0 0) (HZ5.out.on hb6) ⟨none, 0, rfl, Or.inl rfl⟩
  clear hb6
  go_wp2_with fail
  refine HC6.out.mono ?_
  rintro e w7 ⟨rfl, hb7⟩
  have HB7 : Hid (Below w.heap.size w w7) := below_trans HB6.out hb7
  clear hb7
  go_wp2
  go_ret
  exact ⟨rfl, HB7.out⟩
set_option maxRecDepth 100000 in
set_option maxHeartbeats 8000000 in
theorem builds_ok_K0 (v u : Value) (ns : List Pl.Nd) (l : List Pl.Er) (kind : Int) (name : List UInt8) (w : World) (hv : DocAt w v ns) (hl : EnsAt w u l) (hz : ∀ e ∈ l, e.2.length * 8 ≤ 140737488351232) (hL : Laid w) (hD : Pl.checkDoc ns = 0) (k0 : kind < 1) :
    Calls Tryz.prog 5 #[.agg #[v], u, .int .i64 kind, .string ⟨name.toArray⟩] w fun e w' => e = .returned (.bool true) ∧ Below w.heap.size w w' := by
  have hle : lookErr l kind = 4 := by unfold lookErr; rw [if_pos (Or.inl k0)]
  have hlo : lookOf l kind name = ([] : List Int) := by unfold lookOf; rw [hle]; rfl
  obtain ⟨b, o, cv, rfl, hRD, -, -, -⟩ := doc_parts hv hD
  obtain ⟨al, cl, rfl, hcl⟩ := id hl
  have HB0 : Hid (Below w.heap.size w (w.alloc (.cells #[.slice (some ⟨b, o, none⟩) ns.length cv] 24))) := on_alloc _ _
  have c0 : (w.alloc (.cells #[.slice (some ⟨b, o, none⟩) ns.length cv] 24)).cell? ⟨w.heap.size, 0, none⟩ = some (.slice (some ⟨b, o, none⟩) ns.length cv) := by simp [go_sem]
  have H20 : Hid (∀ W, Below w.heap.size w W → Calls Tryz.prog 20 #[.agg #[.slice (some ⟨b, o, none⟩) ns.length cv]] W fun e w' => ∃ a c, e = .returned (.tuple #[.slice a (Pl.idxAns ns).length c, .int .i64 (0)]) ∧ EnsAt w' (.slice a (Pl.idxAns ns).length c) (Pl.idxAns ns) ∧ Below W.heap.size W w') := fun W hW => by
    refine (build_any _ ns W (hv.on hW)).mono ?_
    rintro e w' ⟨x, rfl, hx, hb⟩
    obtain ⟨a, c, rfl, -⟩ := id hx
    exact ⟨a, c, by rw [hD], hx, hb⟩
  have H21 : Hid (∀ W, Below w.heap.size w W → Calls Tryz.prog 21 #[.agg #[.slice (some ⟨b, o, none⟩) ns.length cv]] W fun e w' => e = .returned (.int .i64 (0)) ∧ Below W.heap.size W w') := fun W hW => by
    have := refCheck_any _ ns W hv.2.2 (hv.1.on hW)
    rw [hD] at this
    exact this
  have H22 : Hid (∀ W, Below w.heap.size w W → Calls Tryz.prog 22 #[.agg #[.slice (some ⟨b, o, none⟩) ns.length cv]] W fun e w' => ∃ a c, e = .returned (.slice a (Pl.idxAns ns).length c) ∧ EnsAt w' (.slice a (Pl.idxAns ns).length c) (Pl.idxAns ns) ∧ Below W.heap.size W w') := fun W hW => by
    refine (idxOf_any b o cv ns W hRD.n64 (fun x hx => (check_short hD x hx).1) (hRD.on hW).at_).mono ?_
    rintro e w' ⟨x, ps, rfl, hrow, hm, hb⟩
    have h1 := hrow.ens
    rw [ref_idx hD hm] at h1
    obtain ⟨a, c, rfl, -⟩ := id h1
    exact ⟨a, c, rfl, h1, hb⟩
  have H23 : Hid (∀ W, Below w.heap.size w W → Calls Tryz.prog 23 #[.slice al l.length cl, .int .i64 kind, .string ⟨name.toArray⟩] W fun e w' => ∃ a c, e = .returned (.tuple #[.slice a (([] : List Int)).length c, .int .i64 4]) ∧ IntsAt w' (.slice a (([] : List Int)).length c) (([] : List Int)) ∧ Below W.heap.size W w') := fun W hW => by
    refine (look_any _ l kind name W (hl.on hW) hz).mono ?_
    rintro e w' ⟨x, rfl, hx, hb⟩
    rw [hlo] at hx
    obtain ⟨a, c, rfl, -⟩ := id hx
    exact ⟨a, c, by rw [hle], hx, hb⟩
  have H24 : Hid (∀ W, Below w.heap.size w W → Calls Tryz.prog 24 #[] W fun e w' => e = .returned (.bool true) ∧ Below W.heap.size W w') := fun W hW => ixbegun_any W (hL.on hW)
  have H25 : Hid (∀ W v1 v2, EnsAt W v1 (Pl.idxAns ns) → EnsAt W v2 (Pl.idxAns ns) → Calls Tryz.prog 25 #[v1, v2] W fun e w' => e = .returned (.bool true) ∧ Below W.heap.size W w') := fun W v1 v2 h1 h2 => by
    refine (sameIndexes_any v1 v2 _ _ W (ix_ans ns).1 (ix_ans ns).2 h1 h2).mono ?_
    rintro e w' ⟨rfl, hd⟩
    exact ⟨by unfold sameE; rw [decide_eq_true rfl], hd.below⟩
  have H19 : Hid (∀ W v1 v2, IntsAt W v1 (([] : List Int)) → IntsAt W v2 (([] : List Int)) → Calls Tryz.prog 19 #[v1, v2] W fun e w' => e = .returned (.bool true) ∧ Below W.heap.size W w') := fun W v1 v2 h1 h2 => by
    refine (sameInts_any v1 v2 _ _ W (by simp) h1 h2).mono ?_
    rintro e w' ⟨rfl, hd⟩
    exact ⟨by unfold sameI; rw [decide_eq_true rfl], hd.below⟩
  clear hv hl hz hL hD hle hlo hcl hRD
  generalize Pl.idxAns ns = iL at *
  go_enter Tryz.func5, Tryz.ntmps5
  go_wp2_with fail
  generalize w.alloc (.cells #[.slice (some ⟨b, o, none⟩) ns.length cv] 24) = w0 at *
  refine (H20.out _ HB0.out).mono ?_
  rintro e w1 ⟨ax, cx, rfl, hx1, hb1⟩
  have HB1 : Hid (Below w.heap.size w w1) := below_trans HB0.out hb1
  have c1 := cell_on hb1 c0
  have HX1 : Hid (EnsAt w1 (.slice ax iL.length cx) iL) := hx1
  clear hx1 hb1 c0 HB0
  go_wp2_with fail
  refine (H21.out _ HB1.out).mono ?_
  rintro e w2 ⟨rfl, hb2⟩
  have HB2 : Hid (Below w.heap.size w w2) := below_trans HB1.out hb2
  have c2 := cell_on hb2 c1
  have HX2 : Hid (EnsAt w2 (.slice ax iL.length cx) iL) := HX1.out.on hb2
  clear hb2 c1 HB1 HX1
  go_wp2_with fail
  refine (H22.out _ HB2.out).mono ?_
  rintro e w3 ⟨ay, cy, rfl, hy3, hb3⟩
  have HB3 : Hid (Below w.heap.size w w3) := below_trans HB2.out hb3
  have HX3 : Hid (EnsAt w3 (.slice ax iL.length cx) iL) := HX2.out.on hb3
  have HY3 : Hid (EnsAt w3 (.slice ay iL.length cy) iL) := hy3
  clear hy3 hb3 c2 HB2 HX2
  go_wp2_with fail
  refine (H23.out _ HB3.out).mono ?_
  rintro e w4 ⟨az, cz, rfl, hz4, hb4⟩
  have HB4 : Hid (Below w.heap.size w w4) := below_trans HB3.out hb4
  have HX4 : Hid (EnsAt w4 (.slice ax iL.length cx) iL) := HX3.out.on hb4
  have HY4 : Hid (EnsAt w4 (.slice ay iL.length cy) iL) := HY3.out.on hb4
  have HZ4 : Hid (IntsAt w4 (.slice az 0 cz) []) := hz4
  clear hz4 hb4 HB3 HX3 HY3
  go_wp2_with fail
  refine (H24.out _ HB4.out).mono ?_
  rintro e w5 ⟨rfl, hb5⟩
  have HB5 : Hid (Below w.heap.size w w5) := below_trans HB4.out hb5
  have HC5 : Hid (Calls Tryz.prog 25 _ _ _) := H25.out w5 _ _ (HX4.out.on hb5) (HY4.out.on hb5)
  have HZ5 : Hid (IntsAt w5 (.slice az 0 cz) []) := HZ4.out.on hb5
  clear hb5
  go_wp2_with fail
  refine HC5.out.mono ?_
  rintro e w6 ⟨rfl, hb6⟩
  have HB6 : Hid (Below w.heap.size w w6) := below_trans HB5.out hb6
  have HC6 : Hid (Calls Tryz.prog 19 _ _ _) := H19.out w6 (.slice az 0 cz) (.slice none 0 0) (HZ5.out.on hb6) ⟨none, 0, rfl, Or.inl rfl⟩
  clear hb6
  go_wp2_with fail
  refine HC6.out.mono ?_
  rintro e w7 ⟨rfl, hb7⟩
  have HB7 : Hid (Below w.heap.size w w7) := below_trans HB6.out hb7
  clear hb7
  go_wp2
  go_ret
  exact ⟨rfl, HB7.out⟩
set_option maxRecDepth 100000 in
set_option maxHeartbeats 8000000 in
theorem builds_ok_K1 (v u : Value) (ns : List Pl.Nd) (l : List Pl.Er) (kind : Int) (name : List UInt8) (w : World) (hv : DocAt w v ns) (hl : EnsAt w u l) (hz : ∀ e ∈ l, e.2.length * 8 ≤ 140737488351232) (hL : Laid w) (hD : Pl.checkDoc ns = 0) (k0 : ¬ kind < 1) (k1 : 3 < kind) :
    Calls Tryz.prog 5 #[.agg #[v], u, .int .i64 kind, .string ⟨name.toArray⟩] w fun e w' => e = .returned (.bool true) ∧ Below w.heap.size w w' := by
  have hle : lookErr l kind = 4 := by unfold lookErr; rw [if_pos (Or.inr k1)]
  have hlo : lookOf l kind name = ([] : List Int) := by unfold lookOf; rw [hle]; rfl
  obtain ⟨b, o, cv, rfl, hRD, -, -, -⟩ := doc_parts hv hD
  obtain ⟨al, cl, rfl, hcl⟩ := id hl
  have HB0 : Hid (Below w.heap.size w (w.alloc (.cells #[.slice (some ⟨b, o, none⟩) ns.length cv] 24))) := on_alloc _ _
  have c0 : (w.alloc (.cells #[.slice (some ⟨b, o, none⟩) ns.length cv] 24)).cell? ⟨w.heap.size, 0, none⟩ = some (.slice (some ⟨b, o, none⟩) ns.length cv) := by simp [go_sem]
  have H20 : Hid (∀ W, Below w.heap.size w W → Calls Tryz.prog 20 #[.agg #[.slice (some ⟨b, o, none⟩) ns.length cv]] W fun e w' => ∃ a c, e = .returned (.tuple #[.slice a (Pl.idxAns ns).length c, .int .i64 (0)]) ∧ EnsAt w' (.slice a (Pl.idxAns ns).length c) (Pl.idxAns ns) ∧ Below W.heap.size W w') := fun W hW => by
    refine (build_any _ ns W (hv.on hW)).mono ?_
    rintro e w' ⟨x, rfl, hx, hb⟩
    obtain ⟨a, c, rfl, -⟩ := id hx
    exact ⟨a, c, by rw [hD], hx, hb⟩
  have H21 : Hid (∀ W, Below w.heap.size w W → Calls Tryz.prog 21 #[.agg #[.slice (some ⟨b, o, none⟩) ns.length cv]] W fun e w' => e = .returned (.int .i64 (0)) ∧ Below W.heap.size W w') := fun W hW => by
    have := refCheck_any _ ns W hv.2.2 (hv.1.on hW)
    rw [hD] at this
    exact this
  have H22 : Hid (∀ W, Below w.heap.size w W → Calls Tryz.prog 22 #[.agg #[.slice (some ⟨b, o, none⟩) ns.length cv]] W fun e w' => ∃ a c, e = .returned (.slice a (Pl.idxAns ns).length c) ∧ EnsAt w' (.slice a (Pl.idxAns ns).length c) (Pl.idxAns ns) ∧ Below W.heap.size W w') := fun W hW => by
    refine (idxOf_any b o cv ns W hRD.n64 (fun x hx => (check_short hD x hx).1) (hRD.on hW).at_).mono ?_
    rintro e w' ⟨x, ps, rfl, hrow, hm, hb⟩
    have h1 := hrow.ens
    rw [ref_idx hD hm] at h1
    obtain ⟨a, c, rfl, -⟩ := id h1
    exact ⟨a, c, rfl, h1, hb⟩
  have H23 : Hid (∀ W, Below w.heap.size w W → Calls Tryz.prog 23 #[.slice al l.length cl, .int .i64 kind, .string ⟨name.toArray⟩] W fun e w' => ∃ a c, e = .returned (.tuple #[.slice a (([] : List Int)).length c, .int .i64 4]) ∧ IntsAt w' (.slice a (([] : List Int)).length c) (([] : List Int)) ∧ Below W.heap.size W w') := fun W hW => by
    refine (look_any _ l kind name W (hl.on hW) hz).mono ?_
    rintro e w' ⟨x, rfl, hx, hb⟩
    rw [hlo] at hx
    obtain ⟨a, c, rfl, -⟩ := id hx
    exact ⟨a, c, by rw [hle], hx, hb⟩
  have H24 : Hid (∀ W, Below w.heap.size w W → Calls Tryz.prog 24 #[] W fun e w' => e = .returned (.bool true) ∧ Below W.heap.size W w') := fun W hW => ixbegun_any W (hL.on hW)
  have H25 : Hid (∀ W v1 v2, EnsAt W v1 (Pl.idxAns ns) → EnsAt W v2 (Pl.idxAns ns) → Calls Tryz.prog 25 #[v1, v2] W fun e w' => e = .returned (.bool true) ∧ Below W.heap.size W w') := fun W v1 v2 h1 h2 => by
    refine (sameIndexes_any v1 v2 _ _ W (ix_ans ns).1 (ix_ans ns).2 h1 h2).mono ?_
    rintro e w' ⟨rfl, hd⟩
    exact ⟨by unfold sameE; rw [decide_eq_true rfl], hd.below⟩
  have H19 : Hid (∀ W v1 v2, IntsAt W v1 (([] : List Int)) → IntsAt W v2 (([] : List Int)) → Calls Tryz.prog 19 #[v1, v2] W fun e w' => e = .returned (.bool true) ∧ Below W.heap.size W w') := fun W v1 v2 h1 h2 => by
    refine (sameInts_any v1 v2 _ _ W (by simp) h1 h2).mono ?_
    rintro e w' ⟨rfl, hd⟩
    exact ⟨by unfold sameI; rw [decide_eq_true rfl], hd.below⟩
  clear hv hl hz hL hD hle hlo hcl hRD
  generalize Pl.idxAns ns = iL at *
  go_enter Tryz.func5, Tryz.ntmps5
  go_wp2_with fail
  generalize w.alloc (.cells #[.slice (some ⟨b, o, none⟩) ns.length cv] 24) = w0 at *
  refine (H20.out _ HB0.out).mono ?_
  rintro e w1 ⟨ax, cx, rfl, hx1, hb1⟩
  have HB1 : Hid (Below w.heap.size w w1) := below_trans HB0.out hb1
  have c1 := cell_on hb1 c0
  have HX1 : Hid (EnsAt w1 (.slice ax iL.length cx) iL) := hx1
  clear hx1 hb1 c0 HB0
  go_wp2_with fail
  refine (H21.out _ HB1.out).mono ?_
  rintro e w2 ⟨rfl, hb2⟩
  have HB2 : Hid (Below w.heap.size w w2) := below_trans HB1.out hb2
  have c2 := cell_on hb2 c1
  have HX2 : Hid (EnsAt w2 (.slice ax iL.length cx) iL) := HX1.out.on hb2
  clear hb2 c1 HB1 HX1
  go_wp2_with fail
  refine (H22.out _ HB2.out).mono ?_
  rintro e w3 ⟨ay, cy, rfl, hy3, hb3⟩
  have HB3 : Hid (Below w.heap.size w w3) := below_trans HB2.out hb3
  have HX3 : Hid (EnsAt w3 (.slice ax iL.length cx) iL) := HX2.out.on hb3
  have HY3 : Hid (EnsAt w3 (.slice ay iL.length cy) iL) := hy3
  clear hy3 hb3 c2 HB2 HX2
  go_wp2_with fail
  refine (H23.out _ HB3.out).mono ?_
  rintro e w4 ⟨az, cz, rfl, hz4, hb4⟩
  have HB4 : Hid (Below w.heap.size w w4) := below_trans HB3.out hb4
  have HX4 : Hid (EnsAt w4 (.slice ax iL.length cx) iL) := HX3.out.on hb4
  have HY4 : Hid (EnsAt w4 (.slice ay iL.length cy) iL) := HY3.out.on hb4
  have HZ4 : Hid (IntsAt w4 (.slice az 0 cz) []) := hz4
  clear hz4 hb4 HB3 HX3 HY3
  go_wp2_with fail
  refine (H24.out _ HB4.out).mono ?_
  rintro e w5 ⟨rfl, hb5⟩
  have HB5 : Hid (Below w.heap.size w w5) := below_trans HB4.out hb5
  have HC5 : Hid (Calls Tryz.prog 25 _ _ _) := H25.out w5 _ _ (HX4.out.on hb5) (HY4.out.on hb5)
  have HZ5 : Hid (IntsAt w5 (.slice az 0 cz) []) := HZ4.out.on hb5
  clear hb5
  go_wp2_with fail
  refine HC5.out.mono ?_
  rintro e w6 ⟨rfl, hb6⟩
  have HB6 : Hid (Below w.heap.size w w6) := below_trans HB5.out hb6
  have HC6 : Hid (Calls Tryz.prog 19 _ _ _) := H19.out w6 (.slice az 0 cz) (.slice none 0 0) (HZ5.out.on hb6) ⟨none, 0, rfl, Or.inl rfl⟩
  clear hb6
  go_wp2_with fail
  refine HC6.out.mono ?_
  rintro e w7 ⟨rfl, hb7⟩
  have HB7 : Hid (Below w.heap.size w w7) := below_trans HB6.out hb7
  clear hb7
  go_wp2
  go_ret
  exact ⟨rfl, HB7.out⟩
set_option maxRecDepth 100000 in
set_option maxHeartbeats 8000000 in
theorem builds_ok_M (v u : Value) (ns : List Pl.Nd) (l : List Pl.Er) (kind : Int) (name : List UInt8) (w : World) (hv : DocAt w v ns) (hl : EnsAt w u l) (hz : ∀ e ∈ l, e.2.length * 8 ≤ 140737488351232) (hL : Laid w) (hD : Pl.checkDoc ns = 0) (k0 : ¬ kind < 1) (k1 : ¬ 3 < kind) (k2 : 512 < l.length) :
    Calls Tryz.prog 5 #[.agg #[v], u, .int .i64 kind, .string ⟨name.toArray⟩] w fun e w' => e = .returned (.bool true) ∧ Below w.heap.size w w' := by
  have hle : lookErr l kind = 2 := by unfold lookErr; rw [if_neg (by omega), if_pos k2]
  have hlo : lookOf l kind name = ([] : List Int) := by unfold lookOf; rw [hle]; rfl
  obtain ⟨b, o, cv, rfl, hRD, -, -, -⟩ := doc_parts hv hD
  obtain ⟨al, cl, rfl, hcl⟩ := id hl
  have HB0 : Hid (Below w.heap.size w (w.alloc (.cells #[.slice (some ⟨b, o, none⟩) ns.length cv] 24))) := on_alloc _ _
  have c0 : (w.alloc (.cells #[.slice (some ⟨b, o, none⟩) ns.length cv] 24)).cell? ⟨w.heap.size, 0, none⟩ = some (.slice (some ⟨b, o, none⟩) ns.length cv) := by simp [go_sem]
  have H20 : Hid (∀ W, Below w.heap.size w W → Calls Tryz.prog 20 #[.agg #[.slice (some ⟨b, o, none⟩) ns.length cv]] W fun e w' => ∃ a c, e = .returned (.tuple #[.slice a (Pl.idxAns ns).length c, .int .i64 (0)]) ∧ EnsAt w' (.slice a (Pl.idxAns ns).length c) (Pl.idxAns ns) ∧ Below W.heap.size W w') := fun W hW => by
    refine (build_any _ ns W (hv.on hW)).mono ?_
    rintro e w' ⟨x, rfl, hx, hb⟩
    obtain ⟨a, c, rfl, -⟩ := id hx
    exact ⟨a, c, by rw [hD], hx, hb⟩
  have H21 : Hid (∀ W, Below w.heap.size w W → Calls Tryz.prog 21 #[.agg #[.slice (some ⟨b, o, none⟩) ns.length cv]] W fun e w' => e = .returned (.int .i64 (0)) ∧ Below W.heap.size W w') := fun W hW => by
    have := refCheck_any _ ns W hv.2.2 (hv.1.on hW)
    rw [hD] at this
    exact this
  have H22 : Hid (∀ W, Below w.heap.size w W → Calls Tryz.prog 22 #[.agg #[.slice (some ⟨b, o, none⟩) ns.length cv]] W fun e w' => ∃ a c, e = .returned (.slice a (Pl.idxAns ns).length c) ∧ EnsAt w' (.slice a (Pl.idxAns ns).length c) (Pl.idxAns ns) ∧ Below W.heap.size W w') := fun W hW => by
    refine (idxOf_any b o cv ns W hRD.n64 (fun x hx => (check_short hD x hx).1) (hRD.on hW).at_).mono ?_
    rintro e w' ⟨x, ps, rfl, hrow, hm, hb⟩
    have h1 := hrow.ens
    rw [ref_idx hD hm] at h1
    obtain ⟨a, c, rfl, -⟩ := id h1
    exact ⟨a, c, rfl, h1, hb⟩
  have H23 : Hid (∀ W, Below w.heap.size w W → Calls Tryz.prog 23 #[.slice al l.length cl, .int .i64 kind, .string ⟨name.toArray⟩] W fun e w' => ∃ a c, e = .returned (.tuple #[.slice a (([] : List Int)).length c, .int .i64 2]) ∧ IntsAt w' (.slice a (([] : List Int)).length c) (([] : List Int)) ∧ Below W.heap.size W w') := fun W hW => by
    refine (look_any _ l kind name W (hl.on hW) hz).mono ?_
    rintro e w' ⟨x, rfl, hx, hb⟩
    rw [hlo] at hx
    obtain ⟨a, c, rfl, -⟩ := id hx
    exact ⟨a, c, by rw [hle], hx, hb⟩
  have H24 : Hid (∀ W, Below w.heap.size w W → Calls Tryz.prog 24 #[] W fun e w' => e = .returned (.bool true) ∧ Below W.heap.size W w') := fun W hW => ixbegun_any W (hL.on hW)
  have H25 : Hid (∀ W v1 v2, EnsAt W v1 (Pl.idxAns ns) → EnsAt W v2 (Pl.idxAns ns) → Calls Tryz.prog 25 #[v1, v2] W fun e w' => e = .returned (.bool true) ∧ Below W.heap.size W w') := fun W v1 v2 h1 h2 => by
    refine (sameIndexes_any v1 v2 _ _ W (ix_ans ns).1 (ix_ans ns).2 h1 h2).mono ?_
    rintro e w' ⟨rfl, hd⟩
    exact ⟨by unfold sameE; rw [decide_eq_true rfl], hd.below⟩
  have H19 : Hid (∀ W v1 v2, IntsAt W v1 (([] : List Int)) → IntsAt W v2 (([] : List Int)) → Calls Tryz.prog 19 #[v1, v2] W fun e w' => e = .returned (.bool true) ∧ Below W.heap.size W w') := fun W v1 v2 h1 h2 => by
    refine (sameInts_any v1 v2 _ _ W (by simp) h1 h2).mono ?_
    rintro e w' ⟨rfl, hd⟩
    exact ⟨by unfold sameI; rw [decide_eq_true rfl], hd.below⟩
  have k3 : (512 : Int) < (l.length : Int) := by omega
  clear hv hl hz hL hD hle hlo hcl hRD k2
  generalize Pl.idxAns ns = iL at *
  go_enter Tryz.func5, Tryz.ntmps5
  go_wp2_with fail
  generalize w.alloc (.cells #[.slice (some ⟨b, o, none⟩) ns.length cv] 24) = w0 at *
  refine (H20.out _ HB0.out).mono ?_
  rintro e w1 ⟨ax, cx, rfl, hx1, hb1⟩
  have HB1 : Hid (Below w.heap.size w w1) := below_trans HB0.out hb1
  have c1 := cell_on hb1 c0
  have HX1 : Hid (EnsAt w1 (.slice ax iL.length cx) iL) := hx1
  clear hx1 hb1 c0 HB0
  go_wp2_with fail
  refine (H21.out _ HB1.out).mono ?_
  rintro e w2 ⟨rfl, hb2⟩
  have HB2 : Hid (Below w.heap.size w w2) := below_trans HB1.out hb2
  have c2 := cell_on hb2 c1
  have HX2 : Hid (EnsAt w2 (.slice ax iL.length cx) iL) := HX1.out.on hb2
  clear hb2 c1 HB1 HX1
  go_wp2_with fail
  refine (H22.out _ HB2.out).mono ?_
  rintro e w3 ⟨ay, cy, rfl, hy3, hb3⟩
  have HB3 : Hid (Below w.heap.size w w3) := below_trans HB2.out hb3
  have HX3 : Hid (EnsAt w3 (.slice ax iL.length cx) iL) := HX2.out.on hb3
  have HY3 : Hid (EnsAt w3 (.slice ay iL.length cy) iL) := hy3
  clear hy3 hb3 c2 HB2 HX2
  go_wp2_with fail
  refine (H23.out _ HB3.out).mono ?_
  rintro e w4 ⟨az, cz, rfl, hz4, hb4⟩
  have HB4 : Hid (Below w.heap.size w w4) := below_trans HB3.out hb4
  have HX4 : Hid (EnsAt w4 (.slice ax iL.length cx) iL) := HX3.out.on hb4
  have HY4 : Hid (EnsAt w4 (.slice ay iL.length cy) iL) := HY3.out.on hb4
  have HZ4 : Hid (IntsAt w4 (.slice az 0 cz) []) := hz4
  clear hz4 hb4 HB3 HX3 HY3
  go_wp2_with fail
  refine (H24.out _ HB4.out).mono ?_
  rintro e w5 ⟨rfl, hb5⟩
  have HB5 : Hid (Below w.heap.size w w5) := below_trans HB4.out hb5
  have HC5 : Hid (Calls Tryz.prog 25 _ _ _) := H25.out w5 _ _ (HX4.out.on hb5) (HY4.out.on hb5)
  have HZ5 : Hid (IntsAt w5 (.slice az 0 cz) []) := HZ4.out.on hb5
  clear hb5
  go_wp2_with fail
  refine HC5.out.mono ?_
  rintro e w6 ⟨rfl, hb6⟩
  have HB6 : Hid (Below w.heap.size w w6) := below_trans HB5.out hb6
  have HC6 : Hid (Calls Tryz.prog 19 _ _ _) := H19.out w6 (.slice az 0 cz) (.slice none 0 0) (HZ5.out.on hb6) ⟨none, 0, rfl, Or.inl rfl⟩
  clear hb6
  go_wp2_with fail
  refine HC6.out.mono ?_
  rintro e w7 ⟨rfl, hb7⟩
  have HB7 : Hid (Below w.heap.size w w7) := below_trans HB6.out hb7
  clear hb7
  go_wp2
  go_ret
  exact ⟨rfl, HB7.out⟩
end Go.Proofs.YtagobgjlhdbhmaaGreatDoor
