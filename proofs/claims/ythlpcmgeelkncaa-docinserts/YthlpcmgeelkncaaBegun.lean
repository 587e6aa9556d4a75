/-
  What must be in any case, of documents.
-/
import Derived.Test.YthlpcmgeelkncaaPut
namespace Go.Proofs.Ythlpcmgeelkncaa
open Go.RowKit

def nodeX : Pl.Nd := ⟨0, [120], [], [], []⟩
theorem g_check : Pl.checkDoc smallNs = 0 := by kernel_rfl
theorem g_at0 : checkAtOf smallNs 0 = 0 := by kernel_rfl
theorem g_at2 : checkAtOf smallNs 2 = 0 := by kernel_rfl
theorem g_kids : (kidsAns smallNs 0).map (fun (k : Nat) => (k : Int)) = [1, 2, 4] := by kernel_rfl
theorem g_under : underAns smallNs 2 = 1 := by kernel_rfl
theorem g_rem : remErr smallNs 2 = 0 := by kernel_rfl
theorem g_remLen : (remOf smallNs 2).length = 3 := by kernel_rfl
theorem g_ins : insErr (remOf smallNs 2) 0 1 (partOf smallNs 2) = 0 := by kernel_rfl
theorem g_insOf : insOf (remOf smallNs 2) 0 1 (partOf smallNs 2) = smallNs := by kernel_rfl
theorem g_put : putErr smallNs 3 nodeX = 0 := by kernel_rfl
theorem g_putOf : (putOf smallNs 3 nodeX)[3]? = some ⟨2, [120], [], [], []⟩ := by kernel_rfl
theorem g_putLen : (putOf smallNs 3 nodeX).length = 5 := by kernel_rfl
theorem g_empty : Pl.checkDoc [] = 2 := by kernel_rfl

theorem cinq_on {w W w' : World} {p0 p1 p2 p3 p4 : Addr} {v0 v1 v2 v3 v4 : Value} (h : W.cell? p0 = some v0 ∧ W.cell? p1 = some v1 ∧ W.cell? p2 = some v2 ∧ W.cell? p3 = some v3 ∧ W.cell? p4 = some v4 ∧ Below w.heap.size w W) (hb : Below W.heap.size W w') :
    w'.cell? p0 = some v0 ∧ w'.cell? p1 = some v1 ∧ w'.cell? p2 = some v2 ∧ w'.cell? p3 = some v3 ∧ w'.cell? p4 = some v4 ∧ Below w.heap.size w w' :=
  ⟨cell_on hb h.1, cell_on hb h.2.1, cell_on hb h.2.2.1, cell_on hb h.2.2.2.1, cell_on hb h.2.2.2.2.1, below_trans h.2.2.2.2.2 hb⟩
theorem cinq_last {w W : World} {p0 p1 p2 p3 p4 : Addr} {v0 v1 v2 v3 v4 : Value} (h : W.cell? p0 = some v0 ∧ W.cell? p1 = some v1 ∧ W.cell? p2 = some v2 ∧ W.cell? p3 = some v3 ∧ W.cell? p4 = some v4 ∧ Below w.heap.size w W) : Below w.heap.size w W := h.2.2.2.2.2
theorem ints_124 (W : World) : IntsAt (W.alloc (.cells #[.int .i64 1, .int .i64 2, .int .i64 4] 3)) (.slice (some ⟨W.heap.size, 0, none⟩) 3 3) [1, 2, 4] := by
  refine ⟨_, _, rfl, Or.inr ⟨_, 0, rfl, ?_⟩⟩
  intro i hi
  match i, hi with
  | 0, _ => simp [go_sem]
  | 1, _ => simp [go_sem]
  | 2, _ => simp [go_sem]

set_option maxRecDepth 100000 in
set_option maxHeartbeats 8000000 in
theorem docBegun_any (w : World) : Calls Try.prog 16 #[] w fun e w' => e = .returned (.bool true) ∧ Below w.heap.size w w' := by
  go_enter Try.func16, Try.ntmps16
  go_wp2_with fail
  refine (small_any _).mono ?_
  rintro e w1 ⟨v1, rfl, d1, hB⟩
  go_wp2_with fail
  refine (kids_any _ smallNs _ _ d1).mono ?_
  rintro e w2 ⟨vl, rfl, il, h1⟩
  replace hB := below_trans hB h1
  clear h1 d1
  rw [g_at0]
  rw [g_kids] at il
  obtain ⟨al, cl, rfl, hil⟩ := id il
  have IL : Hid _ := il
  clear il hil
  go_wp2_with fail
  refine (small_any _).mono ?_
  rintro e w3 ⟨v3, rfl, d1, h1⟩
  replace IL : Hid _ := IntsAt.on IL.out h1
  replace hB := below_trans hB h1
  clear h1
  go_wp2_with fail
  refine (under_any _ smallNs _ _ d1).mono ?_
  rintro e w4 ⟨rfl, h1⟩
  replace IL : Hid _ := IntsAt.on IL.out h1
  replace hB := below_trans hB h1
  clear h1 d1
  rw [g_at2, g_under]
  go_wp2_with fail
  refine (small_any _).mono ?_
  rintro e w5 ⟨v5, rfl, d1, h1⟩
  replace IL : Hid _ := IntsAt.on IL.out h1
  replace hB := below_trans hB h1
  clear h1
  go_wp2_with fail
  refine (part_any _ smallNs _ _ d1).mono ?_
  rintro e w6 ⟨vp, rfl, dp, h1⟩
  replace IL : Hid _ := IntsAt.on IL.out h1
  replace hB := below_trans hB h1
  clear h1 d1
  rw [g_at2]
  obtain ⟨ap, cp, rfl, _⟩ := id dp.1
  go_wp2_with fail
  have p5 : (w6.alloc (.cells #[.slice ap (partOf smallNs 2).length cp] 24)).cell? ⟨w6.heap.size, 0, none⟩ = some (.slice ap (partOf smallNs 2).length cp) := by simp [go_sem]
  replace IL : Hid _ := IntsAt.on IL.out (on_alloc w6 (.cells #[.slice ap (partOf smallNs 2).length cp] 24))
  have DP : Hid _ := DocAt.on dp (on_alloc w6 (.cells #[.slice ap (partOf smallNs 2).length cp] 24))
  replace hB := below_trans hB (on_alloc w6 (.cells #[.slice ap (partOf smallNs 2).length cp] 24))
  clear dp
  generalize w6.alloc (.cells #[.slice ap (partOf smallNs 2).length cp] 24) = w7 at *
  refine (small_any _).mono ?_
  rintro e w8 ⟨v8, rfl, d1, h1⟩
  replace IL : Hid _ := IntsAt.on IL.out h1
  replace DP : Hid _ := DocAt.on DP.out h1
  replace p5 := cell_on h1 p5
  replace hB := below_trans hB h1
  clear h1
  go_wp2_with fail
  refine (remove_any _ smallNs _ _ d1).mono ?_
  rintro e w9 ⟨vr, rfl, dr, h1⟩
  replace IL : Hid _ := IntsAt.on IL.out h1
  replace DP : Hid _ := DocAt.on DP.out h1
  replace p5 := cell_on h1 p5
  replace hB := below_trans hB h1
  clear h1 d1
  rw [g_rem]
  obtain ⟨ar, cr, rfl, _⟩ := id dr.1
  have p7 : (w9.alloc (.cells #[.slice ar (remOf smallNs 2).length cr] 24)).cell? ⟨w9.heap.size, 0, none⟩ = some (.slice ar (remOf smallNs 2).length cr) := by simp [go_sem]
  have p5' := cell_on (on_alloc w9 (.cells #[.slice ar (remOf smallNs 2).length cr] 24)) p5
  have hne := World.new_ne w9 ⟨w6.heap.size, 0, none⟩ p5
  go_wp2_with fail
  replace IL : Hid _ := IntsAt.on IL.out (on_alloc w9 (.cells #[.slice ar (remOf smallNs 2).length cr] 24))
  replace DP : Hid _ := DocAt.on DP.out (on_alloc w9 (.cells #[.slice ar (remOf smallNs 2).length cr] 24))
  have DR : Hid _ := DocAt.on dr (on_alloc w9 (.cells #[.slice ar (remOf smallNs 2).length cr] 24))
  replace hB := below_trans hB (on_alloc w9 (.cells #[.slice ar (remOf smallNs 2).length cr] 24))
  clear dr p5
  generalize w9.alloc (.cells #[.slice ar (remOf smallNs 2).length cr] 24) = w10 at *
  refine (insert_any _ _ (remOf smallNs 2) (partOf smallNs 2) _ _ _ DR.out DP.out).mono ?_
  rintro e w11 ⟨vi, rfl, di, h1⟩
  replace IL : Hid _ := IntsAt.on IL.out h1
  replace p7 := cell_on h1 p7
  replace hB := below_trans hB h1
  clear h1 p5' DP DR hne
  rw [g_ins]
  rw [g_insOf] at di
  obtain ⟨ai, ci, rfl, _⟩ := id di.1
  have p9 : (w11.alloc (.cells #[.slice ai smallNs.length ci] 24)).cell? ⟨w11.heap.size, 0, none⟩ = some (.slice ai smallNs.length ci) := by simp [go_sem]
  go_wp2_with fail
  replace IL : Hid _ := IntsAt.on IL.out (on_alloc w11 (.cells #[.slice ai smallNs.length ci] 24))
  replace p7 := cell_on (on_alloc w11 (.cells #[.slice ai smallNs.length ci] 24)) p7
  have DI : Hid _ := DocAt.on di (on_alloc w11 (.cells #[.slice ai smallNs.length ci] 24))
  replace hB := below_trans hB (on_alloc w11 (.cells #[.slice ai smallNs.length ci] 24))
  clear di
  generalize w11.alloc (.cells #[.slice ai smallNs.length ci] 24) = w12 at *
  refine (small_any _).mono ?_
  rintro e w13 ⟨v13, rfl, d1, h1⟩
  replace IL : Hid _ := IntsAt.on IL.out h1
  replace DI : Hid _ := DocAt.on DI.out h1
  replace p7 := cell_on h1 p7
  replace p9 := cell_on h1 p9
  replace hB := below_trans hB h1
  clear h1
  go_wp2_with fail
  refine (put_any _ _ smallNs _ nodeX _ d1 ⟨_, _, rfl, strs_nil _, ats_nil _⟩ ⟨by decide, by decide⟩).mono ?_
  rintro e w14 ⟨vx, rfl, dx, h1⟩
  replace IL : Hid _ := IntsAt.on IL.out h1
  replace DI : Hid _ := DocAt.on DI.out h1
  replace p7 := cell_on h1 p7
  replace p9 := cell_on h1 p9
  replace hB := below_trans hB h1
  clear h1 d1
  rw [g_put]
  obtain ⟨ax, cx, rfl, hxx⟩ := id dx.1
  obtain ⟨bx, ox, rfl, x3, x4⟩ : ∃ bx ox, ax = some ⟨bx, ox, none⟩ ∧ w14.cell? ⟨bx, ox + 3 * 5, none⟩ = some (.int .i64 2) ∧ w14.cell? ⟨bx, ox + 3 * 5 + 1, none⟩ = some (.string ⟨#[120]⟩) := by
    rcases hxx with h0 | ⟨bx, ox, rfl, hc⟩
    · have := g_putLen; rw [h0] at this; simp at this
    · have h3 : 3 < (putOf smallNs 3 nodeX).length := by rw [g_putLen]; omega
      obtain ⟨vc, va, n0, n1, _⟩ := hc 3 h3
      have hg : (putOf smallNs 3 nodeX)[3] = ⟨2, [120], [], [], []⟩ := by
        have := g_putOf
        rw [List.getElem?_eq_getElem h3] at this
        injection this
      rw [hg] at n0 n1
      exact ⟨bx, ox, rfl, n0, n1⟩
  rw [g_putLen]
  rw [g_remLen] at p7
  clear dx hxx
  have p11 : (w14.alloc (.cells #[.slice (some ⟨bx, ox, none⟩) 5 cx] 24)).cell? ⟨w14.heap.size, 0, none⟩ = some (.slice (some ⟨bx, ox, none⟩) 5 cx) := by simp [go_sem]
  go_wp2_with fail
  replace IL : Hid _ := IntsAt.on IL.out (on_alloc w14 (.cells #[.slice (some ⟨bx, ox, none⟩) 5 cx] 24))
  replace DI : Hid _ := DocAt.on DI.out (on_alloc w14 (.cells #[.slice (some ⟨bx, ox, none⟩) 5 cx] 24))
  replace p7 := cell_on (on_alloc w14 (.cells #[.slice (some ⟨bx, ox, none⟩) 5 cx] 24)) p7
  replace p9 := cell_on (on_alloc w14 (.cells #[.slice (some ⟨bx, ox, none⟩) 5 cx] 24)) p9
  replace x3 := cell_on (on_alloc w14 (.cells #[.slice (some ⟨bx, ox, none⟩) 5 cx] 24)) x3
  replace x4 := cell_on (on_alloc w14 (.cells #[.slice (some ⟨bx, ox, none⟩) 5 cx] 24)) x4
  replace hB := below_trans hB (on_alloc w14 (.cells #[.slice (some ⟨bx, ox, none⟩) 5 cx] 24))
  generalize w14.alloc (.cells #[.slice (some ⟨bx, ox, none⟩) 5 cx] 24) = w15 at *
  have S0 : w15.drew.cell? ⟨w9.heap.size, 0, none⟩ = some (.slice ar 3 cr) ∧ w15.drew.cell? ⟨w11.heap.size, 0, none⟩ = some (.slice ai smallNs.length ci) ∧ w15.drew.cell? ⟨w14.heap.size, 0, none⟩ = some (.slice (some ⟨bx, ox, none⟩) 5 cx) ∧ w15.drew.cell? ⟨bx, ox + 3 * 5, none⟩ = some (.int .i64 2) ∧ w15.drew.cell? ⟨bx, ox + 3 * 5 + 1, none⟩ = some (.string ⟨#[120]⟩) ∧ Below w15.heap.size w15 w15.drew := ⟨p7, p9, p11, x3, x4, (Below.refl _ _).drew⟩
  clear p7 p9 p11 x3 x4
  simp only [List.append_eq, List.cons_append, List.nil_append]
  go_region_held3 (fun w' => w'.cell? ⟨w9.heap.size, 0, none⟩ = some (.slice ar 3 cr) ∧ w'.cell? ⟨w11.heap.size, 0, none⟩ = some (.slice ai smallNs.length ci) ∧ w'.cell? ⟨w14.heap.size, 0, none⟩ = some (.slice (some ⟨bx, ox, none⟩) 5 cx) ∧ w'.cell? ⟨bx, ox + 3 * 5, none⟩ = some (.int .i64 2) ∧ w'.cell? ⟨bx, ox + 3 * 5 + 1, none⟩ = some (.string ⟨#[120]⟩) ∧ Below w15.heap.size w15 w')
    (first | with_reducible assumption | exact cinq_on (by with_reducible assumption) (by with_reducible assumption) | exact cinq_on (by with_reducible assumption) (on_alloc _ _))
    (first | (go_at_call 41; refine (small_any _).mono ?_; rintro e w16 ⟨v16, rfl, dd, hw⟩) | (go_at_call_of 17 (Value.agg #[Value.slice none 0 0]); refine (check_any _ [] _ (DocAt.nil w15).2.2 (DocAt.nil _).1).mono ?_; rintro e w18 ⟨rfl, hw⟩; rw [g_empty]) | (go_at_call 17; refine (check_any _ smallNs _ dd.2.2 dd.1).mono ?_; rintro e w17 ⟨rfl, hw⟩; rw [g_check]) | (go_at_call 19; refine (sameInts_eq _ _ [1, 2, 4] _ (by decide) (IntsAt.on IL.out (cinq_last (by with_reducible assumption))) (ints_124 _)).mono ?_; rintro e w19 ⟨rfl, hw⟩) | (go_at_call 20; refine (sameDocs_eq _ _ smallNs _ (DocAt.on DI.out (cinq_last (by with_reducible assumption))) dd).mono ?_; rintro e w21 ⟨rfl, hw⟩))
  have hB3 := below_trans hB (cinq_last (by with_reducible assumption))
  clear S0 IL DI
  go_wp2
  go_ret
  exact ⟨rfl, hB3⟩
end Go.Proofs.Ythlpcmgeelkncaa
