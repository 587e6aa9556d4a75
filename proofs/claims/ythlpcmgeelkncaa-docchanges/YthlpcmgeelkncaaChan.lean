/-
  The law of what Remove and Put answer, walked.
-/
import Derived.Test.YthlpcmgeelkncaaRefR
import Derived.Test.YthlpcmgeelkncaaRefU
import Derived.Test.YthlpcmgeelkncaaBegun
import Derived.Test.YthlpcmgeelkncaaBox
namespace Go.Proofs.Ythlpcmgeelkncaa
open Go.RowKit

set_option maxRecDepth 100000 in
set_option maxHeartbeats 8000000 in
theorem changes_any (v xv : Value) (ns : List Pl.Nd) (n : Int) (x : Pl.Nd) (w : World) (hd : DocAt w v ns) (hx : NdV w xv x) (hfx : Fits x) :
    Calls Try.prog 5 #[.agg #[v], .int .i64 n, xv] w fun e w' => e = .returned (.bool true) ∧ Below w.heap.size w w' := by
  obtain ⟨a, cap, rfl⟩ := hd.form
  obtain ⟨vc, va, rfl, xc, xa⟩ := id hx
  obtain ⟨ac, cc, rfl, _⟩ := id xc
  obtain ⟨aa, ca, rfl, _⟩ := id xa
  have hB := boxes w (.cells #[.slice a ns.length cap] 24) (.cells #[.int .i64 x.up, .string ⟨x.tag.toArray⟩, .string ⟨x.id.toArray⟩, .slice ac x.cls.length cc, .slice aa x.ats.length ca] 47)
  have D1 : Hid _ := DocAt.on hd hB
  have NX : Hid _ := NdV.on hx hB
  have c3 : ((w.alloc (.cells #[.slice a ns.length cap] 24)).alloc (.cells #[.int .i64 x.up, .string ⟨x.tag.toArray⟩, .string ⟨x.id.toArray⟩, .slice ac x.cls.length cc, .slice aa x.ats.length ca] 47)).cell? ⟨w.heap.size, 0, none⟩ = some (.slice a ns.length cap) := by simp [go_sem]
  have bX : Blk ((w.alloc (.cells #[.slice a ns.length cap] 24)).alloc (.cells #[.int .i64 x.up, .string ⟨x.tag.toArray⟩, .string ⟨x.id.toArray⟩, .slice ac x.cls.length cc, .slice aa x.ats.length ca] 47)) (w.heap.size + 1) (.int .i64 x.up) (.string ⟨x.tag.toArray⟩) (.string ⟨x.id.toArray⟩) (.slice ac x.cls.length cc) (.slice aa x.ats.length ca) := by
    unfold Blk
    show ((w.heap.push _).push _)[w.heap.size + 1]? = _
    rw [Array.getElem?_push, if_pos (by simp)]
  obtain ⟨⟨x0, x1, x2, x3, x4⟩, _⟩ := bX.facts
  clear hd hx xc xa bX
  go_enter Try.func5, Try.ntmps5
  go_wp2_with fail
  generalize (w.alloc (.cells #[.slice a ns.length cap] 24)).alloc (.cells #[.int .i64 x.up, .string ⟨x.tag.toArray⟩, .string ⟨x.id.toArray⟩, .slice ac x.cls.length cc, .slice aa x.ats.length ca] 47) = w0 at *
  refine (remove_any _ ns n _ D1.out).mono ?_
  rintro e w1 ⟨v1, rfl, d1, h1⟩
  obtain ⟨a1, cap1, rfl⟩ := d1.form
  have h2 := below_trans h1 (on_alloc w1 (.cells #[.slice a1 (remOf ns n).length cap1] 24))
  have p7 : (w1.alloc (.cells #[.slice a1 (remOf ns n).length cap1] 24)).cell? ⟨w1.heap.size, 0, none⟩ = some (.slice a1 (remOf ns n).length cap1) := by simp [go_sem]
  have DA : Hid _ := DocAt.on d1 (on_alloc w1 (.cells #[.slice a1 (remOf ns n).length cap1] 24))
  replace D1 : Hid _ := DocAt.on D1.out h2
  replace NX : Hid _ := NdV.on NX.out h2
  replace c3 := cell_on h2 c3
  replace x0 := cell_on h2 x0
  replace x1 := cell_on h2 x1
  replace x2 := cell_on h2 x2
  replace x3 := cell_on h2 x3
  replace x4 := cell_on h2 x4
  replace hB := below_trans hB h2
  clear h1 h2 d1
  go_wp2_with fail
  generalize w1.alloc (.cells #[.slice a1 (remOf ns n).length cap1] 24) = w2 at *
  refine (put_any _ _ ns n x _ D1.out NX.out hfx).mono ?_
  rintro e w3 ⟨v3, rfl, d3, h1⟩
  obtain ⟨a3, cap3, rfl⟩ := d3.form
  have h2 := below_trans h1 (on_alloc w3 (.cells #[.slice a3 (putOf ns n x).length cap3] 24))
  have p9 : (w3.alloc (.cells #[.slice a3 (putOf ns n x).length cap3] 24)).cell? ⟨w3.heap.size, 0, none⟩ = some (.slice a3 (putOf ns n x).length cap3) := by simp [go_sem]
  have DB : Hid _ := DocAt.on d3 (on_alloc w3 (.cells #[.slice a3 (putOf ns n x).length cap3] 24))
  replace D1 : Hid _ := DocAt.on D1.out h2
  replace DA : Hid _ := DocAt.on DA.out h2
  replace NX : Hid _ := NdV.on NX.out h2
  replace c3 := cell_on h2 c3
  replace p7 := cell_on h2 p7
  replace x0 := cell_on h2 x0
  replace x1 := cell_on h2 x1
  replace x2 := cell_on h2 x2
  replace x3 := cell_on h2 x3
  replace x4 := cell_on h2 x4
  replace hB := below_trans hB h2
  clear h1 h2 d3
  go_wp2_with fail
  generalize w3.alloc (.cells #[.slice a3 (putOf ns n x).length cap3] 24) = w4 at *
  refine (refRem_any _ ns n _ D1.out).mono ?_
  rintro e w5 ⟨v5, rfl, d5, h1⟩
  obtain ⟨a5, cap5, rfl⟩ := d5.form
  have h2 := below_trans h1 (on_alloc w5 (.cells #[.slice a5 (remOf ns n).length cap5] 24))
  have p11 : (w5.alloc (.cells #[.slice a5 (remOf ns n).length cap5] 24)).cell? ⟨w5.heap.size, 0, none⟩ = some (.slice a5 (remOf ns n).length cap5) := by simp [go_sem]
  have DY : Hid _ := DocAt.on d5 (on_alloc w5 (.cells #[.slice a5 (remOf ns n).length cap5] 24))
  replace D1 : Hid _ := DocAt.on D1.out h2
  replace DA : Hid _ := DocAt.on DA.out h2
  replace DB : Hid _ := DocAt.on DB.out h2
  replace NX : Hid _ := NdV.on NX.out h2
  replace c3 := cell_on h2 c3
  replace p7 := cell_on h2 p7
  replace p9 := cell_on h2 p9
  replace x0 := cell_on h2 x0
  replace x1 := cell_on h2 x1
  replace x2 := cell_on h2 x2
  replace x3 := cell_on h2 x3
  replace x4 := cell_on h2 x4
  replace hB := below_trans hB h2
  clear h1 h2 d5
  go_wp2_with fail
  generalize w5.alloc (.cells #[.slice a5 (remOf ns n).length cap5] 24) = w6 at *
  refine (refPut_any _ _ ns n x _ D1.out NX.out hfx).mono ?_
  rintro e w7 ⟨v7, rfl, d7, h1⟩
  obtain ⟨a7, cap7, rfl⟩ := d7.form
  have h2 := below_trans h1 (on_alloc w7 (.cells #[.slice a7 (putOf ns n x).length cap7] 24))
  have p13 : (w7.alloc (.cells #[.slice a7 (putOf ns n x).length cap7] 24)).cell? ⟨w7.heap.size, 0, none⟩ = some (.slice a7 (putOf ns n x).length cap7) := by simp [go_sem]
  have DZ : Hid _ := DocAt.on d7 (on_alloc w7 (.cells #[.slice a7 (putOf ns n x).length cap7] 24))
  replace DA : Hid _ := DocAt.on DA.out h2
  replace DB : Hid _ := DocAt.on DB.out h2
  replace DY : Hid _ := DocAt.on DY.out h2
  replace p7 := cell_on h2 p7
  replace p9 := cell_on h2 p9
  replace p11 := cell_on h2 p11
  replace hB := below_trans hB h2
  clear h1 h2 d7 D1 NX c3 x0 x1 x2 x3 x4
  generalize remErr ns n = E1 at *
  generalize putErr ns n x = E2 at *
  go_wp2_with fail
  generalize w7.alloc (.cells #[.slice a7 (putOf ns n x).length cap7] 24) = w8 at *
  refine (docBegun_any _).mono ?_
  rintro e w9 ⟨rfl, h1⟩
  replace DA : Hid _ := DocAt.on DA.out h1
  replace DB : Hid _ := DocAt.on DB.out h1
  replace DY : Hid _ := DocAt.on DY.out h1
  replace DZ : Hid _ := DocAt.on DZ.out h1
  replace p7 := cell_on h1 p7
  replace p9 := cell_on h1 p9
  replace p11 := cell_on h1 p11
  replace p13 := cell_on h1 p13
  replace hB := below_trans hB h1
  clear h1
  go_wp2_with fail
  refine (sameDocs_eq _ _ (remOf ns n) _ DA.out DY.out).mono ?_
  rintro e w10 ⟨rfl, h1⟩
  replace DB : Hid _ := DocAt.on DB.out h1
  replace DZ : Hid _ := DocAt.on DZ.out h1
  replace p9 := cell_on h1 p9
  replace p13 := cell_on h1 p13
  replace hB := below_trans hB h1
  clear h1
  go_wp2_with fail
  refine (sameDocs_eq _ _ (putOf ns n x) _ DB.out DZ.out).mono ?_
  rintro e w11 ⟨rfl, h1⟩
  replace hB := below_trans hB h1
  clear h1
  go_wp2
  go_ret
  exact ⟨rfl, hB⟩
end Go.Proofs.Ythlpcmgeelkncaa
