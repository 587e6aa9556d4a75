/-
  The law of what Insert answers, walked.
-/
import Derived.Test.YthlpcmgeelkncaaRefI
import Derived.Test.YthlpcmgeelkncaaBegun
import Derived.Test.YthlpcmgeelkncaaBox
namespace Go.Proofs.Ythlpcmgeelkncaa
open Go.RowKit

set_option maxRecDepth 100000 in
set_option maxHeartbeats 8000000 in
theorem inserts_any (v v2 : Value) (ns es : List Pl.Nd) (up at_ : Int) (w : World) (hd : DocAt w v ns) (hd2 : DocAt w v2 es) :
    Calls Try.prog 4 #[.agg #[v], .int .i64 up, .int .i64 at_, .agg #[v2]] w fun e w' => e = .returned (.bool true) ∧ Below w.heap.size w w' := by
  obtain ⟨a, cap, rfl⟩ := hd.form
  obtain ⟨a2, cap2, rfl⟩ := hd2.form
  have hB := boxes w (.cells #[.slice a ns.length cap] 24) (.cells #[.slice a2 es.length cap2] 24)
  have D1 : Hid _ := DocAt.on hd hB
  have D2 : Hid _ := DocAt.on hd2 hB
  have c3 : ((w.alloc (.cells #[.slice a ns.length cap] 24)).alloc (.cells #[.slice a2 es.length cap2] 24)).cell? ⟨w.heap.size, 0, none⟩ = some (.slice a ns.length cap) := by simp [go_sem]
  have c4 : ((w.alloc (.cells #[.slice a ns.length cap] 24)).alloc (.cells #[.slice a2 es.length cap2] 24)).cell? ⟨w.heap.size + 1, 0, none⟩ = some (.slice a2 es.length cap2) := by simp [go_sem]
  clear hd hd2
  go_enter Try.func4, Try.ntmps4
  go_wp2_with fail
  generalize (w.alloc (.cells #[.slice a ns.length cap] 24)).alloc (.cells #[.slice a2 es.length cap2] 24) = w0 at *
  refine (insert_any _ _ ns es up at_ _ D1.out D2.out).mono ?_
  rintro e w1 ⟨v1, rfl, d1, h1⟩
  obtain ⟨a1, cap1, rfl⟩ := d1.form
  have h2 := below_trans h1 (on_alloc w1 (.cells #[.slice a1 (insOf ns up at_ es).length cap1] 24))
  have p7 : (w1.alloc (.cells #[.slice a1 (insOf ns up at_ es).length cap1] 24)).cell? ⟨w1.heap.size, 0, none⟩ = some (.slice a1 (insOf ns up at_ es).length cap1) := by simp [go_sem]
  have DA : Hid _ := DocAt.on d1 (on_alloc w1 (.cells #[.slice a1 (insOf ns up at_ es).length cap1] 24))
  replace D1 : Hid _ := DocAt.on D1.out h2
  replace D2 : Hid _ := DocAt.on D2.out h2
  replace c3 := cell_on h2 c3
  replace c4 := cell_on h2 c4
  replace hB := below_trans hB h2
  clear h1 h2 d1
  go_wp2_with fail
  generalize w1.alloc (.cells #[.slice a1 (insOf ns up at_ es).length cap1] 24) = w2 at *
  refine (refIns_any _ _ ns es up at_ _ D1.out D2.out).mono ?_
  rintro e w3 ⟨v3, rfl, d3, h1⟩
  obtain ⟨a3, cap3, rfl⟩ := d3.form
  have h2 := below_trans h1 (on_alloc w3 (.cells #[.slice a3 (insOf ns up at_ es).length cap3] 24))
  have p9 : (w3.alloc (.cells #[.slice a3 (insOf ns up at_ es).length cap3] 24)).cell? ⟨w3.heap.size, 0, none⟩ = some (.slice a3 (insOf ns up at_ es).length cap3) := by simp [go_sem]
  have DB : Hid _ := DocAt.on d3 (on_alloc w3 (.cells #[.slice a3 (insOf ns up at_ es).length cap3] 24))
  replace DA : Hid _ := DocAt.on DA.out h2
  replace p7 := cell_on h2 p7
  replace hB := below_trans hB h2
  clear h1 h2 d3 D1 D2 c3 c4
  generalize insErr ns up at_ es = E1 at *
  go_wp2_with fail
  generalize w3.alloc (.cells #[.slice a3 (insOf ns up at_ es).length cap3] 24) = w4 at *
  refine (docBegun_any _).mono ?_
  rintro e w9 ⟨rfl, h1⟩
  replace DA : Hid _ := DocAt.on DA.out h1
  replace DB : Hid _ := DocAt.on DB.out h1
  replace p7 := cell_on h1 p7
  replace p9 := cell_on h1 p9
  replace hB := below_trans hB h1
  clear h1
  go_wp2_with fail
  refine (sameDocs_eq _ _ (insOf ns up at_ es) _ DA.out DB.out).mono ?_
  rintro e w10 ⟨rfl, h1⟩
  replace hB := below_trans hB h1
  clear h1
  go_wp2
  go_ret
  exact ⟨rfl, hB⟩
end Go.Proofs.Ythlpcmgeelkncaa
