/-
  markBegun.
-/
import Derived.Test.YthlpcmgeelkncaaMLaw
import Derived.Test.YthlpcmgeelkncaaSmall
namespace Go.Proofs.Ythlpcmgeelkncaa
open Go.RowKit

theorem check_small : Pl.checkDoc smallNs = 0 := by kernel_rfl
def smallF : Pl.F := .cons ⟨0, [105, 116, 101, 109], [], [[97]], []⟩ .nil (.cons ⟨0, [105, 116, 101, 109], [], [[98]], []⟩ (.cons ⟨0, [108, 105, 110, 107], [], [], [([116, 111], [111, 110, 101, 32, 116, 119, 111])]⟩ .nil .nil) (.cons ⟨0, [105, 116, 101, 109], [], [[97]], []⟩ .nil .nil))
theorem small_tree : smallNs = Pl.layT ⟨0, [108, 105, 115, 116], [116, 111, 112], [], []⟩ smallF 0 (-1) := rfl
def smallText : List UInt8 := [108, 105, 115, 116, 35, 116, 111, 112, 40, 105, 116, 101, 109, 46, 97, 32, 105, 116, 101, 109, 46, 98, 40, 108, 105, 110, 107, 91, 116, 111, 61, 34, 111, 110, 101, 32, 116, 119, 111, 34, 93, 41, 32, 105, 116, 101, 109, 46, 97, 41]
theorem show_small : showOf smallNs = smallText := by
  unfold showOf
  rw [if_pos check_small, small_tree, Pl.show_tree]
  rfl
set_option maxRecDepth 100000 in
set_option maxHeartbeats 4000000 in
theorem markBegun_any (w : World) : Calls Try.prog 31 #[] w fun e w' => e = .returned (.bool true) ∧ Below w.heap.size w w' := by
  go_enter Try.func31, Try.ntmps31
  go_wp2_with fail
  refine (small_any _).mono ?_
  rintro e w1 ⟨v1, rfl, d1, h1⟩
  have D1 : Hid (DocAt _ _ _) := d1
  clear d1
  go_wp2_with fail
  refine (show_any _ smallNs _ D1.out).mono ?_
  rintro e w2 ⟨rfl, h2⟩
  have hB2 := below_trans h1 h2
  rw [check_small, show_small]
  have hst : smallText = [108, 105, 115, 116, 35, 116, 111, 112, 40, 105, 116, 101, 109, 46, 97, 32, 105, 116, 101, 109, 46, 98, 40, 108, 105, 110, 107, 91, 116, 111, 61, 34, 111, 110, 101, 32, 116, 119, 111, 34, 93, 41, 32, 105, 116, 101, 109, 46, 97, 41] := rfl
  clear h1 h2 D1
  go_wp2_with fail
  refine (read_any smallText _ (by unfold maxLen; decide)).mono ?_
  rintro e w3 ⟨v3, rfl, _, d3, h3⟩
  have hr := read_show check_small
  rw [show_small] at hr
  rw [hr.1]
  rw [hr.2] at d3
  obtain ⟨a3, c3, rfl⟩ := DocAt.form d3
  have hB3 := below_trans hB2 h3
  have hA := on_alloc w3 (.cells #[.slice a3 smallNs.length c3] 24)
  have hB4 := below_trans hB3 hA
  have D4 : Hid (DocAt _ _ _) := DocAt.on d3 hA
  have q4 : (w3.alloc (.cells #[.slice a3 smallNs.length c3] 24)).cell? ⟨w3.heap.size, 0, none⟩ = some (.slice a3 smallNs.length c3) := by simp [go_sem]
  clear d3 h3 hr hB2 hB3 hA
  go_wp2_with fail
  generalize w3.alloc (.cells #[.slice a3 smallNs.length c3] 24) = w4 at *
  have qd : w4.drew.cell? ⟨w3.heap.size, 0, none⟩ = some (.slice a3 smallNs.length c3) := q4
  have hdr : Below w4.heap.size w4 w4.drew := (Below.refl w4.heap.size w4).drew
  have D4d : Hid (DocAt w4.drew (.slice a3 smallNs.length c3) smallNs) := DocAt.on D4.out hdr
  clear D4 hdr
  go_region_law (first | (go_simp; go_at_call 41; refine (small_any _).mono ?_; rintro e w5 ⟨v5, rfl, d5, h5⟩; have q5 := cell_on h5 qd; obtain ⟨a5, c5, rfl⟩ := DocAt.form d5) | (go_simp; go_at_call 20; refine (sameDocs_eq _ _ smallNs _ (DocAt.on D4d.out h5) d5).mono ?_; rintro e w6 ⟨rfl, h6⟩))
  all_goals
    have hB6 := below_trans (below_trans hB4.drew h5) h6
    clear h5 h6 d5
    go_wp2
    go_ret
    exact ⟨rfl, hB6⟩
end Go.Proofs.Ythlpcmgeelkncaa
