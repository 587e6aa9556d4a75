/-
  The law of what is shown and read back, walked.
-/
import Derived.Test.YthlpcmgeelkncaaRead
import Derived.Test.YthlpcmgeelkncaaShow
import Derived.Test.YthlpcmgeelkncaaSamd
namespace Go.Proofs.Ythlpcmgeelkncaa
open Go.RowKit

theorem read_show {ns : List Pl.Nd} (h : Pl.checkDoc ns = 0) : readErr (showOf ns) = 0 ∧ readNs (showOf ns) = ns := by
  have h1 : Pl.readDoc (showOf ns) = some ns := (Pl.read_iff _ _).2 ⟨h, by unfold showOf; rw [if_pos h]⟩
  unfold readErr readNs
  rw [h1]
  exact ⟨rfl, rfl⟩
theorem show_read {l : List UInt8} (h : readErr l = 0) : Pl.checkDoc (readNs l) = 0 ∧ showOf (readNs l) = l := by
  unfold readErr at h
  unfold readNs
  cases hr : Pl.readDoc l with
  | none => rw [hr] at h; simp at h
  | some ns =>
    obtain ⟨h1, h2⟩ := (Pl.read_iff _ _).1 hr
    refine ⟨h1, ?_⟩
    show showOf ns = l
    unfold showOf
    rw [if_pos h1]; exact h2.symm
def BegunOk : Prop := ∀ w : World, Calls Try.prog 31 #[] w fun e w' => e = .returned (.bool true) ∧ Below w.heap.size w w'
theorem shown_len (ns : List Pl.Nd) : (showOf ns).length ≤ maxLen := by
  unfold showOf
  split
  · rename_i hz
    obtain ⟨h1, h64, hr, _⟩ := (Pl.check_iff ns).1 hz
    have a1 := showTo_len (fun x hx => short_of (hr x hx)) h64 ns.length (Nat.le_refl _)
    have a2 := Pl.cl_len ns (-1) (ns.length - 1)
    unfold Pl.showDoc maxLen
    simp only [List.length_append]
    omega
  · unfold maxLen; simp
set_option maxRecDepth 100000 in
set_option maxHeartbeats 4000000 in
theorem mback_any (HM : BegunOk) (v : Value) (ns : List Pl.Nd) (l : List UInt8) (w : World) (hd : DocAt w v ns) (hl : l.length ≤ maxLen) :
    Calls Try.prog 8 #[.agg #[v], .string ⟨l.toArray⟩] w fun e w' => e = .returned (.bool true) ∧ Below w.heap.size w w' := by
  obtain ⟨a, cap, rfl⟩ := hd.form
  have hB := on_alloc w (.cells #[.slice a ns.length cap] 24)
  have D1 : Hid (DocAt _ _ _) := DocAt.on hd hB
  have c0 : (w.alloc (.cells #[.slice a ns.length cap] 24)).cell? ⟨w.heap.size, 0, none⟩ = some (.slice a ns.length cap) := by simp [go_sem]
  clear hd
  go_enter Try.func8, Try.ntmps8
  go_wp2_with fail
  generalize w.alloc (.cells #[.slice a ns.length cap] 24) = w0 at *
  refine (show_any _ ns _ D1.out).mono ?_
  rintro e w1 ⟨rfl, h1⟩
  replace D1 : Hid (DocAt _ _ _) := DocAt.on D1.out h1
  replace c0 := cell_on h1 c0
  replace hB := below_trans hB h1
  clear h1
  by_cases hz : Pl.checkDoc ns = 0
  case' pos =>
    have hr := read_show hz
    rw [hz]
    go_wp2_with fail
    refine (read_any (showOf ns) _ (shown_len ns)).mono ?_
    rintro e w2 ⟨v2, rfl, _, d2, h2⟩
    rw [hr.1]
    rw [hr.2] at d2
    obtain ⟨a2, c2, rfl⟩ := DocAt.form d2
    have hA := on_alloc w2 (.cells #[.slice a2 ns.length c2] 24)
    have q2 : (w2.alloc (.cells #[.slice a2 ns.length c2] 24)).cell? ⟨w2.heap.size, 0, none⟩ = some (.slice a2 ns.length c2) := by simp [go_sem]
    have DX : Hid (DocAt _ _ _) := DocAt.on d2 hA
    replace D1 : Hid (DocAt _ _ _) := DocAt.on D1.out (below_trans h2 hA)
    replace c0 := cell_on (below_trans h2 hA) c0
    replace hB := below_trans hB (below_trans h2 hA)
    clear hr d2 h2 hA
    go_wp2_with fail
    generalize w2.alloc (.cells #[.slice a2 ns.length c2] 24) = w3 at *
    refine (sameDocs_eq _ _ ns _ DX.out D1.out).mono ?_
    rintro e wt ⟨rfl, h4⟩
    have hBt := below_trans hB h4
    clear h4 D1 DX hB c0 q2
    go_wp2_with fail
  case' neg =>
    have hz' : ¬ ((Pl.checkDoc ns : Int) = 0) := hz
    rename World => wt
    have hBt := hB
    clear D1 hB c0
    go_wp2_with fail
  all_goals
    refine (read_any l _ hl).mono ?_
    rintro e w5 ⟨v5, rfl, _, d5, h5⟩
    obtain ⟨a5, c5, rfl⟩ := DocAt.form d5
    have hA := on_alloc w5 (.cells #[.slice a5 (readNs l).length c5] 24)
    have q5 : (w5.alloc (.cells #[.slice a5 (readNs l).length c5] 24)).cell? ⟨w5.heap.size, 0, none⟩ = some (.slice a5 (readNs l).length c5) := by simp [go_sem]
    have DY : Hid (DocAt _ _ _) := DocAt.on d5 hA
    have hB6 := below_trans (below_trans hBt h5) hA
    clear d5 h5 hA hBt
    by_cases hg : readErr l = 0
    · have hs : Hid (Pl.checkDoc (readNs l) = 0 ∧ showOf (readNs l) = l) := show_read hg
      rw [hg]
      go_wp2_with fail
      generalize w5.alloc (.cells #[.slice a5 (readNs l).length c5] 24) = w6 at *
      refine (show_any _ (readNs l) _ DY.out).mono ?_
      rintro e w7 ⟨rfl, h7⟩
      rw [hs.out.1, hs.out.2]
      replace hB6 := below_trans hB6 h7
      clear h7 q5 DY hs
      go_wp2_with fail
      refine (HM _).mono ?_
      rintro e w8 ⟨rfl, h8⟩
      replace hB6 := below_trans hB6 h8
      clear h8
      go_wp2
      go_ret
      exact ⟨rfl, hB6⟩
    · go_wp2_with fail
      generalize w5.alloc (.cells #[.slice a5 (readNs l).length c5] 24) = w6 at *
      refine (HM _).mono ?_
      rintro e w8 ⟨rfl, h8⟩
      replace hB6 := below_trans hB6 h8
      clear h8
      go_wp2
      go_ret
      exact ⟨rfl, hB6⟩
end Go.Proofs.Ythlpcmgeelkncaa
