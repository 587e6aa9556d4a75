/-
  The law of what Show and Read answer, walked.
-/
import Derived.Test.YthlpcmgeelkncaaDFr
import Derived.Test.YthlpcmgeelkncaaMLaw
import Derived.Test.YthlpcmgeelkncaaRows
import Derived.Test.YthlpcmgeelkncaaDocO
import Derived.OpenShut
import Derived.JoinedCond
namespace Go.Proofs.Ythlpcmgeelkncaa
open Go.RowKit

set_option maxRecDepth 100000 in
set_option maxHeartbeats 4000000 in
theorem mshows_any (HM : BegunOk) (v : Value) (ns : List Pl.Nd) (l : List UInt8) (w : World) (hd : DocAt w v ns) (hl : l.length ≤ 1048576) :
    Calls Try.prog 7 #[.agg #[v], .string ⟨l.toArray⟩] w fun e w' => e = .returned (.bool true) ∧ Below w.heap.size w w' := by
  obtain ⟨a, cap, rfl⟩ := hd.form
  have hB := on_alloc w (.cells #[.slice a ns.length cap] 24)
  have D1 : Hid (DocAt _ _ _) := DocAt.on hd hB
  have c0 : (w.alloc (.cells #[.slice a ns.length cap] 24)).cell? ⟨w.heap.size, 0, none⟩ = some (.slice a ns.length cap) := by simp [go_sem]
  have hlm : l.length ≤ maxLen := by unfold maxLen; omega
  clear hd
  go_enter Try.func7, Try.ntmps7
  go_wp2_with fail
  generalize w.alloc (.cells #[.slice a ns.length cap] 24) = w0 at *
  refine (show_any _ ns _ D1.out).mono ?_
  rintro e w1 ⟨rfl, h1⟩
  replace D1 : Hid (DocAt _ _ _) := DocAt.on D1.out h1
  replace c0 := cell_on h1 c0
  replace hB := below_trans hB h1
  clear h1
  go_wp2_with fail
  refine (refCheck_any _ ns _ D1.out.2.2 D1.out.1).mono ?_
  rintro e w2 ⟨rfl, h2⟩
  replace D1 : Hid (DocAt _ _ _) := DocAt.on D1.out h2
  replace c0 := cell_on h2 c0
  replace hB := below_trans hB h2
  clear h2
  by_cases hz : Pl.checkDoc ns = 0
  case' pos =>
    have HS : Hid (showOf ns = Pl.showDoc ns) := by unfold Hid showOf; rw [if_pos hz]
    rw [hz, HS.out]
    go_wp2_with fail
    refine (docText_any _ ns _ D1.out.1 hz).mono ?_
    rintro e wt ⟨rfl, h3⟩
    have hBt := below_trans hB h3
    clear h3 D1 hB c0 HS
    generalize Pl.showDoc ns = S at *
    go_wp2_with fail
  case' neg =>
    have HS : Hid (showOf ns = []) := by unfold Hid showOf; rw [if_neg hz]
    rw [HS.out]
    have hBt := hB
    clear D1 hB c0 HS
    generalize Pl.checkDoc ns = k at *
    go_wp2_with fail
  all_goals
    refine (read_any l _ hlm).mono ?_
    rintro e w5 ⟨v5, rfl, _, d5, h5⟩
    obtain ⟨a5, c5, rfl⟩ := DocAt.form d5
    have hA := on_alloc w5 (.cells #[.slice a5 (readNs l).length c5] 24)
    have q5 : (w5.alloc (.cells #[.slice a5 (readNs l).length c5] 24)).cell? ⟨w5.heap.size, 0, none⟩ = some (.slice a5 (readNs l).length c5) := by simp [go_sem]
    have DY : Hid (DocAt _ _ _) := DocAt.on d5 hA
    have hB6 := below_trans (below_trans hBt h5) hA
    clear d5 h5 hA hBt
    go_wp2_with fail
    generalize w5.alloc (.cells #[.slice a5 (readNs l).length c5] 24) = w6 at *
    refine (docFrom_any l _ hl).mono ?_
    rintro e w7 ⟨v7, rfl, d7, h7⟩
    obtain ⟨a7, c7, rfl⟩ := DocAt.form d7
    have hA := on_alloc w7 (.cells #[.slice a7 (readNs l).length c7] 24)
    have q7 : (w7.alloc (.cells #[.slice a7 (readNs l).length c7] 24)).cell? ⟨w7.heap.size, 0, none⟩ = some (.slice a7 (readNs l).length c7) := by simp [go_sem]
    have DZ : Hid (DocAt _ _ _) := DocAt.on d7 hA
    replace DY : Hid (DocAt _ _ _) := DocAt.on DY.out (below_trans h7 hA)
    replace q5 := cell_on (below_trans h7 hA) q5
    replace hB6 := below_trans hB6 (below_trans h7 hA)
    clear d7 h7 hA
    cases hr : (Pl.readDoc l).isSome with
    | true =>
      have he : readErr l = 0 := by unfold readErr; rw [if_pos hr]
      rw [he]
      clear he hr
      go_wp2_with fail
      generalize w7.alloc (.cells #[.slice a7 (readNs l).length c7] 24) = w8 at *
      refine (HM _).mono ?_
      rintro e w9 ⟨rfl, h9⟩
      replace DY : Hid (DocAt _ _ _) := DocAt.on DY.out h9
      replace DZ : Hid (DocAt _ _ _) := DocAt.on DZ.out h9
      replace q5 := cell_on h9 q5
      replace q7 := cell_on h9 q7
      replace hB6 := below_trans hB6 h9
      clear h9
      go_wp2_with fail
      refine (sameDocs_eq _ _ _ _ DY.out DZ.out).mono ?_
      rintro e w10 ⟨rfl, h10⟩
      replace hB6 := below_trans hB6 h10
      clear h10
      go_wp2
      go_ret
      exact ⟨rfl, hB6⟩
    | false =>
      have he : readErr l = 1 := by unfold readErr; rw [if_neg (by rw [hr]; simp)]
      rw [he]
      clear he hr
      go_wp2_with fail
      generalize w7.alloc (.cells #[.slice a7 (readNs l).length c7] 24) = w8 at *
      refine (HM _).mono ?_
      rintro e w9 ⟨rfl, h9⟩
      replace DY : Hid (DocAt _ _ _) := DocAt.on DY.out h9
      replace DZ : Hid (DocAt _ _ _) := DocAt.on DZ.out h9
      replace q5 := cell_on h9 q5
      replace q7 := cell_on h9 q7
      replace hB6 := below_trans hB6 h9
      clear h9
      go_wp2_with fail
      refine (sameDocs_eq _ _ _ _ DY.out DZ.out).mono ?_
      rintro e w10 ⟨rfl, h10⟩
      replace hB6 := below_trans hB6 h10
      clear h10
      go_wp2
      go_ret
      exact ⟨rfl, hB6⟩
end Go.Proofs.Ythlpcmgeelkncaa
/-
  MarkShows, the frame of its row where what is handed over is of bulk at most 1048576.
-/
namespace Go.Proofs.Ythlpcmgeelkncaa
open Go.ChangeShapes Go.WideShapes Go.ChangeAt Go.RowKit Go.Joins
open Go.ChangeMaps (open_string shut_string)

/-- what the bound gives: the text's length -/
theorem short_text {H : Type} {d : DataW H} {s : ByteArray} (hk : Rows.uptoSmall H [d, .lit (.string s.data.toList)] = true) : s.data.toList.length ≤ 1048576 := by
  have h : Rows.uptoBulkAll [d, DataW.lit (H := H) (.string s.data.toList)] ≤ 1048576 := of_decide_eq_true hk
  simp only [Rows.uptoBulkAll, Rows.uptoBulk] at h
  omega
set_option maxRecDepth 100000 in
theorem mshows_contract (HM : BegunOk) (H : Type) (enc : TypeId × Value → H) (W : World) (base : Nat) (args : Array Value) (ds gs : List (DataW H)) (before : List MemPlace)
    (hval0 : ∀ (j : Nat) t v, Try.f7.params[j]? = some t → args[j]? = some v → Value.okWide Try.prog W .any base t v)
    (hW : DataW.Whole enc Try.prog Try.f7.params.toList Rows.markShowsSpec.vars false W args.toList ds gs before) (hk : Rows.uptoSmall H (ds ++ gs) = true) :
    Calls Try.prog 7 args W fun e W' => ∃ v, e = .returned v ∧ Rows.markShowsSpec.post enc Try.prog Try.f7 false true false false W args v W' := by
  have hval : ∀ (j : Nat) t v, Try.f7.params[j]? = some t → args[j]? = some v → Value.okWide Try.prog W .any base t v := hval0
  have hW' := hW
  obtain ⟨p, q, hA0, hV, rfl, hfz, hnd⟩ := hW
  have hA : DataW.TrodAll enc Try.prog W 0 (fun _ => true) true Try.f7.params.toList args.toList ds p := hA0
  rw [Try.params7] at hA hval
  obtain ⟨v0, r0, d0, e0, p0, q0, ha0, rfl, rfl, h0, hA⟩ := trodAll_cons hA
  obtain ⟨v1, r1, d1, e1, p1, q1, rfl, rfl, rfl, h1, hA⟩ := trodAll_cons hA
  obtain ⟨rfl, rfl, rfl⟩ : r1 = [] ∧ e1 = [] ∧ q1 = [] := by
    cases r1 <;> cases e1 <;> simp [DataW.TrodAll] at hA
    exact ⟨rfl, rfl, hA⟩
  obtain ⟨rfl⟩ : args = #[v0, v1] := by
    obtain ⟨l⟩ := args
    simp at ha0
    rw [ha0]
  obtain ⟨rfl, rfl⟩ := trodVars_none hV
  have hlt0 : ∀ x ∈ p0, x.block < W.heap.size := fun x hx => by simpa using hW'.lt x (by simp [hx])
  have hlt1 : ∀ x ∈ p1, x.block < W.heap.size := fun x hx => by simpa using hW'.lt x (by simp [hx])
  obtain ⟨s0, ns, rfl, D0⟩ := doc_open (hval 0 24 v0 rfl rfl) h0
  have g1 := h1
  obtain ⟨s, rfl, rfl, rfl, hs⟩ := open_string Try.underlying9 (hval 1 9 v1 rfl rfl) h1
  simp only [List.append_nil] at hk
  have walk := mshows_any HM s0 ns s.data.toList W D0 (short_text hk)
  rw [Lib.mk_data] at walk
  refine walk.mono ?_
  rintro e W' ⟨rfl, hb⟩
  refine ⟨_, rfl, _, _, _, [], p0 ++ ([] ++ []), [], hW', ?_, ?_, rfl, hb.frame _, fun h => by cases h⟩
  · exact trodAll_mk1 (shut_bool Try.underlying4 _)
  · exact trodAll_cons_mk (Below.trod laidOutTry (by kernel_rfl) (of_decide_eq_true (by kernel_rfl)) h0 hb hlt0) (trodAll_cons_mk (Below.trod laidOutTry (by kernel_rfl) (of_decide_eq_true (by kernel_rfl)) g1 hb hlt1) rfl)

set_option maxRecDepth 100000 in
theorem mshows_lifted (HM : BegunOk) (os : Os) (started : os.Started) (H : Type) (enc : TypeId × Value → H) (F : Stop.Interp) :
    ReturnsInHanded {} Try.checked os 7 .any ((Rows.OpenSpec.upto Rows.markShowsSpec).pre6 enc Try.prog Try.f7 Rows.markShowsUptoRow.domain false) (((Rows.OpenSpec.upto Rows.markShowsSpec).at F).post enc Try.prog Try.f7 false true false false) := by
  refine returnsInHanded_of_cond (C := Try.checked) (s := Rows.OpenSpec.upto Rows.markShowsSpec) (k := Rows.uptoSmall) rfl ownTry started (by kernel_rfl) Try.func7
    (OpenSpec.witness (enc := enc) (C := Try.checked) (s := Rows.OpenSpec.upto Rows.markShowsSpec) (k := Rows.uptoSmall) rfl false ⟨#[], #[.agg #[.slice none 0 0], .string .empty], []⟩ 8 (by kernel_rfl) (by kernel_rfl) (by kernel_rfl)
      (x := ([.agg [.nil], .lit (.string [])], [], [])) (by kernel_rfl) rfl (by kernel_rfl)) ?_
  intro W base args ds gs before hval hW _ hk _
  exact mshows_contract HM H enc W base args ds gs before hval hW hk

theorem markShows_of (HM : BegunOk) : Rows.MarkShowsUptoSaid :=
  OpenClaim.holds_of_cond 7 Try.f7 rfl rfl rfl rfl rfl rfl rfl ⟨rfl, rfl, rfl, rfl, rfl⟩ rfl rfl rfl rfl rfl (by kernel_rfl) Try.func7 (by kernel_rfl)
    (of_decide_eq_true (by kernel_rfl)) (by unfold Func.isWrapper; first | (rw [if_pos (by decide +kernel)]; kernel_rfl) | (rw [if_neg (by decide +kernel)]; exact ⟨rfl, rfl⟩))
    (fun os started H enc _ F => mshows_lifted HM os started H enc F)
end Go.Proofs.Ythlpcmgeelkncaa
