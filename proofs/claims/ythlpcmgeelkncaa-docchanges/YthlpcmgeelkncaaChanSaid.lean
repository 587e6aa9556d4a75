/-
  DocChanges, for every document, every number and every element: Remove and Put answer just what the document says, errors too. No condition.
-/
import Derived.Test.YthlpcmgeelkncaaRows
import Derived.Test.YthlpcmgeelkncaaChan
import Derived.Test.YthlpcmgeelkncaaDocO
namespace Go.Proofs.Ythlpcmgeelkncaa
open Go.ChangeShapes Go.WideShapes Go.ChangeAt Go.RowKit Go.Joins

set_option maxRecDepth 100000 in
/-- an element among the arguments -/
theorem nd_open {H : Type} {enc : TypeId × Value → H} {W : World} {r : Reach} {b0 : Nat} {v : Value} {d : DataW H} {p : List MemPlace} (hv : Value.okWide Try.prog W r b0 47 v) (h : DataW.Trod enc Try.prog W 0 (fun _ => true) true 47 v d p) : ∃ x, NdV W v x ∧ Fits x := by
  obtain ⟨cs, rfl, _⟩ := okWide_struct Try.underlying47 hv
  obtain ⟨fuel, hf0⟩ := h
  have hf1 : DataW.trod enc Try.prog W 0 (fun _ => true) true fuel 47 cs.toList = some (d, p) := hf0
  obtain ⟨l⟩ := cs
  obtain ⟨xs, m, _, _, hl, hlen, hf⟩ := DataW.trod_struct Try.underlying47 hf1
  rw [cl47] at hl
  obtain ⟨v0, v1, v2, v3, v4, rfl⟩ := list5 hl
  obtain ⟨y0, y1, y2, y3, y4, rfl⟩ := list5 hlen
  have f0 : DataW.trod enc Try.prog W 0 (fun _ => true) true m 3 (([v0, v1, v2, v3, v4].drop 0).take (Try.prog.cellsOf 3)) = some y0 := hf 0 _ rfl
  rw [cl3] at f0
  replace f0 : DataW.trod enc Try.prog W 0 (fun _ => true) true m 3 [v0] = some y0 := f0
  have f1 : DataW.trod enc Try.prog W 0 (fun _ => true) true m 9 (([v0, v1, v2, v3, v4].drop 1).take (Try.prog.cellsOf 9)) = some y1 := hf 1 _ rfl
  rw [cl9] at f1
  replace f1 : DataW.trod enc Try.prog W 0 (fun _ => true) true m 9 [v1] = some y1 := f1
  have f2 : DataW.trod enc Try.prog W 0 (fun _ => true) true m 9 (([v0, v1, v2, v3, v4].drop 2).take (Try.prog.cellsOf 9)) = some y2 := hf 2 _ rfl
  rw [cl9] at f2
  replace f2 : DataW.trod enc Try.prog W 0 (fun _ => true) true m 9 [v2] = some y2 := f2
  have f3 : DataW.trod enc Try.prog W 0 (fun _ => true) true m 44 (([v0, v1, v2, v3, v4].drop 3).take (Try.prog.cellsOf 44)) = some y3 := hf 3 _ rfl
  rw [cl44] at f3
  replace f3 : DataW.trod enc Try.prog W 0 (fun _ => true) true m 44 [v3] = some y3 := f3
  have f4 : DataW.trod enc Try.prog W 0 (fun _ => true) true m 45 (([v0, v1, v2, v3, v4].drop 4).take (Try.prog.cellsOf 45)) = some y4 := hf 4 _ rfl
  rw [cl45] at f4
  replace f4 : DataW.trod enc Try.prog W 0 (fun _ => true) true m 45 [v4] = some y4 := f4
  obtain ⟨k, e0, _, _⟩ := DataW.trod_int Try.underlying3 f0
  obtain ⟨s1, e1, _, _⟩ := DataW.trod_string Try.underlying9 f1
  obtain ⟨s2, e2, _, _⟩ := DataW.trod_string Try.underlying9 f2
  obtain ⟨w3, ss, e3, hs, ls⟩ := strs_open f3
  obtain ⟨w4, ts, e4, ha, la⟩ := ats_open f4
  injection e0 with e0 _
  injection e1 with e1 _
  injection e2 with e2 _
  injection e3 with e3 _
  injection e4 with e4 _
  subst e0 e1 e2 e3 e4
  exact ⟨⟨k, s1.data.toList, s2.data.toList, ss, ts⟩, ⟨v3, v4, rfl, hs, ha⟩, ls, la⟩

set_option maxRecDepth 100000 in
theorem changes_lifted (os : Os) (started : os.Started) (H : Type) (enc : TypeId × Value → H) :
    ReturnsInHanded {} Try.checked os 5 .any (Rows.docChangesSpec.pre6 enc Try.prog Try.f5 Rows.docChangesRow.domain false) (Rows.docChangesSpec.post enc Try.prog Try.f5 false true false false) := by
  refine returnsInHanded_of_change (C := Try.checked) ownTry started (by kernel_rfl) Try.func5
    (ChangeSpec.witness6 (enc := enc) (C := Try.checked) false ⟨#[], #[.agg #[.slice none 0 0], .int .i64 0, .agg #[.int .i64 0, .string ⟨#[]⟩, .string ⟨#[]⟩, .slice none 0 0, .slice none 0 0]], []⟩ 8 (by kernel_rfl) (by kernel_rfl) (by kernel_rfl) (by kernel_rfl)) ?_
  intro W base args ds gs before hval0 hW _ _
  have hval : ∀ (j : Nat) t v, Try.f5.params[j]? = some t → args[j]? = some v → Value.okWide Try.prog W .any base t v := hval0
  have hW' := hW
  obtain ⟨p, q, hA0, hV, rfl, hfz, hnd⟩ := hW
  have hA : DataW.TrodAll enc Try.prog W 0 (fun _ => true) true Try.f5.params.toList args.toList ds p := hA0
  rw [Try.params5] at hA hval
  obtain ⟨v0, r0, d0, e0, p0, q0, ha0, rfl, rfl, h0, hA⟩ := trodAll_cons hA
  obtain ⟨v1, r1, d1, e1, p1, q1, rfl, rfl, rfl, h1, hA⟩ := trodAll_cons hA
  obtain ⟨v2, r2, d2, e2, p2, q2, rfl, rfl, rfl, h2, hA⟩ := trodAll_cons hA
  obtain ⟨rfl, rfl, rfl⟩ : r2 = [] ∧ e2 = [] ∧ q2 = [] := by
    cases r2 <;> cases e2 <;> simp [DataW.TrodAll] at hA
    exact ⟨rfl, rfl, hA⟩
  obtain ⟨rfl⟩ : args = #[v0, v1, v2] := by
    obtain ⟨l⟩ := args
    simp at ha0
    rw [ha0]
  obtain ⟨rfl, rfl⟩ := trodVars_none hV
  have hlt0 : ∀ x ∈ p0, x.block < W.heap.size := fun x hx => by simpa using hW'.lt x (by simp [hx])
  have hlt1 : ∀ x ∈ p1, x.block < W.heap.size := fun x hx => by simpa using hW'.lt x (by simp [hx])
  have hlt2 : ∀ x ∈ p2, x.block < W.heap.size := fun x hx => by simpa using hW'.lt x (by simp [hx])
  obtain ⟨s0, ns, rfl, D0⟩ := doc_open (hval 0 24 v0 rfl rfl) h0
  obtain ⟨x, NX, FX⟩ := nd_open (hval 2 47 v2 rfl rfl) h2
  have g1 := h1
  obtain ⟨n, rfl, rfl, rfl, _⟩ := open_int Try.underlying3 (hval 1 3 v1 rfl rfl) h1
  refine (changes_any s0 v2 ns n x W D0 NX FX).mono ?_
  rintro e W' ⟨rfl, hb⟩
  refine ⟨_, rfl, _, _, _, [], p0 ++ ([] ++ (p2 ++ [])), [], hW', ?_, ?_, rfl, hb.frame _, fun h => by cases h⟩
  · exact trodAll_mk1 (shut_bool Try.underlying4 _)
  · exact trodAll_cons_mk (Below.trod laidOutTry (by kernel_rfl) (of_decide_eq_true (by kernel_rfl)) h0 hb hlt0) (trodAll_cons_mk (Below.trod laidOutTry (by kernel_rfl) (of_decide_eq_true (by kernel_rfl)) g1 hb hlt1) (trodAll_cons_mk (Below.trod laidOutTry (by kernel_rfl) (of_decide_eq_true (by kernel_rfl)) h2 hb hlt2) rfl))

theorem docChanges_holds : Rows.DocChangesSaid :=
  OpenClaim.holds_of_wide 5 Try.f5 rfl rfl rfl rfl rfl rfl rfl ⟨rfl, rfl, rfl, rfl, rfl⟩ rfl rfl rfl rfl rfl (by kernel_rfl) Try.func5 (by kernel_rfl)
    (of_decide_eq_true (by kernel_rfl)) (by unfold Func.isWrapper; first | (rw [if_pos (by decide +kernel)]; kernel_rfl) | (rw [if_neg (by decide +kernel)]; exact ⟨rfl, rfl⟩))
    (fun os started H enc _ => changes_lifted os started H enc)
end Go.Proofs.Ythlpcmgeelkncaa
