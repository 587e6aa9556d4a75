/-
  LiveChanges, for every page, every document, every three numbers and every element: Open, Insert, Remove and Put answer just what the document says, errors too. No condition.
-/
import Derived.Test.YtbpgcfabepioiaaGreatRows
import Derived.Test.YtbpgcfabepioiaaGreatPgO
import Derived.Test.YtbpgcfabepioiaaGreatRefI
import Derived.Test.YtbpgcfabepioiaaGreatRefR
import Derived.Test.YtbpgcfabepioiaaGreatRefU
namespace Go.Proofs.YtbpgcfabepioiaaGreat
open Go.ChangeShapes Go.WideShapes Go.ChangeAt Go.RowKit Go.Joins

theorem ch_zero {E : Int} {ms : List Pl.Nd} (h : E = 0 → Pl.checkDoc ms = 0) : chErr 0 E ms = E ∧ chDoc 0 E ms = (if E = 0 then ms else []) ∧ chIdx 0 E ms = (if E = 0 then Pl.idxAns ms else []) := by
  unfold chErr chDoc chIdx pgErr pgDoc pgIdx
  by_cases hE : E = 0
  · simp [hE, h hE]
  · simp [hE]
theorem ch_bad {P E : Int} {ms : List Pl.Nd} (h : P ≠ 0) : chErr P E ms = P ∧ chDoc P E ms = [] ∧ chIdx P E ms = [] := by
  unfold chErr chDoc chIdx
  simp [h]
theorem open_all (ns : List Pl.Nd) : pgErr (checkAtOf ns 0) (partOf ns 0) = Pl.checkDoc ns ∧ pgDoc (checkAtOf ns 0) (partOf ns 0) = (if Pl.checkDoc ns = 0 then ns else []) ∧ pgIdx (checkAtOf ns 0) (partOf ns 0) = (if Pl.checkDoc ns = 0 then Pl.idxAns ns else []) := by
  by_cases h : Pl.checkDoc ns = 0
  · obtain ⟨h1, h2, h3⟩ := open_ok h
    rw [h1, h2, h3, if_pos h, if_pos h, h]
    exact ⟨rfl, rfl, rfl⟩
  · obtain ⟨h1, h2⟩ := part_bad h
    rw [h1, h2]
    unfold pgErr pgDoc pgIdx
    simp [h]
theorem live_laws (ns es : List Pl.Nd) (l : List Pl.Er) (up at_ n : Int) (x : Pl.Nd) (hl : IxFit l) (hx : Fits x) :
    Laws ns es l up at_ n x (Pl.checkDoc ns) (chErr (pageErr ns l) (insErr ns up at_ es) (insOf ns up at_ es)) (chErr (pageErr ns l) (remErr ns n) (remOf ns n)) (chErr (pageErr ns l) (putErr ns n x) (putOf ns n x)) (pageErr ns l)
      (if Pl.checkDoc ns = 0 then ns else []) (chDoc (pageErr ns l) (insErr ns up at_ es) (insOf ns up at_ es)) (chDoc (pageErr ns l) (remErr ns n) (remOf ns n)) (chDoc (pageErr ns l) (putErr ns n x) (putOf ns n x))
      (if Pl.checkDoc ns = 0 then Pl.idxAns ns else []) (chIdx (pageErr ns l) (insErr ns up at_ es) (insOf ns up at_ es)) (chIdx (pageErr ns l) (remErr ns n) (remOf ns n)) (chIdx (pageErr ns l) (putErr ns n x) (putOf ns n x)) where
  open_ := fun W v hd => by
    refine (open_any v ns W hd).mono ?_
    rintro e w' ⟨v', rfl, hp, hb⟩
    obtain ⟨h1, h2, h3⟩ := open_all ns
    rw [h2, h3] at hp
    exact ⟨v', by rw [h1], hp, hb⟩
  ins := fun W v v2 hp hd => linsert_any v ns l up at_ v2 es W hp hl hd
  rem := fun W v hp => lremove_any v ns l n W hp hl
  put := fun W v xv hp hn => lput_any v ns l n xv x W hp hl hn hx
  chk := fun W v hd => refCheck_any v ns W hd.2.2 hd.1
  po := fun W v hd => pageOf_any v ns _ W hd id
  pe := fun W v hp => pageError_any v ns l W hp hl
  fit := by
    refine ⟨?_, ix_ch _ _ _, ix_ch _ _ _, ix_ch _ _ _⟩
    split
    · exact ix_ans ns
    · exact ⟨by simp, by simp⟩
theorem live_refs (ns es : List Pl.Nd) (up at_ n : Int) (x : Pl.Nd) (hx : Fits x) :
    Refs ns es up at_ n x (chErr 0 (insErr ns up at_ es) (insOf ns up at_ es)) (chErr 0 (remErr ns n) (remOf ns n)) (chErr 0 (putErr ns n x) (putOf ns n x)) (insOf ns up at_ es) (remOf ns n) (putOf ns n x)
      (chDoc 0 (insErr ns up at_ es) (insOf ns up at_ es)) (chDoc 0 (remErr ns n) (remOf ns n)) (chDoc 0 (putErr ns n x) (putOf ns n x))
      (chIdx 0 (insErr ns up at_ es) (insOf ns up at_ es)) (chIdx 0 (remErr ns n) (remOf ns n)) (chIdx 0 (putErr ns n x) (putOf ns n x)) := by
  obtain ⟨a1, a2, a3⟩ := ch_zero (E := insErr ns up at_ es) (ms := insOf ns up at_ es) ins_right
  obtain ⟨b1, b2, b3⟩ := ch_zero (E := remErr ns n) (ms := remOf ns n) rem_right
  obtain ⟨c1, c2, c3⟩ := ch_zero (E := putErr ns n x) (ms := putOf ns n x) put_right
  rw [a1, a2, a3, b1, b2, b3, c1, c2, c3]
  exact
    { ins := fun W v v2 hd hd2 => refIns_any v v2 ns es up at_ W hd hd2
      insP := fun W v hd => pageOf_any v _ _ W hd ins_right
      rem := fun W v hd => refRem_any v ns n W hd
      remP := fun W v hd => pageOf_any v _ _ W hd rem_right
      put := fun W v xv hd hn => refPut_any v xv ns n x W hd hn hx
      putP := fun W v hd => pageOf_any v _ _ W hd put_right }
theorem live_any (ns es : List Pl.Nd) (l : List Pl.Er) (up at_ n : Int) (x : Pl.Nd) (pv ev xv : Value) (w : World) (hpg : PgAt w pv ns l) (hl : IxFit l) (hd2 : DocAt w ev es) (hx : NdV w xv x) (hfx : Fits x) :
    Calls Tryz.prog 3 #[pv, .int .i64 up, .int .i64 at_, .agg #[ev], .int .i64 n, xv] w fun e w' => e = .returned (.bool true) ∧ Below w.heap.size w w' := by
  refine law_try ns es l up at_ n x _ _ _ _ _ _ _ _ _ _ _ _ _ pv ev xv w hpg hd2 hx (live_laws ns es l up at_ n x hl hfx) ?_
  by_cases hP : pageErr ns l = 0
  · right
    refine ⟨hP, insOf ns up at_ es, remOf ns n, putOf ns n x, ?_⟩
    rw [hP]
    exact live_refs ns es up at_ n x hfx
  · left
    obtain ⟨a1, a2, a3⟩ := ch_bad (E := insErr ns up at_ es) (ms := insOf ns up at_ es) hP
    obtain ⟨b1, b2, b3⟩ := ch_bad (E := remErr ns n) (ms := remOf ns n) hP
    obtain ⟨c1, c2, c3⟩ := ch_bad (E := putErr ns n x) (ms := putOf ns n x) hP
    exact ⟨hP, a1.symm, a1.trans b1.symm, b1.trans c1.symm, a2, b2, c2, a3, b3, c3⟩

set_option maxRecDepth 100000 in
theorem live_lifted (os : Os) (started : os.Started) (H : Type) (enc : TypeId × Value → H) :
    ReturnsInHanded {} Tryz.checked os 3 .any (Rows.liveChangesSpec.pre6 enc Tryz.prog Tryz.f3 Rows.liveChangesRow.domain false) (Rows.liveChangesSpec.post enc Tryz.prog Tryz.f3 false true false false) := by
  refine returnsInHanded_of_change (C := Tryz.checked) ownTryz started (by kernel_rfl) Tryz.func3
    (ChangeSpec.witness6 (enc := enc) (C := Tryz.checked) false ⟨#[], #[.agg #[.slice none 0 0, .slice none 0 0], .int .i64 0, .int .i64 0, .agg #[.slice none 0 0], .int .i64 0, .agg #[.int .i64 0, .string ⟨#[]⟩, .string ⟨#[]⟩, .slice none 0 0, .slice none 0 0]], []⟩ 8 (by kernel_rfl) (by kernel_rfl) (by kernel_rfl) (by kernel_rfl)) ?_
  intro W base args ds gs before hval0 hW _ _
  have hval : ∀ (j : Nat) t v, Tryz.f3.params[j]? = some t → args[j]? = some v → Value.okWide Tryz.prog W .any base t v := hval0
  have hW' := hW
  obtain ⟨p, q, hA0, hV, rfl, hfz, hnd⟩ := hW
  have hA : DataW.TrodAll enc Tryz.prog W 0 (fun _ => true) true Tryz.f3.params.toList args.toList ds p := hA0
  rw [Tryz.params3] at hA hval
  obtain ⟨v0, r0, d0, e0, p0, q0, ha0, rfl, rfl, h0, hA⟩ := trodAll_cons hA
  obtain ⟨v1, r1, d1, e1, p1, q1, rfl, rfl, rfl, h1, hA⟩ := trodAll_cons hA
  obtain ⟨v2, r2, d2, e2, p2, q2, rfl, rfl, rfl, h2, hA⟩ := trodAll_cons hA
  obtain ⟨v3, r3, d3, e3, p3, q3, rfl, rfl, rfl, h3, hA⟩ := trodAll_cons hA
  obtain ⟨v4, r4, d4, e4, p4, q4, rfl, rfl, rfl, h4, hA⟩ := trodAll_cons hA
  obtain ⟨v5, r5, d5, e5, p5, q5, rfl, rfl, rfl, h5, hA⟩ := trodAll_cons hA
  obtain ⟨rfl, rfl, rfl⟩ : r5 = [] ∧ e5 = [] ∧ q5 = [] := by
    cases r5 <;> cases e5 <;> simp [DataW.TrodAll] at hA
    exact ⟨rfl, rfl, hA⟩
  obtain ⟨rfl⟩ : args = #[v0, v1, v2, v3, v4, v5] := by
    obtain ⟨l⟩ := args
    simp at ha0
    rw [ha0]
  obtain ⟨rfl, rfl⟩ := trodVars_none hV
  have hlt0 : ∀ x ∈ p0, x.block < W.heap.size := fun x hx => by simpa using hW'.lt x (by simp [hx])
  have hlt1 : ∀ x ∈ p1, x.block < W.heap.size := fun x hx => by simpa using hW'.lt x (by simp [hx])
  have hlt2 : ∀ x ∈ p2, x.block < W.heap.size := fun x hx => by simpa using hW'.lt x (by simp [hx])
  have hlt3 : ∀ x ∈ p3, x.block < W.heap.size := fun x hx => by simpa using hW'.lt x (by simp [hx])
  have hlt4 : ∀ x ∈ p4, x.block < W.heap.size := fun x hx => by simpa using hW'.lt x (by simp [hx])
  have hlt5 : ∀ x ∈ p5, x.block < W.heap.size := fun x hx => by simpa using hW'.lt x (by simp [hx])
  obtain ⟨ns, l, P0, X0⟩ := page_open (hval 0 27 v0 rfl rfl) h0
  obtain ⟨s3, es, rfl, D3⟩ := doc_open (hval 3 24 v3 rfl rfl) h3
  obtain ⟨x, NX, FX⟩ := nd_open (hval 5 31 v5 rfl rfl) h5
  have g1 := h1
  have g2 := h2
  have g4 := h4
  obtain ⟨n1, rfl, rfl, rfl, _⟩ := open_int Tryz.underlying3 (hval 1 3 v1 rfl rfl) h1
  obtain ⟨n2, rfl, rfl, rfl, _⟩ := open_int Tryz.underlying3 (hval 2 3 v2 rfl rfl) h2
  obtain ⟨n4, rfl, rfl, rfl, _⟩ := open_int Tryz.underlying3 (hval 4 3 v4 rfl rfl) h4
  refine (live_any ns es l n1 n2 n4 x v0 s3 v5 W P0 X0 D3 NX FX).mono ?_
  rintro e W' ⟨rfl, hb⟩
  refine ⟨_, rfl, _, _, _, [], p0 ++ ([] ++ ([] ++ (p3 ++ ([] ++ (p5 ++ []))))), [], hW', ?_, ?_, rfl, hb.frame _, fun h => by cases h⟩
  · exact trodAll_mk1 (shut_bool Tryz.underlying4 _)
  · exact trodAll_cons_mk (Below.trod laidOutTryz (by kernel_rfl) (of_decide_eq_true (by kernel_rfl)) h0 hb hlt0) (trodAll_cons_mk (Below.trod laidOutTryz (by kernel_rfl) (of_decide_eq_true (by kernel_rfl)) g1 hb hlt1) (trodAll_cons_mk (Below.trod laidOutTryz (by kernel_rfl) (of_decide_eq_true (by kernel_rfl)) g2 hb hlt2) (trodAll_cons_mk (Below.trod laidOutTryz (by kernel_rfl) (of_decide_eq_true (by kernel_rfl)) h3 hb hlt3) (trodAll_cons_mk (Below.trod laidOutTryz (by kernel_rfl) (of_decide_eq_true (by kernel_rfl)) g4 hb hlt4) (trodAll_cons_mk (Below.trod laidOutTryz (by kernel_rfl) (of_decide_eq_true (by kernel_rfl)) h5 hb hlt5) rfl)))))

theorem liveChanges_holds : Rows.LiveChangesSaid :=
  OpenClaim.holds_of_wide 3 Tryz.f3 rfl rfl rfl rfl rfl rfl rfl ⟨rfl, rfl, rfl, rfl, rfl⟩ rfl rfl rfl rfl rfl (by kernel_rfl) Tryz.func3 (by kernel_rfl)
    (of_decide_eq_true (by kernel_rfl)) (by unfold Func.isWrapper; first | (rw [if_pos (by decide +kernel)]; kernel_rfl) | (rw [if_neg (by decide +kernel)]; exact ⟨rfl, rfl⟩))
    (fun os started H enc _ => live_lifted os started H enc)
end Go.Proofs.YtbpgcfabepioiaaGreat
