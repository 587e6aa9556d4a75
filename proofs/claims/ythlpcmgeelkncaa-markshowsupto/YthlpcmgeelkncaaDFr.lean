/-
  DocText and DocFrom, as the document's own answer tells them.
-/
import Derived.Test.YthlpcmgeelkncaaTxW
import Derived.Test.YthlpcmgeelkncaaLnN
import Derived.Test.YthlpcmgeelkncaaRead
namespace Go.Proofs.Ythlpcmgeelkncaa
open Go.RowKit

set_option maxHeartbeats 1000000 in
theorem docText_any (v : Value) (ns : List Pl.Nd) (w : World) (hv : NdsAt w v ns) (hz : Pl.checkDoc ns = 0) :
    Calls Try.prog 28 #[.agg #[v]] w fun e w' => e = .returned (.string ⟨(Pl.showDoc ns).toArray⟩) ∧ Below w.heap.size w w' := by
  obtain ⟨h1, _, _, _⟩ := (Pl.check_iff ns).1 hz
  obtain ⟨a, cap, rfl, h⟩ := hv
  obtain ⟨b, o, rfl, hc⟩ := h.resolve_left (by intro e; rw [e] at h1; simp at h1)
  have HN : Hid (Pl.nodeT ns ns.length 0 = Pl.showDoc ns) := Pl.nodeT_doc hz
  have hB := on_alloc w (.cells #[.slice (some ⟨b, o, none⟩) ns.length cap] 24)
  have HC : Hid (∀ i (h : i < ns.length), NdAt (w.alloc (.cells #[.slice (some ⟨b, o, none⟩) ns.length cap] 24)) b (o + i * 5) ns[i]) := fun i hi => (hc i hi).on hB
  clear hc h
  go_enter Try.func28, Try.ntmps28
  go_wp2_with fail
  generalize w.alloc (.cells #[.slice (some ⟨b, o, none⟩) ns.length cap] 24) = w0 at *
  refine (ntext_any b o cap ns hz ns.length 0 _ (by omega) (by omega) HC.out).mono ?_
  rintro e w1 ⟨rfl, h2⟩
  have hB2 := below_trans hB h2
  rw [HN.out]
  clear h2
  go_wp2
  go_ret
  exact ⟨rfl, hB2⟩
namespace Pl
theorem lnCls_count : ∀ (n : Nat) (l : List UInt8), (lnCls n l).1.length + (lnCls n l).2.length ≤ l.length
  | 0, l => by simp [lnCls]
  | n + 1, l => by
    unfold lnCls
    cases h : need 46 l with
    | none => simp
    | some l1 =>
      have := lnCls_count n (l1.dropWhile isNB)
      have := run_ge (p := isNB) l1
      have := need_lt h
      simp only [List.length_cons]
      omega
theorem lnAts_count : ∀ (n : Nat) (l : List UInt8), (lnAts n l).1.length + (lnAts n l).2.length ≤ l.length
  | 0, l => by simp [lnAts]
  | n + 1, l => by
    unfold lnAts
    cases h : need 91 l with
    | none => simp
    | some l1 =>
      have := lnAts_count n (lnAttr l1).2
      have := lnAttr_ge l1
      have := need_lt h
      simp only [List.length_cons]
      omega
def Under (m : Nat) (x : Nd) : Prop := x.cls.length ≤ m ∧ x.ats.length ≤ m
theorem lnNode_under {m : Nat} (up : Int) (l : List UInt8) (h : l.length ≤ m) : Under m (lnNode up l).1 := by
  have h1 := run_ge (p := isNB) l
  have h2 := lnId_ge (l.dropWhile isNB)
  have h3 := lnCls_count (lnId (l.dropWhile isNB)).2.length (lnId (l.dropWhile isNB)).2
  have h4 := lnAts_count (lnCls (lnId (l.dropWhile isNB)).2.length (lnId (l.dropWhile isNB)).2).2.length (lnCls (lnId (l.dropWhile isNB)).2.length (lnId (l.dropWhile isNB)).2).2
  unfold lnNode lnMk Under
  simp only
  constructor <;> omega
theorem ln_under {m : Nat} : ∀ (f : Nat), (∀ ns up l, l.length ≤ m → (∀ x ∈ ns, Under m x) → ∀ x ∈ (lnEl f ns up l).1, Under m x) ∧ (∀ ns n l, l.length ≤ m → (∀ x ∈ ns, Under m x) → ∀ x ∈ (lnKids f ns n l).1, Under m x) := by
  intro f
  induction f with
  | zero => exact ⟨fun _ _ _ _ h => by simpa [lnEl] using h, fun _ _ _ _ h => by simpa [lnKids] using h⟩
  | succ f ih =>
    refine ⟨fun ns up l hl h => ?_, fun ns n l hl h => ?_⟩
    · have hx : ∀ x ∈ ns ++ [(lnNode up l).1], Under m x := by
        intro x hx
        rcases List.mem_append.1 hx with h1 | h1
        · exact h x h1
        · rw [List.mem_singleton.1 h1]; exact lnNode_under up l hl
      unfold lnEl
      split
      · exact hx
      · rename_i l2 h2
        have h3 := lnNode_ge up l
        have h4 := need_lt h2
        exact ih.2 _ _ _ (by omega) hx
    · unfold lnKids
      have h1 := (ln_ge f).1 ns n l
      split
      · split
        · rename_i l2 h2
          have h4 := need_lt h2
          exact ih.2 _ _ _ (by omega) (ih.1 ns n l hl h)
        · exact ih.1 ns n l hl h
      · exact h
end Pl
theorem Row.doc2 {B : Nat} {w : World} {v : Value} {ns : List Pl.Nd} (h : Row B w v ns) (hl : ns.length ≤ 65) (hf : ∀ x ∈ ns, Pl.Under 1048576 x) : DocAt w v ns :=
  ⟨h.nds, h.cap, by unfold maxLen; omega, fun i hi => ⟨by have := (hf _ (List.getElem_mem hi)).1; unfold maxLen; omega, by have := (hf _ (List.getElem_mem hi)).2; unfold maxLen; omega⟩⟩
/-- what DocFrom tells -/
def FromSays (l : List UInt8) (w : World) (e : Ending) (w' : World) : Prop := ∃ v', e = .returned (.tuple #[.agg #[v'], .bool (Pl.readDoc l).isSome]) ∧ DocAt w' v' (readNs l) ∧ Below w.heap.size w w'
theorem FromSays.mk {l : List UInt8} {w w' : World} {v' : Value} {k : Bool} {ns : List Pl.Nd} (h1 : (Pl.readDoc l).isSome = k) (h2 : readNs l = ns) (h3 : DocAt w' v' ns) (h4 : Below w.heap.size w w') : FromSays l w (.returned (.tuple #[.agg #[v'], .bool k])) w' :=
  ⟨v', by rw [h1], by rw [h2]; exact h3, h4⟩
set_option maxRecDepth 100000 in
set_option maxHeartbeats 2000000 in
theorem docFrom_any (l : List UInt8) (w : World) (hl : l.length ≤ 1048576) : Calls Try.prog 30 #[.string ⟨l.toArray⟩] w (FromSays l w) := by
  have hB0 := boxes w (.cells #[.slice none 0 0] 24) (.cells #[.string ⟨l.toArray⟩] 92)
  have x0 : ((w.alloc (.cells #[.slice none 0 0] 24)).alloc (.cells #[.string ⟨l.toArray⟩] 92)).heap[w.heap.size]? = some (.cells #[.slice none 0 0] 24) :=
    ((on_alloc _ _).block _ (by simp)).trans (heap_alloc_new w _)
  have x1 : LnAt (w.heap.size + 1) l ((w.alloc (.cells #[.slice none 0 0] 24)).alloc (.cells #[.string ⟨l.toArray⟩] 92)) := by
    have := heap_alloc_new (w.alloc (.cells #[.slice none 0 0] 24)) (.cells #[.string ⟨l.toArray⟩] 92)
    rw [show (w.alloc (.cells #[.slice none 0 0] 24)).heap.size = w.heap.size + 1 by simp] at this
    exact this
  have hz0 : ((w.alloc (.cells #[.slice none 0 0] 24)).alloc (.cells #[.string ⟨l.toArray⟩] 92)).heap.size = w.heap.size + 2 := by simp
  have HL : Hid _ := Pl.ln_read l
  have hU := (Pl.ln_under (m := 1048576) 130).1 [] (-1) l hl (by simp)
  have hN := ((Pl.ln_lens 130).1 [] (-1) l (by omega) (by simp)).2
  go_enter Try.func30, Try.ntmps30
  go_wp2_with fail
  generalize (w.alloc (.cells #[.slice none 0 0] 24)).alloc (.cells #[.string ⟨l.toArray⟩] 92) = w0 at *
  refine (lnode_any (w.heap.size + 2) (w.heap.size + 1) (by omega) 130 130 [] _ (-1) l _ (Nat.le_refl _) (by simp) (by simp) (NRow.nil _ _) (by omega) x1 hl).mono ?_
  rintro e w1 ⟨v1, rfl, row1, _, f1⟩
  generalize (Pl.lnEl 130 [] (-1) l).1 = ns at *
  obtain ⟨a1, c1, rfl⟩ := row1.form
  have hs1 : w.heap.size + 2 ≤ w1.heap.size := by have := f1.size; omega
  have X0 : w1.heap[w.heap.size]? = some (.cells #[.slice none 0 0] 24) := (f1.block _ (by omega) (by omega)).trans x0
  have hB1 : Below w.heap.size w w1 := hB0.trans ⟨f1.os, f1.tape, f1.output, f1.size, fun k hk => f1.block k (by omega) (by omega)⟩
  have hA := on_alloc w1 (.cells #[.slice a1 ns.length c1] 24)
  have hB2 := below_trans hB1 hA
  have X2 : (w1.alloc (.cells #[.slice a1 ns.length c1] 24)).heap[w.heap.size]? = some (.cells #[.slice none 0 0] 24) := (hA.block _ (by omega)).trans X0
  have HRow : Hid (Row (w.heap.size + 2) (w1.alloc (.cells #[.slice a1 ns.length c1] 24)) (.slice a1 ns.length c1) ns) := row1.row.on hA
  have q5 : (w1.alloc (.cells #[.slice a1 ns.length c1] 24)).cell? ⟨w1.heap.size, 0, none⟩ = some (.slice a1 ns.length c1) := by simp [go_sem]
  have hz2 : (w1.alloc (.cells #[.slice a1 ns.length c1] 24)).heap.size = w1.heap.size + 1 := by simp
  have HU : Hid _ := hU
  clear x0 x1 f1 X0 row1 hA hB1 hB0 hU
  go_wp2_with fail
  generalize w1.alloc (.cells #[.slice a1 ns.length c1] 24) = w2 at *
  have D2 := HRow.out.doc2 hN HU.out
  refine (refCheck_any _ ns _ D2.2.2 D2.1).mono ?_
  rintro e w3 ⟨rfl, h3⟩
  have hB3 := below_trans hB2 h3
  have X3 : w3.heap[w.heap.size]? = some (.cells #[.slice none 0 0] 24) := (h3.block _ (by omega)).trans X2
  have HRow3 : Hid (Row _ _ _ _) := HRow.out.on h3
  have q6 := cell_on h3 q5
  have hz3 := h3.size
  clear D2 h3 X2 HRow q5 hB2
  by_cases hz : Pl.checkDoc ns = 0
  case' neg =>
    have HE : Hid ((Pl.readDoc l).isSome = false ∧ readNs l = []) := by
      have : Pl.readDoc l = none := by rw [HL.out, if_neg (fun h => hz h.1)]
      unfold Hid readNs; rw [this]; exact ⟨rfl, rfl⟩
    have c0 : w3.cell? ⟨w.heap.size, 0, none⟩ = some (.slice none 0 0) := by simp [World.cell?, X3]
    have f0 : w3.frozen? ⟨w.heap.size, 0, none⟩ = false := by simp [World.frozen?, X3]
    have hBs := hB3.setCell (p := ⟨w.heap.size, 0, none⟩) (Nat.le_refl _) (.slice none 0 0)
    have d0 := set_here (.slice none 0 0) ⟨_, c0⟩
    clear HL HRow3 HU
    go_wp2
    exact bodyPost_ret (v := .tuple #[.agg #[.slice none 0 0], .bool false]) (by simp [results, Try.results30, go_sem, d0]) rfl (FromSays.mk HE.out.1 HE.out.2 (DocAt.nil _) hBs)
  case' pos =>
    rw [hz]
    go_wp2_with fail
    have D3 := HRow3.out.doc2 hN HU.out
    refine (docText_any _ ns _ D3.1 hz).mono ?_
    rintro e w4 ⟨rfl, h4⟩
    have hB4 := below_trans hB3 h4
    have X4 : w4.heap[w.heap.size]? = some (.cells #[.slice none 0 0] 24) := (h4.block _ (by omega)).trans X3
    have HRow4 : Hid (Row _ _ _ _) := HRow3.out.on h4
    have q7 := cell_on h4 q6
    have c0 : w4.cell? ⟨w.heap.size, 0, none⟩ = some (.slice none 0 0) := by simp [World.cell?, X4]
    have f0 : w4.frozen? ⟨w.heap.size, 0, none⟩ = false := by simp [World.frozen?, X4]
    clear D3 h4 X3 HRow3 q6 hB3
    by_cases hs : Pl.showDoc ns = l
    · have HE : Hid ((Pl.readDoc l).isSome = true ∧ readNs l = ns) := by
        have : Pl.readDoc l = some ns := by rw [HL.out, if_pos ⟨hz, hs⟩]
        unfold Hid readNs; rw [this]; exact ⟨rfl, rfl⟩
      have hBs := hB4.setCell (p := ⟨w.heap.size, 0, none⟩) (Nat.le_refl _) (.slice a1 ns.length c1)
      have d0 := set_here (.slice a1 ns.length c1) ⟨_, c0⟩
      have D5 := (HRow4.out.set (M := w.heap.size) (j := 0) (by omega) c0 (by simp) (.slice a1 ns.length c1)).doc2 hN HU.out
      have HD5 : Hid (DocAt _ _ _) := D5
      rw [hs]
      clear HL HRow4 HU D5
      go_wp2
      exact bodyPost_ret (v := .tuple #[.agg #[.slice a1 ns.length c1], .bool true]) (by simp [results, Try.results30, go_sem, d0]) rfl (FromSays.mk HE.out.1 HE.out.2 HD5.out hBs)
    · have HE : Hid ((Pl.readDoc l).isSome = false ∧ readNs l = []) := by
        have : Pl.readDoc l = none := by rw [HL.out, if_neg (fun h => hs h.2)]
        unfold Hid readNs; rw [this]; exact ⟨rfl, rfl⟩
      have hBs := hB4.setCell (p := ⟨w.heap.size, 0, none⟩) (Nat.le_refl _) (.slice none 0 0)
      have d0 := set_here (.slice none 0 0) ⟨_, c0⟩
      have hs2 : (Pl.showDoc ns == l) = false := by simpa using hs
      generalize Pl.showDoc ns = S at *
      clear HL HRow4 HU
      go_wp2
      exact bodyPost_ret (v := .tuple #[.agg #[.slice none 0 0], .bool false]) (by simp [results, Try.results30, go_sem, d0]) rfl (FromSays.mk HE.out.1 HE.out.2 (DocAt.nil _) hBs)
end Go.Proofs.Ythlpcmgeelkncaa
