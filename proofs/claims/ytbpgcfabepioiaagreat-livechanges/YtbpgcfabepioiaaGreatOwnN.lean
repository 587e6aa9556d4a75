/-
  An element of its own, as the document's own answer makes it.
-/
import Derived.Test.YtbpgcfabepioiaaGreatFor
namespace Go.Proofs.YtbpgcfabepioiaaGreat
open Go.RowKit

theorem append_some_nil {t : TypeId} {e : TypeId} (ht : Tryz.prog.underlying t = some (.slice e)) {i : TypeInfo} (hi : Tryz.prog.info? e = some i) (q : Addr) (a : Option Addr) (c : Nat) (ty : TypeId) (w : World) :
    (Builtin.append_ #[t, t] ty #[.slice (some q) 0 0, .slice a 0 c]).run Tryz.prog w = .ok (.slice (some q) 0 0) w := by
  cases a with
  | none => simp [Builtin.append_, run_underlying ht, sizeOf, typeInfo, hi, Builtin.lenOf, Builtin.firstCells, storeCells]
  | some p =>
    have h0 := run_loadCells_list (P := Tryz.prog) w p [] (fun j v hj => by simp at hj)
    simp only [List.length_nil] at h0
    simp [Builtin.append_, run_underlying ht, sizeOf, typeInfo, hi, Builtin.lenOf, Builtin.firstCells, h0, storeCells]
/-- 'append([]string{}, xs...)': a copy -/
theorem wpList_copyS2 {w : World} {ops : Array Oper} {rest : List Oper} {o : Oper} {a : Act} {Q : Exit → Act → World → Prop} (hgd : o.guard = none) (s x : Operand)
    (ho : o.op = .call { callee := .builtin .append, args := #[s, x], argTypes := #[28, 28] }) (H : Nat) (hH : w.heap.size = H) (hs : a.eval s = .slice (some ⟨H, 0, none⟩) 0 0) (xv : Value) (ss : List (List UInt8)) (hx : a.eval x = xv) (hS : StrsAt w xv ss) (hl : ss.length ≤ 6)
    (h : ∀ a' c' w', StrsFrom w.heap.size w' (.slice a' ss.length c') ss → Below w.heap.size w w' → wpList Tryz.prog ops Q rest (a.put o.dst (.slice a' ss.length c')) w') : wpList Tryz.prog ops Q (o :: rest) a (w.alloc (.cells #[] 9)) := by
  subst hH
  obtain ⟨i9, hi9, hz0, hz1, hz2⟩ := info_parts Tryz.info9
  obtain ⟨ad, cap, rfl, hc⟩ := hS
  rcases hc with rfl | ⟨b, of, rfl, hc⟩
  · refine wpList_plain hgd fun K hK => ?_
    have hr := append_some_nil Tryz.underlying28 hi9 ⟨w.heap.size, 0, none⟩ ad cap o.type (w.alloc (.cells #[] 9))
    unfold Oper.wp execOp
    simp only [ho, resolve, invoke, builtin, Sem.run_bind, Sem.run_pure, Result.andThen_ok, List.map_toArray, List.map_cons, List.map_nil, hs, hx, List.length_nil, hr]
    exact hK _ _ (h _ 0 _ ⟨_, 0, rfl, Or.inl rfl⟩ (on_alloc _ _))
  · have hown : (w.alloc (.cells #[] 9)).ownsRow w.heap.size 9 1 (.slice (some ⟨w.heap.size, 0, none⟩) 0 0) 0 [] := World.ownsRow_made w #[] 0 (Nat.le_refl _) (Nat.zero_le _) rfl
    refine wpList_append_own _ hgd s x 28 ho w.heap.size 9 i9 (.string ⟨#[]⟩) 1 16 Tryz.underlying28 hi9 hz0 hz1 hz2 rfl (by decide) _ 0 [] hs hown ⟨b, of, none⟩ ss.length cap (strCells ss) hx (by simp [strCells]) ?_ ?_ (by unfold maxLen; omega) (by omega) (by simp) ?_
    · intro j u hj
      have hlt : j < ss.length := by
        have := (List.getElem?_eq_some_iff.1 hj).1
        simpa [strCells] using this
      rw [Addr.add_lit, cell_on (on_alloc _ _) (hc j hlt)]
      simp [strCells, List.getElem?_eq_getElem hlt] at hj
      rw [hj]
    · intro u hu
      simp only [strCells, List.mem_map] at hu
      obtain ⟨_, _, rfl⟩ := hu
      rfl
    · intro v' w' hown hg _
      rw [Nat.zero_add, List.nil_append] at hown
      have hS' := strs_of_row hown
      obtain ⟨a', c', rfl, hcc⟩ := id hS'
      exact h a' c' w' hS' ((on_alloc w _).grown hg (by simp) (fun k hk => by simp [Value.ownBlock] at hk; omega))
/-- 'append([]Attr{}, xs...)': a copy -/
theorem wpList_copyA2 {w : World} {ops : Array Oper} {rest : List Oper} {o : Oper} {a : Act} {Q : Exit → Act → World → Prop} (hgd : o.guard = none) (s x : Operand)
    (ho : o.op = .call { callee := .builtin .append, args := #[s, x], argTypes := #[29, 29] }) (H : Nat) (hH : w.heap.size = H) (hs : a.eval s = .slice (some ⟨H, 0, none⟩) 0 0) (xv : Value) (ss : List (List UInt8 × List UInt8)) (hx : a.eval x = xv) (hS : AtsAt w xv ss) (hl : ss.length ≤ 4)
    (h : ∀ a' c' w', AtsFrom w.heap.size w' (.slice a' ss.length c') ss → Below w.heap.size w w' → wpList Tryz.prog ops Q rest (a.put o.dst (.slice a' ss.length c')) w') : wpList Tryz.prog ops Q (o :: rest) a (w.alloc (.cells #[] 84)) := by
  subst hH
  obtain ⟨i9, hi9, hz0, hz1, hz2⟩ := info_parts Tryz.info84
  obtain ⟨ad, cap, rfl, hc⟩ := hS
  rcases hc with rfl | ⟨b, of, rfl, hc⟩
  · refine wpList_plain hgd fun K hK => ?_
    have hr := append_some_nil Tryz.underlying29 hi9 ⟨w.heap.size, 0, none⟩ ad cap o.type (w.alloc (.cells #[] 84))
    unfold Oper.wp execOp
    simp only [ho, resolve, invoke, builtin, Sem.run_bind, Sem.run_pure, Result.andThen_ok, List.map_toArray, List.map_cons, List.map_nil, hs, hx, List.length_nil, hr]
    exact hK _ _ (h _ 0 _ ⟨_, 0, rfl, Or.inl rfl⟩ (on_alloc _ _))
  · have hown : (w.alloc (.cells #[] 84)).ownsRow w.heap.size 84 2 (.slice (some ⟨w.heap.size, 0, none⟩) 0 0) 0 [] := World.ownsRow_made w #[] 0 (Nat.le_refl _) (Nat.zero_le _) rfl
    refine wpList_append_own _ hgd s x 29 ho w.heap.size 84 i9 (.agg #[.string ⟨#[]⟩, .string ⟨#[]⟩]) 2 32 Tryz.underlying29 hi9 hz0 hz1 hz2 rfl (by decide) _ 0 [] hs hown ⟨b, of, none⟩ ss.length cap (atCells ss) hx (atCells_len ss) ?_ ?_ (by unfold maxLen; omega) (by omega) (by simp) ?_
    · intro j u hj
      obtain ⟨i, hi, ⟨rfl, rfl⟩ | ⟨rfl, rfl⟩⟩ := atCells_inv ss j u hj
      · rw [Addr.add_lit]; exact cell_on (on_alloc _ _) (hc i hi).1
      · rw [Addr.add_lit]; exact cell_on (on_alloc _ _) (hc i hi).2
    · intro u hu
      obtain ⟨j, hj⟩ := List.getElem?_of_mem hu
      obtain ⟨i, hi, ⟨rfl, rfl⟩ | ⟨rfl, rfl⟩⟩ := atCells_inv ss j u hj <;> rfl
    · intro v' w' hown hg _
      rw [Nat.zero_add, List.nil_append] at hown
      have hS' := ats_of_row hown
      obtain ⟨a', c', rfl, hcc⟩ := id hS'
      exact h a' c' w' hS' ((on_alloc w _).grown hg (by simp) (fun k hk => by simp [Value.ownBlock] at hk; omega))

set_option maxRecDepth 100000 in
set_option maxHeartbeats 1000000 in
theorem own_any (v : Value) (x : Pl.Nd) (w : World) (hr : x.cls.length ≤ 6) (hr2 : x.ats.length ≤ 4) (hv : NdV w v x) :
    Calls Tryz.prog 38 #[v] w fun e w' => ∃ nv, e = .returned nv ∧ NdF w.heap.size w' nv x ∧ Below w.heap.size w w' := by
  obtain ⟨vc, va, rfl, hc, ha⟩ := hv
  obtain ⟨ac, cc, rfl, _⟩ := id hc
  obtain ⟨aa, ca, rfl, _⟩ := id ha
  have HC : Hid (StrsAt w (.slice ac x.cls.length cc) x.cls) := hc
  have HA : Hid (AtsAt w (.slice aa x.ats.length ca) x.ats) := ha
  clear hc ha
  go_enter Tryz.func38, Tryz.ntmps38
  go_wp2_with (at_builtin; refine wpList_copyS2 rfl _ _ rfl _ ?hH0 rfl _ x.cls rfl (StrsAt.on HC.out ?hb0) hr ?_; rotate_left 2; intro a1 c1 w1 hs1 hb1; refine Hid.out ?_)
  case hH0 => simp
  case hb0 => exact ((Below.refl _ _).alloc (Nat.le_refl _) _).alloc (by simp) _
  unfold Hid
  obtain ⟨bN, bR⟩ := two_blks w (.int .i64 x.up) (.string ⟨x.tag.toArray⟩) (.string ⟨x.id.toArray⟩) (.slice ac x.cls.length cc) (.slice aa x.ats.length ca) (.int .i64 0) (.string ⟨#[]⟩) (.string ⟨#[]⟩) (.slice none 0 0) (.slice none 0 0)
  replace bN := bN.on hb1
  replace bR := bR.on hb1
  have hB1 : Below w.heap.size w w1 := below_trans (((Below.refl _ _).alloc (Nat.le_refl _) _).alloc (by simp) _) hb1
  clear hb1
  obtain ⟨⟨c0, c1', c2, c3, c4⟩, fN⟩ := bN.facts
  have bN2 := bN.set3 (.slice a1 x.cls.length c1)
  have bR2 := bR.other (i := 3) (M := w.heap.size) (by omega) (.slice a1 x.cls.length c1)
  have hB2 : Below w.heap.size w (w1.setCell ⟨w.heap.size, 3, none⟩ (.slice a1 x.cls.length c1)) := hB1.setCell (p := ⟨w.heap.size, 3, none⟩) (Nat.le_refl _) _
  have hs2 : StrsFrom (w.heap.size + 1 + 1) _ _ _ := (by simpa using hs1 : StrsFrom (w.heap.size + 1 + 1) w1 (.slice a1 x.cls.length c1) x.cls).set (M := w.heap.size) (by omega) 3 (.slice a1 x.cls.length c1)
  have hsz := bR.lt
  obtain ⟨⟨e0, e1, e2, e3, e4⟩, fN2⟩ := bN2.facts
  have e4' := cell_on (on_alloc (w1.setCell ⟨w.heap.size, 3, none⟩ (.slice a1 x.cls.length c1)) (.cells #[] 84)) e4
  clear bN bR hB1 hs1
  go_wp2_with (at_builtin; refine wpList_copyA2 rfl _ _ rfl _ ?hH1 rfl _ x.ats rfl (AtsAt.on HA.out ?hb1) hr2 ?_; rotate_left 2; intro a2 c2' w2 hs3 hb2; refine Hid.out ?_)
  case hH1 => simp [World.setCell]
  case hb1 => exact hB2
  unfold Hid
  have hz1 : (w1.setCell ⟨w.heap.size, 3, none⟩ (.slice a1 x.cls.length c1)).heap.size = w1.heap.size := by simp [World.setCell]
  replace hs3 : AtsFrom (w.heap.size + 1 + 1) w2 (.slice a2 x.ats.length c2') x.ats := AtsFrom.mono hs3 (by omega)
  have hs4 := hs2.on hb2
  have bN3 := bN2.on hb2
  have bR3 := bR2.on hb2
  have hB3 : Below w.heap.size w w2 := below_trans hB2 hb2
  clear hb2 hs2 bN2 bR2 hB2 e0 e1 e2 e3 e4 e4' fN2 c0 c1' c2 c3 c4 fN hz1
  have bN4 := bN3.set4 (.slice a2 x.ats.length c2')
  have bR4 := bR3.other (i := 4) (M := w.heap.size) (by omega) (.slice a2 x.ats.length c2')
  obtain ⟨⟨g0, g1, g2, g3, g4⟩, fN3⟩ := bN3.facts
  obtain ⟨⟨n0, n1, n2, n3, n4⟩, fN4⟩ := bN4.facts
  obtain ⟨⟨r0, r1, r2, r3, r4⟩, fR4⟩ := bR4.facts
  have hs5 := (hs4.set (M := w.heap.size) (by omega) 4 (.slice a2 x.ats.length c2'))
  have hs6 := (hs3.set (M := w.heap.size) (by omega) 4 (.slice a2 x.ats.length c2'))
  have hB4 : Below w.heap.size w (w2.setCell ⟨w.heap.size, 4, none⟩ (.slice a2 x.ats.length c2')) := hB3.setCell (p := ⟨w.heap.size, 4, none⟩) (Nat.le_refl _) _
  clear bN3 bR3 hs4 hs3 hB3
  go_wp2_with fail
  have bF := ((((bR4.set0 (.int .i64 x.up)).set1 (.string ⟨x.tag.toArray⟩)).set2 (.string ⟨x.id.toArray⟩)).set3 (.slice a1 x.cls.length c1)).set4 (.slice a2 x.ats.length c2')
  have hs7 := ((((hs5.set (M := w.heap.size + 1) (by omega) 0 (.int .i64 x.up)).set (M := w.heap.size + 1) (by omega) 1 (.string ⟨x.tag.toArray⟩)).set (M := w.heap.size + 1) (by omega) 2 (.string ⟨x.id.toArray⟩)).set (M := w.heap.size + 1) (by omega) 3 (.slice a1 x.cls.length c1)).set (M := w.heap.size + 1) (by omega) 4 (.slice a2 x.ats.length c2')
  have hs8 := ((((hs6.set (M := w.heap.size + 1) (by omega) 0 (.int .i64 x.up)).set (M := w.heap.size + 1) (by omega) 1 (.string ⟨x.tag.toArray⟩)).set (M := w.heap.size + 1) (by omega) 2 (.string ⟨x.id.toArray⟩)).set (M := w.heap.size + 1) (by omega) 3 (.slice a1 x.cls.length c1)).set (M := w.heap.size + 1) (by omega) 4 (.slice a2 x.ats.length c2')
  have hB5 := ((((hB4.setCell (p := ⟨w.heap.size + 1, 0, none⟩) (Nat.le_succ _) (.int .i64 x.up)).setCell (p := ⟨w.heap.size + 1, 1, none⟩) (Nat.le_succ _) (.string ⟨x.tag.toArray⟩)).setCell (p := ⟨w.heap.size + 1, 2, none⟩) (Nat.le_succ _) (.string ⟨x.id.toArray⟩)).setCell (p := ⟨w.heap.size + 1, 3, none⟩) (Nat.le_succ _) (.slice a1 x.cls.length c1)).setCell (p := ⟨w.heap.size + 1, 4, none⟩) (Nat.le_succ _) (.slice a2 x.ats.length c2')
  generalize (((((w2.setCell ⟨w.heap.size, 4, none⟩ (.slice a2 x.ats.length c2')).setCell ⟨w.heap.size + 1, 0, none⟩ (.int .i64 x.up)).setCell ⟨w.heap.size + 1, 1, none⟩ (.string ⟨x.tag.toArray⟩)).setCell ⟨w.heap.size + 1, 2, none⟩ (.string ⟨x.id.toArray⟩)).setCell ⟨w.heap.size + 1, 3, none⟩ (.slice a1 x.cls.length c1)).setCell ⟨w.heap.size + 1, 4, none⟩ (.slice a2 x.ats.length c2') = wF at *
  obtain ⟨⟨q0, q1, q2, q3, q4⟩, _⟩ := bF.facts
  exact bodyPost_ret (v := .agg #[.int .i64 x.up, .string ⟨x.tag.toArray⟩, .string ⟨x.id.toArray⟩, .slice a1 x.cls.length c1, .slice a2 x.ats.length c2']) (by simp [results, Tryz.results38, go_sem, q0, q1, q2, q3, q4]) rfl
    ⟨_, rfl, ⟨_, _, rfl, hs7.mono (by omega), hs8.mono (by omega)⟩, hB5⟩
end Go.Proofs.YtbpgcfabepioiaaGreat
