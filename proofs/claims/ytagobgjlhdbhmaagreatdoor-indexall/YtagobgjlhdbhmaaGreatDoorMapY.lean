/-
  The gathered map, ranged over in whatever order.
-/
import Derived.Test.YtagobgjlhdbhmaaGreatDoorMapW
import Derived.Maps.RangeWalk
namespace Go.Proofs.YtagobgjlhdbhmaaGreatDoor
open Go.RowKit Go.ChangeMaps

/-- the loop under way: which entries have come -/
def Rng (w : World) (b r : Nat) (ps : List EP) (js : List Nat) : Prop :=
  ∃ es clock since seen c0, EntsAt w b ps es clock ∧ w.heap[r]? = some (.mapIter (some b) since seen c0) ∧ (∀ x ∈ es.toList, x.born < since) ∧ since ≤ c0 ∧ since ≤ clock ∧
    js.Nodup ∧ (∀ j ∈ js, j < ps.length) ∧ (∀ j (e : MapEntry), es.toList[j]? = some e → (seen.contains e.born = true ↔ j ∈ js))
theorem Rng.on {w w' : World} {b r : Nat} {ps : List EP} {js : List Nat} (h : Rng w b r ps js) (hb : w'.heap[b]? = w.heap[b]?) (hr : w'.heap[r]? = w.heap[r]?) : Rng w' b r ps js ∧ w'.rangeLeft b r = w.rangeLeft b r := by
  obtain ⟨es, clock, since, seen, c0, ⟨h1, h2⟩, h3, h4⟩ := h
  exact ⟨⟨es, clock, since, seen, c0, ⟨hb.trans h1, h2⟩, hr.trans h3, h4⟩, by unfold World.rangeLeft; rw [hb, hr]⟩
theorem Rng.ne {w : World} {b r : Nat} {ps : List EP} {js : List Nat} (h : Rng w b r ps js) : r ≠ b := by
  obtain ⟨es, clock, since, seen, c0, ⟨h1, _⟩, h3, _⟩ := h
  intro e
  rw [e, h1] at h3
  cases h3
theorem Rng.lt {w : World} {b r : Nat} {ps : List EP} {js : List Nat} (h : Rng w b r ps js) : b < w.heap.size ∧ r < w.heap.size := by
  obtain ⟨es, clock, since, seen, c0, ⟨h1, _⟩, h3, _⟩ := h
  exact ⟨(Array.getElem?_eq_some_iff.1 h1).1, (Array.getElem?_eq_some_iff.1 h3).1⟩
theorem run_range_m {w : World} {b : Nat} {ps : List EP} (h : MapAt w b ps) : ∃ w', (Instr.range 97 (.map (some b))).run Tryz.prog w = .ok (.pointer (some ⟨w.heap.size, 0, none⟩)) w' ∧ Rng w' b w.heap.size ps [] ∧ w.grownBy w' none ∧ w'.heap.size = w.heap.size + 1 := by
  have hlt := h.lt
  obtain ⟨es, clock, hb, hm, hborn, hnd⟩ := h
  refine ⟨_, run_range_map w 97 117 38 b es clock Tryz.underlying97 hb, ⟨es, clock, clock, #[], clock, ⟨((MapKept.heap_alloc w _).2 b hlt).trans hb, hm, hborn, hnd⟩, (MapKept.heap_alloc w _).1, hborn, Nat.le_refl _, Nat.le_refl _, List.nodup_nil, by simp, by simp⟩, World.grownBy_alloc w _ none, by simp⟩
theorem run_next_m {w : World} {b r : Nat} {ps : List EP} {js : List Nat} (h : Rng w b r ps js) (ty : TypeId) :
    ((∀ j, j < ps.length → j ∈ js) ∧ (Instr.next (.pointer (some ⟨r, 0, none⟩)) false ty).run Tryz.prog w = .ok (.tuple #[.bool false]) w) ∨
    ∃ (j : Nat) (hj : j < ps.length) (w' : World), j ∉ js ∧ (Instr.next (.pointer (some ⟨r, 0, none⟩)) false ty).run Tryz.prog w = .ok (.tuple #[.bool true, keyV ps[j].1.key, ps[j].2]) w' ∧ Rng w' b r ps (js ++ [j]) ∧ w'.rangeLeft b r < w.rangeLeft b r ∧
      w.grownBy w' (some r) ∧ w'.heap.size = w.heap.size ∧ (Instr.entry (.pointer (some ⟨r, 0, none⟩))).run Tryz.prog w' = .ok (.tuple #[keyV ps[j].1.key, ps[j].2]) w' := by
  have hne := h.ne
  obtain ⟨es, clock, since, seen, c0, ⟨hb, hm, hborn, hnd⟩, hr, hold, hsc, hsk, hj1, hj2, hj3⟩ := h
  have hl : es.toList.length = ps.length := by have := congrArg List.length hm; simpa using this
  rcases run_next_at (P := Tryz.prog) w ty r b since c0 seen es clock hr hb hold hsc with ⟨h0, hrun⟩ | ⟨e, he, w1, hal, hrun⟩
  · refine Or.inl ⟨fun j hj => ?_, hrun⟩
    have hje : es.toList[j]? = some es.toList[j] := List.getElem?_eq_getElem (by omega)
    exact (hj3 j _ hje).1 (by have := all_seen es seen h0 es.toList[j] (List.getElem_mem _); simpa using this)
  · obtain ⟨hem, hes⟩ := mem_left he
    obtain ⟨j, hj, rfl⟩ := List.getElem_of_mem hem
    have hje : es.toList[j]? = some es.toList[j] := List.getElem?_eq_getElem hj
    obtain ⟨hjp, hkey, hval⟩ := entry_key hm hje
    have hjn : j ∉ js := fun hx => by
      have := (hj3 j _ hje).2 hx
      rw [this] at hes
      cases hes
    have hr1 : w1.heap[r]? = some (.mapIter (some b) since seen c0) := by rcases hal with rfl | rfl <;> exact hr
    have hb1 : w1.heap[b]? = some (.map es clock) := by rcases hal with rfl | rfl <;> exact hb
    have hlt : r < w1.heap.size := (Array.getElem?_eq_some_iff.1 hr1).1
    have hs1 := setB_same hlt (.mapIter (some b) since (seen.push es.toList[j].born) clock)
    have hg1 := setB_grown w1 r (.mapIter (some b) since (seen.push es.toList[j].born) clock)
    have hb' : (setBlock w1 r (.mapIter (some b) since (seen.push es.toList[j].born) clock)).heap[b]? = some (.map es clock) := (hg1.block b ((Array.getElem?_eq_some_iff.1 hb1).1) (fun e1 => hne (by injection e1 with e2; exact e2.symm))).trans hb1
    refine Or.inr ⟨j, hjp, _, hjn, by rw [hkey, hval] at hrun; exact hrun, ⟨es, clock, since, seen.push es.toList[j].born, clock, ⟨hb', hm, hborn, hnd⟩, hs1, hold, hsk, hsk, ?_, ?_, ?_⟩, ?_, ?_, ?_, ?_⟩
    · exact List.nodup_append.2 ⟨hj1, by simp, fun a ha c hc e1 => by simp at hc; subst hc; subst e1; exact hjn ha⟩
    · intro q hq
      rcases List.mem_append.1 hq with hq | hq
      · exact hj2 q hq
      · simp at hq; omega
    · intro q e2 hq
      rw [contains_push, Bool.or_eq_true, hj3 q e2 hq, List.mem_append, List.mem_singleton]
      constructor
      · rintro (h1 | h1)
        · exact Or.inl h1
        · right
          have hbe := eq_of_beq h1
          have hq2 : q < es.toList.length := (List.getElem?_eq_some_iff.1 hq).1
          have h3 : (es.toList.map (·.born))[q]? = some e2.born := by rw [List.getElem?_map, hq]; rfl
          have h4 : (es.toList.map (·.born))[j]? = some e2.born := by rw [List.getElem?_map, hje, hbe]; rfl
          have q2 : q < (es.toList.map (·.born)).length := by simpa using hq2
          have j2 : j < (es.toList.map (·.born)).length := by simpa using hj
          rw [List.getElem?_eq_getElem q2, Option.some.injEq] at h3
          rw [List.getElem?_eq_getElem j2, Option.some.injEq] at h4
          exact (List.getElem_inj hnd).1 (h3.trans h4.symm)
      · rintro (h1 | h1)
        · exact Or.inl h1
        · right
          subst h1
          rw [hje] at hq
          injection hq with e3
          rw [e3]
          simp
    · unfold World.rangeLeft
      rw [hb', hs1, hb, hr]
      exact left_shrinks es seen _ he
    · rcases hal with rfl | rfl
      · exact hg1
      · exact ⟨hg1.os, hg1.tape, hg1.output, hg1.size, hg1.block⟩
    · rcases hal with rfl | rfl <;> simp [setBlock]
    · have := run_entry_at (P := Tryz.prog) _ r b since seen es clock es.toList[j] hs1 hb' (List.getElem_mem _) hnd
      rw [hkey, hval] at this
      exact this
theorem wpList_range_m {ops : Array Oper} {rest : List Oper} {o : Oper} {a : Act} {Q : Exit → Act → World → Prop} {w : World} {b : Nat} {ps : List EP} (hgd : o.guard = none) (m : Operand) (hop : o.op = Op.range 97 m) (hm : a.eval m = .map (some b)) (h : MapAt w b ps)
    (hK : ∀ w', Rng w' b w.heap.size ps [] → w.grownBy w' none → w'.heap.size = w.heap.size + 1 → wpList Tryz.prog ops Q rest (a.put o.dst (.pointer (some ⟨w.heap.size, 0, none⟩))) w') : wpList Tryz.prog ops Q (o :: rest) a w := by
  refine wpList_plain hgd fun K' hK' => ?_
  obtain ⟨w', hrun, r1, r2, r3⟩ := run_range_m h
  unfold Oper.wp
  simp [execOp, hop, hm, hrun, Result.andThen]
  exact hK' _ _ (hK w' r1 r2 r3)
theorem wpList_next_m {ops : Array Oper} {rest : List Oper} {o : Oper} {a : Act} {Q : Exit → Act → World → Prop} {w : World} {b r : Nat} {ps : List EP} {js : List Nat} (hgd : o.guard = none) (it : Operand) (hop : o.op = Op.next it false) (hit : a.eval it = .pointer (some ⟨r, 0, none⟩)) (h : Rng w b r ps js)
    (hD : (∀ j, j < ps.length → j ∈ js) → wpList Tryz.prog ops Q rest (a.put o.dst (.tuple #[.bool false])) w)
    (hM : ∀ (j : Nat) (hj : j < ps.length) (w' : World), j ∉ js → Rng w' b r ps (js ++ [j]) → w'.rangeLeft b r < w.rangeLeft b r → w.grownBy w' (some r) → w'.heap.size = w.heap.size → (Instr.entry (.pointer (some ⟨r, 0, none⟩))).run Tryz.prog w' = .ok (.tuple #[.agg #[.int .i64 ps[j].1.key.1, .string ⟨ps[j].1.key.2.toArray⟩], ps[j].2]) w' →
      wpList Tryz.prog ops Q rest (a.put o.dst (.tuple #[.bool true, .agg #[.int .i64 ps[j].1.key.1, .string ⟨ps[j].1.key.2.toArray⟩], ps[j].2])) w') : wpList Tryz.prog ops Q (o :: rest) a w := by
  refine wpList_plain hgd fun K' hK' => ?_
  unfold Oper.wp
  rcases run_next_m h o.type with ⟨h0, hrun⟩ | ⟨j, hj, w', hjn, hrun, hR, hlt, hg, hs, hen⟩
  · simp [execOp, hop, hit, hrun, Result.andThen]
    exact hK' _ _ (hD h0)
  · simp [execOp, hop, hit, hrun, Result.andThen]
    exact hK' _ _ (hM j hj w' hjn hR hlt hg hs hen)
/-- the entries that have come -/
def pick (ps : List EP) (js : List Nat) : List EP := js.map fun j => ps[j]?.getD e0
theorem pick_snoc (ps : List EP) (js : List Nat) {j : Nat} (hj : j < ps.length) : pick ps (js ++ [j]) = pick ps js ++ [ps[j]] := by simp [pick, List.getElem?_eq_getElem hj]
theorem pick_len (ps : List EP) (js : List Nat) : (pick ps js).length = js.length := by simp [pick]
theorem pick_all {ps : List EP} {js : List Nat} (hd : js.Nodup) (h1 : ∀ j ∈ js, j < ps.length) (h2 : ∀ j, j < ps.length → j ∈ js) : (pick ps js).Perm ps := by
  have hp : js.Perm (List.range ps.length) := (List.perm_ext_iff_of_nodup hd List.nodup_range).2 fun j => by
    rw [List.mem_range]
    exact ⟨h1 j, h2 j⟩
  have e : pick ps (List.range ps.length) = ps := by
    apply List.ext_getElem?
    intro i
    unfold pick
    rw [List.getElem?_map]
    rcases Nat.lt_or_ge i ps.length with hi | hi
    · rw [List.getElem?_eq_getElem (by simpa using hi), List.getElem_range, List.getElem?_eq_getElem hi]; simp [List.getElem?_eq_getElem hi]
    · rw [List.getElem?_eq_none (by simpa using hi), List.getElem?_eq_none hi]; rfl
  have := hp.map (fun j => ps[j]?.getD e0)
  unfold pick at e ⊢
  rw [e] at this
  exact this
theorem Rng.facts {w : World} {b r : Nat} {ps : List EP} {js : List Nat} (h : Rng w b r ps js) : js.Nodup ∧ ∀ j ∈ js, j < ps.length := by
  obtain ⟨es, clock, since, seen, c0, _, _, _, _, _, h1, h2, _⟩ := h
  exact ⟨h1, h2⟩
theorem nodup_le : ∀ (n : Nat) (js : List Nat), js.Nodup → (∀ j ∈ js, j < n) → js.length ≤ n
  | 0, [], _, _ => Nat.le_refl _
  | 0, a :: t, _, h => absurd (h a (by simp)) (by omega)
  | n + 1, js, hd, h => by
    have h1 := nodup_le n (js.erase n) (hd.erase n) (fun j hj => by
      have h2 := h j (List.mem_of_mem_erase hj)
      have hne : j ≠ n := fun e => by subst e; exact hd.not_mem_erase hj
      omega)
    rw [List.length_erase] at h1
    split at h1 <;> omega
/-- one entry more in the row -/
theorem wpList_epush2 {ops : Array Oper} {rest : List Oper} {o : Oper} {a : Act} {Q : Exit → Act → World → Prop} {B : Nat} {w2 : World} {v : Value} {qs : List EP} {p : EP} (hgd : o.guard = none) (s t : Operand)
    (ho : o.op = .call { callee := .builtin .append, args := #[s, t], argTypes := #[48, 48] }) (hs : a.eval s = v) (hx : a.eval t = .slice (some ⟨w2.heap.size, 0, none⟩) 1 1) (h1 : p.2.oneCell' = true)
    (hown : w2.ownsRow B 55 3 v qs.length (pCells qs)) (hlen : qs.length + 1 ≤ 100000) (hB : B ≤ w2.heap.size)
    (h : ∀ g cap w', w'.ownsRow B 55 3 (.slice (some ⟨g, 0, none⟩) (qs.length + 1) cap) (qs.length + 1) (pCells (qs ++ [p])) → (w2.alloc (.cells #[.int .i64 p.1.key.1, .string ⟨p.1.key.2.toArray⟩, p.2] 55)).grownBy w' v.ownBlock → (v.ownBlock = some g ∨ g = w2.heap.size + 1) → g < w'.heap.size → wpList Tryz.prog ops Q rest (a.put o.dst (.slice (some ⟨g, 0, none⟩) (qs.length + 1) cap)) w') :
    wpList Tryz.prog ops Q (o :: rest) a (w2.alloc (.cells #[.int .i64 p.1.key.1, .string ⟨p.1.key.2.toArray⟩, p.2] 55)) := by
  obtain ⟨i0, hi, hz0, hz1, hz2⟩ := info_parts Tryz.info55
  refine wpList_append_lies _ hgd s t 48 ho B 55 i0 _ 3 48 Tryz.underlying48 hi hz0 hz1 hz2 rfl (by decide) v qs.length (pCells qs) hs (own_on hown (on_alloc _ _)) ⟨w2.heap.size, 0, none⟩ 1 1 [.int .i64 p.1.key.1, .string ⟨p.1.key.2.toArray⟩, p.2] hx rfl ?_ ?_ (by decide) (by unfold maxLen; omega) (by omega) (by simp; omega) (w2.heap.size + 1) (by simp) ?_
  · exact World.news_of_block (heap_alloc_new w2 _)
  · intro u hu
    simp only [List.mem_cons, List.not_mem_nil, or_false] at hu
    rcases hu with rfl | rfl | rfl
    · rfl
    · rfl
    · exact h1
  · intro g cap w' h2 h3 h4 h5
    refine h g cap w' ?_ h3 h4 h5
    rw [pCells_append, show pCells [p] = [.int .i64 p.1.key.1, .string ⟨p.1.key.2.toArray⟩, p.2] from by rw [pCells_cons]; rfl]
    exact h2
end Go.Proofs.YtagobgjlhdbhmaaGreatDoor
