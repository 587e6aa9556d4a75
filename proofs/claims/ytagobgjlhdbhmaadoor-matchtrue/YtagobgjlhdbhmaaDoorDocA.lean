/-
  An element copied into memory of its own.
-/
import Derived.Test.YtagobgjlhdbhmaaDoorKids
namespace Go.Proofs.YtagobgjlhdbhmaaDoor
open Go.RowKit

def strCells (l : List (List UInt8)) : List Value := l.map fun s => Value.string ⟨s.toArray⟩
def atCells : List (List UInt8 × List UInt8) → List Value
  | [] => []
  | a :: r => .string ⟨a.1.toArray⟩ :: .string ⟨a.2.toArray⟩ :: atCells r
theorem atCells_len : ∀ l, (atCells l).length = l.length * 2
  | [] => rfl
  | _ :: r => by simp [atCells, atCells_len r]; omega
theorem atCells_at : ∀ (l : List (List UInt8 × List UInt8)) (i : Nat) (h : i < l.length), (atCells l)[i * 2]? = some (.string ⟨l[i].1.toArray⟩) ∧ (atCells l)[i * 2 + 1]? = some (.string ⟨l[i].2.toArray⟩)
  | [], i, h => by simp at h
  | a :: r, 0, _ => by simp [atCells]
  | a :: r, i + 1, h => by
    have := atCells_at r i (by simpa using h)
    rw [show (i + 1) * 2 = i * 2 + 1 + 1 by omega]
    simpa [atCells] using this
theorem atCells_inv : ∀ (l : List (List UInt8 × List UInt8)) (j : Nat) (u : Value), (atCells l)[j]? = some u → ∃ (i : Nat) (h : i < l.length), (j = i * 2 ∧ u = .string ⟨l[i].1.toArray⟩) ∨ (j = i * 2 + 1 ∧ u = .string ⟨l[i].2.toArray⟩)
  | [], j, u, h => by simp [atCells] at h
  | a :: r, 0, u, h => by simp [atCells] at h; exact ⟨0, by simp, Or.inl ⟨rfl, h.symm⟩⟩
  | a :: r, 1, u, h => by simp [atCells] at h; exact ⟨0, by simp, Or.inr ⟨rfl, h.symm⟩⟩
  | a :: r, j + 2, u, h => by
    obtain ⟨i, hi, hh⟩ := atCells_inv r j u (by simpa [atCells] using h)
    refine ⟨i + 1, by simpa using hi, ?_⟩
    rcases hh with ⟨rfl, rfl⟩ | ⟨rfl, rfl⟩
    · exact Or.inl ⟨by omega, by simp⟩
    · exact Or.inr ⟨by omega, by simp⟩
/-- a list of texts in blocks from B on -/
def StrsFrom (B : Nat) (w : World) (v : Value) (ss : List (List UInt8)) : Prop :=
  ∃ a cap, v = .slice a ss.length cap ∧ (ss = [] ∨ ∃ b o, a = some ⟨b, o, none⟩ ∧ B ≤ b ∧ ∀ i (h : i < ss.length), w.cell? ⟨b, o + i, none⟩ = some (.string ⟨ss[i].toArray⟩))
def AtsFrom (B : Nat) (w : World) (v : Value) (ss : List (List UInt8 × List UInt8)) : Prop :=
  ∃ a cap, v = .slice a ss.length cap ∧ (ss = [] ∨ ∃ b o, a = some ⟨b, o, none⟩ ∧ B ≤ b ∧ ∀ i (h : i < ss.length), w.cell? ⟨b, o + i * 2, none⟩ = some (.string ⟨ss[i].1.toArray⟩) ∧ w.cell? ⟨b, o + i * 2 + 1, none⟩ = some (.string ⟨ss[i].2.toArray⟩))
theorem StrsFrom.at {B : Nat} {w : World} {v : Value} {ss : List (List UInt8)} (h : StrsFrom B w v ss) : StrsAt w v ss := by
  obtain ⟨a, cap, rfl, h⟩ := h
  refine ⟨a, cap, rfl, ?_⟩
  rcases h with h | ⟨b, o, ha, _, hc⟩
  · exact Or.inl h
  · exact Or.inr ⟨b, o, ha, hc⟩
theorem AtsFrom.at {B : Nat} {w : World} {v : Value} {ss : List (List UInt8 × List UInt8)} (h : AtsFrom B w v ss) : AtsAt w v ss := by
  obtain ⟨a, cap, rfl, h⟩ := h
  refine ⟨a, cap, rfl, ?_⟩
  rcases h with h | ⟨b, o, ha, _, hc⟩
  · exact Or.inl h
  · exact Or.inr ⟨b, o, ha, hc⟩
theorem StrsFrom.on {B : Nat} {w w' : World} {v : Value} {ss : List (List UInt8)} (h : StrsFrom B w v ss) (hb : Below w.heap.size w w') : StrsFrom B w' v ss := by
  obtain ⟨a, cap, rfl, h⟩ := h
  refine ⟨a, cap, rfl, ?_⟩
  rcases h with h | ⟨b, o, ha, hB, hc⟩
  · exact Or.inl h
  · exact Or.inr ⟨b, o, ha, hB, fun i hi => cell_on hb (hc i hi)⟩
theorem AtsFrom.on {B : Nat} {w w' : World} {v : Value} {ss : List (List UInt8 × List UInt8)} (h : AtsFrom B w v ss) (hb : Below w.heap.size w w') : AtsFrom B w' v ss := by
  obtain ⟨a, cap, rfl, h⟩ := h
  refine ⟨a, cap, rfl, ?_⟩
  rcases h with h | ⟨b, o, ha, hB, hc⟩
  · exact Or.inl h
  · exact Or.inr ⟨b, o, ha, hB, fun i hi => ⟨cell_on hb (hc i hi).1, cell_on hb (hc i hi).2⟩⟩
theorem AtsFrom.mono {B B' : Nat} {w : World} {v : Value} {ss : List (List UInt8 × List UInt8)} (h : AtsFrom B w v ss) (hB : B' ≤ B) : AtsFrom B' w v ss := by
  obtain ⟨a, cap, rfl, h⟩ := h
  refine ⟨a, cap, rfl, ?_⟩
  rcases h with h | ⟨b, o, ha, hB2, hc⟩
  · exact Or.inl h
  · exact Or.inr ⟨b, o, ha, by omega, hc⟩
theorem StrsFrom.mono {B B' : Nat} {w : World} {v : Value} {ss : List (List UInt8)} (h : StrsFrom B w v ss) (hB : B' ≤ B) : StrsFrom B' w v ss := by
  obtain ⟨a, cap, rfl, h⟩ := h
  refine ⟨a, cap, rfl, ?_⟩
  rcases h with h | ⟨b, o, ha, hB2, hc⟩
  · exact Or.inl h
  · exact Or.inr ⟨b, o, ha, by omega, hc⟩
/-- an element as a value, its lists in blocks from B on -/
def NdF (B : Nat) (w : World) (v : Value) (x : Pl.Nd) : Prop :=
  ∃ vc va, v = .agg #[.int .i64 x.up, .string ⟨x.tag.toArray⟩, .string ⟨x.id.toArray⟩, vc, va] ∧ StrsFrom B w vc x.cls ∧ AtsFrom B w va x.ats
theorem cell_set {w : World} {b o M j : Nat} {v u : Value} (h : w.cell? ⟨b, o, none⟩ = some v) (hne : M ≠ b) : (w.setCell ⟨M, j, none⟩ u).cell? ⟨b, o, none⟩ = some v := by
  rw [World.cell?_setCell_other _ _ _ _ (by intro e; injection e; omega)]; exact h
theorem StrsFrom.set {B : Nat} {w : World} {v : Value} {ss : List (List UInt8)} (h : StrsFrom B w v ss) {M : Nat} (hM : M < B) (j : Nat) (u : Value) : StrsFrom B (w.setCell ⟨M, j, none⟩ u) v ss := by
  obtain ⟨a, cap, rfl, h⟩ := h
  refine ⟨a, cap, rfl, ?_⟩
  rcases h with h | ⟨b, o, ha, hB, hc⟩
  · exact Or.inl h
  · exact Or.inr ⟨b, o, ha, hB, fun i hi => cell_set (hc i hi) (by omega)⟩
theorem AtsFrom.set {B : Nat} {w : World} {v : Value} {ss : List (List UInt8 × List UInt8)} (h : AtsFrom B w v ss) {M : Nat} (hM : M < B) (j : Nat) (u : Value) : AtsFrom B (w.setCell ⟨M, j, none⟩ u) v ss := by
  obtain ⟨a, cap, rfl, h⟩ := h
  refine ⟨a, cap, rfl, ?_⟩
  rcases h with h | ⟨b, o, ha, hB, hc⟩
  · exact Or.inl h
  · exact Or.inr ⟨b, o, ha, hB, fun i hi => ⟨cell_set (hc i hi).1 (by omega), cell_set (hc i hi).2 (by omega)⟩⟩
theorem strs_of_row {w : World} {B : Nat} {v : Value} {l : List (List UInt8)} (h : w.ownsRow B 9 1 v l.length (strCells l)) : StrsFrom B w v l := by
  have hh := h
  obtain ⟨_, h0 | ⟨g, cap, cur, rfl, hBg, _⟩⟩ := h
  · obtain ⟨rfl, hl⟩ := h0
    have : l = [] := by simpa using hl
    subst this
    exact ⟨none, 0, rfl, Or.inl rfl⟩
  · refine ⟨_, cap, rfl, Or.inr ⟨g, 0, rfl, hBg, fun i hi => ?_⟩⟩
    have := World.ownsRow.cells hh rfl i (.string ⟨l[i].toArray⟩) (by simp [strCells, List.getElem?_eq_getElem hi])
    rw [Addr.add_lit] at this
    exact this
theorem ats_of_row {w : World} {B : Nat} {v : Value} {l : List (List UInt8 × List UInt8)} (h : w.ownsRow B 66 2 v l.length (atCells l)) : AtsFrom B w v l := by
  have hh := h
  obtain ⟨_, h0 | ⟨g, cap, cur, rfl, hBg, _⟩⟩ := h
  · obtain ⟨rfl, hl⟩ := h0
    have : l = [] := by simpa using hl
    subst this
    exact ⟨none, 0, rfl, Or.inl rfl⟩
  · refine ⟨_, cap, rfl, Or.inr ⟨g, 0, rfl, hBg, fun i hi => ?_⟩⟩
    obtain ⟨a0, a1⟩ := atCells_at l i hi
    have h0 := World.ownsRow.cells hh rfl _ _ a0
    have h1 := World.ownsRow.cells hh rfl _ _ a1
    rw [Addr.add_lit] at h0 h1
    exact ⟨h0, h1⟩

theorem Tryd.info9 : (Tryd.prog.info? 9).map (fun i => (i.zero, i.size, i.bytes)) = some (some (.string ⟨#[]⟩), 1, 16) := by kernel_rfl
theorem Tryd.info66 : (Tryd.prog.info? 66).map (fun i => (i.zero, i.size, i.bytes)) = some (some (.agg #[.string ⟨#[]⟩, .string ⟨#[]⟩]), 2, 32) := by kernel_rfl

theorem append_nil_nil {t : TypeId} {e : TypeId} (ht : Tryd.prog.underlying t = some (.slice e)) {i : TypeInfo} (hi : Tryd.prog.info? e = some i) (a : Option Addr) (c : Nat) (ty : TypeId) (w : World) :
    (Builtin.append_ #[t, t] ty #[.slice none 0 0, .slice a 0 c]).run Tryd.prog w = .ok (.slice none 0 0) w := by
  cases a with
  | none => simp [Builtin.append_, run_underlying ht, sizeOf, typeInfo, hi, Builtin.lenOf, Builtin.firstCells]
  | some p =>
    have h0 := run_loadCells_list (P := Tryd.prog) w p [] (fun j v hj => by simp at hj)
    simp only [List.length_nil] at h0
    simp [Builtin.append_, run_underlying ht, sizeOf, typeInfo, hi, Builtin.lenOf, Builtin.firstCells, h0]

/-- 'append(nil, xs...)' of texts: a copy -/
theorem wpList_copyS {w : World} {ops : Array Oper} {rest : List Oper} {o : Oper} {a : Act} {Q : Exit → Act → World → Prop} (hgd : o.guard = none) (s x : Operand)
    (ho : o.op = .call { callee := .builtin .append, args := #[s, x], argTypes := #[40, 40] }) (hs : a.eval s = .slice none 0 0) (xv : Value) (ss : List (List UInt8)) (hx : a.eval x = xv) (hS : StrsAt w xv ss) (hl : ss.length ≤ 6)
    (h : ∀ a' c' w', StrsFrom w.heap.size w' (.slice a' ss.length c') ss → Below w.heap.size w w' → wpList Tryd.prog ops Q rest (a.put o.dst (.slice a' ss.length c')) w') : wpList Tryd.prog ops Q (o :: rest) a w := by
  obtain ⟨i9, hi9, hz0, hz1, hz2⟩ := info_parts Tryd.info9
  obtain ⟨ad, cap, rfl, hc⟩ := hS
  rcases hc with rfl | ⟨b, of, rfl, hc⟩
  · refine wpList_plain hgd fun K hK => ?_
    have hr := append_nil_nil Tryd.underlying40 hi9 ad cap o.type w
    unfold Oper.wp execOp
    simp only [ho, resolve, invoke, builtin, Sem.run_bind, Sem.run_pure, Result.andThen_ok, List.map_toArray, List.map_cons, List.map_nil, hs, hx, List.length_nil, hr]
    exact hK _ _ (h none 0 w ⟨none, 0, rfl, Or.inl rfl⟩ (Below.refl _ _))
  · refine wpList_append_own w hgd s x 40 ho w.heap.size 9 i9 (.string ⟨#[]⟩) 1 16 Tryd.underlying40 hi9 hz0 hz1 hz2 rfl (by decide) (.slice none 0 0) 0 [] hs (World.ownsRow_nil _ _ _ _) ⟨b, of, none⟩ ss.length cap (strCells ss) hx (by simp [strCells]) ?_ ?_ (by unfold maxLen; omega) (by omega) (Nat.le_refl _) ?_
    · intro j u hj
      have hlt : j < ss.length := by
        have := (List.getElem?_eq_some_iff.1 hj).1
        simpa [strCells] using this
      rw [Addr.add_lit, hc j hlt]
      simp [strCells, List.getElem?_eq_getElem hlt] at hj
      rw [hj]
    · intro u hu
      simp only [strCells, List.mem_map] at hu
      obtain ⟨_, _, rfl⟩ := hu
      rfl
    · intro v' w' hown hg _
      rw [Nat.zero_add, List.nil_append] at hown
      have hS' := strs_of_row hown
      obtain ⟨a', c', rfl, hcc⟩ := id hS'
      exact h a' c' w' hS' ((Below.refl _ _).grown hg (Nat.le_refl _) (fun k hk => by simp [Value.ownBlock] at hk))
/-- 'append(nil, xs...)' of attributes: a copy -/
theorem wpList_copyA {w : World} {ops : Array Oper} {rest : List Oper} {o : Oper} {a : Act} {Q : Exit → Act → World → Prop} (hgd : o.guard = none) (s x : Operand)
    (ho : o.op = .call { callee := .builtin .append, args := #[s, x], argTypes := #[41, 41] }) (hs : a.eval s = .slice none 0 0) (xv : Value) (ss : List (List UInt8 × List UInt8)) (hx : a.eval x = xv) (hS : AtsAt w xv ss) (hl : ss.length ≤ 4)
    (h : ∀ a' c' w', AtsFrom w.heap.size w' (.slice a' ss.length c') ss → Below w.heap.size w w' → wpList Tryd.prog ops Q rest (a.put o.dst (.slice a' ss.length c')) w') : wpList Tryd.prog ops Q (o :: rest) a w := by
  obtain ⟨i9, hi9, hz0, hz1, hz2⟩ := info_parts Tryd.info66
  obtain ⟨ad, cap, rfl, hc⟩ := hS
  rcases hc with rfl | ⟨b, of, rfl, hc⟩
  · refine wpList_plain hgd fun K hK => ?_
    have hr := append_nil_nil Tryd.underlying41 hi9 ad cap o.type w
    unfold Oper.wp execOp
    simp only [ho, resolve, invoke, builtin, Sem.run_bind, Sem.run_pure, Result.andThen_ok, List.map_toArray, List.map_cons, List.map_nil, hs, hx, List.length_nil, hr]
    exact hK _ _ (h none 0 w ⟨none, 0, rfl, Or.inl rfl⟩ (Below.refl _ _))
  · refine wpList_append_own w hgd s x 41 ho w.heap.size 66 i9 (.agg #[.string ⟨#[]⟩, .string ⟨#[]⟩]) 2 32 Tryd.underlying41 hi9 hz0 hz1 hz2 rfl (by decide) (.slice none 0 0) 0 [] hs (World.ownsRow_nil _ _ _ _) ⟨b, of, none⟩ ss.length cap (atCells ss) hx (atCells_len ss) ?_ ?_ (by unfold maxLen; omega) (by omega) (Nat.le_refl _) ?_
    · intro j u hj
      obtain ⟨i, hi, ⟨rfl, rfl⟩ | ⟨rfl, rfl⟩⟩ := atCells_inv ss j u hj
      · rw [Addr.add_lit]; exact (hc i hi).1
      · rw [Addr.add_lit]; exact (hc i hi).2
    · intro u hu
      obtain ⟨j, hj⟩ := List.getElem?_of_mem hu
      obtain ⟨i, hi, ⟨rfl, rfl⟩ | ⟨rfl, rfl⟩⟩ := atCells_inv ss j u hj <;> rfl
    · intro v' w' hown hg _
      rw [Nat.zero_add, List.nil_append] at hown
      have hS' := ats_of_row hown
      obtain ⟨a', c', rfl, hcc⟩ := id hS'
      exact h a' c' w' hS' ((Below.refl _ _).grown hg (Nat.le_refl _) (fun k hk => by simp [Value.ownBlock] at hk))

/-- an element's box -/
def Blk (w : World) (N : Nat) (c0 c1 c2 c3 c4 : Value) : Prop := w.heap[N]? = some (.cells #[c0, c1, c2, c3, c4] 43)
theorem Blk.facts {w : World} {N : Nat} {c0 c1 c2 c3 c4 : Value} (h : Blk w N c0 c1 c2 c3 c4) :
    (w.cell? ⟨N, 0, none⟩ = some c0 ∧ w.cell? ⟨N, 1, none⟩ = some c1 ∧ w.cell? ⟨N, 2, none⟩ = some c2 ∧ w.cell? ⟨N, 3, none⟩ = some c3 ∧ w.cell? ⟨N, 4, none⟩ = some c4) ∧ ∀ i, w.frozen? ⟨N, i, none⟩ = false := by
  unfold Blk at h
  refine ⟨⟨?_, ?_, ?_, ?_, ?_⟩, fun i => ?_⟩
  all_goals simp [World.cell?, World.frozen?, h]
theorem Blk.on {w w' : World} {N : Nat} {c0 c1 c2 c3 c4 : Value} (h : Blk w N c0 c1 c2 c3 c4) (hb : Below w.heap.size w w') : Blk w' N c0 c1 c2 c3 c4 := by
  have hlt : N < w.heap.size := (Array.getElem?_eq_some_iff.1 h).1
  unfold Blk
  rw [hb.block N hlt]; exact h
theorem Blk.lt {w : World} {N : Nat} {c0 c1 c2 c3 c4 : Value} (h : Blk w N c0 c1 c2 c3 c4) : N < w.heap.size := (Array.getElem?_eq_some_iff.1 h).1
theorem Blk.set3 {w : World} {N : Nat} {c0 c1 c2 c3 c4 : Value} (h : Blk w N c0 c1 c2 c3 c4) (v : Value) : Blk (w.setCell ⟨N, 3, none⟩ v) N c0 c1 c2 v c4 := by
  unfold Blk at *
  simp [World.setCell, Array.getElem?_modify, h]
theorem Blk.set4 {w : World} {N : Nat} {c0 c1 c2 c3 c4 : Value} (h : Blk w N c0 c1 c2 c3 c4) (v : Value) : Blk (w.setCell ⟨N, 4, none⟩ v) N c0 c1 c2 c3 v := by
  unfold Blk at *
  simp [World.setCell, Array.getElem?_modify, h]
theorem Blk.set0 {w : World} {N : Nat} {c0 c1 c2 c3 c4 : Value} (h : Blk w N c0 c1 c2 c3 c4) (v : Value) : Blk (w.setCell ⟨N, 0, none⟩ v) N v c1 c2 c3 c4 := by
  unfold Blk at *
  simp [World.setCell, Array.getElem?_modify, h]
theorem Blk.set1 {w : World} {N : Nat} {c0 c1 c2 c3 c4 : Value} (h : Blk w N c0 c1 c2 c3 c4) (v : Value) : Blk (w.setCell ⟨N, 1, none⟩ v) N c0 v c2 c3 c4 := by
  unfold Blk at *
  simp [World.setCell, Array.getElem?_modify, h]
theorem Blk.set2 {w : World} {N : Nat} {c0 c1 c2 c3 c4 : Value} (h : Blk w N c0 c1 c2 c3 c4) (v : Value) : Blk (w.setCell ⟨N, 2, none⟩ v) N c0 c1 v c3 c4 := by
  unfold Blk at *
  simp [World.setCell, Array.getElem?_modify, h]
theorem Blk.other {w : World} {N M i : Nat} {c0 c1 c2 c3 c4 : Value} (h : Blk w N c0 c1 c2 c3 c4) (hne : M ≠ N) (v : Value) : Blk (w.setCell ⟨M, i, none⟩ v) N c0 c1 c2 c3 c4 := by
  unfold Blk at *
  rw [Below.heap_setCell _ _ _ _ (by exact fun e => hne e.symm)]; exact h

theorem two_blks (w : World) (c0 c1 c2 c3 c4 d0 d1 d2 d3 d4 : Value) :
    Blk ((w.alloc (.cells #[c0, c1, c2, c3, c4] 43)).alloc (.cells #[d0, d1, d2, d3, d4] 43)) w.heap.size c0 c1 c2 c3 c4 ∧ Blk ((w.alloc (.cells #[c0, c1, c2, c3, c4] 43)).alloc (.cells #[d0, d1, d2, d3, d4] 43)) (w.heap.size + 1) d0 d1 d2 d3 d4 := by
  unfold Blk
  constructor
  · rw [Below.heap_alloc _ _ _ (by simp)]
    show (w.heap.push _)[w.heap.size]? = _
    simp
  · show ((w.heap.push _).push _)[w.heap.size + 1]? = _
    rw [Array.getElem?_push, if_pos (by simp)]
end Go.Proofs.YtagobgjlhdbhmaaDoor
/-
  A list of elements that a call builds: the row, and the lists of its elements beside it.
-/
namespace Go.Proofs.YtagobgjlhdbhmaaDoor
open Go.RowKit

/-- the lists of texts lie in no block g -/
def StrsNe (g : Option Nat) (w : World) (v : Value) (ss : List (List UInt8)) : Prop :=
  ∃ a cap, v = .slice a ss.length cap ∧ (ss = [] ∨ ∃ b o, a = some ⟨b, o, none⟩ ∧ some b ≠ g ∧ ∀ i (h : i < ss.length), w.cell? ⟨b, o + i, none⟩ = some (.string ⟨ss[i].toArray⟩))
def AtsNe (g : Option Nat) (w : World) (v : Value) (ss : List (List UInt8 × List UInt8)) : Prop :=
  ∃ a cap, v = .slice a ss.length cap ∧ (ss = [] ∨ ∃ b o, a = some ⟨b, o, none⟩ ∧ some b ≠ g ∧ ∀ i (h : i < ss.length), w.cell? ⟨b, o + i * 2, none⟩ = some (.string ⟨ss[i].1.toArray⟩) ∧ w.cell? ⟨b, o + i * 2 + 1, none⟩ = some (.string ⟨ss[i].2.toArray⟩))
theorem StrsNe.at {g : Option Nat} {w : World} {v : Value} {ss : List (List UInt8)} (h : StrsNe g w v ss) : StrsAt w v ss := by
  obtain ⟨a, cap, rfl, h⟩ := h
  refine ⟨a, cap, rfl, ?_⟩
  rcases h with h | ⟨b, o, ha, _, hc⟩
  · exact Or.inl h
  · exact Or.inr ⟨b, o, ha, hc⟩
theorem AtsNe.at {g : Option Nat} {w : World} {v : Value} {ss : List (List UInt8 × List UInt8)} (h : AtsNe g w v ss) : AtsAt w v ss := by
  obtain ⟨a, cap, rfl, h⟩ := h
  refine ⟨a, cap, rfl, ?_⟩
  rcases h with h | ⟨b, o, ha, _, hc⟩
  · exact Or.inl h
  · exact Or.inr ⟨b, o, ha, hc⟩
theorem grown_cell {w w' : World} {g : Option Nat} {b o : Nat} {v : Value} (hg : w.grownBy w' g) (hne : some b ≠ g) (h : w.cell? ⟨b, o, none⟩ = some v) : w'.cell? ⟨b, o, none⟩ = some v := by
  rw [World.cell?_of_block (w := w) (hg.block b (cell_lt h) hne)]; exact h
/-- behind an append: the row lies in g or in a new block -/
theorem StrsNe.grown {g g' : Option Nat} {w w' : World} {v : Value} {ss : List (List UInt8)} (h : StrsNe g w v ss) (hg : w.grownBy w' g) (hg' : g' = g ∨ ∃ H, g' = some H ∧ w.heap.size ≤ H) : StrsNe g' w' v ss := by
  obtain ⟨a, cap, rfl, h⟩ := h
  refine ⟨a, cap, rfl, ?_⟩
  rcases h with h | ⟨b, o, ha, hne, hc⟩
  · exact Or.inl h
  · by_cases hn : ss = []
    · exact Or.inl hn
    refine Or.inr ⟨b, o, ha, ?_, fun i hi => grown_cell hg hne (hc i hi)⟩
    rcases hg' with rfl | ⟨H, rfl, hH⟩
    · exact hne
    · have hl : 0 < ss.length := List.length_pos_iff.2 hn
      have : b < w.heap.size := cell_lt (hc 0 hl)
      intro e; simp at e; omega
theorem AtsNe.grown {g g' : Option Nat} {w w' : World} {v : Value} {ss : List (List UInt8 × List UInt8)} (h : AtsNe g w v ss) (hg : w.grownBy w' g) (hg' : g' = g ∨ ∃ H, g' = some H ∧ w.heap.size ≤ H) : AtsNe g' w' v ss := by
  obtain ⟨a, cap, rfl, h⟩ := h
  refine ⟨a, cap, rfl, ?_⟩
  rcases h with h | ⟨b, o, ha, hne, hc⟩
  · exact Or.inl h
  · by_cases hn : ss = []
    · exact Or.inl hn
    refine Or.inr ⟨b, o, ha, ?_, fun i hi => ⟨grown_cell hg hne (hc i hi).1, grown_cell hg hne (hc i hi).2⟩⟩
    rcases hg' with rfl | ⟨H, rfl, hH⟩
    · exact hne
    · have hl : 0 < ss.length := List.length_pos_iff.2 hn
      have : b < w.heap.size := cell_lt (hc 0 hl).1
      intro e; simp at e; omega
theorem StrsNe.on {g : Option Nat} {w w' : World} {v : Value} {ss : List (List UInt8)} (h : StrsNe g w v ss) (hb : Below w.heap.size w w') : StrsNe g w' v ss := by
  obtain ⟨a, cap, rfl, h⟩ := h
  refine ⟨a, cap, rfl, ?_⟩
  rcases h with h | ⟨b, o, ha, hB, hc⟩
  · exact Or.inl h
  · exact Or.inr ⟨b, o, ha, hB, fun i hi => cell_on hb (hc i hi)⟩
theorem AtsNe.on {g : Option Nat} {w w' : World} {v : Value} {ss : List (List UInt8 × List UInt8)} (h : AtsNe g w v ss) (hb : Below w.heap.size w w') : AtsNe g w' v ss := by
  obtain ⟨a, cap, rfl, h⟩ := h
  refine ⟨a, cap, rfl, ?_⟩
  rcases h with h | ⟨b, o, ha, hB, hc⟩
  · exact Or.inl h
  · exact Or.inr ⟨b, o, ha, hB, fun i hi => ⟨cell_on hb (hc i hi).1, cell_on hb (hc i hi).2⟩⟩
theorem StrsFrom.ne {B : Nat} {w : World} {v : Value} {ss : List (List UInt8)} (h : StrsFrom B w v ss) {g : Option Nat} (hg : ∀ k, g = some k → k < B) : StrsNe g w v ss := by
  obtain ⟨a, cap, rfl, h⟩ := h
  refine ⟨a, cap, rfl, ?_⟩
  rcases h with h | ⟨b, o, ha, hB, hc⟩
  · exact Or.inl h
  · exact Or.inr ⟨b, o, ha, fun e => by have := hg b e.symm; omega, hc⟩
theorem AtsFrom.ne {B : Nat} {w : World} {v : Value} {ss : List (List UInt8 × List UInt8)} (h : AtsFrom B w v ss) {g : Option Nat} (hg : ∀ k, g = some k → k < B) : AtsNe g w v ss := by
  obtain ⟨a, cap, rfl, h⟩ := h
  refine ⟨a, cap, rfl, ?_⟩
  rcases h with h | ⟨b, o, ha, hB, hc⟩
  · exact Or.inl h
  · exact Or.inr ⟨b, o, ha, fun e => by have := hg b e.symm; omega, hc⟩

/-- five cells an element -/
def CellsOf (g : Option Nat) (w : World) : List Value → List Pl.Nd → Prop
  | [], [] => True
  | c0 :: c1 :: c2 :: c3 :: c4 :: r, x :: t => (c0 = .int .i64 x.up ∧ c1 = .string ⟨x.tag.toArray⟩ ∧ c2 = .string ⟨x.id.toArray⟩ ∧ StrsNe g w c3 x.cls ∧ AtsNe g w c4 x.ats) ∧ CellsOf g w r t
  | _, _ => False
theorem CellsOf.append {g : Option Nat} {w : World} : ∀ (xs : List Value) (ns : List Pl.Nd) (ys : List Value) (ms : List Pl.Nd), CellsOf g w xs ns → CellsOf g w ys ms → CellsOf g w (xs ++ ys) (ns ++ ms)
  | [], [], _, _, _, h => h
  | c0 :: c1 :: c2 :: c3 :: c4 :: r, x :: t, ys, ms, h, h2 => ⟨h.1, CellsOf.append r t ys ms h.2 h2⟩
  | [], _ :: _, _, _, h, _ => h.elim
  | _ :: _, [], _, _, h, _ => by simp [CellsOf] at h
  | [_], _ :: _, _, _, h, _ => by cases h
  | [_, _], _ :: _, _, _, h, _ => by cases h
  | [_, _, _], _ :: _, _, _, h, _ => by cases h
  | [_, _, _, _], _ :: _, _, _, h, _ => by cases h
theorem CellsOf.grown {g g' : Option Nat} {w w' : World} (hg : w.grownBy w' g) (hg' : g' = g ∨ ∃ H, g' = some H ∧ w.heap.size ≤ H) : ∀ (xs : List Value) (ns : List Pl.Nd), CellsOf g w xs ns → CellsOf g' w' xs ns
  | [], [], _ => trivial
  | c0 :: c1 :: c2 :: c3 :: c4 :: r, x :: t, h => ⟨⟨h.1.1, h.1.2.1, h.1.2.2.1, h.1.2.2.2.1.grown hg hg', h.1.2.2.2.2.grown hg hg'⟩, CellsOf.grown hg hg' r t h.2⟩
  | [], _ :: _, h => h.elim
  | _ :: _, [], h => by simp [CellsOf] at h
  | [_], _ :: _, h => by cases h
  | [_, _], _ :: _, h => by cases h
  | [_, _, _], _ :: _, h => by cases h
  | [_, _, _, _], _ :: _, h => by cases h
theorem CellsOf.on {g : Option Nat} {w w' : World} (hb : Below w.heap.size w w') : ∀ (xs : List Value) (ns : List Pl.Nd), CellsOf g w xs ns → CellsOf g w' xs ns
  | [], [], _ => trivial
  | c0 :: c1 :: c2 :: c3 :: c4 :: r, x :: t, h => ⟨⟨h.1.1, h.1.2.1, h.1.2.2.1, h.1.2.2.2.1.on hb, h.1.2.2.2.2.on hb⟩, CellsOf.on hb r t h.2⟩
  | [], _ :: _, h => h.elim
  | _ :: _, [], h => by simp [CellsOf] at h
  | [_], _ :: _, h => by cases h
  | [_, _], _ :: _, h => by cases h
  | [_, _, _], _ :: _, h => by cases h
  | [_, _, _, _], _ :: _, h => by cases h
theorem CellsOf.get {g : Option Nat} {w : World} : ∀ (xs : List Value) (ns : List Pl.Nd), CellsOf g w xs ns → ∀ i (h : i < ns.length), ∃ vc va, xs[i * 5]? = some (.int .i64 ns[i].up) ∧ xs[i * 5 + 1]? = some (.string ⟨ns[i].tag.toArray⟩) ∧ xs[i * 5 + 2]? = some (.string ⟨ns[i].id.toArray⟩) ∧ xs[i * 5 + 3]? = some vc ∧ xs[i * 5 + 4]? = some va ∧ StrsNe g w vc ns[i].cls ∧ AtsNe g w va ns[i].ats
  | [], [], _, i, h => by simp at h
  | c0 :: c1 :: c2 :: c3 :: c4 :: r, x :: t, h, 0, _ => by
    obtain ⟨⟨rfl, rfl, rfl, hc, ha⟩, _⟩ := h
    exact ⟨c3, c4, rfl, rfl, rfl, rfl, rfl, hc, ha⟩
  | c0 :: c1 :: c2 :: c3 :: c4 :: r, x :: t, h, i + 1, hi => by
    obtain ⟨vc, va, h0, h1, h2, h3, h4, hc, ha⟩ := CellsOf.get r t h.2 i (by simpa using hi)
    refine ⟨vc, va, ?_, ?_, ?_, ?_, ?_, hc, ha⟩
    all_goals simp only [show (i + 1) * 5 = i * 5 + 1 + 1 + 1 + 1 + 1 by omega, Nat.add_assoc]
    · simpa [Nat.add_assoc] using h0
    · simpa [Nat.add_assoc] using h1
    · simpa [Nat.add_assoc] using h2
    · simpa [Nat.add_assoc] using h3
    · simpa [Nat.add_assoc] using h4
  | [], _ :: _, h, _, _ => h.elim
  | _ :: _, [], h, _, _ => by simp [CellsOf] at h
  | [_], _ :: _, h, _, _ => by cases h
  | [_, _], _ :: _, h, _, _ => by cases h
  | [_, _, _], _ :: _, h, _, _ => by cases h
  | [_, _, _, _], _ :: _, h, _, _ => by cases h
/-- the row of elements that is built, from block B on -/
def Row (B : Nat) (w : World) (v : Value) (ns : List Pl.Nd) : Prop := ∃ xs, w.ownsRow B 43 5 v ns.length xs ∧ CellsOf v.ownBlock w xs ns
theorem Row.nil (B : Nat) (w : World) : Row B w (.slice none 0 0) [] := ⟨[], World.ownsRow_nil _ _ _ _, trivial⟩
theorem own_on {w w' : World} {B : Nat} {e : TypeId} {size : Nat} {v : Value} {n : Nat} {xs : List Value} (h : w.ownsRow B e size v n xs) (hb : Below w.heap.size w w') : w'.ownsRow B e size v n xs :=
  h.kept (row := none) ⟨hb.os, hb.tape, hb.output, hb.size, fun k hk _ => hb.block k hk⟩ (by cases v.ownBlock <;> simp)
theorem Row.on {B : Nat} {w w' : World} {v : Value} {ns : List Pl.Nd} (h : Row B w v ns) (hb : Below w.heap.size w w') : Row B w' v ns := by
  obtain ⟨xs, ho, hc⟩ := h
  exact ⟨xs, own_on ho hb, CellsOf.on hb xs ns hc⟩
theorem Row.nds {B : Nat} {w : World} {v : Value} {ns : List Pl.Nd} (h : Row B w v ns) : NdsAt w v ns := by
  obtain ⟨xs, ho, hc⟩ := h
  have hh := ho
  obtain ⟨_, h0 | ⟨g, cap, cur, rfl, _⟩⟩ := ho
  · obtain ⟨rfl, hl⟩ := h0
    have : ns = [] := by simpa using hl
    subst this
    exact ⟨none, 0, rfl, Or.inl rfl⟩
  · refine ⟨_, cap, rfl, Or.inr ⟨g, 0, rfl, fun i hi => ?_⟩⟩
    obtain ⟨vc, va, h0, h1, h2, h3, h4, hcc, haa⟩ := CellsOf.get xs ns hc i hi
    have k0 := World.ownsRow.cells hh rfl _ _ h0
    have k1 := World.ownsRow.cells hh rfl _ _ h1
    have k2 := World.ownsRow.cells hh rfl _ _ h2
    have k3 := World.ownsRow.cells hh rfl _ _ h3
    have k4 := World.ownsRow.cells hh rfl _ _ h4
    simp only [Addr.add_lit] at k0 k1 k2 k3 k4
    exact ⟨vc, va, k0, by simpa [Nat.add_assoc] using k1, by simpa [Nat.add_assoc] using k2, by simpa [Nat.add_assoc] using k3, by simpa [Nat.add_assoc] using k4, hcc.at, haa.at⟩
end Go.Proofs.YtagobgjlhdbhmaaDoor
/-
  Copies of elements appended, with Up where it went.
-/
namespace Go.Proofs.YtagobgjlhdbhmaaDoor
open Go.RowKit

/-- an element whose Up went elsewhere -/
def Pl.mvd (mv : Int → Int) (x : Pl.Nd) : Pl.Nd := { x with up := mv x.up }

theorem Tryd.info43 : (Tryd.prog.info? 43).map (fun i => (i.zero, i.size, i.bytes)) = some (some (.agg #[.int .i64 0, .string ⟨#[]⟩, .string ⟨#[]⟩, .slice none 0 0, .slice none 0 0]), 5, 88) := by kernel_rfl

/-- the five cells of an element's box -/
abbrev FiveAt (w' : World) (N : Nat) (c0 c1 c2 c3 c4 : Value) : Prop :=
  w'.cell? ⟨N, 0, none⟩ = some c0 ∧ w'.cell? ⟨N, 1, none⟩ = some c1 ∧ w'.cell? ⟨N, 2, none⟩ = some c2 ∧ w'.cell? ⟨N, 3, none⟩ = some c3 ∧ w'.cell? ⟨N, 4, none⟩ = some c4
theorem five_on {w w' : World} {N : Nat} {c0 c1 c2 c3 c4 : Value} (h : FiveAt w N c0 c1 c2 c3 c4) (hb : Below w.heap.size w w') : FiveAt w' N c0 c1 c2 c3 c4 :=
  ⟨cell_on hb h.1, cell_on hb h.2.1, cell_on hb h.2.2.1, cell_on hb h.2.2.2.1, cell_on hb h.2.2.2.2⟩
theorem five_alloc {w : World} {N : Nat} {c0 c1 c2 c3 c4 : Value} (h : FiveAt w N c0 c1 c2 c3 c4) (o : Obj) : FiveAt (w.alloc o) N c0 c1 c2 c3 c4 := five_on h (on_alloc _ _)
theorem five_grown {w w' : World} {N : Nat} {g : Option Nat} {c0 c1 c2 c3 c4 : Value} (h : FiveAt w N c0 c1 c2 c3 c4) (hg : w.grownBy w' g) (hne : some N ≠ g) : FiveAt w' N c0 c1 c2 c3 c4 :=
  ⟨grown_cell hg hne h.1, grown_cell hg hne h.2.1, grown_cell hg hne h.2.2.1, grown_cell hg hne h.2.2.2.1, grown_cell hg hne h.2.2.2.2⟩

/-- the row with one element more -/
theorem row_step {B : Nat} {wr W w' : World} {v : Value} {ns : List Pl.Nd} {xs : List Value} {x : Pl.Nd} {vc va : Value} {g cap : Nat} (hown : wr.ownsRow B 43 5 v ns.length xs) (hc : CellsOf v.ownBlock wr xs ns)
    (hW : Below wr.heap.size wr W) (hvc : StrsFrom wr.heap.size W vc x.cls) (hva : AtsFrom wr.heap.size W va x.ats)
    (h1 : w'.ownsRow B 43 5 (.slice (some ⟨g, 0, none⟩) (ns.length + 1) cap) (ns.length + 1) (xs ++ [.int .i64 x.up, .string ⟨x.tag.toArray⟩, .string ⟨x.id.toArray⟩, vc, va])) (hg : W.grownBy w' v.ownBlock) (hat : v.ownBlock = some g ∨ g = W.heap.size) :
    Row B w' (.slice (some ⟨g, 0, none⟩) (ns.length + 1) cap) (ns ++ [x]) := by
  refine ⟨_, by simpa using h1, ?_⟩
  have hg' : (Value.slice (some ⟨g, 0, none⟩) (ns.length + 1) cap).ownBlock = v.ownBlock ∨ ∃ H, (Value.slice (some ⟨g, 0, none⟩) (ns.length + 1) cap).ownBlock = some H ∧ W.heap.size ≤ H := by
    rcases hat with h | h
    · exact Or.inl (by rw [h]; rfl)
    · exact Or.inr ⟨g, rfl, by omega⟩
  refine CellsOf.append _ _ _ _ (CellsOf.grown hg hg' _ _ (CellsOf.on hW _ _ hc)) ⟨⟨rfl, rfl, rfl, ?_, ?_⟩, trivial⟩
  · exact (hvc.ne (fun k hk => (World.ownsRow.lt hown k hk).2)).grown hg hg'
  · exact (hva.ne (fun k hk => (World.ownsRow.lt hown k hk).2)).grown hg hg'


/-- the box's cells, and what lies below B -/
theorem six_below {B N : Nat} {w w' : World} {c0 c1 c2 c3 c4 : Value} (h : w'.cell? ⟨N, 0, none⟩ = some c0 ∧ w'.cell? ⟨N, 1, none⟩ = some c1 ∧ w'.cell? ⟨N, 2, none⟩ = some c2 ∧ w'.cell? ⟨N, 3, none⟩ = some c3 ∧ w'.cell? ⟨N, 4, none⟩ = some c4 ∧ Below B w w') : Below B w w' := h.2.2.2.2.2
theorem six_on {B N : Nat} {w W w' : World} {c0 c1 c2 c3 c4 : Value} (hB : B ≤ w.heap.size) (h : W.cell? ⟨N, 0, none⟩ = some c0 ∧ W.cell? ⟨N, 1, none⟩ = some c1 ∧ W.cell? ⟨N, 2, none⟩ = some c2 ∧ W.cell? ⟨N, 3, none⟩ = some c3 ∧ W.cell? ⟨N, 4, none⟩ = some c4 ∧ Below B w W)
    (hb : Below W.heap.size W w') : w'.cell? ⟨N, 0, none⟩ = some c0 ∧ w'.cell? ⟨N, 1, none⟩ = some c1 ∧ w'.cell? ⟨N, 2, none⟩ = some c2 ∧ w'.cell? ⟨N, 3, none⟩ = some c3 ∧ w'.cell? ⟨N, 4, none⟩ = some c4 ∧ Below B w w' :=
  ⟨cell_on hb h.1, cell_on hb h.2.1, cell_on hb h.2.2.1, cell_on hb h.2.2.2.1, cell_on hb h.2.2.2.2.1, h.2.2.2.2.2.trans (hb.mono (Nat.le_trans hB h.2.2.2.2.2.size))⟩
theorem six_alloc {B N : Nat} {w W : World} {c0 c1 c2 c3 c4 : Value} (hB : B ≤ w.heap.size) (h : W.cell? ⟨N, 0, none⟩ = some c0 ∧ W.cell? ⟨N, 1, none⟩ = some c1 ∧ W.cell? ⟨N, 2, none⟩ = some c2 ∧ W.cell? ⟨N, 3, none⟩ = some c3 ∧ W.cell? ⟨N, 4, none⟩ = some c4 ∧ Below B w W)
    (o : Obj) : (W.alloc o).cell? ⟨N, 0, none⟩ = some c0 ∧ (W.alloc o).cell? ⟨N, 1, none⟩ = some c1 ∧ (W.alloc o).cell? ⟨N, 2, none⟩ = some c2 ∧ (W.alloc o).cell? ⟨N, 3, none⟩ = some c3 ∧ (W.alloc o).cell? ⟨N, 4, none⟩ = some c4 ∧ Below B w (W.alloc o) := six_on hB h (on_alloc _ _)
theorem six_grown {B N : Nat} {w W w' : World} {g : Option Nat} {c0 c1 c2 c3 c4 : Value} (hB : B ≤ w.heap.size) (hne : some N ≠ g) (hg : ∀ k, g = some k → B ≤ k) (h : W.cell? ⟨N, 0, none⟩ = some c0 ∧ W.cell? ⟨N, 1, none⟩ = some c1 ∧ W.cell? ⟨N, 2, none⟩ = some c2 ∧ W.cell? ⟨N, 3, none⟩ = some c3 ∧ W.cell? ⟨N, 4, none⟩ = some c4 ∧ Below B w W)
    (hb : W.grownBy w' g) : w'.cell? ⟨N, 0, none⟩ = some c0 ∧ w'.cell? ⟨N, 1, none⟩ = some c1 ∧ w'.cell? ⟨N, 2, none⟩ = some c2 ∧ w'.cell? ⟨N, 3, none⟩ = some c3 ∧ w'.cell? ⟨N, 4, none⟩ = some c4 ∧ Below B w w' :=
  ⟨grown_cell hb hne h.1, grown_cell hb hne h.2.1, grown_cell hb hne h.2.2.1, grown_cell hb hne h.2.2.2.1, grown_cell hb hne h.2.2.2.2.1, h.2.2.2.2.2.grown hb (Nat.le_trans hB h.2.2.2.2.2.size) hg⟩

/-- one element more, at the step that appends it -/
theorem step_add {ops : Array Oper} {o : Oper} {a : Act} {K : Act → World → Prop} {Q : Exit → Act → World → Prop} {E : Prop} {B : Nat} {wr w2 : World} {v : Value} {ns : List Pl.Nd} {xs : List Value} {x : Pl.Nd} {a1 a2 : Option Addr} {l1 c1 l2 c2 : Nat} (hgd : o.guard = none) (s t : Operand)
    (ho : o.op = .call { callee := .builtin .append, args := #[s, t], argTypes := #[22, 22] }) (hs : a.eval s = v) (hx : a.eval t = .slice (some ⟨w2.heap.size, 0, none⟩) 1 1)
    (hown : wr.ownsRow B 43 5 v ns.length xs) (hcs : CellsOf v.ownBlock wr xs ns) (hlen : ns.length + 1 ≤ 64) (hB : B ≤ wr.heap.size) (hW : Below wr.heap.size wr w2) (hvc : StrsFrom wr.heap.size w2 (.slice a1 l1 c1) x.cls) (hva : AtsFrom wr.heap.size w2 (.slice a2 l2 c2) x.ats)
    (h : ∀ g cap w', Row B w' (.slice (some ⟨g, 0, none⟩) (ns.length + 1) cap) (ns ++ [x]) → (w2.alloc (.cells #[.int .i64 x.up, .string ⟨x.tag.toArray⟩, .string ⟨x.id.toArray⟩, .slice a1 l1 c1, .slice a2 l2 c2] 43)).grownBy w' v.ownBlock → K (a.put o.dst (.slice (some ⟨g, 0, none⟩) (ns.length + 1) cap)) w') :
    if Region.wanted o (yielded ops a.tmps) = true then Oper.wp Tryd.prog o a (w2.alloc (.cells #[.int .i64 x.up, .string ⟨x.tag.toArray⟩, .string ⟨x.id.toArray⟩, .slice a1 l1 c1, .slice a2 l2 c2] 43)) K Q else E := by
  obtain ⟨i0, hi, hz0, hz1, hz2⟩ := info_parts Tryd.info43
  have hW2 : Below wr.heap.size wr (w2.alloc (.cells #[.int .i64 x.up, .string ⟨x.tag.toArray⟩, .string ⟨x.id.toArray⟩, .slice a1 l1 c1, .slice a2 l2 c2] 43)) := hW.alloc hW.size _
  refine step_append_lies _ hgd s t 22 ho B 43 i0 _ 5 88 Tryd.underlying22 hi hz0 hz1 hz2 rfl (by decide) v ns.length xs hs (own_on hown hW2) ⟨w2.heap.size, 0, none⟩ 1 1 [.int .i64 x.up, .string ⟨x.tag.toArray⟩, .string ⟨x.id.toArray⟩, .slice a1 l1 c1, .slice a2 l2 c2] hx rfl ?_ ?_ (by decide) (by unfold maxLen; omega) (by omega) (Nat.le_trans hB hW2.size) _ rfl ?_
  · exact World.news_of_block (heap_alloc_new w2 _)
  · intro u hu
    simp only [List.mem_cons, List.not_mem_nil, or_false] at hu
    rcases hu with rfl | rfl | rfl | rfl | rfl <;> rfl
  · intro g cap w' h1 h2 h3 _
    exact h g cap w' (row_step hown hcs hW2 (hvc.on (on_alloc _ _)) (hva.on (on_alloc _ _)) h1 h2 h3) h2
end Go.Proofs.YtagobgjlhdbhmaaDoor
/-
  Where Up goes: the five rules that elements are copied by.
-/
namespace Go.Proofs.YtagobgjlhdbhmaaDoor
open Go.RowKit

namespace Pl
def wr (u : Int) : Int := RowKit.wrap64 u
theorem wr_in {u : Int} (h : -9223372036854775808 ≤ u) (h2 : u ≤ 9223372036854775807) : wr u = u := by
  unfold wr; rw [IntWalk.wrap64_in _ ⟨by omega, by omega⟩]
def mvPart (n : Int) (u : Int) : Int := if u < n then -1 else wr (u - n)
def mvRem (n d : Int) (u : Int) : Int := if u < n then u else wr (u - d)
def mvIn (up place : Int) (u : Int) : Int := if u < 0 then up else wr (u + place)
def mvOut (place k : Int) (u : Int) : Int := if u < place then u else wr (u + k)
end Pl

end Go.Proofs.YtagobgjlhdbhmaaDoor
/-
  A document as an argument or an answer; facts of right documents that the calls lean on.
-/
namespace Go.Proofs.YtagobgjlhdbhmaaDoor
open Go.RowKit

/-- a slice with its room -/
def Capd (v : Value) : Prop := ∃ a l c, v = .slice a l c ∧ l ≤ c ∧ c ≤ maxLen
/-- a document's elements -/
def DocAt (w : World) (v : Value) (ns : List Pl.Nd) : Prop := NdsAt w v ns ∧ Capd v ∧ FitsAll ns
theorem DocAt.on {w w' : World} {v : Value} {ns : List Pl.Nd} (h : DocAt w v ns) (hb : Below w.heap.size w w') : DocAt w' v ns := ⟨h.1.on hb, h.2⟩
theorem DocAt.nil (w : World) : DocAt w (.slice none 0 0) [] := ⟨⟨none, 0, rfl, Or.inl rfl⟩, ⟨_, _, _, rfl, Nat.le_refl _, by unfold maxLen; omega⟩, by simp, fun i h => by simp at h⟩

theorem cell_set_str {w : World} {b o M j : Nat} {s : ByteArray} {u old : Value} (h : w.cell? ⟨b, o, none⟩ = some (.string s)) (h2 : w.cell? ⟨M, j, none⟩ = some old) (hs : ∀ s, old ≠ .string s) : (w.setCell ⟨M, j, none⟩ u).cell? ⟨b, o, none⟩ = some (.string s) := by
  rw [World.cell?_setCell_other _ _ _ _ (by intro e; rw [e, h] at h2; injection h2 with h2; exact hs s h2.symm)]; exact h
theorem StrsNe.set {g : Option Nat} {w : World} {v : Value} {ss : List (List UInt8)} (h : StrsNe g w v ss) {M j : Nat} {old : Value} (h2 : w.cell? ⟨M, j, none⟩ = some old) (hs : ∀ s, old ≠ .string s) (u : Value) : StrsNe g (w.setCell ⟨M, j, none⟩ u) v ss := by
  obtain ⟨a, cap, rfl, h⟩ := h
  refine ⟨a, cap, rfl, ?_⟩
  rcases h with h | ⟨b, o, ha, hB, hc⟩
  · exact Or.inl h
  · exact Or.inr ⟨b, o, ha, hB, fun i hi => cell_set_str (hc i hi) h2 hs⟩
theorem AtsNe.set {g : Option Nat} {w : World} {v : Value} {ss : List (List UInt8 × List UInt8)} (h : AtsNe g w v ss) {M j : Nat} {old : Value} (h2 : w.cell? ⟨M, j, none⟩ = some old) (hs : ∀ s, old ≠ .string s) (u : Value) : AtsNe g (w.setCell ⟨M, j, none⟩ u) v ss := by
  obtain ⟨a, cap, rfl, h⟩ := h
  refine ⟨a, cap, rfl, ?_⟩
  rcases h with h | ⟨b, o, ha, hB, hc⟩
  · exact Or.inl h
  · exact Or.inr ⟨b, o, ha, hB, fun i hi => ⟨cell_set_str (hc i hi).1 h2 hs, cell_set_str (hc i hi).2 h2 hs⟩⟩
theorem CellsOf.set {g : Option Nat} {w : World} {M j : Nat} {old : Value} (h2 : w.cell? ⟨M, j, none⟩ = some old) (hs : ∀ s, old ≠ .string s) (u : Value) : ∀ (xs : List Value) (ns : List Pl.Nd), CellsOf g w xs ns → CellsOf g (w.setCell ⟨M, j, none⟩ u) xs ns
  | [], [], _ => trivial
  | c0 :: c1 :: c2 :: c3 :: c4 :: r, x :: t, h => ⟨⟨h.1.1, h.1.2.1, h.1.2.2.1, h.1.2.2.2.1.set h2 hs u, h.1.2.2.2.2.set h2 hs u⟩, CellsOf.set h2 hs u r t h.2⟩
  | [], _ :: _, h => h.elim
  | _ :: _, [], h => by simp [CellsOf] at h
  | [_], _ :: _, h => by cases h
  | [_, _], _ :: _, h => by cases h
  | [_, _, _], _ :: _, h => by cases h
  | [_, _, _, _], _ :: _, h => by cases h
/-- a cell below the row, that holds no text, may be written -/
theorem Row.set {B : Nat} {w : World} {v : Value} {ns : List Pl.Nd} (h : Row B w v ns) {M j : Nat} {old : Value} (hM : M < B) (h2 : w.cell? ⟨M, j, none⟩ = some old) (hs : ∀ s, old ≠ .string s) (u : Value) : Row B (w.setCell ⟨M, j, none⟩ u) v ns := by
  obtain ⟨xs, ho, hc⟩ := h
  refine ⟨xs, ?_, CellsOf.set h2 hs u _ _ hc⟩
  refine ⟨ho.1, ?_⟩
  rcases ho.2 with h0 | ⟨g, cap, cur, rfl, hb, hgg, rest⟩
  · exact Or.inl h0
  · exact Or.inr ⟨g, cap, cur, rfl, hb, by rw [Below.heap_setCell _ _ _ _ (by simp; omega)]; exact hgg, rest⟩
theorem Row.cap {B : Nat} {w : World} {v : Value} {ns : List Pl.Nd} (h : Row B w v ns) : Capd v := by
  obtain ⟨xs, ho, _⟩ := h
  rcases ho.2 with ⟨rfl, h0⟩ | ⟨g, cap, cur, rfl, hb, hgg, h1, h2, _⟩
  · exact ⟨none, 0, 0, rfl, Nat.le_refl _, by unfold maxLen; omega⟩
  · exact ⟨_, _, _, rfl, h1, h2⟩
theorem Row.doc {B : Nat} {w : World} {v : Value} {ns : List Pl.Nd} (h : Row B w v ns) (hl : ns.length ≤ 64) (hf : ∀ x ∈ ns, x.cls.length ≤ 6 ∧ x.ats.length ≤ 4) : DocAt w v ns :=
  ⟨h.nds, h.cap, by unfold maxLen; omega, fun i hi => ⟨by have := (hf _ (List.getElem_mem hi)).1; unfold maxLen; omega, by have := (hf _ (List.getElem_mem hi)).2; unfold maxLen; omega⟩⟩

/-- what a right document has -/
theorem check_zero {ns : List Pl.Nd} (h : Pl.checkDoc ns = 0) : 1 ≤ ns.length ∧ ns.length ≤ 64 ∧ Pl.okTo ns ns.length = true := by
  unfold Pl.checkDoc at h
  split at h
  · omega
  · split at h
    · exact ⟨by omega, by omega, by assumption⟩
    · omega
theorem okTo_right {ns : List Pl.Nd} {n k : Nat} (h : Pl.okTo ns n = true) (hk : k < n) (hn : k < ns.length) : Pl.right ns[k] = true ∧ Pl.hangs ns k = true := by
  have := Pl.okTo_le h (n := k + 1) (by omega)
  rw [Pl.okTo_succ, List.getElem?_eq_getElem hn] at this
  simp only [Bool.and_eq_true] at this
  exact this.2
theorem right_short {x : Pl.Nd} (h : Pl.right x = true) : x.cls.length ≤ 6 ∧ x.ats.length ≤ 4 := by
  unfold Pl.right Pl.names at h
  simp only [Bool.and_eq_true, decide_eq_true_eq, List.length_map] at h
  exact ⟨h.1.1.2.1.1, h.1.2.1.1⟩
theorem check_short {ns : List Pl.Nd} (h : Pl.checkDoc ns = 0) : ∀ x ∈ ns, x.cls.length ≤ 6 ∧ x.ats.length ≤ 4 := by
  intro x hx
  obtain ⟨_, _, hk⟩ := check_zero h
  obtain ⟨i, hi, rfl⟩ := List.getElem_of_mem hx
  exact right_short (okTo_right hk hi hi).1
theorem checkAt_zero {ns : List Pl.Nd} {n : Int} (h : checkAtOf ns n = 0) : Pl.checkDoc ns = 0 ∧ ∃ k : Nat, n = k ∧ k < ns.length := by
  unfold checkAtOf at h
  split at h
  · split at h
    · rename_i h1 h2
      refine ⟨h1, n.toNat, ?_⟩
      unfold hasB at h2
      simp only [Bool.and_eq_true, decide_eq_true_eq] at h2
      omega
    · omega
  · omega
theorem behindFrom_le (ns : List Pl.Nd) (n : Nat) : ∀ (f e : Nat), e ≤ ns.length → e ≤ Pl.behindFrom ns n f e ∧ Pl.behindFrom ns n f e ≤ ns.length
  | 0, e, h => ⟨Nat.le_refl _, h⟩
  | f + 1, e, h => by
    unfold Pl.behindFrom
    split
    · rename_i h1
      have := behindFrom_le ns n f (e + 1) (by omega)
      omega
    · exact ⟨Nat.le_refl _, h⟩
theorem behind_le {ns : List Pl.Nd} {n : Nat} (h : n < ns.length) : n + 1 ≤ Pl.behind ns n ∧ Pl.behind ns n ≤ ns.length := behindFrom_le ns n _ _ h
/-- a stretch of a document's elements -/
theorem NdsAt.part {w : World} {b o : Nat} {ns : List Pl.Nd} (h : ∀ i (h : i < ns.length), NdAt w b (o + i * 5) ns[i]) (lo m cap' : Nat) (hm : lo + m ≤ ns.length) : NdsAt w (.slice (some ⟨b, o + lo * 5, none⟩) m cap') ((ns.drop lo).take m) := by
  have hl : ((ns.drop lo).take m).length = m := by simp; omega
  refine ⟨_, _, by rw [hl], Or.inr ⟨b, _, rfl, fun i hi => ?_⟩⟩
  have := h (lo + i) (by omega)
  rw [show o + lo * 5 + i * 5 = o + (lo + i) * 5 by omega]
  simpa using this
theorem mem_stretch {α : Type} {l : List α} {lo m : Nat} {x : α} (h : x ∈ (l.drop lo).take m) : x ∈ l := List.mem_of_mem_drop (List.mem_of_mem_take h)
/-- the part under an element, as the program copies it -/
def partOf (ns : List Pl.Nd) (n : Int) : List Pl.Nd := if checkAtOf ns n = 0 then ((ns.drop n.toNat).take (Pl.behind ns n.toNat - n.toNat)).map (Pl.mvd (Pl.mvPart n)) else []
theorem mvd_short {mv : Int → Int} {ms : List Pl.Nd} (h : ∀ x ∈ ms, x.cls.length ≤ 6 ∧ x.ats.length ≤ 4) : ∀ x ∈ ms.map (Pl.mvd mv), x.cls.length ≤ 6 ∧ x.ats.length ≤ 4 := by
  intro x hx
  obtain ⟨y, hy, rfl⟩ := List.mem_map.1 hx
  exact h y hy
end Go.Proofs.YtagobgjlhdbhmaaDoor
