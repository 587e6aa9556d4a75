/-
  An element copied into memory of its own.
-/
import Derived.Test.YtephhllfodlfbaaGreatDoorKids
namespace Go.Proofs.YtephhllfodlfbaaGreatDoor
open Go.RowKit

def strCells (l : List (List UInt8)) : List Value := l.map fun s => Value.string ⟨s.toArray⟩
def atCells : List (List UInt8 × List UInt8) → List Value
  | [] => []
  | a :: r => .string ⟨a.1.toArray⟩ :: .string ⟨a.2.toArray⟩ :: atCells r
theorem atCells_len : ∀ l, (atCells l).length = l.length * 2
  | [] => rfl
  | _ :: r => by simp [atCells, atCells_len r]; omega
theorem atCells_at : ∀ (l : List (List UInt8 × List UInt8)) (i : Nat) (h : i < l.length), (atCells l)[i * 2]? = some (.string ⟨l[i].1.toArray⟩) ∧ (atCells l)[i * 2 + 1]? = some (.string ⟨l[i].2.toArray⟩)
  | [], i, h => by simp at h
  | a :: r, 0, _ => by simp [atCells]
  | a :: r, i + 1, h => by
    have := atCells_at r i (by simpa using h)
    rw [show (i + 1) * 2 = i * 2 + 1 + 1 by omega]
    simpa [atCells] using this
theorem atCells_inv : ∀ (l : List (List UInt8 × List UInt8)) (j : Nat) (u : Value), (atCells l)[j]? = some u → ∃ (i : Nat) (h : i < l.length), (j = i * 2 ∧ u = .string ⟨l[i].1.toArray⟩) ∨ (j = i * 2 + 1 ∧ u = .string ⟨l[i].2.toArray⟩)
  | [], j, u, h => by simp [atCells] at h
  | a :: r, 0, u, h => by simp [atCells] at h; exact ⟨0, by simp, Or.inl ⟨rfl, h.symm⟩⟩
  | a :: r, 1, u, h => by simp [atCells] at h; exact ⟨0, by simp, Or.inr ⟨rfl, h.symm⟩⟩
  | a :: r, j + 2, u, h => by
    obtain ⟨i, hi, hh⟩ := atCells_inv r j u (by simpa [atCells] using h)
    refine ⟨i + 1, by simpa using hi, ?_⟩
    rcases hh with ⟨rfl, rfl⟩ | ⟨rfl, rfl⟩
    · exact Or.inl ⟨by omega, by simp⟩
    · exact Or.inr ⟨by omega, by simp⟩
/-- a list of texts in blocks from B on -/
def StrsFrom (B : Nat) (w : World) (v : Value) (ss : List (List UInt8)) : Prop :=
  ∃ a cap, v = .slice a ss.length cap ∧ (ss = [] ∨ ∃ b o, a = some ⟨b, o, none⟩ ∧ B ≤ b ∧ ∀ i (h : i < ss.length), w.cell? ⟨b, o + i, none⟩ = some (.string ⟨ss[i].toArray⟩))
def AtsFrom (B : Nat) (w : World) (v : Value) (ss : List (List UInt8 × List UInt8)) : Prop :=
  ∃ a cap, v = .slice a ss.length cap ∧ (ss = [] ∨ ∃ b o, a = some ⟨b, o, none⟩ ∧ B ≤ b ∧ ∀ i (h : i < ss.length), w.cell? ⟨b, o + i * 2, none⟩ = some (.string ⟨ss[i].1.toArray⟩) ∧ w.cell? ⟨b, o + i * 2 + 1, none⟩ = some (.string ⟨ss[i].2.toArray⟩))
theorem StrsFrom.at {B : Nat} {w : World} {v : Value} {ss : List (List UInt8)} (h : StrsFrom B w v ss) : StrsAt w v ss := by
  obtain ⟨a, cap, rfl, h⟩ := h
  refine ⟨a, cap, rfl, ?_⟩
  rcases h with h | ⟨b, o, ha, _, hc⟩
  · exact Or.inl h
  · exact Or.inr ⟨b, o, ha, hc⟩
theorem AtsFrom.at {B : Nat} {w : World} {v : Value} {ss : List (List UInt8 × List UInt8)} (h : AtsFrom B w v ss) : AtsAt w v ss := by
  obtain ⟨a, cap, rfl, h⟩ := h
  refine ⟨a, cap, rfl, ?_⟩
  rcases h with h | ⟨b, o, ha, _, hc⟩
  · exact Or.inl h
  · exact Or.inr ⟨b, o, ha, hc⟩
theorem StrsFrom.on {B : Nat} {w w' : World} {v : Value} {ss : List (List UInt8)} (h : StrsFrom B w v ss) (hb : Below w.heap.size w w') : StrsFrom B w' v ss := by
  obtain ⟨a, cap, rfl, h⟩ := h
  refine ⟨a, cap, rfl, ?_⟩
  rcases h with h | ⟨b, o, ha, hB, hc⟩
  · exact Or.inl h
  · exact Or.inr ⟨b, o, ha, hB, fun i hi => cell_on hb (hc i hi)⟩
theorem AtsFrom.on {B : Nat} {w w' : World} {v : Value} {ss : List (List UInt8 × List UInt8)} (h : AtsFrom B w v ss) (hb : Below w.heap.size w w') : AtsFrom B w' v ss := by
  obtain ⟨a, cap, rfl, h⟩ := h
  refine ⟨a, cap, rfl, ?_⟩
  rcases h with h | ⟨b, o, ha, hB, hc⟩
  · exact Or.inl h
  · exact Or.inr ⟨b, o, ha, hB, fun i hi => ⟨cell_on hb (hc i hi).1, cell_on hb (hc i hi).2⟩⟩
theorem AtsFrom.mono {B B' : Nat} {w : World} {v : Value} {ss : List (List UInt8 × List UInt8)} (h : AtsFrom B w v ss) (hB : B' ≤ B) : AtsFrom B' w v ss := by
  obtain ⟨a, cap, rfl, h⟩ := h
  refine ⟨a, cap, rfl, ?_⟩
  rcases h with h | ⟨b, o, ha, hB2, hc⟩
  · exact Or.inl h
  · exact Or.inr ⟨b, o, ha, by omega, hc⟩
theorem StrsFrom.mono {B B' : Nat} {w : World} {v : Value} {ss : List (List UInt8)} (h : StrsFrom B w v ss) (hB : B' ≤ B) : StrsFrom B' w v ss := by
  obtain ⟨a, cap, rfl, h⟩ := h
  refine ⟨a, cap, rfl, ?_⟩
  rcases h with h | ⟨b, o, ha, hB2, hc⟩
  · exact Or.inl h
  · exact Or.inr ⟨b, o, ha, by omega, hc⟩
/-- an element as a value, its lists in blocks from B on -/
def NdF (B : Nat) (w : World) (v : Value) (x : Pl.Nd) : Prop :=
  ∃ vc va, v = .agg #[.int .i64 x.up, .string ⟨x.tag.toArray⟩, .string ⟨x.id.toArray⟩, vc, va] ∧ StrsFrom B w vc x.cls ∧ AtsFrom B w va x.ats
theorem cell_set {w : World} {b o M j : Nat} {v u : Value} (h : w.cell? ⟨b, o, none⟩ = some v) (hne : M ≠ b) : (w.setCell ⟨M, j, none⟩ u).cell? ⟨b, o, none⟩ = some v := by
  rw [World.cell?_setCell_other _ _ _ _ (by intro e; injection e; omega)]; exact h
theorem StrsFrom.set {B : Nat} {w : World} {v : Value} {ss : List (List UInt8)} (h : StrsFrom B w v ss) {M : Nat} (hM : M < B) (j : Nat) (u : Value) : StrsFrom B (w.setCell ⟨M, j, none⟩ u) v ss := by
  obtain ⟨a, cap, rfl, h⟩ := h
  refine ⟨a, cap, rfl, ?_⟩
  rcases h with h | ⟨b, o, ha, hB, hc⟩
  · exact Or.inl h
  · exact Or.inr ⟨b, o, ha, hB, fun i hi => cell_set (hc i hi) (by omega)⟩
theorem AtsFrom.set {B : Nat} {w : World} {v : Value} {ss : List (List UInt8 × List UInt8)} (h : AtsFrom B w v ss) {M : Nat} (hM : M < B) (j : Nat) (u : Value) : AtsFrom B (w.setCell ⟨M, j, none⟩ u) v ss := by
  obtain ⟨a, cap, rfl, h⟩ := h
  refine ⟨a, cap, rfl, ?_⟩
  rcases h with h | ⟨b, o, ha, hB, hc⟩
  · exact Or.inl h
  · exact Or.inr ⟨b, o, ha, hB, fun i hi => ⟨cell_set (hc i hi).1 (by omega), cell_set (hc i hi).2 (by omega)⟩⟩
theorem strs_of_row {w : World} {B : Nat} {v : Value} {l : List (List UInt8)} (h : w.ownsRow B 9 1 v l.length (strCells l)) : StrsFrom B w v l := by
  have hh := h
  obtain ⟨_, h0 | ⟨g, cap, cur, rfl, hBg, _⟩⟩ := h
  · obtain ⟨rfl, hl⟩ := h0
    have : l = [] := by simpa using hl
    subst this
    exact ⟨none, 0, rfl, Or.inl rfl⟩
  · refine ⟨_, cap, rfl, Or.inr ⟨g, 0, rfl, hBg, fun i hi => ?_⟩⟩
    have := World.ownsRow.cells hh rfl i (.string ⟨l[i].toArray⟩) (by simp [strCells, List.getElem?_eq_getElem hi])
    rw [Addr.add_lit] at this
    exact this
theorem ats_of_row {w : World} {B : Nat} {v : Value} {l : List (List UInt8 × List UInt8)} (h : w.ownsRow B 59 2 v l.length (atCells l)) : AtsFrom B w v l := by
  have hh := h
  obtain ⟨_, h0 | ⟨g, cap, cur, rfl, hBg, _⟩⟩ := h
  · obtain ⟨rfl, hl⟩ := h0
    have : l = [] := by simpa using hl
    subst this
    exact ⟨none, 0, rfl, Or.inl rfl⟩
  · refine ⟨_, cap, rfl, Or.inr ⟨g, 0, rfl, hBg, fun i hi => ?_⟩⟩
    obtain ⟨a0, a1⟩ := atCells_at l i hi
    have h0 := World.ownsRow.cells hh rfl _ _ a0
    have h1 := World.ownsRow.cells hh rfl _ _ a1
    rw [Addr.add_lit] at h0 h1
    exact ⟨h0, h1⟩

theorem Tryz.info9 : (Tryz.prog.info? 9).map (fun i => (i.zero, i.size, i.bytes)) = some (some (.string ⟨#[]⟩), 1, 16) := by kernel_rfl
theorem Tryz.info59 : (Tryz.prog.info? 59).map (fun i => (i.zero, i.size, i.bytes)) = some (some (.agg #[.string ⟨#[]⟩, .string ⟨#[]⟩]), 2, 32) := by kernel_rfl

theorem append_nil_nil {t : TypeId} {e : TypeId} (ht : Tryz.prog.underlying t = some (.slice e)) {i : TypeInfo} (hi : Tryz.prog.info? e = some i) (a : Option Addr) (c : Nat) (ty : TypeId) (w : World) :
    (Builtin.append_ #[t, t] ty #[.slice none 0 0, .slice a 0 c]).run Tryz.prog w = .ok (.slice none 0 0) w := by
  cases a with
  | none => simp [Builtin.append_, run_underlying ht, sizeOf, typeInfo, hi, Builtin.lenOf, Builtin.firstCells]
  | some p =>
    have h0 := run_loadCells_list (P := Tryz.prog) w p [] (fun j v hj => by simp at hj)
    simp only [List.length_nil] at h0
    simp [Builtin.append_, run_underlying ht, sizeOf, typeInfo, hi, Builtin.lenOf, Builtin.firstCells, h0]

/-- 'append(nil, xs...)' of texts: a copy -/
theorem wpList_copyS {w : World} {ops : Array Oper} {rest : List Oper} {o : Oper} {a : Act} {Q : Exit → Act → World → Prop} (hgd : o.guard = none) (s x : Operand)
    (ho : o.op = .call { callee := .builtin .append, args := #[s, x], argTypes := #[25, 25] }) (hs : a.eval s = .slice none 0 0) (xv : Value) (ss : List (List UInt8)) (hx : a.eval x = xv) (hS : StrsAt w xv ss) (hl : ss.length ≤ 6)
    (h : ∀ a' c' w', StrsFrom w.heap.size w' (.slice a' ss.length c') ss → Below w.heap.size w w' → wpList Tryz.prog ops Q rest (a.put o.dst (.slice a' ss.length c')) w') : wpList Tryz.prog ops Q (o :: rest) a w := by
  obtain ⟨i9, hi9, hz0, hz1, hz2⟩ := info_parts Tryz.info9
  obtain ⟨ad, cap, rfl, hc⟩ := hS
  rcases hc with rfl | ⟨b, of, rfl, hc⟩
  · refine wpList_plain hgd fun K hK => ?_
    have hr := append_nil_nil Tryz.underlying25 hi9 ad cap o.type w
    unfold Oper.wp execOp
    simp only [ho, resolve, invoke, builtin, Sem.run_bind, Sem.run_pure, Result.andThen_ok, List.map_toArray, List.map_cons, List.map_nil, hs, hx, List.length_nil, hr]
    exact hK _ _ (h none 0 w ⟨none, 0, rfl, Or.inl rfl⟩ (Below.refl _ _))
  · refine wpList_append_own w hgd s x 25 ho w.heap.size 9 i9 (.string ⟨#[]⟩) 1 16 Tryz.underlying25 hi9 hz0 hz1 hz2 rfl (by decide) (.slice none 0 0) 0 [] hs (World.ownsRow_nil _ _ _ _) ⟨b, of, none⟩ ss.length cap (strCells ss) hx (by simp [strCells]) ?_ ?_ (by unfold maxLen; omega) (by omega) (Nat.le_refl _) ?_
    · intro j u hj
      have hlt : j < ss.length := by
        have := (List.getElem?_eq_some_iff.1 hj).1
        simpa [strCells] using this
      rw [Addr.add_lit, hc j hlt]
      simp [strCells, List.getElem?_eq_getElem hlt] at hj
      rw [hj]
    · intro u hu
      simp only [strCells, List.mem_map] at hu
      obtain ⟨_, _, rfl⟩ := hu
      rfl
    · intro v' w' hown hg _
      rw [Nat.zero_add, List.nil_append] at hown
      have hS' := strs_of_row hown
      obtain ⟨a', c', rfl, hcc⟩ := id hS'
      exact h a' c' w' hS' ((Below.refl _ _).grown hg (Nat.le_refl _) (fun k hk => by simp [Value.ownBlock] at hk))
/-- 'append(nil, xs...)' of attributes: a copy -/
theorem wpList_copyA {w : World} {ops : Array Oper} {rest : List Oper} {o : Oper} {a : Act} {Q : Exit → Act → World → Prop} (hgd : o.guard = none) (s x : Operand)
    (ho : o.op = .call { callee := .builtin .append, args := #[s, x], argTypes := #[26, 26] }) (hs : a.eval s = .slice none 0 0) (xv : Value) (ss : List (List UInt8 × List UInt8)) (hx : a.eval x = xv) (hS : AtsAt w xv ss) (hl : ss.length ≤ 4)
    (h : ∀ a' c' w', AtsFrom w.heap.size w' (.slice a' ss.length c') ss → Below w.heap.size w w' → wpList Tryz.prog ops Q rest (a.put o.dst (.slice a' ss.length c')) w') : wpList Tryz.prog ops Q (o :: rest) a w := by
  obtain ⟨i9, hi9, hz0, hz1, hz2⟩ := info_parts Tryz.info59
  obtain ⟨ad, cap, rfl, hc⟩ := hS
  rcases hc with rfl | ⟨b, of, rfl, hc⟩
  · refine wpList_plain hgd fun K hK => ?_
    have hr := append_nil_nil Tryz.underlying26 hi9 ad cap o.type w
    unfold Oper.wp execOp
    simp only [ho, resolve, invoke, builtin, Sem.run_bind, Sem.run_pure, Result.andThen_ok, List.map_toArray, List.map_cons, List.map_nil, hs, hx, List.length_nil, hr]
    exact hK _ _ (h none 0 w ⟨none, 0, rfl, Or.inl rfl⟩ (Below.refl _ _))
  · refine wpList_append_own w hgd s x 26 ho w.heap.size 59 i9 (.agg #[.string ⟨#[]⟩, .string ⟨#[]⟩]) 2 32 Tryz.underlying26 hi9 hz0 hz1 hz2 rfl (by decide) (.slice none 0 0) 0 [] hs (World.ownsRow_nil _ _ _ _) ⟨b, of, none⟩ ss.length cap (atCells ss) hx (atCells_len ss) ?_ ?_ (by unfold maxLen; omega) (by omega) (Nat.le_refl _) ?_
    · intro j u hj
      obtain ⟨i, hi, ⟨rfl, rfl⟩ | ⟨rfl, rfl⟩⟩ := atCells_inv ss j u hj
      · rw [Addr.add_lit]; exact (hc i hi).1
      · rw [Addr.add_lit]; exact (hc i hi).2
    · intro u hu
      obtain ⟨j, hj⟩ := List.getElem?_of_mem hu
      obtain ⟨i, hi, ⟨rfl, rfl⟩ | ⟨rfl, rfl⟩⟩ := atCells_inv ss j u hj <;> rfl
    · intro v' w' hown hg _
      rw [Nat.zero_add, List.nil_append] at hown
      have hS' := ats_of_row hown
      obtain ⟨a', c', rfl, hcc⟩ := id hS'
      exact h a' c' w' hS' ((Below.refl _ _).grown hg (Nat.le_refl _) (fun k hk => by simp [Value.ownBlock] at hk))

/-- an element's box -/
def Blk (w : World) (N : Nat) (c0 c1 c2 c3 c4 : Value) : Prop := w.heap[N]? = some (.cells #[c0, c1, c2, c3, c4] 28)
theorem Blk.facts {w : World} {N : Nat} {c0 c1 c2 c3 c4 : Value} (h : Blk w N c0 c1 c2 c3 c4) :
    (w.cell? ⟨N, 0, none⟩ = some c0 ∧ w.cell? ⟨N, 1, none⟩ = some c1 ∧ w.cell? ⟨N, 2, none⟩ = some c2 ∧ w.cell? ⟨N, 3, none⟩ = some c3 ∧ w.cell? ⟨N, 4, none⟩ = some c4) ∧ ∀ i, w.frozen? ⟨N, i, none⟩ = false := by
  unfold Blk at h
  refine ⟨⟨?_, ?_, ?_, ?_, ?_⟩, fun i => ?_⟩
  all_goals simp [World.cell?, World.frozen?, h]
theorem Blk.on {w w' : World} {N : Nat} {c0 c1 c2 c3 c4 : Value} (h : Blk w N c0 c1 c2 c3 c4) (hb : Below w.heap.size w w') : Blk w' N c0 c1 c2 c3 c4 := by
  have hlt : N < w.heap.size := (Array.getElem?_eq_some_iff.1 h).1
  unfold Blk
  rw [hb.block N hlt]; exact h
theorem Blk.lt {w : World} {N : Nat} {c0 c1 c2 c3 c4 : Value} (h : Blk w N c0 c1 c2 c3 c4) : N < w.heap.size := (Array.getElem?_eq_some_iff.1 h).1
theorem Blk.set3 {w : World} {N : Nat} {c0 c1 c2 c3 c4 : Value} (h : Blk w N c0 c1 c2 c3 c4) (v : Value) : Blk (w.setCell ⟨N, 3, none⟩ v) N c0 c1 c2 v c4 := by
  unfold Blk at *
  simp [World.setCell, Array.getElem?_modify, h]
theorem Blk.set4 {w : World} {N : Nat} {c0 c1 c2 c3 c4 : Value} (h : Blk w N c0 c1 c2 c3 c4) (v : Value) : Blk (w.setCell ⟨N, 4, none⟩ v) N c0 c1 c2 c3 v := by
  unfold Blk at *
  simp [World.setCell, Array.getElem?_modify, h]
theorem Blk.set0 {w : World} {N : Nat} {c0 c1 c2 c3 c4 : Value} (h : Blk w N c0 c1 c2 c3 c4) (v : Value) : Blk (w.setCell ⟨N, 0, none⟩ v) N v c1 c2 c3 c4 := by
  unfold Blk at *
  simp [World.setCell, Array.getElem?_modify, h]
theorem Blk.set1 {w : World} {N : Nat} {c0 c1 c2 c3 c4 : Value} (h : Blk w N c0 c1 c2 c3 c4) (v : Value) : Blk (w.setCell ⟨N, 1, none⟩ v) N c0 v c2 c3 c4 := by
  unfold Blk at *
  simp [World.setCell, Array.getElem?_modify, h]
theorem Blk.set2 {w : World} {N : Nat} {c0 c1 c2 c3 c4 : Value} (h : Blk w N c0 c1 c2 c3 c4) (v : Value) : Blk (w.setCell ⟨N, 2, none⟩ v) N c0 c1 v c3 c4 := by
  unfold Blk at *
  simp [World.setCell, Array.getElem?_modify, h]
theorem Blk.other {w : World} {N M i : Nat} {c0 c1 c2 c3 c4 : Value} (h : Blk w N c0 c1 c2 c3 c4) (hne : M ≠ N) (v : Value) : Blk (w.setCell ⟨M, i, none⟩ v) N c0 c1 c2 c3 c4 := by
  unfold Blk at *
  rw [Below.heap_setCell _ _ _ _ (by exact fun e => hne e.symm)]; exact h

theorem two_blks (w : World) (c0 c1 c2 c3 c4 d0 d1 d2 d3 d4 : Value) :
    Blk ((w.alloc (.cells #[c0, c1, c2, c3, c4] 28)).alloc (.cells #[d0, d1, d2, d3, d4] 28)) w.heap.size c0 c1 c2 c3 c4 ∧ Blk ((w.alloc (.cells #[c0, c1, c2, c3, c4] 28)).alloc (.cells #[d0, d1, d2, d3, d4] 28)) (w.heap.size + 1) d0 d1 d2 d3 d4 := by
  unfold Blk
  constructor
  · rw [Below.heap_alloc _ _ _ (by simp)]
    show (w.heap.push _)[w.heap.size]? = _
    simp
  · show ((w.heap.push _).push _)[w.heap.size + 1]? = _
    rw [Array.getElem?_push, if_pos (by simp)]
set_option maxRecDepth 100000 in
set_option maxHeartbeats 1000000 in
theorem fresh_any (v : Value) (x : Pl.Nd) (u : Int) (w : World) (hr : x.cls.length ≤ 6) (hr2 : x.ats.length ≤ 4) (hv : NdV w v x) :
    Calls Tryz.prog 85 #[v, .int .i64 u] w fun e w' => ∃ nv, e = .returned nv ∧ NdF w.heap.size w' nv { x with up := u } ∧ Below w.heap.size w w' := by
  obtain ⟨vc, va, rfl, hc, ha⟩ := hv
  obtain ⟨ac, cc, rfl, _⟩ := id hc
  obtain ⟨aa, ca, rfl, _⟩ := id ha
  have HC : Hid (StrsAt w (.slice ac x.cls.length cc) x.cls) := hc
  have HA : Hid (AtsAt w (.slice aa x.ats.length ca) x.ats) := ha
  clear hc ha
  go_enter Tryz.func85, Tryz.ntmps85
  go_wp2_with (at_builtin; refine wpList_copyS rfl _ _ rfl rfl _ x.cls rfl (StrsAt.on HC.out ?hb0) hr ?_; rotate_left; intro a1 c1 w1 hs1 hb1; refine Hid.out ?_)
  case hb0 => exact ((Below.refl _ _).alloc (Nat.le_refl _) _).alloc (by simp) _
  unfold Hid
  obtain ⟨bN, bR⟩ := two_blks w (.int .i64 u) (.string ⟨x.tag.toArray⟩) (.string ⟨x.id.toArray⟩) (.slice ac x.cls.length cc) (.slice aa x.ats.length ca) (.int .i64 0) (.string ⟨#[]⟩) (.string ⟨#[]⟩) (.slice none 0 0) (.slice none 0 0)
  replace bN := bN.on hb1
  replace bR := bR.on hb1
  have hB1 : Below w.heap.size w w1 := below_trans (((Below.refl _ _).alloc (Nat.le_refl _) _).alloc (by simp) _) hb1
  clear hb1
  obtain ⟨⟨c0, c1', c2, c3, c4⟩, fN⟩ := bN.facts
  have bN2 := bN.set3 (.slice a1 x.cls.length c1)
  have bR2 := bR.other (i := 3) (M := w.heap.size) (by omega) (.slice a1 x.cls.length c1)
  have hB2 : Below w.heap.size w (w1.setCell ⟨w.heap.size, 3, none⟩ (.slice a1 x.cls.length c1)) := hB1.setCell (p := ⟨w.heap.size, 3, none⟩) (Nat.le_refl _) _
  have hs2 : StrsFrom (w.heap.size + 1 + 1) _ _ _ := (by simpa using hs1 : StrsFrom (w.heap.size + 1 + 1) w1 (.slice a1 x.cls.length c1) x.cls).set (M := w.heap.size) (by omega) 3 (.slice a1 x.cls.length c1)
  have hsz := bR.lt
  obtain ⟨⟨e0, e1, e2, e3, e4⟩, fN2⟩ := bN2.facts
  clear bN bR hB1 hs1
  go_wp2_with (at_builtin; refine wpList_copyA rfl _ _ rfl rfl _ x.ats rfl (AtsAt.on HA.out ?hb1) hr2 ?_; rotate_left; intro a2 c2' w2 hs3 hb2; refine Hid.out ?_)
  case hb1 => exact hB2
  unfold Hid
  have hz1 : (w1.setCell ⟨w.heap.size, 3, none⟩ (.slice a1 x.cls.length c1)).heap.size = w1.heap.size := by simp [World.setCell]
  replace hs3 : AtsFrom (w.heap.size + 1 + 1) w2 (.slice a2 x.ats.length c2') x.ats := AtsFrom.mono hs3 (by omega)
  have hs4 := hs2.on hb2
  have bN3 := bN2.on hb2
  have bR3 := bR2.on hb2
  have hB3 : Below w.heap.size w w2 := below_trans hB2 hb2
  clear hb2 hs2 bN2 bR2 hB2 e0 e1 e2 e3 e4 fN2 c0 c1' c2 c3 c4 fN hz1
  have bN4 := bN3.set4 (.slice a2 x.ats.length c2')
  have bR4 := bR3.other (i := 4) (M := w.heap.size) (by omega) (.slice a2 x.ats.length c2')
  obtain ⟨⟨g0, g1, g2, g3, g4⟩, fN3⟩ := bN3.facts
  obtain ⟨⟨n0, n1, n2, n3, n4⟩, fN4⟩ := bN4.facts
  obtain ⟨⟨r0, r1, r2, r3, r4⟩, fR4⟩ := bR4.facts
  have hs5 := (hs4.set (M := w.heap.size) (by omega) 4 (.slice a2 x.ats.length c2'))
  have hs6 := (hs3.set (M := w.heap.size) (by omega) 4 (.slice a2 x.ats.length c2'))
  have hB4 : Below w.heap.size w (w2.setCell ⟨w.heap.size, 4, none⟩ (.slice a2 x.ats.length c2')) := hB3.setCell (p := ⟨w.heap.size, 4, none⟩) (Nat.le_refl _) _
  clear bN3 bR3 hs4 hs3 hB3
  go_wp2_with fail
  have bF := ((((bR4.set0 (.int .i64 u)).set1 (.string ⟨x.tag.toArray⟩)).set2 (.string ⟨x.id.toArray⟩)).set3 (.slice a1 x.cls.length c1)).set4 (.slice a2 x.ats.length c2')
  have hs7 := ((((hs5.set (M := w.heap.size + 1) (by omega) 0 (.int .i64 u)).set (M := w.heap.size + 1) (by omega) 1 (.string ⟨x.tag.toArray⟩)).set (M := w.heap.size + 1) (by omega) 2 (.string ⟨x.id.toArray⟩)).set (M := w.heap.size + 1) (by omega) 3 (.slice a1 x.cls.length c1)).set (M := w.heap.size + 1) (by omega) 4 (.slice a2 x.ats.length c2')
  have hs8 := ((((hs6.set (M := w.heap.size + 1) (by omega) 0 (.int .i64 u)).set (M := w.heap.size + 1) (by omega) 1 (.string ⟨x.tag.toArray⟩)).set (M := w.heap.size + 1) (by omega) 2 (.string ⟨x.id.toArray⟩)).set (M := w.heap.size + 1) (by omega) 3 (.slice a1 x.cls.length c1)).set (M := w.heap.size + 1) (by omega) 4 (.slice a2 x.ats.length c2')
  have hB5 := ((((hB4.setCell (p := ⟨w.heap.size + 1, 0, none⟩) (Nat.le_succ _) (.int .i64 u)).setCell (p := ⟨w.heap.size + 1, 1, none⟩) (Nat.le_succ _) (.string ⟨x.tag.toArray⟩)).setCell (p := ⟨w.heap.size + 1, 2, none⟩) (Nat.le_succ _) (.string ⟨x.id.toArray⟩)).setCell (p := ⟨w.heap.size + 1, 3, none⟩) (Nat.le_succ _) (.slice a1 x.cls.length c1)).setCell (p := ⟨w.heap.size + 1, 4, none⟩) (Nat.le_succ _) (.slice a2 x.ats.length c2')
  generalize (((((w2.setCell ⟨w.heap.size, 4, none⟩ (.slice a2 x.ats.length c2')).setCell ⟨w.heap.size + 1, 0, none⟩ (.int .i64 u)).setCell ⟨w.heap.size + 1, 1, none⟩ (.string ⟨x.tag.toArray⟩)).setCell ⟨w.heap.size + 1, 2, none⟩ (.string ⟨x.id.toArray⟩)).setCell ⟨w.heap.size + 1, 3, none⟩ (.slice a1 x.cls.length c1)).setCell ⟨w.heap.size + 1, 4, none⟩ (.slice a2 x.ats.length c2') = wF at *
  obtain ⟨⟨q0, q1, q2, q3, q4⟩, _⟩ := bF.facts
  exact bodyPost_ret (v := .agg #[.int .i64 u, .string ⟨x.tag.toArray⟩, .string ⟨x.id.toArray⟩, .slice a1 x.cls.length c1, .slice a2 x.ats.length c2']) (by simp [results, Tryz.results85, go_sem, q0, q1, q2, q3, q4]) rfl
    ⟨_, rfl, ⟨_, _, rfl, hs7.mono (by omega), hs8.mono (by omega)⟩, hB5⟩
end Go.Proofs.YtephhllfodlfbaaGreatDoor
