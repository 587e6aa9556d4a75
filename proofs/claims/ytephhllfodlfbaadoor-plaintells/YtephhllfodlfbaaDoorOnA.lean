/-
  The document's own OwnList at each level; a step that is being made, whatever blocks its tests' lists lie in.
-/
import Derived.Test.YtephhllfodlfbaaDoorOwD
import Derived.Test.YtephhllfodlfbaaDoorDoA
namespace Go.Proofs.YtephhllfodlfbaaDoor
open Go.RowKit

/-- what OwnList does -/
def OwnC {α : Type} (A : MemL α) (W0 : List α → Prop) : Prop := ∀ (w : World) (v : Value) (l : List α), A w v l → W0 l → Calls Tryd.prog 21 #[v] w fun e w' => ∃ a c, e = .returned (.slice a l.length c) ∧ A (mask (frm w.heap.size) w') (.slice a l.length c) l ∧ Below w.heap.size w w'
theorem ownC_up {α : Type} {A : MemL α} (hA : IsL A) (hS : IsSub A) (W0 : List α → Prop) (hO : OwnC A W0) : OwnC (LstAt A) (Pl.okL W0) := fun w v l hl hok => by
  refine (own_up hA hS W0 hO w v l hl hok).mono ?_
  rintro e w' ⟨a, c, rfl, hg, hb⟩
  exact ⟨a, c, rfl, Grow.row (isV_p hS) (hg.weak (isV_p hS).b fun q => q.weak hS), hb⟩
theorem ownC_0 : OwnC ZAt Pl.L0.W := fun w v l h hw => by
  have hw : l = [] := hw
  subst hw
  obtain ⟨a, c, rfl, h1, h2⟩ := h
  refine (ownC_up isL_z isSub_z (fun _ => False) (fun _ _ _ _ h => h.elim) w (.slice a 0 c) [] ⟨a, c, rfl, ⟨h1, h2⟩, Or.inl rfl⟩ ⟨by simp, fun p hp => by simp at hp⟩).mono ?_
  rintro e w' ⟨a', c', rfl, hr, hb⟩
  obtain ⟨a'', c'', e', hf, -⟩ := hr
  exact ⟨a', c', rfl, ⟨a'', c'', e', hf.1, hf.2⟩, hb⟩
theorem ownC_1 : OwnC A1 Pl.L1.W := ownC_up isL_z isSub_z Pl.L0.W ownC_0
theorem ownC_2 : OwnC A2 Pl.L2.W := ownC_up isL_1 (isSub_up isSub_z) Pl.L1.W ownC_1
/-- a step that is being made: its box, its tests -/
structure MadeG {α : Type} (A : MemL α) (P : Nat → Bool) (M : Nat) (w : World) (to : Pl.Stp α) (u : Value) : Prop where
  box : w.heap[M]? = some (.cells #[.string ⟨to.tag.toArray⟩, u] 41)
  row : Grow P (M + 1) 45 6 (VT A) w u to.tests
  out : P M = false
section
variable {α : Type} {A : MemL α} {P : Nat → Bool} {M : Nat} {w w' W W1 W2 : World} {to : Pl.Stp α} {u v' : Value} {ts : List (Pl.Tst α)}
theorem MadeG.sz (h : MadeG A P M w to u) : M + 1 ≤ w.heap.size := (Array.getElem?_eq_some_iff.1 h.box).1
theorem MadeG.on (hS : IsSub A) (h : MadeG A P M w to u) (hb : Below w.heap.size w w') : MadeG A P M w' to u :=
  ⟨hblk h.box hb, h.row.move (isV_t hS) fun j hj hjw => ⟨hj, hb.block j hjw⟩, h.out⟩
theorem MadeG.drew (hS : IsSub A) (h : MadeG A P M w to u) : MadeG A P M w.drew to u :=
  ⟨h.box, h.row.move (isV_t hS) fun _ hj _ => ⟨hj, rfl⟩, h.out⟩
theorem MadeG.put (hS : IsSub A) (h : MadeG A P M W to u) (hb : Below W.heap.size W W1) (hg : W1.grownBy W2 u.ownBlock) (hr : Grow P (M + 1) 45 6 (VT A) W2 v' ts) :
    MadeG A P M (W2.setCell ⟨M, 1, none⟩ v') ⟨to.tag, ts⟩ v' ∧ FrA (M + 1) M W (W2.setCell ⟨M, 1, none⟩ v') ∧ (W2.cell? ⟨M, 1, none⟩ = some u ∧ W2.frozen? ⟨M, 1, none⟩ = false) := by
  have hown : ∀ j, u.ownBlock = some j → M + 1 ≤ j := fun j hj => (h.row.own j hj).2
  have h1 := h.on hS hb
  have hM : W2.heap[M]? = some (.cells #[.string ⟨to.tag.toArray⟩, u] 41) := by
    rw [hg.block M (Array.getElem?_eq_some_iff.1 h1.box).1 (fun e => by have := hown M e.symm; omega)]
    exact h1.box
  refine ⟨⟨set41_1 hM _, hr.move (isV_t hS) fun j hj _ => ⟨hj, Below.heap_setCell _ _ _ _ ?_⟩, h.out⟩, ((FrA.below hb h.sz).trans (FrA.grown hg h1.sz hown)).set 1 _, (res71 hM).2.1, (res71 hM).2.2.2⟩
  show j ≠ M
  rintro rfl
  rw [h.out] at hj
  cases hj
theorem MadeG.tag (hS : IsSub A) (h : MadeG A P M W to u) (tag : List UInt8) : MadeG A P M (W.setCell ⟨M, 0, none⟩ (.string ⟨tag.toArray⟩)) ⟨tag, to.tests⟩ u := by
  refine ⟨set41_0 h.box _, h.row.move (isV_t hS) fun j hj _ => ⟨hj, Below.heap_setCell _ _ _ _ ?_⟩, h.out⟩
  show j ≠ M
  rintro rfl
  rw [h.out] at hj
  cases hj
end
/-- several tests appended at once -/
theorem wpList_app {α : Type} {A : MemL α} (hA : IsL A) (hS : IsSub A) {P : Nat → Bool} {B : Nat} {W : World} {ops : Array Oper} {rest : List Oper} {o : Oper} {a : Act} {Q : Exit → Act → World → Prop} {ts ms : List (Pl.Tst α)} {au as_ : Option Addr} {cu cs : Nat} (hgd : o.guard = none) (s x : Operand)
    (ho : o.op = .call { callee := .builtin .append, args := #[s, x], argTypes := #[39, 39] }) (hs : a.eval s = .slice au ts.length cu) (hx : a.eval x = .slice as_ ms.length cs)
    (hold : Grow P B 45 6 (VT A) W (.slice au ts.length cu) ts) (hr : RowAt (TstAt A) 6 (mask (Off P (.slice au ts.length cu)) W) (.slice as_ ms.length cs) ms) (hlen : ts.length + ms.length ≤ 64) (hB : B ≤ W.heap.size) (hPH : P W.heap.size = true)
    (h : ∀ a' c' W', Grow P B 45 6 (VT A) W' (.slice a' (ts.length + ms.length) c') (ts ++ ms) → W.grownBy W' (Value.slice au ts.length cu).ownBlock → wpList Tryd.prog ops Q rest (a.put o.dst (.slice a' (ts.length + ms.length) c')) W') :
    wpList Tryd.prog ops Q (o :: rest) a W := by
  obtain ⟨i0, hi, hz0, hz1, hz2⟩ := info_parts infT
  obtain ⟨xs, hown, hPo, hvs⟩ := hold
  by_cases h0 : ms = []
  · subst h0
    have hk := h au cu W (by
      have hg0 : Grow P B 45 6 (VT A) W (.slice au ts.length cu) ts := ⟨xs, hown, hPo, hvs⟩
      rw [List.append_nil, List.length_nil, Nat.add_zero]
      exact hg0) (World.grownBy.refl _ _)
    refine wpList_plain hgd fun K hK => ?_
    rcases hown.2 with ⟨e, e0⟩ | ⟨g, cap, cur, e, _, _, h1, _⟩
    · injection e with e1 e2 e3
      subst e1 e3
      have hr2 := append_nilT hi as_ cs o.type W
      unfold Oper.wp execOp
      rw [e0] at hs
      simp only [ho, resolve, invoke, builtin, Sem.run_bind, Sem.run_pure, Result.andThen_ok, List.map_toArray, List.map_cons, List.map_nil, hs, hx, List.length_nil, hr2]
      refine hK _ _ ?_
      simpa [e0] using hk
    · injection e with e1 e2 e3
      subst e1 e3
      have hr2 := append_noneT hi ⟨g, 0, none⟩ ts.length cu h1 as_ cs o.type W
      unfold Oper.wp execOp
      simp only [ho, resolve, invoke, builtin, Sem.run_bind, Sem.run_pure, Result.andThen_ok, List.map_toArray, List.map_cons, List.map_nil, hs, hx, List.length_nil, hr2]
      refine hK _ _ ?_
      simpa using hk
  · obtain ⟨a', c', e, -, hc⟩ := hr
    injection e with e1 e2 e3
    subst e1 e3
    rcases hc with h1 | ⟨b, of, rfl, hcs⟩
    · exact absurd h1 h0
    · obtain ⟨ys, hl, hcell, hone, hvt⟩ := cellsT hA hcs
      have hpos : 0 < ms.length := List.length_pos_iff.2 h0
      refine wpList_append_lies _ hgd s x 39 ho B 45 i0 _ 6 80 Tryd.underlying39 hi hz0 hz1 hz2 rfl (by decide) _ ts.length xs hs hown ⟨b, of, none⟩ ms.length cs ys hx hl (fun j u hj => by rw [Addr.add_lit]; exact (mask_cell.1 (hcell j u hj)).2) hone hpos (by unfold maxLen; omega) (by omega) hB _ rfl ?_
      intro g cap w' h1 h2 h3 _
      exact h _ cap w' (Grow.app (isV_t hS) hPo hPH hown hvs h1 h2 h3 hvt) h2
/-- where the walk comes to an operation that writes a slot -/
theorem stop_d (d : Nat) {P : Program} {ops : Array Oper} {Q : Exit → Act → World → Prop} {op : Op} {ty : TypeId} {pos : String} {af : Array Edge} {gd : Option (Nat × Bool)} {rest : List Oper} {a : Act} {w : World} (h : Hid (wpList P ops Q ({ dst := some d, op := op, type := ty, pos := pos, after := af, guard := gd } :: rest) a w)) : wpList P ops Q ({ dst := some d, op := op, type := ty, pos := pos, after := af, guard := gd } :: rest) a w := h
/-- the blocks that were there and those that come behind a few boxes -/
def gap (P : Nat → Bool) (B M : Nat) : Nat → Bool := fun j => P j && (decide (j < B) || decide (M + 1 ≤ j))
theorem gap_lo {P : Nat → Bool} {B M j : Nat} (h : P j = true) (hj : j < B) : gap P B M j = true := by
  unfold gap
  rw [h]
  simp [hj]
theorem gap_hi {P : Nat → Bool} {B M j : Nat} (h : P j = true) (hj : M + 1 ≤ j) : gap P B M j = true := by
  unfold gap
  rw [h]
  simp
  omega
theorem gap_out {P : Nat → Bool} {B M : Nat} (h : B ≤ M) : gap P B M M = false := by
  unfold gap
  have e : (decide (M < B) || decide (M + 1 ≤ M)) = false := by simp; omega
  rw [e, Bool.and_false]
theorem gap_sub {P : Nat → Bool} {B M j : Nat} (h : gap P B M j = true) : P j = true := by
  unfold gap at h
  rw [Bool.and_eq_true] at h
  exact h.1
/-- the world in which a test is laid down -/
structure AddG {α : Type} (A : MemL α) (P : Nat → Bool) (M N : Nat) (w W : World) (to : Pl.Stp α) (t : Pl.Tst α) (au al : Option Addr) (cu dl : Nat) : Prop where
  made : MadeG A P M W to (.slice au to.tests.length cu)
  tb : W.heap[N]? = some (.cells #[.int .i64 t.kind, .string ⟨t.name.toArray⟩, .string ⟨t.value.toArray⟩, .int .i64 t.a, .int .i64 t.b, .slice al t.list.length dl] 45)
  new : A (mask (Off P (.slice au to.tests.length cu)) W) (.slice al t.list.length dl) t.list
  fr : FrA (M + 1) M w W
section
variable {α : Type} {A : MemL α} {P : Nat → Bool} {M N : Nat} {w W W' : World} {to : Pl.Stp α} {t : Pl.Tst α} {au al : Option Addr} {cu dl : Nat}
theorem AddG.on (hS : IsSub A) (h : AddG A P M N w W to t au al cu dl) (hb : Below W.heap.size W W') : AddG A P M N w W' to t au al cu dl :=
  ⟨h.made.on hS hb, hblk h.tb hb, hS.sub h.new (mask_on hb), h.fr.trans (FrA.below hb h.made.sz)⟩
theorem AddG.drew (hS : IsSub A) (h : AddG A P M N w W to t au al cu dl) : AddG A P M N w W.drew to t au al cu dl :=
  ⟨h.made.drew hS, h.tb, hS.sub h.new (incl_mask fun _ _ _ hj hx => ⟨hj, hx⟩), h.fr.drew⟩
theorem AddG.facts (h : AddG A P M N w W to t au al cu dl) : (W.cell? ⟨M, 0, none⟩ = some (.string ⟨to.tag.toArray⟩) ∧ W.cell? ⟨M, 1, none⟩ = some (.slice au to.tests.length cu) ∧ W.frozen? ⟨M, 0, none⟩ = false ∧ W.frozen? ⟨M, 1, none⟩ = false) ∧ W.cell? ⟨N, 0, none⟩ = some (.int .i64 t.kind) ∧ W.cell? ⟨N, 1, none⟩ = some (.string ⟨t.name.toArray⟩) ∧ W.cell? ⟨N, 2, none⟩ = some (.string ⟨t.value.toArray⟩) ∧ W.cell? ⟨N, 3, none⟩ = some (.int .i64 t.a) ∧ W.cell? ⟨N, 4, none⟩ = some (.int .i64 t.b) ∧ W.cell? ⟨N, 5, none⟩ = some (.slice al t.list.length dl) :=
  ⟨res71 h.made.box, f6 h.tb⟩
end
end Go.Proofs.YtephhllfodlfbaaDoor
