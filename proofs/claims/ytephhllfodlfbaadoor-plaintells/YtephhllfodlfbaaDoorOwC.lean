/-
  Rows whose elements lie in blocks of their own, each apart from the others.
-/
import Derived.Test.YtephhllfodlfbaaDoorOwA
namespace Go.Proofs.YtephhllfodlfbaaDoor
open Go.RowKit

/-- block by block the same, where a block is not hidden -/
def InclB (w w' : World) : Prop := ∀ (k : Nat) (ob : Obj), w.heap[k]? = some ob → ob ≠ .cells #[] 0 → w'.heap[k]? = some ob
theorem InclB.cells {w w' : World} (h : InclB w w') : Incl w w' := by
  intro k o x hx
  unfold World.cell? at hx ⊢
  dsimp only at hx ⊢
  cases hk : w.heap[k]? with
  | none => rw [hk] at hx; simp at hx
  | some ob =>
    rw [hk] at hx
    rw [h k ob hk (by rintro rfl; simp at hx)]
    exact hx
theorem InclB.refl (w : World) : InclB w w := fun _ _ h _ => h
theorem InclB.trans {w w1 w2 : World} (h : InclB w w1) (h2 : InclB w1 w2) : InclB w w2 := fun k ob hk hne => h2 k ob (h k ob hk hne) hne
theorem inclB_mask {P P' : Nat → Bool} {w w' : World} (h : ∀ j, P j = true → j < w.heap.size → P' j = true ∧ w'.heap[j]? = w.heap[j]?) : InclB (mask P w) (mask P' w') := by
  intro k ob hk hne
  rw [mask_heap] at hk ⊢
  cases hw : w.heap[k]? with
  | none => rw [hw] at hk; simp at hk
  | some o0 =>
    rw [hw] at hk
    simp only [Option.map_some] at hk
    cases hp : P k with
    | false =>
      rw [hp] at hk
      simp at hk
      exact absurd hk.symm hne
    | true =>
      rw [hp] at hk
      simp at hk
      subst hk
      obtain ⟨h1, h2⟩ := h k hp (Array.getElem?_eq_some_iff.1 hw).1
      rw [h2, hw, h1]
      rfl
theorem mask_mask (P Q : Nat → Bool) (w : World) : mask P (mask Q w) = mask (fun j => P j && Q j) w := by
  unfold mask
  congr 1
  simp only [Array.mapIdx_mapIdx]
  congr 1
  funext i o
  show (if P i = true then (if Q i = true then o else Obj.cells #[] 0) else Obj.cells #[] 0) = _
  by_cases hp : P i = true <;> by_cases hq : Q i = true <;> simp [hp, hq]
theorem mask_real {P : Nat → Bool} {w : World} {k : Nat} {c : Array Value} {t : TypeId} (h : (mask P w).heap[k]? = some (.cells c t)) (ht : t ≠ 0) : P k = true ∧ w.heap[k]? = some (.cells c t) := by
  rw [mask_heap] at h
  cases hw : w.heap[k]? with
  | none => rw [hw] at h; simp at h
  | some o0 =>
    rw [hw] at h
    simp only [Option.map_some] at h
    cases hp : P k with
    | false =>
      rw [hp] at h
      simp at h
      exact absurd h.2.symm ht
    | true =>
      rw [hp] at h
      simp at h
      exact ⟨rfl, by rw [h]⟩
structure IsVB {β : Type} (k : Nat) (V : World → List Value → β → Prop) : Prop where
  sub : ∀ {w w' c x}, V w c x → InclB w w' → V w' c x
  len : ∀ {w c x}, V w c x → c.length = k
theorem IsV.b {β : Type} {k : Nat} {V : World → List Value → β → Prop} {E : World → Nat → Nat → β → Prop} (h : IsV k V E) : IsVB k V := ⟨fun h1 h2 => h.sub h1 h2.cells, fun h1 => h.len h1⟩
/-- a row, and what is said of each of its elements -/
def GrowI (P : Nat → Bool) (B : Nat) (e : TypeId) (k : Nat) (V : Nat → World → List Value → Prop) (n : Nat) (w : World) (v : Value) : Prop :=
  ∃ xs : List Value, w.ownsRow B e k v n xs ∧ (∀ g, v.ownBlock = some g → P g = true) ∧ ∀ i, i < n → V i (mask (Off P v) w) ((xs.drop (i * k)).take k)
theorem ownsRow_sub {w w' : World} {B : Nat} {e : TypeId} {k : Nat} {v : Value} {n : Nat} {xs : List Value} (he : e ≠ 0) (h : w.ownsRow B e k v n xs) (hi : InclB w w') : w'.ownsRow B e k v n xs := by
  refine ⟨h.1, ?_⟩
  rcases h.2 with h2 | ⟨g, cap, cur, rfl, e2, e3, e4⟩
  · exact Or.inl h2
  · exact Or.inr ⟨g, cap, cur, rfl, e2, hi g _ e3 (by intro h; injection h with _ h; exact he h), e4⟩
theorem mask_same {P : Nat → Bool} {w w' : World} (h : InclB w w') : InclB (mask P w) (mask P w') := by
  intro k ob hk hne
  rw [mask_heap] at hk ⊢
  cases hw : w.heap[k]? with
  | none => rw [hw] at hk; simp at hk
  | some o0 =>
    rw [hw] at hk
    simp only [Option.map_some] at hk
    cases hp : P k with
    | false =>
      rw [hp] at hk
      simp at hk
      exact absurd hk.symm hne
    | true =>
      rw [hp] at hk
      simp at hk
      subst hk
      rw [h k o0 hw hne]
      simp
theorem Grow.sub {β : Type} {P : Nat → Bool} {B : Nat} {e : TypeId} {k : Nat} {V : World → List Value → β → Prop} (hV : IsVB k V) (he : e ≠ 0) {w w' : World} {v : Value} {l : List β} (h : Grow P B e k V w v l) (hi : InclB w w') : Grow P B e k V w' v l := by
  obtain ⟨xs, h1, h2, h3⟩ := h
  exact ⟨xs, ownsRow_sub he h1 hi, h2, fun i hl => hV.sub (h3 i hl) (mask_same hi)⟩
/-- a row of elements, each in blocks of its own -/
def GrowD {β : Type} (P : Nat → Bool) (B : Nat) (e : TypeId) (k : Nat) (V : World → List Value → β → Prop) (w : World) (v : Value) (l : List β) : Prop :=
  ∃ (own : Nat → Nat) (xs : List Value), w.ownsRow B e k v l.length xs ∧ (∀ g, v.ownBlock = some g → P g = true) ∧ ∀ i (h : i < l.length), V (mask (fun j => Off P v j && own j == i) w) ((xs.drop (i * k)).take k) l[i]
theorem GrowD.sub {β : Type} {P : Nat → Bool} {B : Nat} {e : TypeId} {k : Nat} {V : World → List Value → β → Prop} (hV : IsVB k V) (he : e ≠ 0) {w w' : World} {v : Value} {l : List β} (h : GrowD P B e k V w v l) (hi : InclB w w') : GrowD P B e k V w' v l := by
  obtain ⟨own, xs, h1, h2, h3⟩ := h
  exact ⟨own, xs, ownsRow_sub he h1 hi, h2, fun i hl => hV.sub (h3 i hl) (mask_same hi)⟩
theorem GrowD.weak {β : Type} {P : Nat → Bool} {B : Nat} {e : TypeId} {k : Nat} {V V' : World → List Value → β → Prop} (hV' : IsVB k V') (hVV : ∀ {w c x}, V w c x → V' w c x) {w : World} {v : Value} {l : List β} (h : GrowD P B e k V w v l) : Grow P B e k V' w v l := by
  obtain ⟨own, xs, h1, h2, h3⟩ := h
  refine ⟨xs, h1, h2, fun i hl => hV'.sub (hVV (h3 i hl)) (inclB_mask fun j hj _ => ⟨?_, rfl⟩)⟩
  rw [Bool.and_eq_true] at hj
  exact hj.1
theorem GrowD.nil {β : Type} (P : Nat → Bool) (B : Nat) (e : TypeId) (k : Nat) (V : World → List Value → β → Prop) (w : World) : GrowD P B e k V w (.slice none 0 0) [] :=
  ⟨fun _ => 0, [], ⟨by simp, Or.inl ⟨rfl, rfl⟩⟩, fun g h => by simp [Value.ownBlock] at h, fun i h => by simp at h⟩
theorem GrowD.form {β : Type} {P : Nat → Bool} {B : Nat} {e : TypeId} {k : Nat} {V : World → List Value → β → Prop} {w : World} {v : Value} {l : List β} (h : GrowD P B e k V w v l) : ∃ a c, v = .slice a l.length c := by
  obtain ⟨own, xs, h, _⟩ := h
  rcases h.2 with ⟨rfl, h0⟩ | ⟨g, cap, cur, rfl, _⟩
  · exact ⟨none, 0, by rw [h0]⟩
  · exact ⟨_, cap, rfl⟩
theorem GrowD.own {β : Type} {P : Nat → Bool} {B : Nat} {e : TypeId} {k : Nat} {V : World → List Value → β → Prop} {w : World} {v : Value} {l : List β} (h : GrowD P B e k V w v l) : ∀ g, v.ownBlock = some g → P g = true ∧ B ≤ g ∧ g < w.heap.size := by
  obtain ⟨own, xs, hown, hPo, _⟩ := h
  intro g hg
  exact ⟨hPo g hg, (World.ownsRow.lt hown g hg).1, (World.ownsRow.lt hown g hg).2⟩
/-- it stands wherever its blocks lie as they lay -/
theorem GrowD.move {β : Type} {P : Nat → Bool} {B : Nat} {e : TypeId} {k : Nat} {V : World → List Value → β → Prop} (hV : IsVB k V) {w w' : World} {v : Value} {l : List β} (h : GrowD P B e k V w v l) (hs : ∀ j, P j = true → j < w.heap.size → w'.heap[j]? = w.heap[j]?) : GrowD P B e k V w' v l := by
  obtain ⟨own, xs, ⟨h1, h2⟩, hp, hv⟩ := h
  refine ⟨own, xs, ⟨h1, ?_⟩, hp, fun i hi => hV.sub (hv i hi) (inclB_mask fun j hj hl => ⟨hj, ?_⟩)⟩
  · rcases h2 with h2 | ⟨g, cap, cur, rfl, e2, e3, e4⟩
    · exact Or.inl h2
    · refine Or.inr ⟨g, cap, cur, rfl, e2, ?_, e4⟩
      rw [hs g (hp g rfl) (Array.getElem?_eq_some_iff.1 e3).1]
      exact e3
  · unfold Off at hj
    rw [Bool.and_eq_true, Bool.and_eq_true] at hj
    exact hs j hj.1.1 hl
section
variable {β : Type} {P : Nat → Bool} {B : Nat} {e : TypeId} {k : Nat} {V : World → List Value → β → Prop}
/-- one more -/
theorem GrowD.next (hV : IsVB k V) {w0 w2 w' : World} {v : Value} {l : List β} {x : β} {news : List Value} {g cap : Nat} {xs : List Value} {own : Nat → Nat}
    (hown : w0.ownsRow B e k v l.length xs) (hPo : ∀ g, v.ownBlock = some g → P g = true) (hold : ∀ i (h : i < l.length), V (mask (fun j => Off P v j && own j == i) w0) ((xs.drop (i * k)).take k) l[i])
    (hb : ∀ j, j < w0.heap.size → w2.heap[j]? = w0.heap[j]?) (hsz : w0.heap.size ≤ w2.heap.size)
    (hnew : V (mask (fun j => P j && decide (w0.heap.size ≤ j)) w2) news x) (hPH : P (w2.heap.size + 1) = true)
    (hrow : w'.ownsRow B e k (.slice (some ⟨g, 0, none⟩) (l.length + 1) cap) (l.length + 1) (xs ++ news)) (hg : (w2.alloc (.cells news.toArray e)).grownBy w' v.ownBlock) (hat : v.ownBlock = some g ∨ g = w2.heap.size + 1) : GrowD P B e k V w' (.slice (some ⟨g, 0, none⟩) (l.length + 1) cap) (l ++ [x]) := by
  have hxl : xs.length = l.length * k := hown.1
  have hlt := fun g hg => (World.ownsRow.lt hown g hg).2
  have hba := on_alloc w2 (.cells news.toArray e)
  have hkeep : ∀ j, v.ownBlock ≠ some j → j < w2.heap.size → w'.heap[j]? = w2.heap[j]? := by
    intro j hj hjl
    rw [hg.block j (by simp; omega) (fun h => hj h.symm)]
    exact hba.block j hjl
  have hlen1 : (l ++ [x]).length = l.length + 1 := by simp
  refine ⟨fun j => if j < w0.heap.size then own j else l.length, xs ++ news, by rw [hlen1]; exact hrow, fun g' hg' => ?_, fun i hi => ?_⟩
  · simp [Value.ownBlock] at hg'
    subst hg'
    rcases hat with h | h
    · exact hPo _ h
    · rw [h]
      exact hPH
  · rcases Nat.lt_or_ge i l.length with hlt' | hge
    · have e1 : (l ++ [x])[i] = l[i] := List.getElem_append_left hlt'
      rw [e1]
      have e2 : ((xs ++ news).drop (i * k)).take k = (xs.drop (i * k)).take k := by
        have : (i + 1) * k ≤ l.length * k := Nat.mul_le_mul_right k hlt'
        rw [Nat.succ_mul] at this
        rw [List.drop_append_of_le_length (by omega), List.take_append_of_le_length (by simp; omega)]
      rw [e2]
      refine hV.sub (hold i hlt') (inclB_mask fun j hj hjw => ?_)
      unfold Off at hj ⊢
      rw [Bool.and_eq_true, Bool.and_eq_true] at hj
      have hne : v.ownBlock ≠ some j := by
        intro h
        rw [h] at hj
        simp at hj
      refine ⟨?_, (hkeep j hne (by omega)).trans (hb j hjw)⟩
      dsimp only
      rw [if_pos hjw, hj.1.1, hj.2]
      rcases hat with h | h
      · rw [h] at hj
        simp [Value.ownBlock] at hj ⊢
        exact hj.1.2
      · simp [Value.ownBlock]
        omega
    · have hil : i = l.length := by simp at hi; omega
      subst hil
      have e1 : (l ++ [x])[l.length] = x := by simp
      rw [e1]
      have e2 : ((xs ++ news).drop (l.length * k)).take k = news := by
        rw [← hxl, List.drop_left]
        exact List.take_of_length_le (by rw [hV.len hnew]; exact Nat.le_refl _)
      rw [e2]
      refine hV.sub hnew (inclB_mask fun j hj hjw => ?_)
      rw [Bool.and_eq_true, decide_eq_true_eq] at hj
      have hne : v.ownBlock ≠ some j := fun h => by have := hlt j h; omega
      refine ⟨?_, hkeep j hne hjw⟩
      unfold Off
      dsimp only
      rw [if_neg (by omega), hj.1]
      rcases hat with h | h
      · have := hlt g h
        simp [Value.ownBlock]
        omega
      · simp [Value.ownBlock]
        omega
theorem wpList_growD (hV : IsVB k V) {T : TypeId} {z : Value} {bytes : Nat} (hT : Tryd.prog.underlying T = some (.slice e)) (hinf : (Tryd.prog.info? e).map (fun i => (i.zero, i.size, i.bytes)) = some (some z, k, bytes)) (hz : z.cells.size = k) (hk : 0 < k) (hby : 64 * bytes ≤ 140737488355328)
    {ops : Array Oper} {rest : List Oper} {o : Oper} {a : Act} {Q : Exit → Act → World → Prop} {w0 w2 : World} {v : Value} {l : List β} {x : β} {news : List Value} (hgd : o.guard = none) (s t : Operand)
    (ho : o.op = .call { callee := .builtin .append, args := #[s, t], argTypes := #[T, T] }) (hs : a.eval s = v) (hx : a.eval t = .slice (some ⟨w2.heap.size, 0, none⟩) 1 1)
    (hold : GrowD P B e k V w0 v l) (hb2 : ∀ j, j < w0.heap.size → w2.heap[j]? = w0.heap[j]?) (hsz : w0.heap.size ≤ w2.heap.size) (hnew : V (mask (fun j => P j && decide (w0.heap.size ≤ j)) w2) news x) (hone : ∀ u ∈ news, u.oneCell' = true) (hlen : l.length + 1 ≤ 64) (hB : B ≤ w2.heap.size) (hPH : P (w2.heap.size + 1) = true)
    (h : ∀ g cap w', GrowD P B e k V w' (.slice (some ⟨g, 0, none⟩) (l.length + 1) cap) (l ++ [x]) → (w2.alloc (.cells news.toArray e)).grownBy w' v.ownBlock → (v.ownBlock = some g ∨ g = w2.heap.size + 1) → wpList Tryd.prog ops Q rest (a.put o.dst (.slice (some ⟨g, 0, none⟩) (l.length + 1) cap)) w') :
    wpList Tryd.prog ops Q (o :: rest) a (w2.alloc (.cells news.toArray e)) := by
  obtain ⟨own, xs, hown, hPo, hvs⟩ := hold
  obtain ⟨i0, hi, hz0, hz1, hz2⟩ := info_parts hinf
  have hb := on_alloc w2 (.cells news.toArray e)
  have hown1 : (w2.alloc (.cells news.toArray e)).ownsRow B e k v l.length xs := by
    refine ⟨hown.1, ?_⟩
    rcases hown.2 with h1 | ⟨g, cap, cur, e1, e2, e3, e4⟩
    · exact Or.inl h1
    · have hgl := (Array.getElem?_eq_some_iff.1 e3).1
      exact Or.inr ⟨g, cap, cur, e1, e2, ((hb.block g (by omega)).trans (hb2 g hgl)).trans e3, e4⟩
  have hbytes : (l.length + 1) * bytes ≤ 140737488355328 := Nat.le_trans (Nat.mul_le_mul_right bytes hlen) hby
  refine wpList_append_lies _ hgd s t T ho B e i0 z k bytes hT hi hz0 hz1 hz2 hz hk v l.length xs hs hown1 ⟨w2.heap.size, 0, none⟩ 1 1 news hx (by rw [hV.len hnew]; omega) (World.news_of_block (heap_alloc_new w2 _)) hone (by omega) (by unfold maxLen; omega) hbytes (by simp; omega) (w2.heap.size + 1) (by simp) ?_
  intro g cap w' h1 h2 h3 _
  exact h g cap w' (GrowD.next hV hown hPo hvs hb2 hsz hnew hPH h1 h2 h3) h2 h3
end
section
variable {α : Type}
/-- a step's cells, its tests a row of its own; a path's -/
def VSd (A : MemL α) (w : World) (c : List Value) (s : Pl.Stp α) : Prop := ∃ v B, c = [.string ⟨s.tag.toArray⟩, v] ∧ Grow (frm B) B 45 6 (VT A) w v s.tests
def VPd (A : MemL α) (w : World) (c : List Value) (p : Pl.Pth α) : Prop := ∃ v u B, c = [v, u] ∧ GrowD (frm B) B 41 2 (VSd A) w v p.steps ∧ RowAt IntAt 1 (mask (fun j => decide (j < B)) w) u p.links
theorem isVB_sd {A : MemL α} (hS : IsSub A) : IsVB 2 (VSd A) where
  sub h hi := by
    obtain ⟨v, B, e, h⟩ := h
    exact ⟨v, B, e, h.sub (isV_t hS).b (by decide) hi⟩
  len h := by
    obtain ⟨v, B, rfl, h⟩ := h
    rfl
theorem isVB_pd {A : MemL α} (hS : IsSub A) : IsVB 2 (VPd A) where
  sub h hi := by
    obtain ⟨v, u, B, e, h, h2⟩ := h
    exact ⟨v, u, B, e, h.sub (isVB_sd hS) (by decide) hi, ints_sub h2 (mask_same hi).cells⟩
  len h := by
    obtain ⟨v, u, B, rfl, h⟩ := h
    rfl
theorem VSd.weak {A : MemL α} (hS : IsSub A) {w : World} {c : List Value} {s : Pl.Stp α} (h : VSd A w c s) : VS A w c s := by
  obtain ⟨v, B, e, h⟩ := h
  exact ⟨v, e, (Grow.row (isV_t hS) h).map fun _ _ _ hq => hq.sub hS (incl_real _ _)⟩
theorem VPd.weak {A : MemL α} (hS : IsSub A) {w : World} {c : List Value} {p : Pl.Pth α} (h : VPd A w c p) : VP A w c p := by
  obtain ⟨v, u, B, e, h, h2⟩ := h
  exact ⟨v, u, e, (Grow.row (isV_s hS) (h.weak (isV_s hS).b (fun q => q.weak hS))).map fun _ _ _ hq => hq.sub hS (incl_real _ _), ints_sub h2 (incl_real _ _)⟩
end
end Go.Proofs.YtephhllfodlfbaaDoor
