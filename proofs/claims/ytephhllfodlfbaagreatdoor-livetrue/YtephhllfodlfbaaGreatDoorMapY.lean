/-
  index.gather: who has which key.
-/
import Derived.Test.YtephhllfodlfbaaGreatDoorMapG
import Derived.Test.YtephhllfodlfbaaGreatDoorIdxQ
import Derived.Maps.RangeWalk
namespace Go.Proofs.YtephhllfodlfbaaGreatDoor
open Go.RowKit

theorem Tryz.zero55 (u : World) : (zeroValue 40).run Tryz.prog u = .ok (.slice none 0 0) u := by kernel_rfl
namespace Pl
def gputAll (ks : List Key) (n : Nat) (l : List En) : List En := ks.foldl (fun o k => gput k n o) l
theorem gputAll_snoc (ks : List Key) (k : Key) (n : Nat) (l : List En) : gputAll (ks ++ [k]) n l = gput k n (gputAll ks n l) := by simp [gputAll, List.foldl_append]
def gathTo (ns : List Nd) : Nat → List En
  | 0 => []
  | n + 1 => match ns[n]? with
    | none => gathTo ns n
    | some x => gputAll (keysOf x) n (gathTo ns n)
def GFit (m : Nat) (l : List En) : Prop := l.length ≤ m ∧ ∀ e ∈ l, e.nodes.length ≤ m
theorem gputAll_fit (n : Nat) : ∀ (ks : List Key) {m : Nat} {l : List En}, GFit m l → GFit (m + ks.length) (gputAll ks n l)
  | [], _, _, h => h
  | k :: ks, m, l, h => by
    have := gputAll_fit n ks (gput_fit (k := k) (n := n) h)
    rw [List.length_cons, show m + (ks.length + 1) = m + 1 + ks.length by omega]
    exact this
theorem keys8 (x : Nd) (h : x.cls.length ≤ 6) : (keysOf x).length ≤ 8 := by
  unfold keysOf
  split <;> simp <;> omega
theorem gath_fit {ns : List Nd} (h : ∀ x ∈ ns, x.cls.length ≤ 6) : ∀ n, GFit (8 * n) (gathTo ns n)
  | 0 => ⟨by simp [gathTo], by simp [gathTo]⟩
  | n + 1 => by
    have ih := gath_fit h n
    unfold gathTo
    split
    · exact ⟨by have := ih.1; omega, fun e he => by have := ih.2 e he; omega⟩
    · rename_i x hx
      have hl := keys8 x (h x (List.mem_of_getElem? hx))
      have := gputAll_fit n (keysOf x) ih
      exact ⟨by have := this.1; omega, fun e he => by have := this.2 e he; omega⟩
theorem gputAll_keys (n : Nat) : ∀ (ks : List Key) {l : List En} {P : Key → Prop}, (∀ k ∈ ks, P k) → (∀ e ∈ l, P e.key) → ∀ e ∈ gputAll ks n l, P e.key
  | [], _, _, _, h => h
  | k :: ks, l, P, hk, h => by
    refine gputAll_keys n ks (l := gput k n l) (fun q hq => hk q (by simp [hq])) fun e he => ?_
    have := (gput_keys (k := k) (n := n) (l := l) e.key).1 (List.mem_map_of_mem he)
    rcases this with e1 | e1
    · rw [e1]; exact hk k (by simp)
    · obtain ⟨f, hf, e2⟩ := List.mem_map.1 e1
      rw [← e2]; exact h f hf
theorem gath_keys {ns : List Nd} {P : Key → Prop} (h : ∀ x ∈ ns, ∀ k ∈ keysOf x, P k) : ∀ n, ∀ e ∈ gathTo ns n, P e.key
  | 0 => by simp [gathTo]
  | n + 1 => by
    unfold gathTo
    split
    · exact gath_keys h n
    · rename_i x hx
      exact gputAll_keys n _ (h x (List.mem_of_getElem? hx)) (gath_keys h n)
theorem gputAll_nodup (n : Nat) : ∀ (ks : List Key) {l : List En}, (l.map (·.key)).Nodup → ((gputAll ks n l).map (·.key)).Nodup
  | [], _, h => h
  | k :: ks, l, h => gputAll_nodup n ks (l := gput k n l) (gput_nodup h)
theorem gath_nodup (ns : List Nd) : ∀ n, ((gathTo ns n).map (·.key)).Nodup
  | 0 => by simp [gathTo]
  | n + 1 => by
    unfold gathTo
    split
    · exact gath_nodup ns n
    · exact gputAll_nodup n _ (gath_nodup ns n)
theorem gputAll_full (n : Nat) : ∀ (ks : List Key) {l : List En}, (∀ e ∈ l, e.nodes ≠ []) → ∀ e ∈ gputAll ks n l, e.nodes ≠ []
  | [], _, h => h
  | k :: ks, l, h => gputAll_full n ks (l := gput k n l) (gput_full h)
theorem gath_full (ns : List Nd) : ∀ n, ∀ e ∈ gathTo ns n, e.nodes ≠ []
  | 0 => by simp [gathTo]
  | n + 1 => by
    unfold gathTo
    split
    · exact gath_full ns n
    · exact gputAll_full n _ (gath_full ns n)
theorem gputAll_places (n : Nat) (q : Key) : ∀ (ks : List Key) {l : List En}, ks.Nodup → placesOf q (gputAll ks n l) = placesOf q l ++ (if q ∈ ks then [n] else [])
  | [], l, _ => by simp [gputAll]
  | k :: ks, l, hd => by
    show placesOf q (gputAll ks n (gput k n l)) = _
    obtain ⟨h1, h2⟩ := List.nodup_cons.1 hd
    rw [gputAll_places n q ks h2, gput_places q]
    by_cases hq : q = k
    · subst hq
      rw [if_pos rfl, if_neg h1, if_pos (by simp), List.append_nil]
    · rw [if_neg hq]
      by_cases hm : q ∈ ks
      · rw [if_pos hm, if_pos (by simp [hm])]
      · rw [if_neg hm, if_neg (by simp [hm, hq])]
theorem gath_places {ns : List Nd} (hd : ∀ x ∈ ns, (keysOf x).Nodup) (k : Key) : ∀ n, placesOf k (gathTo ns n) = whoTo ns k n
  | 0 => rfl
  | n + 1 => by
    have ih := gath_places hd k n
    unfold whoTo at *
    rw [List.range_succ, List.filter_append, ← ih, show gathTo ns (n + 1) = (match ns[n]? with | none => gathTo ns n | some x => gputAll (keysOf x) n (gathTo ns n)) from rfl]
    cases h : ns[n]? with
    | none => simp [h]
    | some x =>
      simp only
      rw [gputAll_places n k _ (hd x (List.mem_of_getElem? h))]
      by_cases hk : k ∈ keysOf x
      · simp [h, hk]
      · simp [h, hk]
/-- a list of the gathered entries that rises is the index -/
theorem gath_idx {ns : List Nd} (hd : ∀ x ∈ ns, (keysOf x).Nodup) {l : List En} (hp : l.Perm (gathTo ns ns.length)) (hr : l.Pairwise (fun a b => keyLess a.key b.key = true)) : l = idxTo ns ns.length := by
  have hu : ∀ {l : List En}, (∀ e ∈ l, e.nodes ≠ []) → l.Pairwise (fun a b => keyLess a.key b.key = true) → Ups l := by
    intro l
    induction l with
    | nil => intro _ _; trivial
    | cons e r ih =>
      intro h1 h2
      obtain ⟨a, b⟩ := List.pairwise_cons.1 h2
      exact ⟨h1 e (by simp), a, ih (fun f hf => h1 f (by simp [hf])) b⟩
  refine idx_only hd (hu (fun e he => gath_full ns _ e (hp.mem_iff.1 he)) hr) fun k => ?_
  rw [← gath_places hd k]
  have key : ∀ {a b : List En}, a.Perm b → (a.map (·.key)).Nodup → placesOf k a = placesOf k b := by
    intro a b hab
    induction hab with
    | nil => intro _; rfl
    | cons x _ ih =>
      intro h
      simp only [List.map_cons, List.nodup_cons] at h
      rw [placesOf, placesOf, ih h.2]
    | swap x y l =>
      intro h
      simp only [List.map_cons, List.nodup_cons, List.mem_cons, not_or] at h
      rw [placesOf, placesOf, placesOf, placesOf]
      by_cases h1 : y.key = k
      · by_cases h2 : x.key = k
        · exact absurd (h1.trans h2.symm) h.1.1
        · rw [if_pos h1, if_neg h2, if_pos h1]
      · by_cases h2 : x.key = k
        · rw [if_neg h1, if_pos h2, if_pos h2]
        · rw [if_neg h1, if_neg h2, if_neg h2, if_neg h1]
    | trans h1 _ ih1 ih2 =>
      intro h
      rw [ih1 h, ih2 ((h1.map _).nodup_iff.1 h)]
  exact key hp ((hp.map (·.key)).nodup_iff.2 (gath_nodup ns _))
end Pl
theorem keyCells_get : ∀ (ks : List Pl.Key) (i : Nat) (h : i < ks.length), (keyCells ks)[i * 2]? = some (.int .i64 ks[i].1) ∧ (keyCells ks)[i * 2 + 1]? = some (.string ⟨ks[i].2.toArray⟩)
  | [], i, h => by simp at h
  | p :: r, 0, _ => by simp [keyCells]
  | p :: r, i + 1, h => by
    have := keyCells_get r i (by simpa using h)
    rw [show keyCells (p :: r) = .int .i64 p.1 :: .string ⟨p.2.toArray⟩ :: keyCells r by simp [keyCells], show (i + 1) * 2 = i * 2 + 1 + 1 by omega]
    simpa using this
theorem own_two {w : World} {B g n cap : Nat} {e : TypeId} {xs : List Value} (h : w.ownsRow B e 2 (.slice (some ⟨g, 0, none⟩) n cap) n xs) {i : Nat} (hi : i < n) {a b : Value} (hx : xs[i * 2]? = some a ∧ xs[i * 2 + 1]? = some b) :
    w.cell? ⟨g, i * 2, none⟩ = some a ∧ w.cell? ⟨g, i * 2 + 1, none⟩ = some b := by
  refine ⟨?_, ?_⟩
  · rw [World.ownsRow.cellAt h _ (by omega)]; exact hx.1
  · rw [World.ownsRow.cellAt h _ (by omega)]; exact hx.2
/-- the map, its rows, the row of keys, and what lay there before -/
structure Gath (w0 : World) (b BK gk ck : Nat) (K : List Pl.Key) (w : World) (ps : List EP) : Prop where
  map : MapAt w b ps
  fam : Fam (b + 1) w ps
  free : ∀ p ∈ ps, p.2.ownBlock ≠ some gk
  keys : w.ownsRow BK 128 2 (.slice (some ⟨gk, 0, none⟩) K.length ck) K.length (keyCells K)
  ne : b < BK
  old : Below b w0 w
theorem Gath.lt {w0 : World} {b BK gk ck : Nat} {K : List Pl.Key} {w : World} {ps : List EP} (h : Gath w0 b BK gk ck K w ps) : gk < w.heap.size ∧ b < gk := by
  have := World.ownsRow.lt h.keys gk rfl
  have := h.ne
  omega
theorem Gath.on {w0 : World} {b BK gk ck : Nat} {K : List Pl.Key} {w w' : World} {ps : List EP} (h : Gath w0 b BK gk ck K w ps) (hb : Below w.heap.size w w') : Gath w0 b BK gk ck K w' ps :=
  ⟨h.map.on (hb.block b h.map.lt), h.fam.on hb, h.free, own_on h.keys hb, h.ne, h.old.trans (hb.mono (by have := h.map.lt; omega))⟩
theorem hor_fam {b : Nat} {w w' : World} {ps ps1 : List EP} {k : Pl.Key} {j : Nat} (h : Fam (b + 1) w ps) (hg : w.grownBy w' (some b)) (hor : (ps1 = ps) ∨ (ps1 = ps ++ [(⟨k, []⟩, .slice none 0 0)] ∧ j = ps.length ∧ ∀ p ∈ ps, p.1.key ≠ k)) : Fam (b + 1) w' ps1 := by
  have h1 : Fam (b + 1) w' ps := h.kept hg (fun g hg2 => by injection hg2 with e; subst e; exact h.low (Or.inl (Nat.lt_succ_self _)))
  rcases hor with rfl | ⟨rfl, _, _⟩
  · exact h1
  · exact h1.snoc k
theorem hor_put {ps ps1 : List EP} {k : Pl.Key} {j n : Nat} {nds : List Nat} {sv z : Value} (hj : j < ps1.length) (he : ps1[j] = (⟨k, nds⟩, sv)) (hd : ((ps.map (·.1)).map (·.key)).Nodup) (hor : (ps1 = ps) ∨ (ps1 = ps ++ [(⟨k, []⟩, .slice none 0 0)] ∧ j = ps.length ∧ ∀ p ∈ ps, p.1.key ≠ k)) :
    (ps1.set j (⟨k, nds ++ [n]⟩, z)).map (·.1) = Pl.gput k n (ps.map (·.1)) := by
  rcases hor with rfl | ⟨rfl, rfl, hne⟩
  · rw [Pl.gput_set (j := j) (by simpa using hj) hd (by rw [List.getElem_map, he]), List.map_set, List.getElem_map, he]
  · rw [Pl.gput_new (fun e hx => by obtain ⟨p, hp, rfl⟩ := List.mem_map.1 hx; exact hne p hp)]
    rw [List.getElem_append_right (by omega)] at he
    simp only [Nat.sub_self, List.getElem_cons_zero, Prod.mk.injEq, Pl.En.mk.injEq, true_and] at he
    obtain ⟨rfl, _⟩ := he
    rw [List.set_append_right _ _ (by omega), Nat.sub_self]
    simp
theorem Gath.put {w0 : World} {b BK gk ck : Nat} {K : List Pl.Key} {W Wb w' w1 w2 : World} {ps ps1 : List EP} {k : Pl.Key} {j n g' cap' : Nat} {nds : List Nat} {sv : Value} (h : Gath w0 b BK gk ck K W ps) (hb1 : Below W.heap.size W Wb) (hg' : Wb.grownBy w' (some b)) (hs' : w'.heap.size = Wb.heap.size)
    (hj : j < ps1.length) (he : ps1[j] = (⟨k, nds⟩, sv)) (hor : (ps1 = ps) ∨ (ps1 = ps ++ [(⟨k, []⟩, .slice none 0 0)] ∧ j = ps.length ∧ ∀ p ∈ ps, p.1.key ≠ k))
    (ho1 : w1.ownsRow (b + 1) 3 1 (.slice (some ⟨g', 0, none⟩) (nds.length + 1) cap') (nds.length + 1) (natCells (nds ++ [n]))) (hg1 : w'.grownBy w1 sv.ownBlock) (hat : sv.ownBlock = some g' ∨ g' = w'.heap.size)
    (hM : MapAt w2 b (ps1.set j (⟨k, nds ++ [n]⟩, .slice (some ⟨g', 0, none⟩) (nds.length + 1) cap'))) (hg2 : w1.grownBy w2 (some b)) :
    Gath w0 b BK gk ck K w2 (ps1.set j (⟨k, nds ++ [n]⟩, .slice (some ⟨g', 0, none⟩) (nds.length + 1) cap')) := by
  have hB := h.on hb1
  obtain ⟨hgk, hbk⟩ := hB.lt
  have hbW := hB.map.lt
  have hF := hor_fam hB.fam hg' hor
  have hsv : ps1[j].2 = sv := by rw [he]
  have hfr : ∀ p ∈ ps1, p.2.ownBlock ≠ some gk := by
    rcases hor with rfl | ⟨rfl, _, _⟩
    · exact h.free
    · intro p hp
      rcases List.mem_append.1 hp with hp | hp
      · exact h.free p hp
      · obtain rfl := List.mem_singleton.1 hp
        intro e; cases e
  have hpm := List.getElem_mem hj
  have hsk : sv.ownBlock ≠ some gk := by rw [← hsv]; exact hfr _ hpm
  have hsb : ∀ q, sv.ownBlock = some q → b + 1 ≤ q := fun q hq => (World.ownsRow.lt (hF.ints ps1[j] hpm) q (by rw [hsv]; exact hq)).1
  have hF1 := hF.placed hj he ho1 hg1 (hat.imp id (fun e => by omega))
  have hF2 := hF1.kept hg2 (fun g hg3 => by injection hg3 with e; subst e; exact hF1.low (Or.inl (Nat.lt_succ_self _)))
  refine ⟨hM, hF2, ?_, ?_, h.ne, ?_⟩
  · intro p hp
    rcases List.mem_or_eq_of_mem_set hp with hp | rfl
    · exact hfr p hp
    · intro e
      have e2 : g' = gk := by simpa [Value.ownBlock] using e
      rcases hat with a | a
      · exact hsk (by rw [a, e2])
      · omega
  · refine ((hB.keys.kept hg' (Or.inr ?_)).kept hg1 (Or.inr fun e => hsk e.symm)).kept hg2 (Or.inr ?_)
    · intro e
      have : gk = b := by simpa [Value.ownBlock] using e
      omega
    · intro e
      have : gk = b := by simpa [Value.ownBlock] using e
      omega
  · have o1 : Below b w0 w' := hB.old.grown hg' (by omega) (fun q hq => by injection hq with e; omega)
    have o2 : Below b w0 w1 := o1.grown hg1 (by omega) (fun q hq => by have := hsb q hq; omega)
    exact o2.grown hg2 (by have := hg1.size; omega) (fun q hq => by injection hq with e; omega)
/-- a place more, its number lying in a block that is known -/
theorem wpList_iadd2 {ops : Array Oper} {rest : List Oper} {o : Oper} {a : Act} {Q : Exit → Act → World → Prop} {B : Nat} {w : World} {v : Value} {l : List Nat} {n N : Nat} (hgd : o.guard = none) (s t : Operand)
    (ho : o.op = .call { callee := .builtin .append, args := #[s, t], argTypes := #[40, 40] }) (hs : a.eval s = v) (hx : a.eval t = .slice (some ⟨N, 0, none⟩) 1 1) (hN : w.heap[N]? = some (.cells #[.int .i64 (n : Int)] 3))
    (hown : w.ownsRow B 3 1 v l.length (natCells l)) (hlen : l.length + 1 ≤ 100000) (hB : B ≤ w.heap.size)
    (h : ∀ g cap w', w'.ownsRow B 3 1 (.slice (some ⟨g, 0, none⟩) (l.length + 1) cap) (l.length + 1) (natCells (l ++ [n])) → w.grownBy w' v.ownBlock → (v.ownBlock = some g ∨ g = w.heap.size) → g < w'.heap.size → wpList Tryz.prog ops Q rest (a.put o.dst (.slice (some ⟨g, 0, none⟩) (l.length + 1) cap)) w') :
    wpList Tryz.prog ops Q (o :: rest) a w := by
  obtain ⟨i0, hi, hz0, hz1, hz2⟩ := info_parts Tryz.info3
  refine wpList_append_lies _ hgd s t 40 ho B 3 i0 _ 1 8 Tryz.underlying40 hi hz0 hz1 hz2 rfl (by decide) v l.length (natCells l) hs hown ⟨N, 0, none⟩ 1 1 [.int .i64 (n : Int)] hx rfl ?_ ?_ (by decide) (by unfold maxLen; omega) (by omega) hB _ rfl ?_
  · exact World.news_of_block hN
  · intro u hu
    simp only [List.mem_cons, List.not_mem_nil, or_false] at hu
    rcases hu with rfl
    rfl
  · intro g cap w' h1 h2 h3 h4
    exact h g cap w' (by rw [show natCells (l ++ [n]) = natCells l ++ [.int .i64 (n : Int)] by simp [natCells]]; exact h1) h2 h3 h4
end Go.Proofs.YtephhllfodlfbaaGreatDoor
/-
  The gathered map, ranged over in whatever order.
-/
namespace Go.Proofs.YtephhllfodlfbaaGreatDoor
open Go.RowKit Go.ChangeMaps

/-- the loop under way: which entries have come -/
def Rng (w : World) (b r : Nat) (ps : List EP) (js : List Nat) : Prop :=
  ∃ es clock since seen c0, EntsAt w b ps es clock ∧ w.heap[r]? = some (.mapIter (some b) since seen c0) ∧ (∀ x ∈ es.toList, x.born < since) ∧ since ≤ c0 ∧ since ≤ clock ∧
    js.Nodup ∧ (∀ j ∈ js, j < ps.length) ∧ (∀ j (e : MapEntry), es.toList[j]? = some e → (seen.contains e.born = true ↔ j ∈ js))
theorem Rng.on {w w' : World} {b r : Nat} {ps : List EP} {js : List Nat} (h : Rng w b r ps js) (hb : w'.heap[b]? = w.heap[b]?) (hr : w'.heap[r]? = w.heap[r]?) : Rng w' b r ps js ∧ w'.rangeLeft b r = w.rangeLeft b r := by
  obtain ⟨es, clock, since, seen, c0, ⟨h1, h2⟩, h3, h4⟩ := h
  exact ⟨⟨es, clock, since, seen, c0, ⟨hb.trans h1, h2⟩, hr.trans h3, h4⟩, by unfold World.rangeLeft; rw [hb, hr]⟩
theorem Rng.ne {w : World} {b r : Nat} {ps : List EP} {js : List Nat} (h : Rng w b r ps js) : r ≠ b := by
  obtain ⟨es, clock, since, seen, c0, ⟨h1, _⟩, h3, _⟩ := h
  intro e
  rw [e, h1] at h3
  cases h3
theorem Rng.lt {w : World} {b r : Nat} {ps : List EP} {js : List Nat} (h : Rng w b r ps js) : b < w.heap.size ∧ r < w.heap.size := by
  obtain ⟨es, clock, since, seen, c0, ⟨h1, _⟩, h3, _⟩ := h
  exact ⟨(Array.getElem?_eq_some_iff.1 h1).1, (Array.getElem?_eq_some_iff.1 h3).1⟩
theorem run_range_m {w : World} {b : Nat} {ps : List EP} (h : MapAt w b ps) : ∃ w', (Instr.range 83 (.map (some b))).run Tryz.prog w = .ok (.pointer (some ⟨w.heap.size, 0, none⟩)) w' ∧ Rng w' b w.heap.size ps [] ∧ w.grownBy w' none ∧ w'.heap.size = w.heap.size + 1 := by
  have hlt := h.lt
  obtain ⟨es, clock, hb, hm, hborn, hnd⟩ := h
  refine ⟨_, run_range_map w 83 128 40 b es clock Tryz.underlying83 hb, ⟨es, clock, clock, #[], clock, ⟨((MapKept.heap_alloc w _).2 b hlt).trans hb, hm, hborn, hnd⟩, (MapKept.heap_alloc w _).1, hborn, Nat.le_refl _, Nat.le_refl _, List.nodup_nil, by simp, by simp⟩, World.grownBy_alloc w _ none, by simp⟩
theorem run_next_m {w : World} {b r : Nat} {ps : List EP} {js : List Nat} (h : Rng w b r ps js) (ty : TypeId) :
    ((∀ j, j < ps.length → j ∈ js) ∧ (Instr.next (.pointer (some ⟨r, 0, none⟩)) false ty).run Tryz.prog w = .ok (.tuple #[.bool false]) w) ∨
    ∃ (j : Nat) (hj : j < ps.length) (w' : World), j ∉ js ∧ (Instr.next (.pointer (some ⟨r, 0, none⟩)) false ty).run Tryz.prog w = .ok (.tuple #[.bool true, keyV ps[j].1.key, ps[j].2]) w' ∧ Rng w' b r ps (js ++ [j]) ∧ w'.rangeLeft b r < w.rangeLeft b r ∧
      w.grownBy w' (some r) ∧ w'.heap.size = w.heap.size ∧ (Instr.entry (.pointer (some ⟨r, 0, none⟩))).run Tryz.prog w' = .ok (.tuple #[keyV ps[j].1.key, ps[j].2]) w' := by
  have hne := h.ne
  obtain ⟨es, clock, since, seen, c0, ⟨hb, hm, hborn, hnd⟩, hr, hold, hsc, hsk, hj1, hj2, hj3⟩ := h
  have hl : es.toList.length = ps.length := by have := congrArg List.length hm; simpa using this
  rcases run_next_at (P := Tryz.prog) w ty r b since c0 seen es clock hr hb hold hsc with ⟨h0, hrun⟩ | ⟨e, he, w1, hal, hrun⟩
  · refine Or.inl ⟨fun j hj => ?_, hrun⟩
    have hje : es.toList[j]? = some es.toList[j] := List.getElem?_eq_getElem (by omega)
    exact (hj3 j _ hje).1 (by have := all_seen es seen h0 es.toList[j] (List.getElem_mem _); simpa using this)
  · obtain ⟨hem, hes⟩ := mem_left he
    obtain ⟨j, hj, rfl⟩ := List.getElem_of_mem hem
    have hje : es.toList[j]? = some es.toList[j] := List.getElem?_eq_getElem hj
    obtain ⟨hjp, hkey, hval⟩ := entry_key hm hje
    have hjn : j ∉ js := fun hx => by
      have := (hj3 j _ hje).2 hx
      rw [this] at hes
      cases hes
    have hr1 : w1.heap[r]? = some (.mapIter (some b) since seen c0) := by rcases hal with rfl | rfl <;> exact hr
    have hb1 : w1.heap[b]? = some (.map es clock) := by rcases hal with rfl | rfl <;> exact hb
    have hlt : r < w1.heap.size := (Array.getElem?_eq_some_iff.1 hr1).1
    have hs1 := setB_same hlt (.mapIter (some b) since (seen.push es.toList[j].born) clock)
    have hg1 := setB_grown w1 r (.mapIter (some b) since (seen.push es.toList[j].born) clock)
    have hb' : (setBlock w1 r (.mapIter (some b) since (seen.push es.toList[j].born) clock)).heap[b]? = some (.map es clock) := (hg1.block b ((Array.getElem?_eq_some_iff.1 hb1).1) (fun e1 => hne (by injection e1 with e2; exact e2.symm))).trans hb1
    refine Or.inr ⟨j, hjp, _, hjn, by rw [hkey, hval] at hrun; exact hrun, ⟨es, clock, since, seen.push es.toList[j].born, clock, ⟨hb', hm, hborn, hnd⟩, hs1, hold, hsk, hsk, ?_, ?_, ?_⟩, ?_, ?_, ?_, ?_⟩
    · exact List.nodup_append.2 ⟨hj1, by simp, fun a ha c hc e1 => by simp at hc; subst hc; subst e1; exact hjn ha⟩
    · intro q hq
      rcases List.mem_append.1 hq with hq | hq
      · exact hj2 q hq
      · simp at hq; omega
    · intro q e2 hq
      rw [contains_push, Bool.or_eq_true, hj3 q e2 hq, List.mem_append, List.mem_singleton]
      constructor
      · rintro (h1 | h1)
        · exact Or.inl h1
        · right
          have hbe := eq_of_beq h1
          have hq2 : q < es.toList.length := (List.getElem?_eq_some_iff.1 hq).1
          have h3 : (es.toList.map (·.born))[q]? = some e2.born := by rw [List.getElem?_map, hq]; rfl
          have h4 : (es.toList.map (·.born))[j]? = some e2.born := by rw [List.getElem?_map, hje, hbe]; rfl
          have q2 : q < (es.toList.map (·.born)).length := by simpa using hq2
          have j2 : j < (es.toList.map (·.born)).length := by simpa using hj
          rw [List.getElem?_eq_getElem q2, Option.some.injEq] at h3
          rw [List.getElem?_eq_getElem j2, Option.some.injEq] at h4
          exact (List.getElem_inj hnd).1 (h3.trans h4.symm)
      · rintro (h1 | h1)
        · exact Or.inl h1
        · right
          subst h1
          rw [hje] at hq
          injection hq with e3
          rw [e3]
          simp
    · unfold World.rangeLeft
      rw [hb', hs1, hb, hr]
      exact left_shrinks es seen _ he
    · rcases hal with rfl | rfl
      · exact hg1
      · exact ⟨hg1.os, hg1.tape, hg1.output, hg1.size, hg1.block⟩
    · rcases hal with rfl | rfl <;> simp [setBlock]
    · have := run_entry_at (P := Tryz.prog) _ r b since seen es clock es.toList[j] hs1 hb' (List.getElem_mem _) hnd
      rw [hkey, hval] at this
      exact this
theorem wpList_range_m {ops : Array Oper} {rest : List Oper} {o : Oper} {a : Act} {Q : Exit → Act → World → Prop} {w : World} {b : Nat} {ps : List EP} (hgd : o.guard = none) (m : Operand) (hop : o.op = Op.range 83 m) (hm : a.eval m = .map (some b)) (h : MapAt w b ps)
    (hK : ∀ w', Rng w' b w.heap.size ps [] → w.grownBy w' none → w'.heap.size = w.heap.size + 1 → wpList Tryz.prog ops Q rest (a.put o.dst (.pointer (some ⟨w.heap.size, 0, none⟩))) w') : wpList Tryz.prog ops Q (o :: rest) a w := by
  refine wpList_plain hgd fun K' hK' => ?_
  obtain ⟨w', hrun, r1, r2, r3⟩ := run_range_m h
  unfold Oper.wp
  simp [execOp, hop, hm, hrun, Result.andThen]
  exact hK' _ _ (hK w' r1 r2 r3)
theorem wpList_next_m {ops : Array Oper} {rest : List Oper} {o : Oper} {a : Act} {Q : Exit → Act → World → Prop} {w : World} {b r : Nat} {ps : List EP} {js : List Nat} (hgd : o.guard = none) (it : Operand) (hop : o.op = Op.next it false) (hit : a.eval it = .pointer (some ⟨r, 0, none⟩)) (h : Rng w b r ps js)
    (hD : (∀ j, j < ps.length → j ∈ js) → wpList Tryz.prog ops Q rest (a.put o.dst (.tuple #[.bool false])) w)
    (hM : ∀ (j : Nat) (hj : j < ps.length) (w' : World), j ∉ js → Rng w' b r ps (js ++ [j]) → w'.rangeLeft b r < w.rangeLeft b r → w.grownBy w' (some r) → w'.heap.size = w.heap.size → (Instr.entry (.pointer (some ⟨r, 0, none⟩))).run Tryz.prog w' = .ok (.tuple #[.agg #[.int .i64 ps[j].1.key.1, .string ⟨ps[j].1.key.2.toArray⟩], ps[j].2]) w' →
      wpList Tryz.prog ops Q rest (a.put o.dst (.tuple #[.bool true, .agg #[.int .i64 ps[j].1.key.1, .string ⟨ps[j].1.key.2.toArray⟩], ps[j].2])) w') : wpList Tryz.prog ops Q (o :: rest) a w := by
  refine wpList_plain hgd fun K' hK' => ?_
  unfold Oper.wp
  rcases run_next_m h o.type with ⟨h0, hrun⟩ | ⟨j, hj, w', hjn, hrun, hR, hlt, hg, hs, hen⟩
  · simp [execOp, hop, hit, hrun, Result.andThen]
    exact hK' _ _ (hD h0)
  · simp [execOp, hop, hit, hrun, Result.andThen]
    exact hK' _ _ (hM j hj w' hjn hR hlt hg hs hen)
/-- the entries that have come -/
def pick (ps : List EP) (js : List Nat) : List EP := js.map fun j => ps[j]?.getD e0
theorem pick_snoc (ps : List EP) (js : List Nat) {j : Nat} (hj : j < ps.length) : pick ps (js ++ [j]) = pick ps js ++ [ps[j]] := by simp [pick, List.getElem?_eq_getElem hj]
theorem pick_len (ps : List EP) (js : List Nat) : (pick ps js).length = js.length := by simp [pick]
theorem pick_all {ps : List EP} {js : List Nat} (hd : js.Nodup) (h1 : ∀ j ∈ js, j < ps.length) (h2 : ∀ j, j < ps.length → j ∈ js) : (pick ps js).Perm ps := by
  have hp : js.Perm (List.range ps.length) := (List.perm_ext_iff_of_nodup hd List.nodup_range).2 fun j => by
    rw [List.mem_range]
    exact ⟨h1 j, h2 j⟩
  have e : pick ps (List.range ps.length) = ps := by
    apply List.ext_getElem?
    intro i
    unfold pick
    rw [List.getElem?_map]
    rcases Nat.lt_or_ge i ps.length with hi | hi
    · rw [List.getElem?_eq_getElem (by simpa using hi), List.getElem_range, List.getElem?_eq_getElem hi]; simp [List.getElem?_eq_getElem hi]
    · rw [List.getElem?_eq_none (by simpa using hi), List.getElem?_eq_none hi]; rfl
  have := hp.map (fun j => ps[j]?.getD e0)
  unfold pick at e ⊢
  rw [e] at this
  exact this
theorem Rng.facts {w : World} {b r : Nat} {ps : List EP} {js : List Nat} (h : Rng w b r ps js) : js.Nodup ∧ ∀ j ∈ js, j < ps.length := by
  obtain ⟨es, clock, since, seen, c0, _, _, _, _, _, h1, h2, _⟩ := h
  exact ⟨h1, h2⟩
theorem nodup_le : ∀ (n : Nat) (js : List Nat), js.Nodup → (∀ j ∈ js, j < n) → js.length ≤ n
  | 0, [], _, _ => Nat.le_refl _
  | 0, a :: t, _, h => absurd (h a (by simp)) (by omega)
  | n + 1, js, hd, h => by
    have h1 := nodup_le n (js.erase n) (hd.erase n) (fun j hj => by
      have h2 := h j (List.mem_of_mem_erase hj)
      have hne : j ≠ n := fun e => by subst e; exact hd.not_mem_erase hj
      omega)
    rw [List.length_erase] at h1
    split at h1 <;> omega
/-- one entry more in the row -/
theorem wpList_epush2 {ops : Array Oper} {rest : List Oper} {o : Oper} {a : Act} {Q : Exit → Act → World → Prop} {B : Nat} {w2 : World} {v : Value} {qs : List EP} {p : EP} (hgd : o.guard = none) (s t : Operand)
    (ho : o.op = .call { callee := .builtin .append, args := #[s, t], argTypes := #[30, 30] }) (hs : a.eval s = v) (hx : a.eval t = .slice (some ⟨w2.heap.size, 0, none⟩) 1 1) (h1 : p.2.oneCell' = true)
    (hown : w2.ownsRow B 61 3 v qs.length (pCells qs)) (hlen : qs.length + 1 ≤ 100000) (hB : B ≤ w2.heap.size)
    (h : ∀ g cap w', w'.ownsRow B 61 3 (.slice (some ⟨g, 0, none⟩) (qs.length + 1) cap) (qs.length + 1) (pCells (qs ++ [p])) → (w2.alloc (.cells #[.int .i64 p.1.key.1, .string ⟨p.1.key.2.toArray⟩, p.2] 61)).grownBy w' v.ownBlock → (v.ownBlock = some g ∨ g = w2.heap.size + 1) → g < w'.heap.size → wpList Tryz.prog ops Q rest (a.put o.dst (.slice (some ⟨g, 0, none⟩) (qs.length + 1) cap)) w') :
    wpList Tryz.prog ops Q (o :: rest) a (w2.alloc (.cells #[.int .i64 p.1.key.1, .string ⟨p.1.key.2.toArray⟩, p.2] 61)) := by
  obtain ⟨i0, hi, hz0, hz1, hz2⟩ := info_parts Tryz.info61
  refine wpList_append_lies _ hgd s t 30 ho B 61 i0 _ 3 48 Tryz.underlying30 hi hz0 hz1 hz2 rfl (by decide) v qs.length (pCells qs) hs (own_on hown (on_alloc _ _)) ⟨w2.heap.size, 0, none⟩ 1 1 [.int .i64 p.1.key.1, .string ⟨p.1.key.2.toArray⟩, p.2] hx rfl ?_ ?_ (by decide) (by unfold maxLen; omega) (by omega) (by simp; omega) (w2.heap.size + 1) (by simp) ?_
  · exact World.news_of_block (heap_alloc_new w2 _)
  · intro u hu
    simp only [List.mem_cons, List.not_mem_nil, or_false] at hu
    rcases hu with rfl | rfl | rfl
    · rfl
    · rfl
    · exact h1
  · intro g cap w' h2 h3 h4 h5
    refine h g cap w' ?_ h3 h4 h5
    rw [pCells_append, show pCells [p] = [.int .i64 p.1.key.1, .string ⟨p.1.key.2.toArray⟩, p.2] from by rw [pCells_cons]; rfl]
    exact h2
end Go.Proofs.YtephhllfodlfbaaGreatDoor
