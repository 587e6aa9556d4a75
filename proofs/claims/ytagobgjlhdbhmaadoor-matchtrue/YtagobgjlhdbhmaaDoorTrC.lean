/-
  Lists of paths looked at one level less deep; and that this changes nothing of what matches, where they are right so. No program is walked in this text.
-/
import Derived.Test.YtagobgjlhdbhmaaDoorMaC
import Derived.Test.YtagobgjlhdbhmaaDoorMbD
import Derived.Deep.AppendLies
namespace Go.Proofs.YtagobgjlhdbhmaaDoor
open Go.RowKit

section
variable {α β : Type}
def trT (f : List α → List β) (t : Pl.Tst α) : Pl.Tst β := ⟨t.kind, t.name, t.value, t.a, t.b, f t.list⟩
def trS (f : List α → List β) (s : Pl.Stp α) : Pl.Stp β := ⟨s.tag, s.tests.map (trT f)⟩
def trP (f : List α → List β) (p : Pl.Pth α) : Pl.Pth β := ⟨p.steps.map (trS f), p.links⟩
def trL (f : List α → List β) (l : List (Pl.Pth α)) : List (Pl.Pth β) := l.map (trP f)
theorem row_tr {γ δ : Type} {E : World → Nat → Nat → γ → Prop} {E' : World → Nat → Nat → δ → Prop} {k : Nat} {w : World} {v : Value} {l : List γ} (g : γ → δ) (h : RowAt E k w v l) (he : ∀ b o x, E w b o x → E' w b o (g x)) : RowAt E' k w v (l.map g) := by
  obtain ⟨a, c, rfl, h1, h2⟩ := h
  refine ⟨a, c, by rw [List.length_map], by rw [List.length_map]; exact h1, ?_⟩
  rcases h2 with rfl | ⟨b, o, rfl, hc⟩
  · exact Or.inl rfl
  · refine Or.inr ⟨b, o, rfl, fun i hi => ?_⟩
    rw [List.getElem_map]
    exact he _ _ _ (hc i (by simpa using hi))
theorem lst_tr {A : MemL α} {B : MemL β} {f : List α → List β} {w : World} (h : ∀ v l, A w v l → B w v (f l)) {v : Value} {l : List (Pl.Pth α)} (hl : LstAt A w v l) : LstAt B w v (trL f l) := by
  refine row_tr (trP f) hl fun b o p hp => ?_
  obtain ⟨v, u, h0, h1, h2, h3⟩ := hp
  refine ⟨v, u, h0, h1, row_tr (trS f) h2 fun b o s hs => ?_, h3⟩
  obtain ⟨v, g0, g1, g2⟩ := hs
  refine ⟨v, g0, g1, row_tr (trT f) g2 fun b o t ht => ?_⟩
  obtain ⟨x, t0, t1, t2, t3, t4, t5, t6⟩ := ht
  exact ⟨x, t0, t1, t2, t3, t4, t5, h _ _ t6⟩
theorem tst_tr {ns : List Pl.Nd} {g : List α → Nat → Bool} {g' : List β → Nat → Bool} {f : List α → List β} {R : List β → Prop} (hg : ∀ l, R (f l) → g' (f l) = g l) {t : Pl.Tst α} (ht : RT R (trT f t)) (n : Nat) : tstM ns g' (trT f t) n = tstM ns g t n := by
  obtain ⟨h1, -, -, h4⟩ := ht
  have hk : 1 ≤ t.kind ∧ t.kind ≤ 15 := by
    have : Pl.isKind t.kind = true := h1
    unfold Pl.isKind at this
    simpa using this
  by_cases h13 : 13 ≤ t.kind
  · have e : g' (f t.list) = g t.list := hg _ (h4 (by show Pl.kList t.kind = true; unfold Pl.kList; simp; omega))
    unfold tstM trT
    dsimp only
    rw [e]
  · unfold tstM trT
    dsimp only
    repeat' split
    all_goals first | rfl | omega
theorem stp_tr {ns : List Pl.Nd} {g : List α → Nat → Bool} {g' : List β → Nat → Bool} {f : List α → List β} {R : List β → Prop} (hg : ∀ l, R (f l) → g' (f l) = g l) {s : Pl.Stp α} (hs : ∀ t ∈ (trS f s).tests, RT R t) (n : Nat) : stpM ns g' (trS f s) n = stpM ns g s n := by
  unfold stpM
  congr 1
  show (s.tests.map (trT f)).all _ = _
  rw [List.all_map]
  rw [Bool.eq_iff_iff, List.all_eq_true, List.all_eq_true]
  constructor
  · intro h t ht
    rw [← tst_tr hg (hs _ (List.mem_map_of_mem ht)) n]
    exact h t ht
  · intro h t ht
    show tstM ns g' (trT f t) n = true
    rw [tst_tr hg (hs _ (List.mem_map_of_mem ht)) n]
    exact h t ht
theorem stpAt_tr (f : List α → List β) (p : Pl.Pth α) (k : Nat) : stpAt (trP f p) k = trS f (stpAt p k) := by
  unfold stpAt trP
  dsimp only
  rw [List.getElem?_map]
  cases p.steps[k]? <;> rfl
theorem pth_tr {ns : List Pl.Nd} {g : List α → Nat → Bool} {g' : List β → Nat → Bool} {f : List α → List β} {R : List β → Prop} (hg : ∀ l, R (f l) → g' (f l) = g l) {p : Pl.Pth α} (hp : ∀ s ∈ (trP f p).steps, RS R s) : ∀ (k n : Nat), pthM ns g' (trP f p) k n = pthM ns g p k n := by
  have hs : ∀ k n, stpM ns g' (stpAt (trP f p) k) n = stpM ns g (stpAt p k) n := by
    intro k n
    rw [stpAt_tr]
    refine stp_tr hg (fun t ht => ?_) n
    rw [← stpAt_tr] at ht
    unfold stpAt at ht
    cases hk : (trP f p).steps[k]? with
    | none =>
      rw [hk] at ht
      cases ht
    | some s =>
      rw [hk] at ht
      exact (hp s (List.mem_of_getElem? hk)).2.2 t ht
  intro k
  induction k with
  | zero => exact hs 0
  | succ k ih =>
    intro n
    unfold pthM
    rw [hs]
    congr 1
    exact any_range fun m _ => by rw [ih]; rfl
theorem lst_m {ns : List Pl.Nd} {g : List α → Nat → Bool} {g' : List β → Nat → Bool} {f : List α → List β} {R : List β → Prop} (hg : ∀ l, R (f l) → g' (f l) = g l) {l : List (Pl.Pth α)} (hl : RL R (trL f l)) : lstM ns g' (trL f l) = lstM ns g l := by
  funext n
  unfold lstM trL
  rw [List.any_map, Bool.eq_iff_iff, List.any_eq_true, List.any_eq_true]
  have e : ∀ p ∈ l, pthM ns g' (trP f p) ((trP f p).steps.length - 1) n = pthM ns g p (p.steps.length - 1) n := by
    intro p hp
    rw [pth_tr hg (hl.2 _ (List.mem_map_of_mem hp)).2.2]
    unfold trP
    rw [List.length_map]
  constructor
  · rintro ⟨p, hp, h⟩
    exact ⟨p, hp, by rw [← e p hp]; exact h⟩
  · rintro ⟨p, hp, h⟩
    exact ⟨p, hp, by show pthM ns g' (trP f p) ((trP f p).steps.length - 1) n = true; rw [e p hp]; exact h⟩
end
def tr0 (l : List Pl.D1) : List Unit := l.map fun _ => ()
def tr1 : List Pl.D2 → List Pl.D1 := trL tr0
def tr2 : List Pl.D3 → List Pl.D2 := trL tr1
theorem tr_mem {w : World} {v : Value} {l : List Pl.D3} (h : A3 w v l) : A2 w v (tr2 l) :=
  lst_tr (fun _ _ h1 => lst_tr (fun v l h0 => by
    obtain ⟨a, c, e, hl⟩ := isL_1.form h0
    exact ⟨a, c, by rw [e]; simp [tr0], by simpa [tr0] using hl⟩) h1) h
theorem tr_len (l : List Pl.D3) : (tr2 l).length = l.length := by simp [tr2, trL]
theorem tr_m {ns : List Pl.Nd} {l : List Pl.D3} (h : R2 (tr2 l)) : m2 ns (tr2 l) = m3 ns l :=
  lst_m (R := R1) (fun _ hl => lst_m (R := R0) (fun _ h => h.elim) hl) h
end Go.Proofs.YtagobgjlhdbhmaaDoor
/-
  MatchTrue in plain lists; two lists joined in memory.
-/
namespace Go.Proofs.YtagobgjlhdbhmaaDoor
open Go.RowKit

def t13 (l : List Pl.D3) : Pl.Tst Pl.D2 := ⟨13, [], [], 0, 0, tr2 l⟩
def t14 (l : List Pl.D3) : Pl.Tst Pl.D2 := ⟨14, [], [], 0, 0, tr2 l⟩
theorem chk_same (l : List Pl.D3) : chkList (oneL (t14 l)) = chkList (oneL (t13 l)) := by kernel_rfl
theorem err_same (ns : List Pl.Nd) (l : List Pl.D3) (n : Int) : matchErr ns (oneL (t14 l)) n = matchErr ns (oneL (t13 l)) n := by
  unfold matchErr
  rw [chk_same]
theorem not_val {ns : List Pl.Nd} {l : List Pl.D3} {n : Int} (h : matchErr ns (oneL (t13 l)) n = 0) : matB ns (oneL (t13 l)) n = !m3 ns l n.toNat := by
  have h2 := (one_right (matchErr_zero h).2.1).2.2.2 rfl
  unfold matB
  rw [if_pos h, one_m3, ← tr_m h2]
  rfl
theorem is_val {ns : List Pl.Nd} {l : List Pl.D3} {n : Int} (h : matchErr ns (oneL (t13 l)) n = 0) : matB ns (oneL (t14 l)) n = m3 ns l n.toNat := by
  have h2 := (one_right (matchErr_zero h).2.1).2.2.2 rfl
  unfold matB
  rw [if_pos (by rw [err_same]; exact h), one_m3, ← tr_m h2]
  rfl
theorem both_val {ns : List Pl.Nd} {l m : List Pl.D3} {n : Int} (h1 : matchErr ns l n = 0) (h2 : matchErr ns m n = 0) (h3 : matchErr ns (l ++ m) n = 0) : matB ns (l ++ m) n = (matB ns l n || matB ns m n) := by
  unfold matB
  rw [if_pos h1, if_pos h2, if_pos h3]
  unfold m3 lstM
  rw [List.any_append]
theorem all_has {ns : List Pl.Nd} {l : List Pl.D3} {k : Nat} (h : chkBoth ns l = 0) (hk : k < ns.length) : ((allA ns l).any fun j => (j : Int) == (k : Int)) = m3 ns l k := by
  unfold allA
  rw [if_pos h, Bool.eq_iff_iff, List.any_eq_true]
  unfold allTo
  constructor
  · rintro ⟨j, hj, e⟩
    have e1 : j = k := by
      have := e
      simp at this
      omega
    rw [← e1]
    exact (List.mem_filter.1 hj).2
  · intro hm
    exact ⟨k, List.mem_filter.2 ⟨by simpa using hk, hm⟩, by simp⟩
/-- the cells of paths -/
def PV (w : World) (l : List Pl.D3) (xs : List Value) : Prop := ∀ i (h : i < l.length), ∃ v u, xs[i * 2]? = some v ∧ xs[i * 2 + 1]? = some u ∧ RowAt (StpAt A2) 2 w v l[i].steps ∧ RowAt IntAt 1 w u l[i].links
theorem PV.on {w w' : World} {l : List Pl.D3} {xs : List Value} (h : PV w l xs) (hb : Below w.heap.size w w') : PV w' l xs := fun i hi => by
  obtain ⟨v, u, h0, h1, h2, h3⟩ := h i hi
  exact ⟨v, u, h0, h1, h2.map fun b o x hx => hx.on isL_2 hb, h3.map fun b o x hx => cell_on hb hx⟩
theorem PV.append {w : World} {l m : List Pl.D3} {xs ys : List Value} (h : PV w l xs) (h' : PV w m ys) (hl : xs.length = l.length * 2) : PV w (l ++ m) (xs ++ ys) := fun i hi => by
  by_cases hlt : i < l.length
  · obtain ⟨v, u, h0, h1, h2, h3⟩ := h i hlt
    refine ⟨v, u, ?_, ?_, ?_, ?_⟩
    · rw [List.getElem?_append_left (by omega)]; exact h0
    · rw [List.getElem?_append_left (by omega)]; exact h1
    · rw [List.getElem_append_left hlt]; exact h2
    · rw [List.getElem_append_left hlt]; exact h3
  · have hi2 : i - l.length < m.length := by simp at hi; omega
    obtain ⟨v, u, h0, h1, h2, h3⟩ := h' (i - l.length) hi2
    refine ⟨v, u, ?_, ?_, ?_, ?_⟩
    · rw [List.getElem?_append_right (by omega), hl, show i * 2 - l.length * 2 = (i - l.length) * 2 by omega]; exact h0
    · rw [List.getElem?_append_right (by omega), hl, show i * 2 + 1 - l.length * 2 = (i - l.length) * 2 + 1 by omega]; exact h1
    · rw [List.getElem_append_right (by omega)]; exact h2
    · rw [List.getElem_append_right (by omega)]; exact h3
theorem pv_of {w : World} {b o : Nat} {l : List Pl.D3} (hc : ∀ i (h : i < l.length), PthAt A2 w b (o + i * 2) l[i]) : ∃ xs : List Value, xs.length = l.length * 2 ∧ (∀ j u, xs[j]? = some u → w.cell? ⟨b, o + j, none⟩ = some u) ∧ (∀ u ∈ xs, u.oneCell' = true) ∧ PV w l xs := by
  have hcell : ∀ j, j < l.length * 2 → ∃ u, w.cell? ⟨b, o + j, none⟩ = some u ∧ u.oneCell' = true := by
    intro j hj
    obtain ⟨v, u, h0, h1, h2, h3⟩ := hc (j / 2) (by omega)
    obtain ⟨a1, c1, rfl⟩ := h2.form
    obtain ⟨a2, c2, rfl⟩ := h3.form
    rcases Nat.mod_two_eq_zero_or_one j with e | e
    · rw [show o + j / 2 * 2 = o + j by omega] at h0
      exact ⟨_, h0, rfl⟩
    · rw [show o + j / 2 * 2 + 1 = o + j by omega] at h1
      exact ⟨_, h1, rfl⟩
  have hget : ∀ j, j < l.length * 2 → ∀ u, w.cell? ⟨b, o + j, none⟩ = some u → ((List.range (l.length * 2)).map fun j => (w.cell? ⟨b, o + j, none⟩).getD undef)[j]? = some u := by
    intro j hj u hu
    rw [List.getElem?_map, List.getElem?_range hj]
    simp [hu]
  refine ⟨(List.range (l.length * 2)).map fun j => (w.cell? ⟨b, o + j, none⟩).getD undef, by simp, ?_, ?_, ?_⟩
  · intro j u hj
    have hlt : j < l.length * 2 := by
      have := (List.getElem?_eq_some_iff.1 hj).1
      simpa using this
    obtain ⟨u', hu, -⟩ := hcell j hlt
    rw [hget j hlt u' hu] at hj
    cases hj
    exact hu
  · intro u hu
    obtain ⟨j, hj, rfl⟩ := List.mem_map.1 hu
    obtain ⟨u', hu', h1⟩ := hcell j (by simpa using hj)
    rw [hu']
    exact h1
  · intro i hi
    obtain ⟨v, u, h0, h1, h2, h3⟩ := hc i hi
    exact ⟨v, u, hget _ (by omega) v h0, hget _ (by omega) u h1, h2, h3⟩
theorem a3_of {w : World} {base : Nat} {v : Value} {l : List Pl.D3} {xs : List Value} (h : w.ownsRow base 59 2 v l.length xs) (hp : PV w l xs) : A3 w v l := by
  rcases h.2 with ⟨rfl, h0⟩ | ⟨g, cap, cur, rfl, hb, hg, h1, h2, h3, h4⟩
  · have e : l = [] := List.length_eq_zero_iff.1 h0
    subst e
    exact RowAt.nil _ _ _
  · refine ⟨_, _, rfl, ⟨h1, h2⟩, Or.inr ⟨g, 0, rfl, fun i hi => ?_⟩⟩
    obtain ⟨v, u, q0, q1, q2, q3⟩ := hp i hi
    have hc : ∀ j x, xs[j]? = some x → w.cell? ⟨g, j, none⟩ = some x := by
      intro j x hx
      rw [← h4] at hx
      have hlt : j < l.length * 2 := by
        have := (List.getElem?_eq_some_iff.1 hx).1
        simp at this
        omega
      rw [List.getElem?_take_of_lt hlt, Array.getElem?_toList] at hx
      unfold World.cell?
      dsimp only
      rw [hg]
      simpa using hx
    exact ⟨v, u, by simpa using hc _ _ q0, by simpa using hc _ _ q1, q2, q3⟩
theorem info59 : (Tryd.prog.info? 59).map (fun i => (i.zero, i.size, i.bytes)) = some (some (.agg #[.slice none 0 0, .slice none 0 0]), 2, 48) := by kernel_rfl
theorem append_none {i : TypeInfo} (hi : Tryd.prog.info? 59 = some i) (q : Addr) (n c : Nat) (hn : n ≤ c) (a : Option Addr) (c' : Nat) (ty : TypeId) (w : World) :
    (Builtin.append_ #[25, 25] ty #[.slice (some q) n c, .slice a 0 c']).run Tryd.prog w = .ok (.slice (some q) n c) w := by
  cases a with
  | none => simp [Builtin.append_, run_underlying Tryd.underlying25, sizeOf, typeInfo, hi, Builtin.lenOf, Builtin.firstCells, storeCells, hn]
  | some p =>
    have h0 := run_loadCells_list (P := Tryd.prog) w p [] (fun j v hj => by simp at hj)
    simp only [List.length_nil] at h0
    simp [Builtin.append_, run_underlying Tryd.underlying25, sizeOf, typeInfo, hi, Builtin.lenOf, Builtin.firstCells, h0, storeCells, hn]
end Go.Proofs.YtagobgjlhdbhmaaDoor
/-
  One list put behind another, at the step that appends it.
-/
namespace Go.Proofs.YtagobgjlhdbhmaaDoor
open Go.RowKit

theorem step_cat {w : World} {ops : Array Oper} {o : Oper} {a : Act} {K : Act → World → Prop} {Q : Exit → Act → World → Prop} {E : Prop} (hgd : o.guard = none) (s x : Operand) (ho : o.op = .call { callee := .builtin .append, args := #[s, x], argTypes := #[25, 25] })
    (B g0 n c0 : Nat) (xs : List Value) (hs : a.eval s = .slice (some ⟨g0, 0, none⟩) n c0) (hown : w.ownsRow B 59 2 (.slice (some ⟨g0, 0, none⟩) n c0) n xs) (ax : Option Addr) (cx : Nat) (m : List Pl.D3) (hx : a.eval x = .slice ax m.length cx) (w0 : World) (hm : A3 w0 (.slice ax m.length cx) m) (hb0 : Below w0.heap.size w0 w)
    (hsz : (n + m.length) * 48 ≤ 140737488355328) (hB : B ≤ w.heap.size)
    (h : ∀ g c w' ys, PV w0 m ys → ys.length = m.length * 2 → w'.ownsRow B 59 2 (.slice (some ⟨g, 0, none⟩) (n + m.length) c) (n + m.length) (xs ++ ys) → Below B w w' → K (a.put o.dst (.slice (some ⟨g, 0, none⟩) (n + m.length) c)) w') :
    if Region.wanted o (yielded ops a.tmps) = true then Oper.wp Tryd.prog o a w K Q else E := by
  obtain ⟨i0, hi, hz0, hz1, hz2⟩ := info_parts info59
  obtain ⟨a', c', e, -, hc⟩ := id hm
  injection e with e1 e2 e3
  subst e1 e3
  by_cases h0 : m = []
  · subst h0
    have hw : Region.wanted o (yielded ops a.tmps) = true := by simp [Region.wanted, hgd]
    rw [if_pos hw]
    have hnc : n ≤ c0 := by
      rcases hown.2 with ⟨e, -⟩ | ⟨g, cap, cur, e, _, _, h1, _⟩
      · cases e
      · injection e with e1 e2 e3
        omega
    have hr := append_none hi ⟨g0, 0, none⟩ n c0 hnc ax cx o.type w
    have hk := h g0 c0 w [] (fun i hi => by simp at hi) rfl (by simpa using hown) (Below.refl _ _)
    unfold Oper.wp execOp
    simp only [ho, resolve, invoke, builtin, Sem.run_bind, Sem.run_pure, Result.andThen_ok, List.map_toArray, List.map_cons, List.map_nil, hs, hx, List.length_nil, hr]
    have hk' : K (a.put o.dst (.slice (some ⟨g0, 0, none⟩) n c0)) w := by simpa using hk
    exact hk'
  · rcases hc with h1 | ⟨b, of, rfl, hcs⟩
    · exact absurd h1 h0
    · obtain ⟨ys, hl, hcell, hone, hpv⟩ := pv_of hcs
      have hpos : 0 < m.length := List.length_pos_iff.2 h0
      refine step_append_lies _ hgd s x 25 ho B 59 i0 _ 2 48 Tryd.underlying25 hi hz0 hz1 hz2 rfl (by decide) _ n xs hs hown ⟨b, of, none⟩ m.length cx ys hx hl (fun j u hj => by rw [Addr.add_lit]; exact cell_on hb0 (hcell j u hj)) hone hpos (by unfold maxLen; omega) hsz hB _ rfl ?_
      intro g cap w' h1 h2 h3 _
      exact h g cap w' ys hpv hl h1 ((Below.refl _ w).grown h2 hB (fun k hk => (World.ownsRow.lt hown k hk).1))
theorem cat_a3 {w w6 : World} {g c : Nat} {l m : List Pl.D3} {B : Nat} {ys5 ys6 : List Value} (h1 : PV w l ys5) (h2 : PV w m ys6) (h3 : w6.ownsRow B 59 2 (.slice (some ⟨g, 0, none⟩) (0 + l.length + m.length) c) (0 + l.length + m.length) ([] ++ ys5 ++ ys6)) (h4 : ys5.length = l.length * 2) (hb : Below w.heap.size w w6) : A3 w6 (.slice (some ⟨g, 0, none⟩) (l.length + m.length) c) (l ++ m) := by
  rw [Nat.zero_add, ← List.length_append, List.nil_append] at h3
  rw [← List.length_append]
  exact a3_of h3 ((h1.append h2 h4).on hb)
/-- whether one of the first j is k -/
def thB (aL : List Nat) (k j : Nat) : Bool := (aL.take j).any fun x => (x : Int) == (k : Int)
theorem thB_next {aL : List Nat} {k j : Nat} (h : j < aL.length) : thB aL k (j + 1) = (thB aL k j || ((aL[j] : Int) == (k : Int))) := take_any h _
theorem ints_at {w : World} {a : Option Addr} {c j : Nat} {aL : List Nat} (h : IntsAt w (.slice a aL.length c) (aL.map fun (k : Nat) => (k : Int))) (hj : j < aL.length) : ∃ b o, a = some ⟨b, o, none⟩ ∧ w.cell? ⟨b, o + j, none⟩ = some (.int .i64 (aL[j] : Int)) := by
  obtain ⟨a', c', e, hc⟩ := h
  injection e with e1 e2 e3
  subst e1
  rcases hc with h0 | ⟨b, o, rfl, hc⟩
  · have h1 := List.map_eq_nil_iff.1 h0
    rw [h1] at hj
    simp at hj
  · refine ⟨b, o, rfl, ?_⟩
    have := hc j (by simpa using hj)
    rw [List.getElem_map] at this
    exact this
theorem cat_made (w : World) : (w.alloc (.cells #[] 59)).ownsRow w.heap.size 59 2 (.slice (some ⟨w.heap.size, 0, none⟩) 0 0) 0 [] := World.ownsRow_made w #[] 0 (Nat.le_refl _) (Nat.zero_le _) rfl
end Go.Proofs.YtagobgjlhdbhmaaDoor
