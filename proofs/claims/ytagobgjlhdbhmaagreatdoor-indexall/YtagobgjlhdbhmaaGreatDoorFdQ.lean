/-
  A key looked up in a map.
-/
import Derived.Test.YtagobgjlhdbhmaaGreatDoorFdA
import Derived.Deep.AppendLies
namespace Go.Proofs.YtagobgjlhdbhmaaGreatDoor
open Go.RowKit

/-- what lies there for a key, or the zero slice -/
def Looked (ps : List EP) (k : Pl.Key) (v : Value) : Prop := (∃ p ∈ ps, v = p.2 ∧ p.1.key = k) ∨ (v = .slice none 0 0 ∧ ∀ p ∈ ps, p.1.key ≠ k)
theorem run_lookup {w : World} {b : Nat} {ps : List EP} {k : Pl.Key} (h : MapAt w b ps) (hg : ∀ p ∈ ps, Good p.1.key) (hk : Good k) (hzero : ∀ u : World, (zeroValue 38).run Tryz.prog u = .ok (.slice none 0 0) u) :
    ∃ v, (Instr.lookup 97 (.map (some b)) (keyV k) false).run Tryz.prog w = .ok v w ∧ Looked ps k v := by
  obtain ⟨es, clock, hb, hmap, hborn, hnd⟩ := h
  obtain ⟨lx, hlx⟩ := keyOf_any k hk.1 hk.2
  have hall : ∀ e ∈ es.toList, ∃ l, keyOf Tryz.prog 117 e.key = some l := by
    intro e he
    obtain ⟨j, hj, rfl⟩ := List.getElem_of_mem he
    obtain ⟨hj2, hkey, _⟩ := entry_key hmap (List.getElem?_eq_getElem hj)
    rw [hkey]
    have := hg ps[j] (List.getElem_mem hj2)
    exact keyOf_any _ this.1 this.2
  have hl : es.toList.length = ps.length := by have := congrArg List.length hmap; simpa using this
  rcases Tryz.keyed99.find w hlx es.toList hall with ⟨hf, hne⟩ | ⟨j, e, hf, hje, hke⟩
  · refine ⟨.slice none 0 0, by simp [Instr.lookup, run_underlying Tryz.underlying97, MapKept.run_getObj_map hb, Tryz.keyed99.check w _ hlx, hf, hzero, Result.andThen], Or.inr ⟨rfl, ?_⟩⟩
    intro p hp e1
    obtain ⟨i, hi, rfl⟩ := List.getElem_of_mem hp
    obtain ⟨_, h1, _⟩ := entry_key hmap (List.getElem?_eq_getElem (l := es.toList) (i := i) (by omega))
    refine hne es.toList[i] (List.getElem_mem _) ?_
    rw [h1, e1]
  · obtain ⟨hj, h1, h2⟩ := entry_key hmap hje
    have hje2 : es[j]? = some e := by simpa using hje
    have hkk : ps[j].1.key = k := keyV_inj (h1.symm.trans hke)
    refine ⟨ps[j].2, ?_, Or.inl ⟨ps[j], List.getElem_mem hj, rfl, hkk⟩⟩
    rw [← h2]
    simp [Instr.lookup, run_underlying Tryz.underlying97, MapKept.run_getObj_map hb, Tryz.keyed99.check w _ hlx, hf, Result.andThen]
theorem wpList_lookup {ops : Array Oper} {rest : List Oper} {o : Oper} {a : Act} {Q : Exit → Act → World → Prop} {w : World} {b : Nat} {ps : List EP} {k : Pl.Key} (hgd : o.guard = none) (m x : Operand) (hop : o.op = Op.lookup 97 m x false) (hm : a.eval m = .map (some b)) (hx : a.eval x = keyV k)
    (h : MapAt w b ps) (hg : ∀ p ∈ ps, Good p.1.key) (hk : Good k) (hzero : ∀ u : World, (zeroValue 38).run Tryz.prog u = .ok (.slice none 0 0) u)
    (hK : ∀ v, Looked ps k v → wpList Tryz.prog ops Q rest (a.put o.dst v) w) : wpList Tryz.prog ops Q (o :: rest) a w := by
  refine wpList_plain hgd fun K' hK' => ?_
  obtain ⟨v, hrun, h1⟩ := run_lookup h hg hk hzero
  unfold Oper.wp
  simp [execOp, hop, hm, hx, hrun, Result.andThen]
  exact hK' _ _ (hK v h1)
end Go.Proofs.YtagobgjlhdbhmaaGreatDoor
/-
  What lies in the map for a key: as many as have it.
-/
namespace Go.Proofs.YtagobgjlhdbhmaaGreatDoor
open Go.RowKit

theorem places_some {k : Pl.Key} : ∀ {l : List Pl.En}, (l.map (·.key)).Nodup → ∀ e ∈ l, e.key = k → Pl.placesOf k l = e.nodes
  | [], _, e, he, _ => by cases he
  | x :: r, hn, e, he, hk => by
    rw [List.map_cons, List.nodup_cons] at hn
    unfold Pl.placesOf
    rcases List.mem_cons.1 he with rfl | he
    · rw [if_pos hk]
    · rw [if_neg (fun e1 => hn.1 (by rw [e1, ← hk]; exact List.mem_map.2 ⟨e, he, rfl⟩))]
      exact places_some hn.2 e he hk
theorem looked_len {ns : List Pl.Nd} {ps : List EP} {k : Pl.Key} {v : Value} {B : Nat} {w : World} (h : Looked ps k v) (hf : Fam B w ps) (hm : ps.map (·.1) = Pl.gathTo ns ns.length) (hd : ∀ x ∈ ns, (Pl.keysOf x).Nodup) : ∃ a c, v = .slice a (Pl.whoTo ns k ns.length).length c := by
  rw [← Pl.gath_places hd k ns.length]
  rcases h with ⟨p, hp, rfl, hk⟩ | ⟨rfl, hn⟩
  · have h1 : Pl.placesOf k (Pl.gathTo ns ns.length) = p.1.nodes := places_some (Pl.gath_nodup ns _) p.1 (by rw [← hm]; exact List.mem_map.2 ⟨p, hp, rfl⟩) hk
    obtain ⟨a, c, e⟩ := own_form (hf.ints p hp)
    exact ⟨a, c, by rw [h1, e]⟩
  · refine ⟨none, 0, ?_⟩
    rw [Pl.places_none (fun e he => ?_)]
    · rfl
    · rw [← hm] at he
      obtain ⟨p, hp, rfl⟩ := List.mem_map.1 he
      exact hn p hp
end Go.Proofs.YtagobgjlhdbhmaaGreatDoor
/-
  Closed values that the laws of the index begin with.
-/
namespace Go.Proofs.YtagobgjlhdbhmaaGreatDoor

theorem sx_len : (Pl.idxAns smallNs).length = 6 := by kernel_rfl
theorem sx_err : lookErr (Pl.idxAns smallNs) 3 = 0 := by kernel_rfl
theorem sx_look : lookOf (Pl.idxAns smallNs) 3 [97] = [1, 4] := by kernel_rfl
theorem sx_fit : ∀ e ∈ Pl.idxAns smallNs, e.2.length * 8 ≤ 140737488351232 := fun e he => by
  have := (idx_small smallNs).2 e he
  omega
/-- what index.Find answers: its error, its places -/
def findErr (ns : List Pl.Nd) (x : List Pl.Er) (l : List Pl.D3) : Int := if pageErr ns x = 0 then chkList l else pageErr ns x
def findA (ns : List Pl.Nd) (x : List Pl.Er) (l : List Pl.D3) : List Nat := if findErr ns x l = 0 then allTo (m3 ns l) ns.length else []
theorem allTo_ext {f g : Nat → Bool} {n : Nat} (h : ∀ i, i < n → f i = g i) : allTo f n = allTo g n :=
  List.filter_congr fun i hi => h i (List.mem_range.1 hi)
theorem find_open {ns : List Pl.Nd} {l : List Pl.D3} (h : chkList l = 0) : allTo (m3 ns (l.filter (openB ns))) ns.length = allTo (m3 ns l) ns.length := allTo_ext fun _ hi => m3_open hi h
end Go.Proofs.YtagobgjlhdbhmaaGreatDoor
/-
  Cells of paths, and what a path asks for: names that are right.
-/
namespace Go.Proofs.YtagobgjlhdbhmaaGreatDoor
open Go.RowKit

/-- the cells of paths -/
def PV (w : World) (l : List Pl.D3) (xs : List Value) : Prop := ∀ i (h : i < l.length), ∃ v u, xs[i * 2]? = some v ∧ xs[i * 2 + 1]? = some u ∧ RowAt (StpAt A2) 2 w v l[i].steps ∧ RowAt IntAt 1 w u l[i].links
theorem PV.on {w w' : World} {l : List Pl.D3} {xs : List Value} (h : PV w l xs) (hb : Below w.heap.size w w') : PV w' l xs := fun i hi => by
  obtain ⟨v, u, h0, h1, h2, h3⟩ := h i hi
  exact ⟨v, u, h0, h1, h2.map fun b o x hx => hx.on isL_2 hb, h3.map fun b o x hx => cell_on hb hx⟩
theorem PV.nil (w : World) : PV w [] [] := fun i hi => by simp at hi
theorem PV.snoc {w : World} {l : List Pl.D3} {p : Pl.D3} {xs : List Value} {v u : Value} (h : PV w l xs) (hl : xs.length = l.length * 2) (h2 : RowAt (StpAt A2) 2 w v p.steps) (h3 : RowAt IntAt 1 w u p.links) : PV w (l ++ [p]) (xs ++ [v, u]) := fun i hi => by
  by_cases hlt : i < l.length
  · obtain ⟨v', u', h0, h1, h2, h3⟩ := h i hlt
    refine ⟨v', u', ?_, ?_, ?_, ?_⟩
    · rw [List.getElem?_append_left (by omega)]; exact h0
    · rw [List.getElem?_append_left (by omega)]; exact h1
    · rw [List.getElem_append_left hlt]; exact h2
    · rw [List.getElem_append_left hlt]; exact h3
  · have e : i = l.length := by simp at hi; omega
    subst e
    refine ⟨v, u, ?_, ?_, ?_, ?_⟩
    · rw [List.getElem?_append_right (by omega), hl, Nat.sub_self]; rfl
    · rw [List.getElem?_append_right (by omega), hl, show l.length * 2 + 1 - l.length * 2 = 1 by omega]; rfl
    · rw [List.getElem_append_right (by omega)]; simpa using h2
    · rw [List.getElem_append_right (by omega)]; simpa using h3
theorem a3_of {w : World} {base : Nat} {v : Value} {l : List Pl.D3} {xs : List Value} (h : w.ownsRow base 70 2 v l.length xs) (hp : PV w l xs) : A3 w v l := by
  rcases h.2 with ⟨rfl, h0⟩ | ⟨g, cap, cur, rfl, hb, hg, h1, h2, h3, h4⟩
  · have e : l = [] := List.length_eq_zero_iff.1 h0
    subst e
    exact RowAt.nil _ _ _
  · refine ⟨_, _, rfl, ⟨h1, h2⟩, Or.inr ⟨g, 0, rfl, fun i hi => ?_⟩⟩
    obtain ⟨v, u, q0, q1, q2, q3⟩ := hp i hi
    have hc : ∀ j x, xs[j]? = some x → w.cell? ⟨g, j, none⟩ = some x := by
      intro j x hx
      rw [← h4] at hx
      have hlt : j < l.length * 2 := by
        have := (List.getElem?_eq_some_iff.1 hx).1
        simp at this
        omega
      rw [List.getElem?_take_of_lt hlt, Array.getElem?_toList] at hx
      unfold World.cell?
      dsimp only
      rw [hg]
      simpa using hx
    exact ⟨v, u, by simpa using hc _ _ q0, by simpa using hc _ _ q1, q2, q3⟩
theorem info70 : (Tryz.prog.info? 70).map (fun i => (i.zero, i.size, i.bytes)) = some (some (.agg #[.slice none 0 0, .slice none 0 0]), 2, 48) := by kernel_rfl
/-- one path more -/
theorem wpList_padd {ops : Array Oper} {rest : List Oper} {o : Oper} {a : Act} {Q : Exit → Act → World → Prop} {B : Nat} {w2 : World} {v : Value} {n : Nat} {xs : List Value} {a1 a2 : Option Addr} {n1 n2 c1 c2 : Nat} (hgd : o.guard = none) (s t : Operand)
    (ho : o.op = .call { callee := .builtin .append, args := #[s, t], argTypes := #[27, 27] }) (hs : a.eval s = v) (hx : a.eval t = .slice (some ⟨w2.heap.size, 0, none⟩) 1 1)
    (hown : w2.ownsRow B 70 2 v n xs) (hlen : n + 1 ≤ 64) (hB : B ≤ w2.heap.size)
    (h : ∀ g cap w', w'.ownsRow B 70 2 (.slice (some ⟨g, 0, none⟩) (n + 1) cap) (n + 1) (xs ++ [.slice a1 n1 c1, .slice a2 n2 c2]) → (w2.alloc (.cells #[.slice a1 n1 c1, .slice a2 n2 c2] 70)).grownBy w' v.ownBlock → wpList Tryz.prog ops Q rest (a.put o.dst (.slice (some ⟨g, 0, none⟩) (n + 1) cap)) w') :
    wpList Tryz.prog ops Q (o :: rest) a (w2.alloc (.cells #[.slice a1 n1 c1, .slice a2 n2 c2] 70)) := by
  obtain ⟨i0, hi, hz0, hz1, hz2⟩ := info_parts info70
  refine wpList_append_lies _ hgd s t 27 ho B 70 i0 _ 2 48 Tryz.underlying27 hi hz0 hz1 hz2 rfl (by decide) v n xs hs (own_on hown (on_alloc _ _)) ⟨w2.heap.size, 0, none⟩ 1 1 [.slice a1 n1 c1, .slice a2 n2 c2] hx rfl ?_ ?_ (by decide) (by unfold maxLen; omega) (by omega) (by simp; omega) _ rfl ?_
  · exact World.news_of_block (heap_alloc_new w2 _)
  · intro u hu
    simp only [List.mem_cons, List.not_mem_nil, or_false] at hu
    rcases hu with rfl | rfl <;> rfl
  · intro g cap w' h1 h2 _ _
    exact h g cap w' h1 h2
theorem name_len {l : List UInt8} (h : Pl.isName l = true) : l.length ≤ 12 := by
  unfold Pl.isName at h
  simp only [Bool.and_eq_true, decide_eq_true_eq] at h
  exact h.1.1.2
theorem good_of {q : Int} {l : List UInt8} (a : 1 ≤ q) (b : q ≤ 3) (c : l.length ≤ 12) : Good (q, l) :=
  ⟨WalkArith.wf_i64 ⟨by simp only; omega, by simp only; omega⟩, by unfold maxLen; simp only; omega⟩
theorem ask_good {α : Type} {p : Pl.Pth α} (hf : Pl.pForm Pl.isName Pl.isValue p = true) : ∀ k ∈ askP p, Good k := by
  intro k hk
  unfold Pl.pForm at hf
  rw [Bool.and_eq_true, List.all_eq_true, List.all_eq_true] at hf
  unfold askP at hk
  rw [List.mem_flatMap] at hk
  obtain ⟨s, hs, hk⟩ := hk
  unfold askS at hk
  rw [List.mem_append] at hk
  rcases hk with hk | hk
  · by_cases e : s.tag = []
    · rw [if_pos e] at hk; cases hk
    · rw [if_neg e, List.mem_singleton] at hk
      have h1 := hf.1 s hs
      rw [Bool.or_eq_true] at h1
      rcases h1 with h1 | h1
      · exact absurd (List.isEmpty_iff.1 h1) e
      · rw [hk]
        exact good_of (by decide) (by decide) (name_len h1)
  · rw [List.mem_flatMap] at hk
    obtain ⟨t, ht, hk⟩ := hk
    have hft := hf.2 t (List.mem_flatMap.2 ⟨_, hs, ht⟩)
    unfold Pl.tForm at hft
    rw [Bool.and_eq_true, Bool.and_eq_true, Bool.and_eq_true] at hft
    have hn := hft.1.1.1
    unfold askT at hk
    by_cases e2 : t.kind = 2
    · rw [if_pos e2, List.mem_singleton] at hk
      rw [e2] at hn
      rw [hk]
      exact good_of (by decide) (by decide) (name_len hn)
    · rw [if_neg e2] at hk
      by_cases e1 : t.kind = 1
      · rw [if_pos e1, List.mem_singleton] at hk
        rw [e1] at hn
        rw [hk]
        exact good_of (by decide) (by decide) (name_len hn)
      · rw [if_neg e1] at hk
        cases hk
/-- the paths that are left of the first ones -/
def opTo (ns : List Pl.Nd) (l : List Pl.D3) (k : Nat) : List Pl.D3 := (l.take k).filter (openB ns)
theorem opTo_no {ns : List Pl.Nd} {l : List Pl.D3} {k : Nat} (h : k < l.length) (ho : openB ns l[k] = false) : opTo ns l (k + 1) = opTo ns l k := by
  unfold opTo
  rw [List.take_succ_eq_append_getElem h, List.filter_append]
  simp [ho]
theorem opTo_yes {ns : List Pl.Nd} {l : List Pl.D3} {k : Nat} (h : k < l.length) (ho : openB ns l[k] = true) : opTo ns l (k + 1) = opTo ns l k ++ [l[k]] := by
  unfold opTo
  rw [List.take_succ_eq_append_getElem h, List.filter_append]
  simp [ho]
theorem opTo_all (ns : List Pl.Nd) (l : List Pl.D3) : opTo ns l l.length = l.filter (openB ns) := by
  unfold opTo
  rw [List.take_length]
theorem opTo_len (ns : List Pl.Nd) (l : List Pl.D3) (k : Nat) : (opTo ns l k).length ≤ k := by
  unfold opTo
  refine Nat.le_trans (List.length_filter_le _ _) ?_
  rw [List.length_take]
  omega
theorem open_no {ns : List Pl.Nd} {p : Pl.D3} {j : Nat} (h : j < (askP p).length) (hj : (Pl.whoTo ns (askP p)[j] ns.length).length = 0) : openB ns p = false := by
  unfold openB
  rw [List.all_eq_false]
  refine ⟨(askP p)[j], List.getElem_mem h, ?_⟩
  rw [List.length_eq_zero_iff.1 hj]
  decide
theorem open_yes {ns : List Pl.Nd} {p : Pl.D3} (h : ∀ j (h : j < (askP p).length), (Pl.whoTo ns (askP p)[j] ns.length).length ≠ 0) : openB ns p = true := by
  unfold openB
  rw [List.all_eq_true]
  intro k hk
  obtain ⟨j, hj, rfl⟩ := List.getElem_of_mem hk
  have := h j hj
  cases e : Pl.whoTo ns (askP p)[j] ns.length with
  | nil => rw [e] at this; exact absurd rfl this
  | cons a r => rfl
/-- where the walk stands at a lookup -/
theorem at_lookup {P : Program} {ops : Array Oper} {Q : Exit → Act → World → Prop} {rest : List Oper} {a : Act} {w : World} {d : Option Tmp} {t : TypeId} {m x : Operand} {c : Bool} {ty : TypeId} {pos : String} {af : Array Edge} {g : Option (Nat × Bool)} (h : Hid (wpList P ops Q (⟨d, Op.lookup t m x c, ty, pos, af, g⟩ :: rest) a w)) : wpList P ops Q (⟨d, Op.lookup t m x c, ty, pos, af, g⟩ :: rest) a w := h
end Go.Proofs.YtagobgjlhdbhmaaGreatDoor
