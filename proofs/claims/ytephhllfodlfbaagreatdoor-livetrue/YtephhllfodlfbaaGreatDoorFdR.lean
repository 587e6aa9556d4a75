/-
  A key looked up in a map.
-/
import Derived.Test.YtephhllfodlfbaaGreatDoorFdA
import Derived.Deep.AppendLies
import Derived.WalkMore
namespace Go.Proofs.YtephhllfodlfbaaGreatDoor
open Go.RowKit

/-- what lies there for a key, or the zero slice -/
def Looked (ps : List EP) (k : Pl.Key) (v : Value) : Prop := (∃ p ∈ ps, v = p.2 ∧ p.1.key = k) ∨ (v = .slice none 0 0 ∧ ∀ p ∈ ps, p.1.key ≠ k)
theorem run_lookup {w : World} {b : Nat} {ps : List EP} {k : Pl.Key} (h : MapAt w b ps) (hg : ∀ p ∈ ps, Good p.1.key) (hk : Good k) (hzero : ∀ u : World, (zeroValue 40).run Tryz.prog u = .ok (.slice none 0 0) u) :
    ∃ v, (Instr.lookup 83 (.map (some b)) (keyV k) false).run Tryz.prog w = .ok v w ∧ Looked ps k v := by
  obtain ⟨es, clock, hb, hmap, hborn, hnd⟩ := h
  obtain ⟨lx, hlx⟩ := keyOf_any k hk.1 hk.2
  have hall : ∀ e ∈ es.toList, ∃ l, keyOf Tryz.prog 128 e.key = some l := by
    intro e he
    obtain ⟨j, hj, rfl⟩ := List.getElem_of_mem he
    obtain ⟨hj2, hkey, _⟩ := entry_key hmap (List.getElem?_eq_getElem hj)
    rw [hkey]
    have := hg ps[j] (List.getElem_mem hj2)
    exact keyOf_any _ this.1 this.2
  have hl : es.toList.length = ps.length := by have := congrArg List.length hmap; simpa using this
  rcases Tryz.keyed99.find w hlx es.toList hall with ⟨hf, hne⟩ | ⟨j, e, hf, hje, hke⟩
  · refine ⟨.slice none 0 0, by simp [Instr.lookup, run_underlying Tryz.underlying83, MapKept.run_getObj_map hb, Tryz.keyed99.check w _ hlx, hf, hzero, Result.andThen], Or.inr ⟨rfl, ?_⟩⟩
    intro p hp e1
    obtain ⟨i, hi, rfl⟩ := List.getElem_of_mem hp
    obtain ⟨_, h1, _⟩ := entry_key hmap (List.getElem?_eq_getElem (l := es.toList) (i := i) (by omega))
    refine hne es.toList[i] (List.getElem_mem _) ?_
    rw [h1, e1]
  · obtain ⟨hj, h1, h2⟩ := entry_key hmap hje
    have hje2 : es[j]? = some e := by simpa using hje
    have hkk : ps[j].1.key = k := keyV_inj (h1.symm.trans hke)
    refine ⟨ps[j].2, ?_, Or.inl ⟨ps[j], List.getElem_mem hj, rfl, hkk⟩⟩
    rw [← h2]
    simp [Instr.lookup, run_underlying Tryz.underlying83, MapKept.run_getObj_map hb, Tryz.keyed99.check w _ hlx, hf, Result.andThen]
theorem wpList_lookup {ops : Array Oper} {rest : List Oper} {o : Oper} {a : Act} {Q : Exit → Act → World → Prop} {w : World} {b : Nat} {ps : List EP} {k : Pl.Key} (hgd : o.guard = none) (m x : Operand) (hop : o.op = Op.lookup 83 m x false) (hm : a.eval m = .map (some b)) (hx : a.eval x = keyV k)
    (h : MapAt w b ps) (hg : ∀ p ∈ ps, Good p.1.key) (hk : Good k) (hzero : ∀ u : World, (zeroValue 40).run Tryz.prog u = .ok (.slice none 0 0) u)
    (hK : ∀ v, Looked ps k v → wpList Tryz.prog ops Q rest (a.put o.dst v) w) : wpList Tryz.prog ops Q (o :: rest) a w := by
  refine wpList_plain hgd fun K' hK' => ?_
  obtain ⟨v, hrun, h1⟩ := run_lookup h hg hk hzero
  unfold Oper.wp
  simp [execOp, hop, hm, hx, hrun, Result.andThen]
  exact hK' _ _ (hK v h1)
end Go.Proofs.YtephhllfodlfbaaGreatDoor
/-
  What lies in the map for a key: as many as have it.
-/
namespace Go.Proofs.YtephhllfodlfbaaGreatDoor
open Go.RowKit

theorem places_some {k : Pl.Key} : ∀ {l : List Pl.En}, (l.map (·.key)).Nodup → ∀ e ∈ l, e.key = k → Pl.placesOf k l = e.nodes
  | [], _, e, he, _ => by cases he
  | x :: r, hn, e, he, hk => by
    rw [List.map_cons, List.nodup_cons] at hn
    unfold Pl.placesOf
    rcases List.mem_cons.1 he with rfl | he
    · rw [if_pos hk]
    · rw [if_neg (fun e1 => hn.1 (by rw [e1, ← hk]; exact List.mem_map.2 ⟨e, he, rfl⟩))]
      exact places_some hn.2 e he hk
theorem looked_len {ns : List Pl.Nd} {ps : List EP} {k : Pl.Key} {v : Value} {B : Nat} {w : World} (h : Looked ps k v) (hf : Fam B w ps) (hm : ps.map (·.1) = Pl.gathTo ns ns.length) (hd : ∀ x ∈ ns, (Pl.keysOf x).Nodup) : ∃ a c, v = .slice a (Pl.whoTo ns k ns.length).length c := by
  rw [← Pl.gath_places hd k ns.length]
  rcases h with ⟨p, hp, rfl, hk⟩ | ⟨rfl, hn⟩
  · have h1 : Pl.placesOf k (Pl.gathTo ns ns.length) = p.1.nodes := places_some (Pl.gath_nodup ns _) p.1 (by rw [← hm]; exact List.mem_map.2 ⟨p, hp, rfl⟩) hk
    obtain ⟨a, c, e⟩ := own_form (hf.ints p hp)
    exact ⟨a, c, by rw [h1, e]⟩
  · refine ⟨none, 0, ?_⟩
    rw [Pl.places_none (fun e he => ?_)]
    · rfl
    · rw [← hm] at he
      obtain ⟨p, hp, rfl⟩ := List.mem_map.1 he
      exact hn p hp
end Go.Proofs.YtephhllfodlfbaaGreatDoor
/-
  Closed values that the laws of the index begin with.
-/
namespace Go.Proofs.YtephhllfodlfbaaGreatDoor

/-- what index.Find answers: its error, its places -/
def findErr (ns : List Pl.Nd) (x : List Pl.Er) (l : List Pl.D3) : Int := if pageErr ns x = 0 then chkList l else pageErr ns x
def findA (ns : List Pl.Nd) (x : List Pl.Er) (l : List Pl.D3) : List Nat := if findErr ns x l = 0 then allTo (m3 ns l) ns.length else []
theorem allTo_ext {f g : Nat → Bool} {n : Nat} (h : ∀ i, i < n → f i = g i) : allTo f n = allTo g n :=
  List.filter_congr fun i hi => h i (List.mem_range.1 hi)
theorem find_open {ns : List Pl.Nd} {l : List Pl.D3} (h : chkList l = 0) : allTo (m3 ns (l.filter (openB ns))) ns.length = allTo (m3 ns l) ns.length := allTo_ext fun _ hi => m3_open hi h
end Go.Proofs.YtephhllfodlfbaaGreatDoor
/-
  Cells of paths, and what a path asks for: names that are right.
-/
namespace Go.Proofs.YtephhllfodlfbaaGreatDoor
open Go.RowKit

/-- the cells of paths -/
def PV (w : World) (l : List Pl.D3) (xs : List Value) : Prop := ∀ i (h : i < l.length), ∃ v u, xs[i * 2]? = some v ∧ xs[i * 2 + 1]? = some u ∧ RowAt (StpAt A2) 2 w v l[i].steps ∧ RowAt IntAt 1 w u l[i].links
theorem PV.on {w w' : World} {l : List Pl.D3} {xs : List Value} (h : PV w l xs) (hb : Below w.heap.size w w') : PV w' l xs := fun i hi => by
  obtain ⟨v, u, h0, h1, h2, h3⟩ := h i hi
  exact ⟨v, u, h0, h1, h2.map fun b o x hx => hx.on isL_2 hb, h3.map fun b o x hx => cell_on hb hx⟩
theorem PV.nil (w : World) : PV w [] [] := fun i hi => by simp at hi
theorem PV.snoc {w : World} {l : List Pl.D3} {p : Pl.D3} {xs : List Value} {v u : Value} (h : PV w l xs) (hl : xs.length = l.length * 2) (h2 : RowAt (StpAt A2) 2 w v p.steps) (h3 : RowAt IntAt 1 w u p.links) : PV w (l ++ [p]) (xs ++ [v, u]) := fun i hi => by
  by_cases hlt : i < l.length
  · obtain ⟨v', u', h0, h1, h2, h3⟩ := h i hlt
    refine ⟨v', u', ?_, ?_, ?_, ?_⟩
    · rw [List.getElem?_append_left (by omega)]; exact h0
    · rw [List.getElem?_append_left (by omega)]; exact h1
    · rw [List.getElem_append_left hlt]; exact h2
    · rw [List.getElem_append_left hlt]; exact h3
  · have e : i = l.length := by simp at hi; omega
    subst e
    refine ⟨v, u, ?_, ?_, ?_, ?_⟩
    · rw [List.getElem?_append_right (by omega), hl, Nat.sub_self]; rfl
    · rw [List.getElem?_append_right (by omega), hl, show l.length * 2 + 1 - l.length * 2 = 1 by omega]; rfl
    · rw [List.getElem_append_right (by omega)]; simpa using h2
    · rw [List.getElem_append_right (by omega)]; simpa using h3
theorem a3_of {w : World} {base : Nat} {v : Value} {l : List Pl.D3} {xs : List Value} (h : w.ownsRow base 64 2 v l.length xs) (hp : PV w l xs) : A3 w v l := by
  rcases h.2 with ⟨rfl, h0⟩ | ⟨g, cap, cur, rfl, hb, hg, h1, h2, h3, h4⟩
  · have e : l = [] := List.length_eq_zero_iff.1 h0
    subst e
    exact RowAt.nil _ _ _
  · refine ⟨_, _, rfl, ⟨h1, h2⟩, Or.inr ⟨g, 0, rfl, fun i hi => ?_⟩⟩
    obtain ⟨v, u, q0, q1, q2, q3⟩ := hp i hi
    have hc : ∀ j x, xs[j]? = some x → w.cell? ⟨g, j, none⟩ = some x := by
      intro j x hx
      rw [← h4] at hx
      have hlt : j < l.length * 2 := by
        have := (List.getElem?_eq_some_iff.1 hx).1
        simp at this
        omega
      rw [List.getElem?_take_of_lt hlt, Array.getElem?_toList] at hx
      unfold World.cell?
      dsimp only
      rw [hg]
      simpa using hx
    exact ⟨v, u, by simpa using hc _ _ q0, by simpa using hc _ _ q1, q2, q3⟩
theorem info70 : (Tryz.prog.info? 64).map (fun i => (i.zero, i.size, i.bytes)) = some (some (.agg #[.slice none 0 0, .slice none 0 0]), 2, 48) := by kernel_rfl
/-- one path more -/
theorem wpList_padd {ops : Array Oper} {rest : List Oper} {o : Oper} {a : Act} {Q : Exit → Act → World → Prop} {B : Nat} {w2 : World} {v : Value} {n : Nat} {xs : List Value} {a1 a2 : Option Addr} {n1 n2 c1 c2 : Nat} (hgd : o.guard = none) (s t : Operand)
    (ho : o.op = .call { callee := .builtin .append, args := #[s, t], argTypes := #[29, 29] }) (hs : a.eval s = v) (hx : a.eval t = .slice (some ⟨w2.heap.size, 0, none⟩) 1 1)
    (hown : w2.ownsRow B 64 2 v n xs) (hlen : n + 1 ≤ 64) (hB : B ≤ w2.heap.size)
    (h : ∀ g cap w', w'.ownsRow B 64 2 (.slice (some ⟨g, 0, none⟩) (n + 1) cap) (n + 1) (xs ++ [.slice a1 n1 c1, .slice a2 n2 c2]) → (w2.alloc (.cells #[.slice a1 n1 c1, .slice a2 n2 c2] 64)).grownBy w' v.ownBlock → wpList Tryz.prog ops Q rest (a.put o.dst (.slice (some ⟨g, 0, none⟩) (n + 1) cap)) w') :
    wpList Tryz.prog ops Q (o :: rest) a (w2.alloc (.cells #[.slice a1 n1 c1, .slice a2 n2 c2] 64)) := by
  obtain ⟨i0, hi, hz0, hz1, hz2⟩ := info_parts info70
  refine wpList_append_lies _ hgd s t 29 ho B 64 i0 _ 2 48 Tryz.underlying29 hi hz0 hz1 hz2 rfl (by decide) v n xs hs (own_on hown (on_alloc _ _)) ⟨w2.heap.size, 0, none⟩ 1 1 [.slice a1 n1 c1, .slice a2 n2 c2] hx rfl ?_ ?_ (by decide) (by unfold maxLen; omega) (by omega) (by simp; omega) _ rfl ?_
  · exact World.news_of_block (heap_alloc_new w2 _)
  · intro u hu
    simp only [List.mem_cons, List.not_mem_nil, or_false] at hu
    rcases hu with rfl | rfl <;> rfl
  · intro g cap w' h1 h2 _ _
    exact h g cap w' h1 h2
theorem name_len {l : List UInt8} (h : Pl.isName l = true) : l.length ≤ 12 := by
  unfold Pl.isName at h
  simp only [Bool.and_eq_true, decide_eq_true_eq] at h
  exact h.1.1.2
theorem good_of {q : Int} {l : List UInt8} (a : 1 ≤ q) (b : q ≤ 3) (c : l.length ≤ 12) : Good (q, l) :=
  ⟨WalkArith.wf_i64 ⟨by simp only; omega, by simp only; omega⟩, by unfold maxLen; simp only; omega⟩
theorem ask_good {α : Type} {p : Pl.Pth α} (hf : Pl.pForm Pl.isName Pl.isValue p = true) : ∀ k ∈ askP p, Good k := by
  intro k hk
  unfold Pl.pForm at hf
  rw [Bool.and_eq_true, List.all_eq_true, List.all_eq_true] at hf
  unfold askP at hk
  rw [List.mem_flatMap] at hk
  obtain ⟨s, hs, hk⟩ := hk
  unfold askS at hk
  rw [List.mem_append] at hk
  rcases hk with hk | hk
  · by_cases e : s.tag = []
    · rw [if_pos e] at hk; cases hk
    · rw [if_neg e, List.mem_singleton] at hk
      have h1 := hf.1 s hs
      rw [Bool.or_eq_true] at h1
      rcases h1 with h1 | h1
      · exact absurd (List.isEmpty_iff.1 h1) e
      · rw [hk]
        exact good_of (by decide) (by decide) (name_len h1)
  · rw [List.mem_flatMap] at hk
    obtain ⟨t, ht, hk⟩ := hk
    have hft := hf.2 t (List.mem_flatMap.2 ⟨_, hs, ht⟩)
    unfold Pl.tForm at hft
    rw [Bool.and_eq_true, Bool.and_eq_true, Bool.and_eq_true] at hft
    have hn := hft.1.1.1
    unfold askT at hk
    by_cases e2 : t.kind = 2
    · rw [if_pos e2, List.mem_singleton] at hk
      rw [e2] at hn
      rw [hk]
      exact good_of (by decide) (by decide) (name_len hn)
    · rw [if_neg e2] at hk
      by_cases e1 : t.kind = 1
      · rw [if_pos e1, List.mem_singleton] at hk
        rw [e1] at hn
        rw [hk]
        exact good_of (by decide) (by decide) (name_len hn)
      · rw [if_neg e1] at hk
        cases hk
/-- the paths that are left of the first ones -/
def opTo (ns : List Pl.Nd) (l : List Pl.D3) (k : Nat) : List Pl.D3 := (l.take k).filter (openB ns)
theorem opTo_no {ns : List Pl.Nd} {l : List Pl.D3} {k : Nat} (h : k < l.length) (ho : openB ns l[k] = false) : opTo ns l (k + 1) = opTo ns l k := by
  unfold opTo
  rw [List.take_succ_eq_append_getElem h, List.filter_append]
  simp [ho]
theorem opTo_yes {ns : List Pl.Nd} {l : List Pl.D3} {k : Nat} (h : k < l.length) (ho : openB ns l[k] = true) : opTo ns l (k + 1) = opTo ns l k ++ [l[k]] := by
  unfold opTo
  rw [List.take_succ_eq_append_getElem h, List.filter_append]
  simp [ho]
theorem opTo_all (ns : List Pl.Nd) (l : List Pl.D3) : opTo ns l l.length = l.filter (openB ns) := by
  unfold opTo
  rw [List.take_length]
theorem opTo_len (ns : List Pl.Nd) (l : List Pl.D3) (k : Nat) : (opTo ns l k).length ≤ k := by
  unfold opTo
  refine Nat.le_trans (List.length_filter_le _ _) ?_
  rw [List.length_take]
  omega
theorem open_no {ns : List Pl.Nd} {p : Pl.D3} {j : Nat} (h : j < (askP p).length) (hj : (Pl.whoTo ns (askP p)[j] ns.length).length = 0) : openB ns p = false := by
  unfold openB
  rw [List.all_eq_false]
  refine ⟨(askP p)[j], List.getElem_mem h, ?_⟩
  rw [List.length_eq_zero_iff.1 hj]
  decide
theorem open_yes {ns : List Pl.Nd} {p : Pl.D3} (h : ∀ j (h : j < (askP p).length), (Pl.whoTo ns (askP p)[j] ns.length).length ≠ 0) : openB ns p = true := by
  unfold openB
  rw [List.all_eq_true]
  intro k hk
  obtain ⟨j, hj, rfl⟩ := List.getElem_of_mem hk
  have := h j hj
  cases e : Pl.whoTo ns (askP p)[j] ns.length with
  | nil => rw [e] at this; exact absurd rfl this
  | cons a r => rfl
/-- where the walk stands at a lookup -/
theorem at_lookup {P : Program} {ops : Array Oper} {Q : Exit → Act → World → Prop} {rest : List Oper} {a : Act} {w : World} {d : Option Tmp} {t : TypeId} {m x : Operand} {c : Bool} {ty : TypeId} {pos : String} {af : Array Edge} {g : Option (Nat × Bool)} (h : Hid (wpList P ops Q (⟨d, Op.lookup t m x c, ty, pos, af, g⟩ :: rest) a w)) : wpList P ops Q (⟨d, Op.lookup t m x c, ty, pos, af, g⟩ :: rest) a w := h
end Go.Proofs.YtephhllfodlfbaaGreatDoor
/-
  index.possible: the paths that do not ask for what nobody has.
-/
namespace Go.Proofs.YtephhllfodlfbaaGreatDoor
open Go.RowKit

theorem chk_fits {l : List Pl.D3} (h : chkList l = 0) : l.length ≤ 5 ∧ ∀ p ∈ l, p.steps.length ≤ 5 ∧ (∀ s ∈ p.steps, s.tests.length ≤ 6) ∧ Pl.pForm Pl.isName Pl.isValue p = true := by
  obtain ⟨h1, _, h3, _⟩ := chk_parts h
  unfold Pl.fit3 Pl.fitUp at h1
  rw [Bool.and_eq_true, decide_eq_true_eq, List.all_eq_true] at h1
  unfold Pl.form3 Pl.evUp at h3
  rw [List.all_eq_true] at h3
  refine ⟨h1.1.2, fun p hp => ?_⟩
  have h2 := h1.2 p hp
  have h4 := h3 p hp
  rw [Bool.and_eq_true] at h2 h4
  have h5 := h2.1
  unfold Pl.pFits at h5
  rw [Bool.and_eq_true, decide_eq_true_eq, List.all_eq_true] at h5
  exact ⟨h5.1.2.1, fun s hs => by simpa using h5.2 s hs, h4.1⟩
/-- the row of paths that is built -/
def POut (w wr : World) (ns : List Pl.Nd) (l : List Pl.D3) (u : Value) (k : Nat) : Prop := ∃ xs, xs.length = (opTo ns l k).length * 2 ∧ wr.ownsRow w.heap.size 64 2 u (opTo ns l k).length xs ∧ PV w (opTo ns l k) xs
theorem POut.on {w wr w' : World} {ns : List Pl.Nd} {l : List Pl.D3} {u : Value} {k : Nat} (h : POut w wr ns l u k) (hb : Below wr.heap.size wr w') : POut w w' ns l u k := by
  obtain ⟨xs, h1, h2, h3⟩ := h
  exact ⟨xs, h1, own_on h2 hb, h3⟩
theorem POut.form {w wr : World} {ns : List Pl.Nd} {l : List Pl.D3} {u : Value} {k : Nat} (h : POut w wr ns l u k) : ∃ a c, u = .slice a (opTo ns l k).length c := by
  obtain ⟨xs, _, h2, _⟩ := h
  exact own_form h2
theorem POut.no {w wr : World} {ns : List Pl.Nd} {l : List Pl.D3} {u : Value} {k : Nat} (h : POut w wr ns l u k) (hk : k < l.length) (ho : openB ns l[k] = false) : POut w wr ns l u (k + 1) := by
  unfold POut
  rw [opTo_no hk ho]
  exact h
set_option maxRecDepth 100000 in
set_option maxHeartbeats 8000000 in
theorem possible_any (b : Nat) (ps : List EP) (v : Value) (ns : List Pl.Nd) (l : List Pl.D3) (w : World) (hm : MapAt w b ps) (hf : Fam (b + 1) w ps) (hp : ps.map (·.1) = Pl.gathTo ns ns.length) (hd : ∀ x ∈ ns, (Pl.keysOf x).Nodup) (hgk : ∀ p ∈ ps, Good p.1.key) (hl : A3 w v l) (hc : chkList l = 0) :
    Calls Tryz.prog 45 #[.map (some b), v] w fun e w' => ∃ u, e = .returned u ∧ POut w w' ns l u l.length ∧ Below w.heap.size w w' := by
  obtain ⟨h5, hfit⟩ := chk_fits hc
  have HFIT : Hid _ := hfit
  obtain ⟨a, c, rfl, _, hA⟩ := hl
  have HA : Hid _ := hA
  have HM : Hid (∀ W, Below w.heap.size w W → MapAt W b ps) := fun W hW => hm.on (hW.block b hm.lt)
  have HF : Hid (∀ W, Below w.heap.size w W → Fam (b + 1) W ps) := fun W hW => hf.on hW
  have HP : Hid _ := hp
  have HD : Hid _ := hd
  have HGK : Hid _ := hgk
  clear hfit hA hm hf hp hd hgk hc
  go_enter Tryz.func45, Tryz.ntmps45
  go_wp2
  go_step3
  go_wp2
  go_step3
  go_wp2
  go_loopw [5, 12] (fun u i wr => ∃ k : Nat, k ≤ l.length ∧ i = .int .i64 k ∧ Hid (POut w wr ns l u k) ∧ Hid (Below w.heap.size w wr)) (fun _ i _ => l.length - (intOf i).toNat)
  case atStart => exact ⟨0, Nat.zero_le _, rfl, ⟨[], rfl, World.ownsRow_nil _ _ _ _, PV.nil _⟩, Below.refl _ _⟩
  case round =>
    obtain ⟨k, hk, rfl, HO, HB⟩ := hrel
    obtain ⟨au, cu, rfl⟩ := HO.out.form
    by_cases hlt : k < l.length
    · rcases HA.out with h0 | ⟨b0, o, rfl, hcell⟩
      · rw [h0] at hlt; simp at hlt
      obtain ⟨vs, vl, n0, n1, hS, hL⟩ := hcell k hlt
      obtain ⟨f1, f2, f3⟩ := HFIT.out l[k] (List.getElem_mem hlt)
      obtain ⟨as_, cs, rfl⟩ := hS.form
      obtain ⟨al, cl, rfl⟩ := hL.form
      have HS : Hid (RowAt (StpAt A2) 2 w (.slice as_ l[k].steps.length cs) l[k].steps) := hS
      have HL : Hid (RowAt IntAt 1 w (.slice al l[k].links.length cl) l[k].links) := hL
      have HN0 : Hid (∀ ho, POut w wr ns l (.slice au (opTo ns l k).length cu) k → openB ns l[k] = ho → True) := fun _ _ _ => trivial
      have HNO : Hid (∀ W, openB ns l[k] = false → POut w W ns l (.slice au (opTo ns l k).length cu) k → POut w W ns l (.slice au (opTo ns l k).length cu) (k + 1)) := fun W ho h => h.no hlt ho
      have HYES : Hid (openB ns l[k] = true → opTo ns l (k + 1) = opTo ns l k ++ [l[k]]) := opTo_yes hlt
      have HON : Hid (∀ j (h : j < (askP l[k]).length), (Pl.whoTo ns (askP l[k])[j] ns.length).length = 0 → openB ns l[k] = false) := fun j h hj => open_no h hj
      have HOY : Hid ((∀ j (h : j < (askP l[k]).length), (Pl.whoTo ns (askP l[k])[j] ns.length).length ≠ 0) → openB ns l[k] = true) := open_yes
      have HGD : Hid (∀ j (h : j < (askP l[k]).length), Good (askP l[k])[j]) := fun j h => ask_good f3 _ (List.getElem_mem h)
      replace n0 := cell_on HB.out n0
      replace n1 := cell_on HB.out n1
      have HLo : Hid ((opTo ns l k).length + 1 ≤ 64) := by unfold Hid; have := opTo_len ns l k; omega
      have i1 : (0 : Int) ≤ (k : Int) := by omega
      have i2 : (k : Int) < (l.length : Int) := by omega
      clear hcell hS hL HN0
      generalize l[k] = p at *
      have HBa : Hid (Below wr.heap.size wr (wr.alloc (.cells #[.slice as_ p.steps.length cs, .slice al p.links.length cl] 64))) := on_alloc _ _
      have c0 : (wr.alloc (.cells #[.slice as_ p.steps.length cs, .slice al p.links.length cl] 64)).cell? ⟨wr.heap.size, 0, none⟩ = some (.slice as_ p.steps.length cs) := by simp [go_sem]
      have c1 : (wr.alloc (.cells #[.slice as_ p.steps.length cs, .slice al p.links.length cl] 64)).cell? ⟨wr.heap.size, 1, none⟩ = some (.slice al p.links.length cl) := by simp [go_sem]
      have HC0 : Hid _ := c0
      have HC1 : Hid _ := c1
      clear c0 c1
      obtain ⟨wq, hwq⟩ : ∃ q, q = wr := ⟨_, rfl⟩
      subst hwq
      go_wp2_with fail
      generalize wq.alloc (.cells #[.slice as_ p.steps.length cs, .slice al p.links.length cl] 64) = w0 at *
      have hB0 : Below w.heap.size w w0 := below_trans HB.out HBa.out
      refine (asked_any isL_2 _ p _ ⟨_, _, rfl, HS.out.map fun b o x hx => hx.on isL_2 hB0, HL.out.map fun b o x hx => cell_on hB0 hx⟩ f1 f2).mono ?_
      rintro e w1 ⟨u, rfl, hK, hb1⟩
      obtain ⟨ak, ck, rfl⟩ := own_form hK
      have HK : Hid (KR (w0.heap.size + 1) w1 (.slice ak (askP p).length ck) (askP p)) := hK
      have HB1 : Hid (Below w.heap.size w w1) := below_trans hB0 hb1
      have HO1 : Hid (POut w w1 ns l (.slice au (opTo ns l k).length cu) k) := (HO.out.on HBa.out).on hb1
      have HX1 : Hid (w1.cell? ⟨wq.heap.size, 0, none⟩ = some (.slice as_ p.steps.length cs) ∧ w1.cell? ⟨wq.heap.size, 1, none⟩ = some (.slice al p.links.length cl)) := ⟨cell_on hb1 HC0.out, cell_on hb1 HC1.out⟩
      have hkl : (askP p).length ≤ 35 := by rw [← askTo_all]; exact askTo_len f2 f1
      clear hK hb1 hB0 HC0 HC1 HBa n0 n1 f1 f2 f3
      generalize askP p = ks at *
      go_wp2
      go_loopw [19] (fun i wy => ∃ j : Nat, j ≤ ks.length ∧ i = .int .i64 j ∧ Hid (∀ j' (h : j' < ks.length), j' < j → (Pl.whoTo ns ks[j'] ns.length).length ≠ 0) ∧ Hid (Below w1.heap.size w1 wy)) (fun i _ => ks.length - (intOf i).toNat)
      case atStart => exact ⟨0, Nat.zero_le _, rfl, fun j' _ h => by omega, Below.refl _ _⟩
      case round =>
        as_aux_lemma =>
        obtain ⟨j, hj, rfl, HQ, HBy⟩ := hrel
        by_cases hjl : j < ks.length
        · obtain ⟨g, cg, eg, _, _⟩ := HK.out.form (by omega)
          obtain ⟨rfl, rfl⟩ : ak = some ⟨g, 0, none⟩ ∧ ck = cg := by injection eg with q1 q2 q3; exact ⟨q1, q3⟩
          obtain ⟨q0, q1⟩ := own_two (own_on HK.out HBy.out) hjl (keyCells_get ks j hjl)
          have HGj := HGD.out j hjl
          have HONj := HON.out j hjl
          have HQn : Hid ((Pl.whoTo ns ks[j] ns.length).length ≠ 0 → ∀ j' (h : j' < ks.length), j' < j + 1 → (Pl.whoTo ns ks[j'] ns.length).length ≠ 0) := fun hn j' h h' => by
            by_cases e : j' = j
            · subst e; exact hn
            · exact HQ.out j' h (by omega)
          have HLL : Hid (∀ (v : Value), Looked ps ks[j] v → ∃ a c, v = .slice a (Pl.whoTo ns ks[j] ns.length).length c) := fun v hv => looked_len hv (HF.out _ (Below.refl _ _)) HP.out HD.out
          generalize ks[j] = key at *
          generalize (Pl.whoTo ns key ns.length).length = N at *
          obtain ⟨kk, kn⟩ := key
          dsimp only at q0 q1
          have HGJ : Hid (Good (kk, kn)) := HGj
          have HONJ : Hid _ := HONj
          have j1 : (0 : Int) ≤ (j : Int) := by omega
          have j2 : (j : Int) < (ks.length : Int) := by omega
          have HBz : Hid (Below w1.heap.size w1 (wr.alloc (.cells #[.int .i64 kk, .string ⟨kn.toArray⟩] 128))) := below_trans HBy.out (on_alloc _ _)
          clear HGj HONj eg
          go_wp2_with (with_reducible refine at_lookup ?_)
          generalize wr.alloc (.cells #[.int .i64 kk, .string ⟨kn.toArray⟩] 128) = wz at *
          unfold Hid
          refine wpList_lookup (b := b) (ps := ps) (k := (kk, kn)) ?_ (.tmp 23) (.tmp 24) ?_ ?_ ?_ (HM.out _ (below_trans HB1.out HBz.out)) HGK.out HGJ.out Tryz.zero55 ?_
          · rfl
          · rfl
          · rfl
          · rfl
          as_aux_lemma =>
          intro vv hvv
          obtain ⟨av, cv, rfl⟩ := HLL.out vv hvv
          clear hvv q0 q1
          rcases Nat.eq_zero_or_pos N with hN | hN
          · subst hN
            have HO2 : Hid (POut w wz ns l (.slice au (opTo ns l k).length cu) (k + 1)) := HNO.out _ (HONJ.out rfl) (HO1.out.on HBz.out)
            have HB2 : Hid (Below w.heap.size w wz) := below_trans HB1.out HBz.out
            go_wp2
            exact ⟨⟨k + 1, hlt, by go_num, HO2, HB2⟩, by simp [intOf]; omega⟩
          · have hN1 : ¬ ((N : Int) = 0) := by omega
            have HQ2 := HQn.out (by omega)
            have HQ3 : Hid (∀ j' (h : j' < ks.length), j' < j + 1 → (Pl.whoTo ns ks[j'] ns.length).length ≠ 0) := HQ2
            clear HQ2
            go_wp2
            exact ⟨⟨j + 1, hjl, by go_num, HQ3, HBz⟩, by simp [intOf]; omega⟩
        · have HOp : Hid (openB ns p = true) := HOY.out fun j' h => HQ.out j' h (by omega)
          obtain ⟨x0, x1⟩ := HX1.out
          replace x0 := cell_on HBy.out x0
          replace x1 := cell_on HBy.out x1
          obtain ⟨xs, hxl, hxo, hxp⟩ := HO1.out.on HBy.out
          have HXL : Hid _ := hxl
          have HXO : Hid (wr.ownsRow w.heap.size 64 2 (.slice au (opTo ns l k).length cu) (opTo ns l k).length xs) := hxo
          have HXP : Hid (PV w (opTo ns l k) xs) := hxp
          have HBw : Hid (Below w.heap.size w wr) := below_trans HB1.out HBy.out
          have hsz : w.heap.size ≤ wr.heap.size := HBw.out.size
          clear hxl hxo hxp
          go_wp2_with (at_builtin; refine Hid.out ?_)
          unfold Hid
          refine wpList_padd (B := w.heap.size) (w2 := wr) (v := .slice au (opTo ns l k).length cu) (n := (opTo ns l k).length) (xs := xs) (a1 := as_) (n1 := p.steps.length) (c1 := cs) (a2 := al) (n2 := p.links.length) (c2 := cl) ?_ (.tmp 29) (.tmp 31) ?_ ?_ ?_ HXO.out HLo.out hsz ?_
          · rfl
          · rfl
          · rfl
          · first | rfl | (simp [Act.eval]; done)
          as_aux_lemma =>
          intro g cap w' ho' hg'
          have HO' : Hid (POut w w' ns l (.slice (some ⟨g, 0, none⟩) ((opTo ns l k).length + 1) cap) (k + 1)) := by
            refine ⟨xs ++ [.slice as_ p.steps.length cs, .slice al p.links.length cl], ?_, ?_, ?_⟩
            · rw [HYES.out HOp.out]; simp [HXL.out]; omega
            · rw [HYES.out HOp.out, List.length_append]; exact ho'
            · rw [HYES.out HOp.out]; exact HXP.out.snoc HXL.out HS.out HL.out
          have HB' : Hid (Below w.heap.size w w') := (below_trans HBw.out (on_alloc _ _)).grown hg' (by have := HBw.out.size; simp; omega) (fun k hk => by have := (HXO.out.lt k hk).1; omega)
          clear ho' hg'
          go_wp2
          exact ⟨⟨k + 1, hlt, by go_num, HO', HB'⟩, by simp [intOf]; omega⟩
    · obtain rfl : k = l.length := by omega
      go_wp2
      try rw [Exit.noGoto_ret]
      go_ret
      exact ⟨_, rfl, HO.out, HB.out⟩
end Go.Proofs.YtephhllfodlfbaaGreatDoor
