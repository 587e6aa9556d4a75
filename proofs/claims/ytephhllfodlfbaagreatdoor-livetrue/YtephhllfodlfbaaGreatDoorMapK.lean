/-
  treeOf: the tree of an element.
-/
import Derived.Test.YtephhllfodlfbaaGreatDoorFor
import Derived.Test.YtephhllfodlfbaaGreatDoorRmD
import Derived.Deep.RegionHeld3
import Derived.Deep.RegionLaw
import Derived.Test.YtephhllfodlfbaaGreatDoorIdxM
import Derived.Maps.OwnRows
import Derived.DeepKeys5
import Derived.WideKeyEntry
namespace Go.Proofs.YtephhllfodlfbaaGreatDoor
open Go.RowKit

theorem gb_below {w3 W w' : World} {g : Option Nat} (h : w3.grownBy W g) (hb : Below W.heap.size W w') : w3.grownBy w' g :=
  ⟨hb.os.trans h.os, hb.tape.trans h.tape, hb.output.trans h.output, Nat.le_trans h.size hb.size, fun k hk hne => (hb.block k (Nat.lt_of_lt_of_le hk h.size)).trans (h.block k hk hne)⟩
theorem gb_grown {w3 W w' : World} {g g' : Option Nat} (h : w3.grownBy W g) (hb : W.grownBy w' g') (hg : ∀ k, g' = some k → some k = g ∨ w3.heap.size ≤ k) : w3.grownBy w' g :=
  ⟨hb.os.trans h.os, hb.tape.trans h.tape, hb.output.trans h.output, Nat.le_trans h.size hb.size, fun k hk hne => (hb.block k (Nat.lt_of_lt_of_le hk h.size) (fun e => by rcases hg k e.symm with h1 | h1; exact hne h1; omega)).trans (h.block k hk hne)⟩
end Go.Proofs.YtephhllfodlfbaaGreatDoor
/-
  An index that is being built, in memory: an entry put in its place, and a place more for an entry.
-/
namespace Go.Proofs.YtephhllfodlfbaaGreatDoor
open Go.RowKit

theorem step_ecopy {ops : Array Oper} {o : Oper} {a : Act} {w : World} {K : Act → World → Prop} {Q : Exit → Act → World → Prop} {E : Prop} (hgd : o.guard = none) (d s : Operand)
    (ho : o.op = .call { callee := .builtin .copy, args := #[d, s], argTypes := #[30, 30] }) (dp sp : Option Addr) (dLen dCap sLen sCap : Nat) (hd : a.eval d = .slice dp dLen dCap) (hs : a.eval s = .slice sp sLen sCap)
    (B g n cap i : Nat) (qs : List EP) (hown : w.ownsRow B 61 3 (.slice (some ⟨g, 0, none⟩) (n + 1) cap) (n + 1) (pCells qs)) (hq : qs.length = n + 1) (hi : i ≤ n) (hdl : dLen = n - i) (hsl : sLen = n + 1 - i)
    (hdp : i < n → dp = some ⟨g, (i + 1) * 3, none⟩) (hsp : i < n → sp = some ⟨g, i * 3, none⟩) (h1c : ∀ v ∈ pCells qs, v.oneCell' = true)
    (h : ∀ w', Hid (w'.ownsRow B 61 3 (.slice (some ⟨g, 0, none⟩) (n + 1) cap) (n + 1) (pCells (qs.take (i + 1) ++ (qs.drop i).take (n - i)))) → Hid (w.grownBy w' (some g)) → K (a.put o.dst (goInt ((n - i : Nat) : Int))) w') :
    if Region.wanted o (yielded ops a.tmps) = true then Oper.wp Tryz.prog o a w K Q else E := by
  have hw : Region.wanted o (yielded ops a.tmps) = true := by simp [Region.wanted, hgd]
  rw [if_pos hw]
  obtain ⟨w', hrun, h1, h2⟩ := run_ecopy w o.type dp sp dLen dCap sLen sCap B g n cap i qs hown hq hi hdl hsl hdp hsp h1c
  unfold Oper.wp
  simp [execOp, ho, resolve, invoke, builtin, hd, hs, hrun, Result.andThen]
  exact h w' h1 h2
theorem ERow.one {B : Nat} {w : World} {v : Value} {ps : List EP} (h : ERow B w v ps) : ∀ u ∈ pCells ps, u.oneCell' = true := by
  intro u hu
  unfold pCells at hu
  obtain ⟨p, hp, hu⟩ := List.mem_flatMap.1 hu
  obtain ⟨a, c, e⟩ := own_form (h.ints p hp)
  simp only [List.mem_cons, List.not_mem_nil, or_false] at hu
  rcases hu with rfl | rfl | rfl
  · rfl
  · rfl
  · rw [e]; rfl
theorem ERow.one1 {B : Nat} {w : World} {v : Value} {ps : List EP} (h : ERow B w v ps) : ∀ u ∈ pCells (ps ++ [e0]), u.oneCell' = true := by
  intro u hu
  rw [pCells_append] at hu
  rcases List.mem_append.1 hu with hu | hu
  · exact h.one u hu
  · simp only [pCells_cons, e0, List.mem_cons] at hu
    rcases hu with rfl | rfl | rfl | hu
    · rfl
    · rfl
    · rfl
    · simp [pCells] at hu
theorem ins_list {α : Type} {ps : List α} {x : α} {i n : Nat} (hn : ps.length = n) (hi : i ≤ n) (y : α) : ((ps ++ [x]).take (i + 1) ++ ((ps ++ [x]).drop i).take (n - i)).set i y = ps.take i ++ y :: ps.drop i := by
  have h1 : ((ps ++ [x]).drop i).take (n - i) = ps.drop i := by
    rw [List.drop_append_of_le_length (by omega), List.take_append_of_le_length (by simp; omega), List.take_of_length_le (by simp; omega)]
  have hlt : i < (ps ++ [x]).length := by simp; omega
  rw [h1, List.take_succ_eq_append_getElem hlt, List.take_append_of_le_length (by omega), List.append_assoc, List.set_append_right _ _ (by simp; omega)]
  have e : i - (ps.take i).length = 0 := by simp; omega
  rw [e]
  rfl
/-- behind a new entry's place: she is put there -/
theorem ERow.inserted {B : Nat} {w w1 w2 : World} {v : Value} {ps : List EP} {ob : Obj} {g cap n i : Nat} (h : ERow B w v ps) (hn : ps.length = n) (hi : i ≤ n) (hg1 : (w.alloc ob).grownBy w1 v.ownBlock) (hat : v.ownBlock = some g ∨ g = w.heap.size + 1)
    (ho2 : w2.ownsRow B 61 3 (.slice (some ⟨g, 0, none⟩) (n + 1) cap) (n + 1) (pCells ((ps ++ [e0]).take (i + 1) ++ ((ps ++ [e0]).drop i).take (n - i)))) (hg2 : w1.grownBy w2 (some g)) (k : Pl.Key) :
    ERow B (((w2.setCell ⟨g, i * 3, none⟩ (.int .i64 k.1)).setCell ⟨g, i * 3 + 1, none⟩ (.string ⟨k.2.toArray⟩)).setCell ⟨g, i * 3 + 2, none⟩ (.slice none 0 0)) (.slice (some ⟨g, 0, none⟩) (n + 1) cap) (ps.take i ++ (⟨k, []⟩, .slice none 0 0) :: ps.drop i) ∧
      w.grownBy (((w2.setCell ⟨g, i * 3, none⟩ (.int .i64 k.1)).setCell ⟨g, i * 3 + 1, none⟩ (.string ⟨k.2.toArray⟩)).setCell ⟨g, i * 3 + 2, none⟩ (.slice none 0 0)) v.ownBlock := by
  obtain ⟨s1, t1⟩ := World.ownsRow.stored ho2 (i * 3) (.int .i64 k.1)
  obtain ⟨s2, t2⟩ := World.ownsRow.stored s1 (i * 3 + 1) (.string ⟨k.2.toArray⟩)
  obtain ⟨s3, t3⟩ := World.ownsRow.stored s2 (i * 3 + 2) (.slice none 0 0)
  have hlen : i < ((ps ++ [e0]).take (i + 1) ++ ((ps ++ [e0]).drop i).take (n - i)).length := by simp; omega
  rw [show (.int .i64 k.1 : Value) = .int .i64 ((⟨k, []⟩, .slice none 0 0) : EP).1.key.1 from rfl, show (.string ⟨k.2.toArray⟩ : Value) = .string ⟨((⟨k, []⟩, .slice none 0 0) : EP).1.key.2.toArray⟩ from rfl, show (.slice none 0 0 : Value) = ((⟨k, []⟩, .slice none 0 0) : EP).2 from rfl, pCells_put _ i hlen, ins_list hn hi] at s3
  have hga : w.grownBy w1 v.ownBlock := gb_grown (World.grownBy_alloc w ob _) hg1 (fun k hk => Or.inl hk.symm)
  have hgl : ∀ j, some g = some j → some j = v.ownBlock ∨ w.heap.size ≤ j := by
    intro j hj
    injection hj with hj
    subst hj
    rcases hat with h1 | h1
    · exact Or.inl h1.symm
    · exact Or.inr (by omega)
  have hgF := gb_grown (gb_grown (gb_grown (gb_grown hga hg2 hgl) t1 hgl) t2 hgl) t3 hgl
  have hne : ∀ p ∈ ps, p.2.ownBlock = none ∨ p.2.ownBlock ≠ v.ownBlock := by
    intro p hp
    cases hb : p.2.ownBlock with
    | none => exact Or.inl rfl
    | some j => exact Or.inr fun e => h.off p hp j hb e.symm
  refine ⟨⟨?_, ?_, ?_, ?_⟩, hgF⟩
  · have e : (ps.take i ++ ((⟨k, []⟩, .slice none 0 0) : EP) :: ps.drop i).length = n + 1 := by simp; omega
    rw [e]; exact s3
  · intro p hp
    rcases List.mem_append.1 hp with hp | hp
    · have hm := List.mem_of_mem_take hp
      exact (h.ints p hm).kept hgF (hne p hm)
    · rcases List.mem_cons.1 hp with rfl | hp
      · exact World.ownsRow_nil _ _ _ _
      · have hm := List.mem_of_mem_drop hp
        exact (h.ints p hm).kept hgF (hne p hm)
  · have hs := h.apart
    rw [← List.take_append_drop i ps, List.pairwise_append] at hs
    obtain ⟨a1, a2, a3⟩ := hs
    rw [List.pairwise_append]
    refine ⟨a1, List.pairwise_cons.2 ⟨fun q _ j hj => (by cases hj), a2⟩, fun p hp q hq => ?_⟩
    rcases List.mem_cons.1 hq with rfl | hq
    · intro j _ hj; cases hj
    · exact a3 p hp q hq
  · have hoff : ∀ p ∈ ps, ∀ j, p.2.ownBlock = some j → (Value.slice (some ⟨g, 0, none⟩) (n + 1) cap).ownBlock ≠ some j := by
      intro p hp j hj e
      have e2 : g = j := by simpa [Value.ownBlock] using e
      subst e2
      rcases hat with h1 | h1
      · exact h.off p hp g hj h1
      · have := World.ownsRow.lt (h.ints p hp) g hj; omega
    intro p hp
    rcases List.mem_append.1 hp with hp | hp
    · exact hoff p (List.mem_of_mem_take hp)
    · rcases List.mem_cons.1 hp with rfl | hp
      · intro j hj; cases hj
      · exact hoff p (List.mem_of_mem_drop hp)
theorem ERow.apart_at {B : Nat} {w : World} {v : Value} {ps : List EP} (h : ERow B w v ps) {i j : Nat} (hi : i < ps.length) (hj : j < ps.length) (hne : i ≠ j) : Apart ps[i] ps[j] := by
  have := List.pairwise_iff_getElem.1 h.apart
  rcases Nat.lt_or_gt_of_ne hne with h1 | h1
  · exact this i j hi hj h1
  · exact (this j i hj hi h1).symm
/-- a place more -/
theorem ERow.placed {B : Nat} {w w1 : World} {v : Value} {ps : List EP} {ob : Obj} {g cap i n g' cap' : Nat} (h : ERow B w v ps) (hi : i < ps.length) (hv : v = .slice (some ⟨g, 0, none⟩) ps.length cap)
    (ho1 : w1.ownsRow B 3 1 (.slice (some ⟨g', 0, none⟩) (ps[i].1.nodes.length + 1) cap') (ps[i].1.nodes.length + 1) (natCells (ps[i].1.nodes ++ [n]))) (hg1 : (w.alloc ob).grownBy w1 ps[i].2.ownBlock) (hat : ps[i].2.ownBlock = some g' ∨ g' = w.heap.size + 1) :
    ERow B (w1.setCell ⟨g, i * 3 + 2, none⟩ (.slice (some ⟨g', 0, none⟩) (ps[i].1.nodes.length + 1) cap')) v (ps.set i (⟨ps[i].1.key, ps[i].1.nodes ++ [n]⟩, .slice (some ⟨g', 0, none⟩) (ps[i].1.nodes.length + 1) cap')) ∧
      w1.grownBy (w1.setCell ⟨g, i * 3 + 2, none⟩ (.slice (some ⟨g', 0, none⟩) (ps[i].1.nodes.length + 1) cap')) (some g) := by
  subst hv
  have hgb : ((.slice (some ⟨g, 0, none⟩) ps.length cap : Value)).ownBlock = some g := rfl
  have hgw := World.ownsRow.lt h.own g hgb
  have hpi := h.off ps[i] (List.getElem_mem hi)
  have hga : w.grownBy w1 ps[i].2.ownBlock := gb_grown (World.grownBy_alloc w ob _) hg1 (fun k hk => Or.inl hk.symm)
  have own1 : w1.ownsRow B 61 3 (.slice (some ⟨g, 0, none⟩) ps.length cap) ps.length (pCells ps) := h.own.kept hga (Or.inr (by
    rw [hgb]
    intro e
    exact hpi g e.symm hgb))
  obtain ⟨s1, t1⟩ := World.ownsRow.stored own1 (i * 3 + 2) (.slice (some ⟨g', 0, none⟩) (ps[i].1.nodes.length + 1) cap')
  have hset := pCells_set2 ps i hi (⟨ps[i].1.key, ps[i].1.nodes ++ [n]⟩, .slice (some ⟨g', 0, none⟩) (ps[i].1.nodes.length + 1) cap') rfl
  rw [hset] at s1
  have hg'g : g' ≠ g := by
    rcases hat with h1 | h1
    · intro e; subst e; exact hpi g' h1 hgb
    · omega
  have key : ∀ j (hj : j < ps.length), j ≠ i → (w1.setCell ⟨g, i * 3 + 2, none⟩ (.slice (some ⟨g', 0, none⟩) (ps[i].1.nodes.length + 1) cap')).ownsRow B 3 1 ps[j].2 ps[j].1.nodes.length (natCells ps[j].1.nodes) := by
    intro j hj hne
    have a1 : w1.ownsRow B 3 1 ps[j].2 ps[j].1.nodes.length (natCells ps[j].1.nodes) := by
      refine (h.ints ps[j] (List.getElem_mem hj)).kept hga ?_
      cases hb : ps[j].2.ownBlock with
      | none => exact Or.inl rfl
      | some k => exact Or.inr fun e => (h.apart_at hj hi hne) k hb e.symm
    refine a1.kept t1 ?_
    cases hb : ps[j].2.ownBlock with
    | none => exact Or.inl rfl
    | some k =>
      refine Or.inr fun e => ?_
      injection e with e
      subst e
      exact h.off ps[j] (List.getElem_mem hj) k hb hgb
  refine ⟨⟨?_, ?_, ?_, ?_⟩, t1⟩
  · rw [List.length_set]; exact s1
  · intro p hp
    obtain ⟨j, hj, rfl⟩ := List.getElem_of_mem hp
    rw [List.length_set] at hj
    by_cases hji : j = i
    · subst hji
      simp only [List.getElem_set_self, List.length_append, List.length_singleton]
      refine ho1.kept t1 (Or.inr ?_)
      intro e
      have : g' = g := by simpa [Value.ownBlock] using e
      exact hg'g this
    · rw [List.getElem_set_ne (by omega)]
      exact key j hj hji
  · rw [List.pairwise_iff_getElem]
    intro a b ha0 hb0 hab
    have ha : a < ps.length := by rw [List.length_set] at ha0; exact ha0
    have hb : b < ps.length := by rw [List.length_set] at hb0; exact hb0
    by_cases hai : a = i
    · subst hai
      rw [List.getElem_set_self, List.getElem_set_ne (by omega)]
      intro k hk
      have e : g' = k := by simpa [Value.ownBlock] using hk
      subst e
      rcases hat with h1 | h1
      · exact h.apart_at hi hb (by omega) g' h1
      · intro e2; have := World.ownsRow.lt (h.ints ps[b] (List.getElem_mem hb)) g' e2; omega
    · by_cases hbi : b = i
      · subst hbi
        rw [List.getElem_set_self, List.getElem_set_ne (by omega)]
        intro k hk e
        have e2 : g' = k := by simpa [Value.ownBlock] using e
        subst e2
        rcases hat with h1 | h1
        · exact h.apart_at ha hi (by omega) g' hk h1
        · have := World.ownsRow.lt (h.ints ps[a] (List.getElem_mem ha)) g' hk; omega
      · rw [List.getElem_set_ne (by omega), List.getElem_set_ne (by omega)]
        exact h.apart_at ha hb (by omega)
  · intro p hp k hk
    obtain ⟨j, hj, rfl⟩ := List.getElem_of_mem hp
    rw [List.length_set] at hj
    rw [hgb]
    intro e
    injection e with e
    subst e
    by_cases hji : j = i
    · subst hji
      rw [List.getElem_set_self] at hk
      have e2 : g' = g := by simpa [Value.ownBlock] using hk
      exact hg'g e2
    · rw [List.getElem_set_ne (by omega)] at hk
      exact h.off ps[j] (List.getElem_mem hj) g hk hgb
/-- the places of an entry, one more -/
theorem wpList_iadd {ops : Array Oper} {rest : List Oper} {o : Oper} {a : Act} {Q : Exit → Act → World → Prop} {B : Nat} {w2 : World} {v : Value} {l : List Nat} {n : Nat} (hgd : o.guard = none) (s t : Operand)
    (ho : o.op = .call { callee := .builtin .append, args := #[s, t], argTypes := #[40, 40] }) (hs : a.eval s = v) (hx : a.eval t = .slice (some ⟨w2.heap.size, 0, none⟩) 1 1)
    (hown : w2.ownsRow B 3 1 v l.length (natCells l)) (hlen : l.length + 1 ≤ 100000) (hB : B ≤ w2.heap.size)
    (h : ∀ g cap w', w'.ownsRow B 3 1 (.slice (some ⟨g, 0, none⟩) (l.length + 1) cap) (l.length + 1) (natCells (l ++ [n])) → (w2.alloc (.cells #[.int .i64 (n : Int)] 3)).grownBy w' v.ownBlock → (v.ownBlock = some g ∨ g = w2.heap.size + 1) → g < w'.heap.size → wpList Tryz.prog ops Q rest (a.put o.dst (.slice (some ⟨g, 0, none⟩) (l.length + 1) cap)) w') :
    wpList Tryz.prog ops Q (o :: rest) a (w2.alloc (.cells #[.int .i64 (n : Int)] 3)) := by
  obtain ⟨i0, hi, hz0, hz1, hz2⟩ := info_parts Tryz.info3
  refine wpList_append_lies _ hgd s t 40 ho B 3 i0 _ 1 8 Tryz.underlying40 hi hz0 hz1 hz2 rfl (by decide) v l.length (natCells l) hs (own_on hown (on_alloc _ _)) ⟨w2.heap.size, 0, none⟩ 1 1 [.int .i64 (n : Int)] hx rfl ?_ ?_ (by decide) (by unfold maxLen; omega) (by omega) (by simp; omega) (w2.heap.size + 1) (by simp) ?_
  · exact World.news_of_block (heap_alloc_new w2 _)
  · intro u hu
    simp only [List.mem_cons, List.not_mem_nil, or_false] at hu
    rcases hu with rfl
    rfl
  · intro g cap w' h1 h2 h3 h4
    exact h g cap w' (by rw [show natCells (l ++ [n]) = natCells l ++ [.int .i64 (n : Int)] by simp [natCells]]; exact h1) h2 h3 h4
end Go.Proofs.YtephhllfodlfbaaGreatDoor
/-
  Keys of the map that an index is gathered in: a kind and a name.
-/
namespace Go.Proofs.YtephhllfodlfbaaGreatDoor
open Go.RowKit Go.MapKept

theorem Tryz.row99 : 128 < Tryz.prog.types.size := of_decide_eq_true (by kernel_rfl)
theorem Tryz.key2_99 : Tryz.prog.keyTypeAt 2 128 = true := by kernel_rfl
theorem Tryz.keyed99 : Maps.Keyed Tryz.prog 128 := Maps.Keyed.of_law (deep_law_laid laidOutTryz (m := 2) (by decide) Tryz.row99 Tryz.key2_99 (by rw [Tryz.underlying128]))
theorem Tryz.keyT99 : Tryz.prog.keyType 128 = true := by kernel_rfl
theorem Tryz.cells99 : Tryz.prog.cellsOf 128 = 2 := by kernel_rfl
theorem Tryz.cells3 : Tryz.prog.cellsOf 3 = 1 := by kernel_rfl
theorem Tryz.cells9 : Tryz.prog.cellsOf 9 = 1 := by kernel_rfl
/-- a key as a value -/
def keyV (k : Pl.Key) : Value := .agg #[.int .i64 k.1, .string ⟨k.2.toArray⟩]
theorem keyV_inj {a b : Pl.Key} (h : keyV a = keyV b) : a = b := by
  obtain ⟨a1, a2⟩ := a
  obtain ⟨b1, b2⟩ := b
  simpa [keyV] using h
theorem keyOf_any (k : Pl.Key) (hk : (Lit.int .i64 k.1).wf = true) (hn : k.2.length ≤ maxLen) : ∃ l, keyOf Tryz.prog 128 (keyV k) = some l := by
  obtain ⟨m, hm⟩ : ∃ m, Tryz.prog.types.size = m + 1 := ⟨Tryz.prog.types.size - 1, by have := Tryz.row99; omega⟩
  have h1 : Tryz.prog.keyLits (m + 1) 3 [.int .i64 k.1] = some [.int .i64 k.1] := by
    simp [Program.keyLits, Tryz.underlying3, hk]
  have h2 : Tryz.prog.keyLits (m + 1) 9 [.string ⟨k.2.toArray⟩] = some [.string k.2] := by
    simp [Program.keyLits, Tryz.underlying9, ByteArray.size, hn]
  have h3 : Tryz.prog.keyLits (Tryz.prog.types.size + 1) 128 [.int .i64 k.1, .string ⟨k.2.toArray⟩] = some [.int .i64 k.1, .string k.2] := by
    rw [hm]
    unfold Program.keyLits
    rw [Tryz.underlying128]
    simp [Tryz.cells99, Tryz.cells3, Tryz.cells9, h1, h2]
  refine ⟨.string (keyBytes [.int .i64 k.1, .string k.2]), ?_⟩
  unfold keyOf
  rw [Tryz.underlying128]
  simp [keyV, Tryz.keyT99, Value.formed, Tryz.underlying128, Tryz.cells99, Value.cells]
  refine ⟨_, ?_, rfl⟩
  simpa using h3
end Go.Proofs.YtephhllfodlfbaaGreatDoor
