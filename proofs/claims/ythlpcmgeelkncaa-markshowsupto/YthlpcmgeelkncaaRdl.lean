/-
  The strict reader of texts: what reading an element leans on.
-/
import Derived.Test.YthlpcmgeelkncaaRds
import Derived.Test.YthlpcmgeelkncaaRow
import Derived.Deep.RegionLaw
namespace Go.Proofs.Ythlpcmgeelkncaa
open Go.RowKit

theorem name_some (b : Nat) (l s r : List UInt8) (w : World) (h : RdAt b l w) (hl : l.length ≤ maxLen) (hn : Pl.rdName l = some (s, r)) :
    Calls Try.prog 95 #[.pointer (some ⟨b, 0, none⟩)] w fun e w' => e = .returned (.string ⟨s.toArray⟩) ∧ RdAt b r w' ∧ w.grownBy w' (some b) := by
  refine (name_any b l w h hl).mono ?_
  rintro e w' (⟨h1, _⟩ | ⟨s', r', h1, h2⟩)
  · rw [hn] at h1; cases h1
  · rw [hn] at h1
    simp only [Option.some.injEq, Prod.mk.injEq] at h1
    obtain ⟨rfl, rfl⟩ := h1
    exact h2
theorem name_none (b : Nat) (l : List UInt8) (w : World) (h : RdAt b l w) (hl : l.length ≤ maxLen) (hn : Pl.rdName l = none) :
    Calls Try.prog 95 #[.pointer (some ⟨b, 0, none⟩)] w fun e w' => e = .panicked Left ∧ w.grownBy w' (some b) := by
  refine (name_any b l w h hl).mono ?_
  rintro e w' (⟨h1, h2⟩ | ⟨s', r', h1, h2⟩)
  · exact h2
  · rw [hn] at h1; cases h1
theorem attr_some (b : Nat) (l : List UInt8) (a : List UInt8 × List UInt8) (r : List UInt8) (w : World) (h : RdAt b l w) (hl : l.length ≤ maxLen) (hn : Pl.rdAttr l = some (a, r)) :
    Calls Try.prog 96 #[.pointer (some ⟨b, 0, none⟩)] w fun e w' => e = .returned (.agg #[.string ⟨a.1.toArray⟩, .string ⟨a.2.toArray⟩]) ∧ RdAt b r w' ∧ w.grownBy w' (some b) := by
  refine (attr_any b l w h hl).mono ?_
  rintro e w' (⟨h1, _⟩ | ⟨s', r', h1, h2⟩)
  · rw [hn] at h1; cases h1
  · rw [hn] at h1
    simp only [Option.some.injEq, Prod.mk.injEq] at h1
    obtain ⟨rfl, rfl⟩ := h1
    exact h2
theorem attr_none (b : Nat) (l : List UInt8) (w : World) (h : RdAt b l w) (hl : l.length ≤ maxLen) (hn : Pl.rdAttr l = none) :
    Calls Try.prog 96 #[.pointer (some ⟨b, 0, none⟩)] w fun e w' => e = .panicked Left ∧ w.grownBy w' (some b) := by
  refine (attr_any b l w h hl).mono ?_
  rintro e w' (⟨h1, h2⟩ | ⟨s', r', h1, h2⟩)
  · exact h2
  · rw [hn] at h1; cases h1
/-- what is read goes behind what was read -/
def preC (cs : List (List UInt8)) (o : Option (List (List UInt8) × List UInt8)) : Option (List (List UInt8) × List UInt8) := o.map fun p => (cs ++ p.1, p.2)
def preA (cs : List (List UInt8 × List UInt8)) (o : Option (List (List UInt8 × List UInt8) × List UInt8)) : Option (List (List UInt8 × List UInt8) × List UInt8) := o.map fun p => (cs ++ p.1, p.2)
theorem rdCls_stop {n : Nat} {l : List UInt8} (h : Pl.need 46 l = none) : Pl.rdCls n l = some ([], l) := by
  cases n with
  | zero => rfl
  | succ n => unfold Pl.rdCls; rw [h]
theorem rdCls_bad {n : Nat} {l l1 : List UInt8} (h : Pl.need 46 l = some l1) (h2 : Pl.rdName l1 = none) : Pl.rdCls (n + 1) l = none := by
  unfold Pl.rdCls; rw [h]; simp only; rw [h2]
theorem rdCls_go {n : Nat} {l l1 c r : List UInt8} (cs : List (List UInt8)) (h : Pl.need 46 l = some l1) (h2 : Pl.rdName l1 = some (c, r)) : preC cs (Pl.rdCls (n + 1) l) = preC (cs ++ [c]) (Pl.rdCls n r) := by
  conv => lhs; unfold Pl.rdCls
  rw [h]; simp only; rw [h2]; simp only
  cases Pl.rdCls n r with
  | none => rfl
  | some p => obtain ⟨a, b⟩ := p; simp [preC]
theorem rdAts_stop {n : Nat} {l : List UInt8} (h : Pl.need 91 l = none) : Pl.rdAts n l = some ([], l) := by
  cases n with
  | zero => rfl
  | succ n => unfold Pl.rdAts; rw [h]
theorem rdAts_bad {n : Nat} {l l1 : List UInt8} (h : Pl.need 91 l = some l1) (h2 : Pl.rdAttr l1 = none) : Pl.rdAts (n + 1) l = none := by
  unfold Pl.rdAts; rw [h]; simp only; rw [h2]
theorem rdAts_go {n : Nat} {l l1 : List UInt8} {c : List UInt8 × List UInt8} {r : List UInt8} (cs : List (List UInt8 × List UInt8)) (h : Pl.need 91 l = some l1) (h2 : Pl.rdAttr l1 = some (c, r)) : preA cs (Pl.rdAts (n + 1) l) = preA (cs ++ [c]) (Pl.rdAts n r) := by
  conv => lhs; unfold Pl.rdAts
  rw [h]; simp only; rw [h2]; simp only
  cases Pl.rdAts n r with
  | none => rfl
  | some p => obtain ⟨a, b⟩ := p; simp [preA]
theorem blk_gb {w w' : World} {b N : Nat} {c0 c1 c2 c3 c4 : Value} (h : Blk w N c0 c1 c2 c3 c4) (hg : w.grownBy w' (some b)) (hne : N ≠ b) : Blk w' N c0 c1 c2 c3 c4 := box_kept h hg hne
theorem own_gb {w w' : World} {b B : Nat} {e : TypeId} {size : Nat} {v : Value} {n : Nat} {xs : List Value} (h : w.ownsRow B e size v n xs) (hg : w.grownBy w' (some b)) (hb : b < B) : w'.ownsRow B e size v n xs := by
  refine ⟨h.1, ?_⟩
  rcases h.2 with h1 | ⟨g, cap, cur, e1, e2, e3, e4⟩
  · exact Or.inl h1
  · exact Or.inr ⟨g, cap, cur, e1, e2, (hg.block g (Array.getElem?_eq_some_iff.1 e3).1 (by intro e; injection e with e; omega)).trans e3, e4⟩
theorem own_set {w : World} {B M j : Nat} {e : TypeId} {size : Nat} {v u : Value} {n : Nat} {xs : List Value} (h : w.ownsRow B e size v n xs) (hM : M < B) : (w.setCell ⟨M, j, none⟩ u).ownsRow B e size v n xs := by
  refine ⟨h.1, ?_⟩
  rcases h.2 with h1 | ⟨g, cap, cur, e1, e2, e3, e4⟩
  · exact Or.inl h1
  · exact Or.inr ⟨g, cap, cur, e1, e2, by rw [Below.heap_setCell _ _ _ _ (by show g ≠ M; omega)]; exact e3, e4⟩
theorem own_far {w w' : World} {B : Nat} {e : TypeId} {size : Nat} {v : Value} {n : Nat} {xs : List Value} {g : Option Nat} (h : w.ownsRow B e size v n xs) (hg : w.grownBy w' g) (hne : ∀ k, v.ownBlock = some k → some k ≠ g) : w'.ownsRow B e size v n xs := by
  refine ⟨h.1, ?_⟩
  rcases h.2 with h1 | ⟨g', cap, cur, e1, e2, e3, e4⟩
  · exact Or.inl h1
  · exact Or.inr ⟨g', cap, cur, e1, e2, (hg.block g' (Array.getElem?_eq_some_iff.1 e3).1 (hne g' (by rw [e1]; rfl))).trans e3, e4⟩
theorem own_form {w : World} {B : Nat} {e : TypeId} {size : Nat} {v : Value} {n : Nat} {xs : List Value} (h : w.ownsRow B e size v n xs) : ∃ a c, v = .slice a n c := by
  rcases h.2 with ⟨rfl, h0⟩ | ⟨g, cap, cur, rfl, _⟩
  · exact ⟨none, 0, by rw [h0]⟩
  · exact ⟨_, cap, rfl⟩
theorem rd_far {b M j : Nat} {l : List UInt8} {w : World} (h : RdAt b l w) (hne : M ≠ b) (u : Value) : RdAt b l (w.setCell ⟨M, j, none⟩ u) := by
  unfold RdAt; rw [Below.heap_setCell _ _ _ _ (by exact fun e => hne e.symm)]; exact h
theorem rd_grown {b : Nat} {l : List UInt8} {w w' : World} {g : Option Nat} (h : RdAt b l w) (hg : w.grownBy w' g) (hne : some b ≠ g) : RdAt b l w' := (hg.block b h.facts.2.2 hne).trans h
theorem blk_grown {w w' : World} {N : Nat} {g : Option Nat} {c0 c1 c2 c3 c4 : Value} (h : Blk w N c0 c1 c2 c3 c4) (hg : w.grownBy w' g) (hne : some N ≠ g) : Blk w' N c0 c1 c2 c3 c4 := (hg.block N h.lt hne).trans h
theorem gb_new {w W w' : World} {b : Nat} {g : Option Nat} (h : w.grownBy W (some b)) (hg : W.grownBy w' g) (hn : ∀ k, g = some k → w.heap.size ≤ k) : w.grownBy w' (some b) :=
  ⟨hg.os.trans h.os, hg.tape.trans h.tape, hg.output.trans h.output, Nat.le_trans h.size hg.size, fun k hk hne => (hg.block k (Nat.lt_of_lt_of_le hk h.size) (fun e => by have := hn k e.symm; omega)).trans (h.block k hk hne)⟩
theorem gb_box {w W : World} {b M : Nat} (h : w.grownBy W (some b)) (hM : w.heap.size ≤ M) (i : Nat) (v : Value) : w.grownBy (W.setCell ⟨M, i, none⟩ v) (some b) :=
  ⟨h.os, h.tape, h.output, by simpa [World.setCell] using h.size, fun k hk hne => (Below.heap_setCell _ _ _ _ (by show k ≠ M; omega)).trans (h.block k hk hne)⟩
/-- one text more, at the step that appends it -/
theorem step_sadd {ops : Array Oper} {o : Oper} {a : Act} {K : Act → World → Prop} {Q : Exit → Act → World → Prop} {E : Prop} {B : Nat} {w2 : World} {v : Value} {cs : List (List UInt8)} {c : List UInt8} (hgd : o.guard = none) (s t : Operand)
    (ho : o.op = .call { callee := .builtin .append, args := #[s, t], argTypes := #[44, 44] }) (hs : a.eval s = v) (hx : a.eval t = .slice (some ⟨w2.heap.size, 0, none⟩) 1 1)
    (hown : w2.ownsRow B 9 1 v cs.length (strCells cs)) (hlen : cs.length + 1 ≤ 64) (hB : B ≤ w2.heap.size)
    (h : ∀ g cap w', w'.ownsRow B 9 1 (.slice (some ⟨g, 0, none⟩) (cs.length + 1) cap) (cs.length + 1) (strCells (cs ++ [c])) → (w2.alloc (.cells #[.string ⟨c.toArray⟩] 9)).grownBy w' v.ownBlock → K (a.put o.dst (.slice (some ⟨g, 0, none⟩) (cs.length + 1) cap)) w') :
    if Region.wanted o (yielded ops a.tmps) = true then Oper.wp Try.prog o a (w2.alloc (.cells #[.string ⟨c.toArray⟩] 9)) K Q else E := by
  obtain ⟨i0, hi, hz0, hz1, hz2⟩ := info_parts Try.info9
  refine step_append_lies _ hgd s t 44 ho B 9 i0 _ 1 16 Try.underlying44 hi hz0 hz1 hz2 rfl (by decide) v cs.length (strCells cs) hs (own_on hown (on_alloc _ _)) ⟨w2.heap.size, 0, none⟩ 1 1 [.string ⟨c.toArray⟩] hx rfl ?_ ?_ (by decide) (by unfold maxLen; omega) (by omega) (by simp; omega) _ rfl ?_
  · exact World.news_of_block (heap_alloc_new w2 _)
  · intro u hu
    simp only [List.mem_cons, List.not_mem_nil, or_false] at hu
    subst hu
    rfl
  · intro g cap w' h1 h2 _ _
    exact h g cap w' (by have e : strCells (cs ++ [c]) = strCells cs ++ [.string ⟨c.toArray⟩] := by simp [strCells]
                         rw [e]; exact h1) h2
theorem atCells_snoc : ∀ (l : List (List UInt8 × List UInt8)) (a : List UInt8 × List UInt8), atCells (l ++ [a]) = atCells l ++ [.string ⟨a.1.toArray⟩, .string ⟨a.2.toArray⟩]
  | [], _ => rfl
  | x :: l, a => by simp only [List.cons_append, atCells, atCells_snoc l a]
theorem step_aadd {ops : Array Oper} {o : Oper} {a : Act} {K : Act → World → Prop} {Q : Exit → Act → World → Prop} {E : Prop} {B : Nat} {w2 : World} {v : Value} {cs : List (List UInt8 × List UInt8)} {c : List UInt8 × List UInt8} (hgd : o.guard = none) (s t : Operand)
    (ho : o.op = .call { callee := .builtin .append, args := #[s, t], argTypes := #[45, 45] }) (hs : a.eval s = v) (hx : a.eval t = .slice (some ⟨w2.heap.size, 0, none⟩) 1 1)
    (hown : w2.ownsRow B 95 2 v cs.length (atCells cs)) (hlen : cs.length + 1 ≤ 64) (hB : B ≤ w2.heap.size)
    (h : ∀ g cap w', w'.ownsRow B 95 2 (.slice (some ⟨g, 0, none⟩) (cs.length + 1) cap) (cs.length + 1) (atCells (cs ++ [c])) → (w2.alloc (.cells #[.string ⟨c.1.toArray⟩, .string ⟨c.2.toArray⟩] 95)).grownBy w' v.ownBlock → K (a.put o.dst (.slice (some ⟨g, 0, none⟩) (cs.length + 1) cap)) w') :
    if Region.wanted o (yielded ops a.tmps) = true then Oper.wp Try.prog o a (w2.alloc (.cells #[.string ⟨c.1.toArray⟩, .string ⟨c.2.toArray⟩] 95)) K Q else E := by
  obtain ⟨i0, hi, hz0, hz1, hz2⟩ := info_parts Try.info95
  refine step_append_lies _ hgd s t 45 ho B 95 i0 _ 2 32 Try.underlying45 hi hz0 hz1 hz2 rfl (by decide) v cs.length (atCells cs) hs (own_on hown (on_alloc _ _)) ⟨w2.heap.size, 0, none⟩ 1 1 [.string ⟨c.1.toArray⟩, .string ⟨c.2.toArray⟩] hx rfl ?_ ?_ (by decide) (by unfold maxLen; omega) (by omega) (by simp; omega) _ rfl ?_
  · exact World.news_of_block (heap_alloc_new w2 _)
  · intro u hu
    simp only [List.mem_cons, List.not_mem_nil, or_false] at hu
    rcases hu with rfl | rfl <;> rfl
  · intro g cap w' h1 h2 _ _
    exact h g cap w' (by rw [atCells_snoc]; exact h1) h2
/-- all five written -/
def setFive (w : World) (N : Nat) (c0 c1 c2 c3 c4 : Value) : World := ((((w.setCell ⟨N, 0, none⟩ c0).setCell ⟨N, 1, none⟩ c1).setCell ⟨N, 2, none⟩ c2).setCell ⟨N, 3, none⟩ c3).setCell ⟨N, 4, none⟩ c4
theorem five_blk {w : World} {N : Nat} {d0 d1 d2 d3 d4 : Value} (h : Blk w N d0 d1 d2 d3 d4) (c0 c1 c2 c3 c4 : Value) : Blk (setFive w N c0 c1 c2 c3 c4) N c0 c1 c2 c3 c4 := ((((h.set0 c0).set1 c1).set2 c2).set3 c3).set4 c4
theorem five_heap (w : World) (N : Nat) (c0 c1 c2 c3 c4 : Value) (j : Nat) (h : j ≠ N) : (setFive w N c0 c1 c2 c3 c4).heap[j]? = w.heap[j]? := by
  unfold setFive
  rw [Below.heap_setCell _ _ _ _ h, Below.heap_setCell _ _ _ _ h, Below.heap_setCell _ _ _ _ h, Below.heap_setCell _ _ _ _ h, Below.heap_setCell _ _ _ _ h]
theorem five_gb {w W : World} {b N : Nat} (h : w.grownBy W (some b)) (hN : w.heap.size ≤ N) (c0 c1 c2 c3 c4 : Value) : w.grownBy (setFive W N c0 c1 c2 c3 c4) (some b) := gb_box (gb_box (gb_box (gb_box (gb_box h hN 0 c0) hN 1 c1) hN 2 c2) hN 3 c3) hN 4 c4
theorem five_own {w : World} {B N : Nat} {e : TypeId} {size : Nat} {v : Value} {n : Nat} {xs : List Value} (h : w.ownsRow B e size v n xs) (hN : N < B) (c0 c1 c2 c3 c4 : Value) : (setFive w N c0 c1 c2 c3 c4).ownsRow B e size v n xs := own_set (own_set (own_set (own_set (own_set h hN) hN) hN) hN) hN
/-- what reading an element tells -/
def NodeSays (b : Nat) (up : Int) (l : List UInt8) (w : World) (e : Ending) (w' : World) : Prop :=
  (Pl.rdNode up l = none ∧ e = .panicked Left ∧ w.grownBy w' (some b)) ∨ (∃ x r v, Pl.rdNode up l = some (x, r) ∧ e = .returned v ∧ NdF w.heap.size w' v x ∧ RdAt b r w' ∧ w.grownBy w' (some b))
theorem node_end {b : Nat} {up : Int} {l r tag idn : List UInt8} {cs : List (List UInt8)} {ats : List (List UInt8 × List UInt8)} {w wF : World} {vc va : Value} (hN : Pl.rdNode up l = some (⟨up, tag, idn, cs, ats⟩, r)) (hc : StrsFrom w.heap.size wF vc cs) (ha : AtsFrom w.heap.size wF va ats) (hr : RdAt b r wF) (hg : w.grownBy wF (some b)) :
    NodeSays b up l w (.returned (.agg #[.int .i64 up, .string ⟨tag.toArray⟩, .string ⟨idn.toArray⟩, vc, va])) wF :=
  Or.inr ⟨⟨up, tag, idn, cs, ats⟩, r, _, hN, rfl, ⟨vc, va, rfl, hc, ha⟩, hr, hg⟩
/-- how many a list in a cell has -/
def lenAt (w : World) (a : Addr) : Nat := match w.cell? a with | some (.slice _ n _) => n | _ => 0
theorem lenAt_eq {w : World} {a : Addr} {p : Option Addr} {n c : Nat} (h : w.cell? a = some (.slice p n c)) : lenAt w a = n := by unfold lenAt; rw [h]
end Go.Proofs.Ythlpcmgeelkncaa
