/-
  Lists of numbers: whether they are the same, told either way.
-/
import Derived.Test.YtagobgjlhdbhmaaGreatDoorMbD
import Derived.Test.YtagobgjlhdbhmaaGreatDoorIdxP
import Derived.Test.YtagobgjlhdbhmaaGreatDoorRmD
import Derived.Laws.CopyOwn
import Derived.Laws.OwnMore
import Derived.Deep.RegionHeld3
import Derived.Deep.RegionLaw
import Derived.Test.YtagobgjlhdbhmaaGreatDoorDocO
import Derived.Maps.OwnRows
import Derived.DeepKeys5
import Derived.WideKeyEntry
namespace Go.Proofs.YtagobgjlhdbhmaaGreatDoor
open Go.RowKit

/-- nothing but draws between two worlds -/
def Drawn (w w' : World) : Prop := ∃ m, w' = w.drewN m
theorem Drawn.refl (w : World) : Drawn w w := ⟨0, rfl⟩
theorem Drawn.next {w w' : World} (h : Drawn w w') (n : Nat) : Drawn w (w'.drewN n) := by
  obtain ⟨m, rfl⟩ := h
  exact ⟨m + n, by rw [World.drewN_drewN]⟩
theorem Drawn.below {w w' : World} (h : Drawn w w') : Below w.heap.size w w' := by
  obtain ⟨m, rfl⟩ := h
  exact below_drewN (Below.refl _ _) m
def sameI (ks ls : List Int) : Bool := decide (ks = ls)
theorem take_next {α : Type} {ks ls : List α} {k : Nat} (h1 : k < ks.length) (h2 : k < ls.length) (h : ks.take k = ls.take k) (he : ks[k] = ls[k]) : ks.take (k + 1) = ls.take (k + 1) := by
  rw [List.take_succ_eq_append_getElem h1, List.take_succ_eq_append_getElem h2, h, he]
/-- an entry: its key, its places -/
abbrev Pl.Er := Pl.Key × List Int
def EnAt (w : World) (b o : Nat) (e : Pl.Er) : Prop := ∃ vi, w.cell? ⟨b, o, none⟩ = some (.int .i64 e.1.1) ∧ w.cell? ⟨b, o + 1, none⟩ = some (.string ⟨e.1.2.toArray⟩) ∧ w.cell? ⟨b, o + 2, none⟩ = some vi ∧ IntsAt w vi e.2
/-- a list of entries -/
def EnsAt (w : World) (v : Value) (l : List Pl.Er) : Prop := ∃ a cap, v = .slice a l.length cap ∧ (l = [] ∨ ∃ b o, a = some ⟨b, o, none⟩ ∧ ∀ i (h : i < l.length), EnAt w b (o + i * 3) l[i])
theorem EnAt.on {w w' : World} {b o : Nat} {e : Pl.Er} (h : EnAt w b o e) (hb : Below w.heap.size w w') : EnAt w' b o e := by
  obtain ⟨vi, h0, h1, h2, h3⟩ := h
  exact ⟨vi, cell_on hb h0, cell_on hb h1, cell_on hb h2, h3.on hb⟩
theorem EnsAt.on {w w' : World} {v : Value} {l : List Pl.Er} (h : EnsAt w v l) (hb : Below w.heap.size w w') : EnsAt w' v l := by
  obtain ⟨a, cap, rfl, h⟩ := h
  refine ⟨a, cap, rfl, ?_⟩
  rcases h with h | ⟨b, o, ha, hc⟩
  · exact Or.inl h
  · exact Or.inr ⟨b, o, ha, fun i hi => (hc i hi).on hb⟩
def sameE (l m : List Pl.Er) : Bool := decide (l = m)
end Go.Proofs.YtagobgjlhdbhmaaGreatDoor
/-
  An index that is being built, in memory: the row of its entries, each with a row of places of its own; one entry more; one place more.
-/
namespace Go.Proofs.YtagobgjlhdbhmaaGreatDoor
open Go.RowKit

namespace Pl
end Pl

/-- an entry, and the slice of its places -/
abbrev EP := Pl.En × Value
def pCells (ps : List EP) : List Value := ps.flatMap fun p => [.int .i64 p.1.key.1, .string ⟨p.1.key.2.toArray⟩, p.2]
theorem pCells_cons (p : EP) (ps : List EP) : pCells (p :: ps) = .int .i64 p.1.key.1 :: .string ⟨p.1.key.2.toArray⟩ :: p.2 :: pCells ps := by simp [pCells]
theorem pCells_append (ps qs : List EP) : pCells (ps ++ qs) = pCells ps ++ pCells qs := by simp [pCells]
theorem pCells_len : ∀ ps : List EP, (pCells ps).length = ps.length * 3
  | [] => rfl
  | p :: r => by rw [pCells_cons]; simp [pCells_len r]; omega
theorem pCells_get : ∀ (ps : List EP) (i : Nat) (h : i < ps.length), (pCells ps)[i * 3]? = some (.int .i64 ps[i].1.key.1) ∧ (pCells ps)[i * 3 + 1]? = some (.string ⟨ps[i].1.key.2.toArray⟩) ∧ (pCells ps)[i * 3 + 2]? = some ps[i].2
  | [], i, h => by simp at h
  | p :: r, 0, _ => by rw [pCells_cons]; simp
  | p :: r, i + 1, h => by
    have := pCells_get r i (by simpa using h)
    rw [pCells_cons, show (i + 1) * 3 = i * 3 + 1 + 1 + 1 by omega]
    simpa using this
theorem pCells_set2 : ∀ (rs : List EP) (i : Nat) (h : i < rs.length) (e : EP), e.1.key = rs[i].1.key → (pCells rs).set (i * 3 + 2) e.2 = pCells (rs.set i e)
  | [], i, h, _, _ => by simp at h
  | p :: r, 0, _, e, he => by simp only [List.getElem_cons_zero] at he; simp [pCells_cons, he]
  | p :: r, i + 1, h, e, he => by
    have := pCells_set2 r i (by simpa using h) e (by simpa using he)
    rw [pCells_cons, show (i + 1) * 3 + 2 = (i * 3 + 2) + 1 + 1 + 1 by omega]
    simp only [List.set_cons_succ]
    rw [this, pCells_cons]

/-- two entries' places lie in two rows -/
def Apart (p q : EP) : Prop := ∀ g, p.2.ownBlock = some g → q.2.ownBlock ≠ some g
theorem Apart.symm {p q : EP} (h : Apart p q) : Apart q p := fun g h1 h2 => h g h2 h1
structure ERow (B : Nat) (w : World) (v : Value) (ps : List EP) : Prop where
  own : w.ownsRow B 55 3 v ps.length (pCells ps)
  ints : ∀ p ∈ ps, w.ownsRow B 3 1 p.2 p.1.nodes.length (natCells p.1.nodes)
  apart : ps.Pairwise Apart
  off : ∀ p ∈ ps, ∀ g, p.2.ownBlock = some g → v.ownBlock ≠ some g
theorem ERow.nil (B : Nat) (w : World) : ERow B w (.slice none 0 0) [] := ⟨World.ownsRow_nil _ _ _ _, by simp, List.Pairwise.nil, by simp⟩
theorem ERow.on {B : Nat} {w w' : World} {v : Value} {ps : List EP} (h : ERow B w v ps) (hb : Below w.heap.size w w') : ERow B w' v ps :=
  ⟨own_on h.own hb, fun p hp => own_on (h.ints p hp) hb, h.apart, h.off⟩
theorem ERow.form {B : Nat} {w : World} {v : Value} {ps : List EP} (h : ERow B w v ps) : ∃ a c, v = .slice a ps.length c := own_form h.own
theorem own_mono {w : World} {B B' : Nat} {e : TypeId} {size : Nat} {v : Value} {n : Nat} {xs : List Value} (h : w.ownsRow B e size v n xs) (hb : B' ≤ B) : w.ownsRow B' e size v n xs := by
  refine ⟨h.1, ?_⟩
  rcases h.2 with h0 | ⟨g, cap, cur, e1, hg, rest⟩
  · exact Or.inl h0
  · exact Or.inr ⟨g, cap, cur, e1, by omega, rest⟩
theorem ERow.mono {B B' : Nat} {w : World} {v : Value} {ps : List EP} (h : ERow B w v ps) (hb : B' ≤ B) : ERow B' w v ps :=
  ⟨own_mono h.own hb, fun p hp => own_mono (h.ints p hp) hb, h.apart, h.off⟩
/-- a block that the index does not lie in -/
def Clear (g : Nat) (v : Value) (ps : List EP) : Prop := v.ownBlock ≠ some g ∧ ∀ p ∈ ps, p.2.ownBlock ≠ some g
theorem ERow.clear {B : Nat} {w : World} {v : Value} {ps : List EP} (h : ERow B w v ps) {g : Nat} (hg : g < B ∨ w.heap.size ≤ g) : Clear g v ps := by
  refine ⟨fun e => ?_, fun p hp e => ?_⟩
  · have := World.ownsRow.lt h.own g e; omega
  · have := World.ownsRow.lt (h.ints p hp) g e; omega
/-- what changes lies in a block that the index does not lie in -/
theorem ERow.kept {B : Nat} {w w' : World} {v : Value} {ps : List EP} (h : ERow B w v ps) {r : Option Nat} (hg : w.grownBy w' r) (hr : ∀ g, r = some g → Clear g v ps) : ERow B w' v ps := by
  refine ⟨h.own.kept hg ?_, fun p hp => (h.ints p hp).kept hg ?_, h.apart, h.off⟩
  · cases r with
    | none => cases hv : v.ownBlock <;> simp
    | some g => exact Or.inr (hr g rfl).1
  · cases r with
    | none => cases hv : p.2.ownBlock <;> simp
    | some g => exact Or.inr ((hr g rfl).2 p hp)
/-- an entry as the program makes it first -/
def e0 : EP := (⟨(0, []), []⟩, .slice none 0 0)
end Go.Proofs.YtagobgjlhdbhmaaGreatDoor
/-
  treeOf: the tree of an element.
-/
namespace Go.Proofs.YtagobgjlhdbhmaaGreatDoor
open Go.RowKit

theorem gb_grown {w3 W w' : World} {g g' : Option Nat} (h : w3.grownBy W g) (hb : W.grownBy w' g') (hg : ∀ k, g' = some k → some k = g ∨ w3.heap.size ≤ k) : w3.grownBy w' g :=
  ⟨hb.os.trans h.os, hb.tape.trans h.tape, hb.output.trans h.output, Nat.le_trans h.size hb.size, fun k hk hne => (hb.block k (Nat.lt_of_lt_of_le hk h.size) (fun e => by rcases hg k e.symm with h1 | h1; exact hne h1; omega)).trans (h.block k hk hne)⟩
end Go.Proofs.YtagobgjlhdbhmaaGreatDoor
/-
  An index that is being built, in memory: an entry put in its place, and a place more for an entry.
-/
namespace Go.Proofs.YtagobgjlhdbhmaaGreatDoor
open Go.RowKit

theorem ERow.apart_at {B : Nat} {w : World} {v : Value} {ps : List EP} (h : ERow B w v ps) {i j : Nat} (hi : i < ps.length) (hj : j < ps.length) (hne : i ≠ j) : Apart ps[i] ps[j] := by
  have := List.pairwise_iff_getElem.1 h.apart
  rcases Nat.lt_or_gt_of_ne hne with h1 | h1
  · exact this i j hi hj h1
  · exact (this j i hj hi h1).symm
/-- a place more -/
theorem ERow.placed {B : Nat} {w w1 : World} {v : Value} {ps : List EP} {ob : Obj} {g cap i n g' cap' : Nat} (h : ERow B w v ps) (hi : i < ps.length) (hv : v = .slice (some ⟨g, 0, none⟩) ps.length cap)
    (ho1 : w1.ownsRow B 3 1 (.slice (some ⟨g', 0, none⟩) (ps[i].1.nodes.length + 1) cap') (ps[i].1.nodes.length + 1) (natCells (ps[i].1.nodes ++ [n]))) (hg1 : (w.alloc ob).grownBy w1 ps[i].2.ownBlock) (hat : ps[i].2.ownBlock = some g' ∨ g' = w.heap.size + 1) :
    ERow B (w1.setCell ⟨g, i * 3 + 2, none⟩ (.slice (some ⟨g', 0, none⟩) (ps[i].1.nodes.length + 1) cap')) v (ps.set i (⟨ps[i].1.key, ps[i].1.nodes ++ [n]⟩, .slice (some ⟨g', 0, none⟩) (ps[i].1.nodes.length + 1) cap')) ∧
      w1.grownBy (w1.setCell ⟨g, i * 3 + 2, none⟩ (.slice (some ⟨g', 0, none⟩) (ps[i].1.nodes.length + 1) cap')) (some g) := by
  subst hv
  have hgb : ((.slice (some ⟨g, 0, none⟩) ps.length cap : Value)).ownBlock = some g := rfl
  have hgw := World.ownsRow.lt h.own g hgb
  have hpi := h.off ps[i] (List.getElem_mem hi)
  have hga : w.grownBy w1 ps[i].2.ownBlock := gb_grown (World.grownBy_alloc w ob _) hg1 (fun k hk => Or.inl hk.symm)
  have own1 : w1.ownsRow B 55 3 (.slice (some ⟨g, 0, none⟩) ps.length cap) ps.length (pCells ps) := h.own.kept hga (Or.inr (by
    rw [hgb]
    intro e
    exact hpi g e.symm hgb))
  obtain ⟨s1, t1⟩ := World.ownsRow.stored own1 (i * 3 + 2) (.slice (some ⟨g', 0, none⟩) (ps[i].1.nodes.length + 1) cap')
  have hset := pCells_set2 ps i hi (⟨ps[i].1.key, ps[i].1.nodes ++ [n]⟩, .slice (some ⟨g', 0, none⟩) (ps[i].1.nodes.length + 1) cap') rfl
  rw [hset] at s1
  have hg'g : g' ≠ g := by
    rcases hat with h1 | h1
    · intro e; subst e; exact hpi g' h1 hgb
    · omega
  have key : ∀ j (hj : j < ps.length), j ≠ i → (w1.setCell ⟨g, i * 3 + 2, none⟩ (.slice (some ⟨g', 0, none⟩) (ps[i].1.nodes.length + 1) cap')).ownsRow B 3 1 ps[j].2 ps[j].1.nodes.length (natCells ps[j].1.nodes) := by
    intro j hj hne
    have a1 : w1.ownsRow B 3 1 ps[j].2 ps[j].1.nodes.length (natCells ps[j].1.nodes) := by
      refine (h.ints ps[j] (List.getElem_mem hj)).kept hga ?_
      cases hb : ps[j].2.ownBlock with
      | none => exact Or.inl rfl
      | some k => exact Or.inr fun e => (h.apart_at hj hi hne) k hb e.symm
    refine a1.kept t1 ?_
    cases hb : ps[j].2.ownBlock with
    | none => exact Or.inl rfl
    | some k =>
      refine Or.inr fun e => ?_
      injection e with e
      subst e
      exact h.off ps[j] (List.getElem_mem hj) k hb hgb
  refine ⟨⟨?_, ?_, ?_, ?_⟩, t1⟩
  · rw [List.length_set]; exact s1
  · intro p hp
    obtain ⟨j, hj, rfl⟩ := List.getElem_of_mem hp
    rw [List.length_set] at hj
    by_cases hji : j = i
    · subst hji
      simp only [List.getElem_set_self, List.length_append, List.length_singleton]
      refine ho1.kept t1 (Or.inr ?_)
      intro e
      have : g' = g := by simpa [Value.ownBlock] using e
      exact hg'g this
    · rw [List.getElem_set_ne (by omega)]
      exact key j hj hji
  · rw [List.pairwise_iff_getElem]
    intro a b ha0 hb0 hab
    have ha : a < ps.length := by rw [List.length_set] at ha0; exact ha0
    have hb : b < ps.length := by rw [List.length_set] at hb0; exact hb0
    by_cases hai : a = i
    · subst hai
      rw [List.getElem_set_self, List.getElem_set_ne (by omega)]
      intro k hk
      have e : g' = k := by simpa [Value.ownBlock] using hk
      subst e
      rcases hat with h1 | h1
      · exact h.apart_at hi hb (by omega) g' h1
      · intro e2; have := World.ownsRow.lt (h.ints ps[b] (List.getElem_mem hb)) g' e2; omega
    · by_cases hbi : b = i
      · subst hbi
        rw [List.getElem_set_self, List.getElem_set_ne (by omega)]
        intro k hk e
        have e2 : g' = k := by simpa [Value.ownBlock] using e
        subst e2
        rcases hat with h1 | h1
        · exact h.apart_at ha hi (by omega) g' hk h1
        · have := World.ownsRow.lt (h.ints ps[a] (List.getElem_mem ha)) g' hk; omega
      · rw [List.getElem_set_ne (by omega), List.getElem_set_ne (by omega)]
        exact h.apart_at ha hb (by omega)
  · intro p hp k hk
    obtain ⟨j, hj, rfl⟩ := List.getElem_of_mem hp
    rw [List.length_set] at hj
    rw [hgb]
    intro e
    injection e with e
    subst e
    by_cases hji : j = i
    · subst hji
      rw [List.getElem_set_self] at hk
      have e2 : g' = g := by simpa [Value.ownBlock] using hk
      exact hg'g e2
    · rw [List.getElem_set_ne (by omega)] at hk
      exact h.off ps[j] (List.getElem_mem hj) g hk hgb
end Go.Proofs.YtagobgjlhdbhmaaGreatDoor
/-
  Keys of the map that an index is gathered in: a kind and a name.
-/
namespace Go.Proofs.YtagobgjlhdbhmaaGreatDoor
open Go.RowKit Go.MapKept

theorem Tryz.row99 : 117 < Tryz.prog.types.size := of_decide_eq_true (by kernel_rfl)
theorem Tryz.key2_99 : Tryz.prog.keyTypeAt 2 117 = true := by kernel_rfl
theorem Tryz.keyed99 : Maps.Keyed Tryz.prog 117 := Maps.Keyed.of_law (deep_law_laid laidOutTryz (m := 2) (by decide) Tryz.row99 Tryz.key2_99 (by rw [Tryz.underlying117]))
theorem Tryz.keyT99 : Tryz.prog.keyType 117 = true := by kernel_rfl
theorem Tryz.cells99 : Tryz.prog.cellsOf 117 = 2 := by kernel_rfl
theorem Tryz.cells3 : Tryz.prog.cellsOf 3 = 1 := by kernel_rfl
theorem Tryz.cells9 : Tryz.prog.cellsOf 9 = 1 := by kernel_rfl
/-- a key as a value -/
def keyV (k : Pl.Key) : Value := .agg #[.int .i64 k.1, .string ⟨k.2.toArray⟩]
theorem keyV_inj {a b : Pl.Key} (h : keyV a = keyV b) : a = b := by
  obtain ⟨a1, a2⟩ := a
  obtain ⟨b1, b2⟩ := b
  simpa [keyV] using h
theorem keyOf_any (k : Pl.Key) (hk : (Lit.int .i64 k.1).wf = true) (hn : k.2.length ≤ maxLen) : ∃ l, keyOf Tryz.prog 117 (keyV k) = some l := by
  obtain ⟨m, hm⟩ : ∃ m, Tryz.prog.types.size = m + 1 := ⟨Tryz.prog.types.size - 1, by have := Tryz.row99; omega⟩
  have h1 : Tryz.prog.keyLits (m + 1) 3 [.int .i64 k.1] = some [.int .i64 k.1] := by
    simp [Program.keyLits, Tryz.underlying3, hk]
  have h2 : Tryz.prog.keyLits (m + 1) 9 [.string ⟨k.2.toArray⟩] = some [.string k.2] := by
    simp [Program.keyLits, Tryz.underlying9, ByteArray.size, hn]
  have h3 : Tryz.prog.keyLits (Tryz.prog.types.size + 1) 117 [.int .i64 k.1, .string ⟨k.2.toArray⟩] = some [.int .i64 k.1, .string k.2] := by
    rw [hm]
    unfold Program.keyLits
    rw [Tryz.underlying117]
    simp [Tryz.cells99, Tryz.cells3, Tryz.cells9, h1, h2]
  refine ⟨.string (keyBytes [.int .i64 k.1, .string k.2]), ?_⟩
  unfold keyOf
  rw [Tryz.underlying117]
  simp [keyV, Tryz.keyT99, Value.formed, Tryz.underlying117, Tryz.cells99, Value.cells]
  refine ⟨_, ?_, rfl⟩
  simpa using h3
end Go.Proofs.YtagobgjlhdbhmaaGreatDoor
