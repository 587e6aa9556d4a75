/-
  A list of elements that a call builds: the row, and the lists of its elements beside it.
-/
import Derived.Test.YtagobgjlhdbhmaaGreatDoorFresh
namespace Go.Proofs.YtagobgjlhdbhmaaGreatDoor
open Go.RowKit

/-- the lists of texts lie in no block g -/
def StrsNe (g : Option Nat) (w : World) (v : Value) (ss : List (List UInt8)) : Prop :=
  ∃ a cap, v = .slice a ss.length cap ∧ (ss = [] ∨ ∃ b o, a = some ⟨b, o, none⟩ ∧ some b ≠ g ∧ ∀ i (h : i < ss.length), w.cell? ⟨b, o + i, none⟩ = some (.string ⟨ss[i].toArray⟩))
def AtsNe (g : Option Nat) (w : World) (v : Value) (ss : List (List UInt8 × List UInt8)) : Prop :=
  ∃ a cap, v = .slice a ss.length cap ∧ (ss = [] ∨ ∃ b o, a = some ⟨b, o, none⟩ ∧ some b ≠ g ∧ ∀ i (h : i < ss.length), w.cell? ⟨b, o + i * 2, none⟩ = some (.string ⟨ss[i].1.toArray⟩) ∧ w.cell? ⟨b, o + i * 2 + 1, none⟩ = some (.string ⟨ss[i].2.toArray⟩))
theorem StrsNe.at {g : Option Nat} {w : World} {v : Value} {ss : List (List UInt8)} (h : StrsNe g w v ss) : StrsAt w v ss := by
  obtain ⟨a, cap, rfl, h⟩ := h
  refine ⟨a, cap, rfl, ?_⟩
  rcases h with h | ⟨b, o, ha, _, hc⟩
  · exact Or.inl h
  · exact Or.inr ⟨b, o, ha, hc⟩
theorem AtsNe.at {g : Option Nat} {w : World} {v : Value} {ss : List (List UInt8 × List UInt8)} (h : AtsNe g w v ss) : AtsAt w v ss := by
  obtain ⟨a, cap, rfl, h⟩ := h
  refine ⟨a, cap, rfl, ?_⟩
  rcases h with h | ⟨b, o, ha, _, hc⟩
  · exact Or.inl h
  · exact Or.inr ⟨b, o, ha, hc⟩
theorem grown_cell {w w' : World} {g : Option Nat} {b o : Nat} {v : Value} (hg : w.grownBy w' g) (hne : some b ≠ g) (h : w.cell? ⟨b, o, none⟩ = some v) : w'.cell? ⟨b, o, none⟩ = some v := by
  rw [World.cell?_of_block (w := w) (hg.block b (cell_lt h) hne)]; exact h
/-- behind an append: the row lies in g or in a new block -/
theorem StrsNe.grown {g g' : Option Nat} {w w' : World} {v : Value} {ss : List (List UInt8)} (h : StrsNe g w v ss) (hg : w.grownBy w' g) (hg' : g' = g ∨ ∃ H, g' = some H ∧ w.heap.size ≤ H) : StrsNe g' w' v ss := by
  obtain ⟨a, cap, rfl, h⟩ := h
  refine ⟨a, cap, rfl, ?_⟩
  rcases h with h | ⟨b, o, ha, hne, hc⟩
  · exact Or.inl h
  · by_cases hn : ss = []
    · exact Or.inl hn
    refine Or.inr ⟨b, o, ha, ?_, fun i hi => grown_cell hg hne (hc i hi)⟩
    rcases hg' with rfl | ⟨H, rfl, hH⟩
    · exact hne
    · have hl : 0 < ss.length := List.length_pos_iff.2 hn
      have : b < w.heap.size := cell_lt (hc 0 hl)
      intro e; simp at e; omega
theorem AtsNe.grown {g g' : Option Nat} {w w' : World} {v : Value} {ss : List (List UInt8 × List UInt8)} (h : AtsNe g w v ss) (hg : w.grownBy w' g) (hg' : g' = g ∨ ∃ H, g' = some H ∧ w.heap.size ≤ H) : AtsNe g' w' v ss := by
  obtain ⟨a, cap, rfl, h⟩ := h
  refine ⟨a, cap, rfl, ?_⟩
  rcases h with h | ⟨b, o, ha, hne, hc⟩
  · exact Or.inl h
  · by_cases hn : ss = []
    · exact Or.inl hn
    refine Or.inr ⟨b, o, ha, ?_, fun i hi => ⟨grown_cell hg hne (hc i hi).1, grown_cell hg hne (hc i hi).2⟩⟩
    rcases hg' with rfl | ⟨H, rfl, hH⟩
    · exact hne
    · have hl : 0 < ss.length := List.length_pos_iff.2 hn
      have : b < w.heap.size := cell_lt (hc 0 hl).1
      intro e; simp at e; omega
theorem StrsNe.on {g : Option Nat} {w w' : World} {v : Value} {ss : List (List UInt8)} (h : StrsNe g w v ss) (hb : Below w.heap.size w w') : StrsNe g w' v ss := by
  obtain ⟨a, cap, rfl, h⟩ := h
  refine ⟨a, cap, rfl, ?_⟩
  rcases h with h | ⟨b, o, ha, hB, hc⟩
  · exact Or.inl h
  · exact Or.inr ⟨b, o, ha, hB, fun i hi => cell_on hb (hc i hi)⟩
theorem AtsNe.on {g : Option Nat} {w w' : World} {v : Value} {ss : List (List UInt8 × List UInt8)} (h : AtsNe g w v ss) (hb : Below w.heap.size w w') : AtsNe g w' v ss := by
  obtain ⟨a, cap, rfl, h⟩ := h
  refine ⟨a, cap, rfl, ?_⟩
  rcases h with h | ⟨b, o, ha, hB, hc⟩
  · exact Or.inl h
  · exact Or.inr ⟨b, o, ha, hB, fun i hi => ⟨cell_on hb (hc i hi).1, cell_on hb (hc i hi).2⟩⟩
theorem StrsFrom.ne {B : Nat} {w : World} {v : Value} {ss : List (List UInt8)} (h : StrsFrom B w v ss) {g : Option Nat} (hg : ∀ k, g = some k → k < B) : StrsNe g w v ss := by
  obtain ⟨a, cap, rfl, h⟩ := h
  refine ⟨a, cap, rfl, ?_⟩
  rcases h with h | ⟨b, o, ha, hB, hc⟩
  · exact Or.inl h
  · exact Or.inr ⟨b, o, ha, fun e => by have := hg b e.symm; omega, hc⟩
theorem AtsFrom.ne {B : Nat} {w : World} {v : Value} {ss : List (List UInt8 × List UInt8)} (h : AtsFrom B w v ss) {g : Option Nat} (hg : ∀ k, g = some k → k < B) : AtsNe g w v ss := by
  obtain ⟨a, cap, rfl, h⟩ := h
  refine ⟨a, cap, rfl, ?_⟩
  rcases h with h | ⟨b, o, ha, hB, hc⟩
  · exact Or.inl h
  · exact Or.inr ⟨b, o, ha, fun e => by have := hg b e.symm; omega, hc⟩

/-- five cells an element -/
def CellsOf (g : Option Nat) (w : World) : List Value → List Pl.Nd → Prop
  | [], [] => True
  | c0 :: c1 :: c2 :: c3 :: c4 :: r, x :: t => (c0 = .int .i64 x.up ∧ c1 = .string ⟨x.tag.toArray⟩ ∧ c2 = .string ⟨x.id.toArray⟩ ∧ StrsNe g w c3 x.cls ∧ AtsNe g w c4 x.ats) ∧ CellsOf g w r t
  | _, _ => False
theorem CellsOf.append {g : Option Nat} {w : World} : ∀ (xs : List Value) (ns : List Pl.Nd) (ys : List Value) (ms : List Pl.Nd), CellsOf g w xs ns → CellsOf g w ys ms → CellsOf g w (xs ++ ys) (ns ++ ms)
  | [], [], _, _, _, h => h
  | c0 :: c1 :: c2 :: c3 :: c4 :: r, x :: t, ys, ms, h, h2 => ⟨h.1, CellsOf.append r t ys ms h.2 h2⟩
  | [], _ :: _, _, _, h, _ => h.elim
  | _ :: _, [], _, _, h, _ => by simp [CellsOf] at h
  | [_], _ :: _, _, _, h, _ => by cases h
  | [_, _], _ :: _, _, _, h, _ => by cases h
  | [_, _, _], _ :: _, _, _, h, _ => by cases h
  | [_, _, _, _], _ :: _, _, _, h, _ => by cases h
theorem CellsOf.grown {g g' : Option Nat} {w w' : World} (hg : w.grownBy w' g) (hg' : g' = g ∨ ∃ H, g' = some H ∧ w.heap.size ≤ H) : ∀ (xs : List Value) (ns : List Pl.Nd), CellsOf g w xs ns → CellsOf g' w' xs ns
  | [], [], _ => trivial
  | c0 :: c1 :: c2 :: c3 :: c4 :: r, x :: t, h => ⟨⟨h.1.1, h.1.2.1, h.1.2.2.1, h.1.2.2.2.1.grown hg hg', h.1.2.2.2.2.grown hg hg'⟩, CellsOf.grown hg hg' r t h.2⟩
  | [], _ :: _, h => h.elim
  | _ :: _, [], h => by simp [CellsOf] at h
  | [_], _ :: _, h => by cases h
  | [_, _], _ :: _, h => by cases h
  | [_, _, _], _ :: _, h => by cases h
  | [_, _, _, _], _ :: _, h => by cases h
theorem CellsOf.on {g : Option Nat} {w w' : World} (hb : Below w.heap.size w w') : ∀ (xs : List Value) (ns : List Pl.Nd), CellsOf g w xs ns → CellsOf g w' xs ns
  | [], [], _ => trivial
  | c0 :: c1 :: c2 :: c3 :: c4 :: r, x :: t, h => ⟨⟨h.1.1, h.1.2.1, h.1.2.2.1, h.1.2.2.2.1.on hb, h.1.2.2.2.2.on hb⟩, CellsOf.on hb r t h.2⟩
  | [], _ :: _, h => h.elim
  | _ :: _, [], h => by simp [CellsOf] at h
  | [_], _ :: _, h => by cases h
  | [_, _], _ :: _, h => by cases h
  | [_, _, _], _ :: _, h => by cases h
  | [_, _, _, _], _ :: _, h => by cases h
theorem CellsOf.get {g : Option Nat} {w : World} : ∀ (xs : List Value) (ns : List Pl.Nd), CellsOf g w xs ns → ∀ i (h : i < ns.length), ∃ vc va, xs[i * 5]? = some (.int .i64 ns[i].up) ∧ xs[i * 5 + 1]? = some (.string ⟨ns[i].tag.toArray⟩) ∧ xs[i * 5 + 2]? = some (.string ⟨ns[i].id.toArray⟩) ∧ xs[i * 5 + 3]? = some vc ∧ xs[i * 5 + 4]? = some va ∧ StrsNe g w vc ns[i].cls ∧ AtsNe g w va ns[i].ats
  | [], [], _, i, h => by simp at h
  | c0 :: c1 :: c2 :: c3 :: c4 :: r, x :: t, h, 0, _ => by
    obtain ⟨⟨rfl, rfl, rfl, hc, ha⟩, _⟩ := h
    exact ⟨c3, c4, rfl, rfl, rfl, rfl, rfl, hc, ha⟩
  | c0 :: c1 :: c2 :: c3 :: c4 :: r, x :: t, h, i + 1, hi => by
    obtain ⟨vc, va, h0, h1, h2, h3, h4, hc, ha⟩ := CellsOf.get r t h.2 i (by simpa using hi)
    refine ⟨vc, va, ?_, ?_, ?_, ?_, ?_, hc, ha⟩
    all_goals simp only [show (i + 1) * 5 = i * 5 + 1 + 1 + 1 + 1 + 1 by omega, Nat.add_assoc]
    · simpa [Nat.add_assoc] using h0
    · simpa [Nat.add_assoc] using h1
    · simpa [Nat.add_assoc] using h2
    · simpa [Nat.add_assoc] using h3
    · simpa [Nat.add_assoc] using h4
  | [], _ :: _, h, _, _ => h.elim
  | _ :: _, [], h, _, _ => by simp [CellsOf] at h
  | [_], _ :: _, h, _, _ => by cases h
  | [_, _], _ :: _, h, _, _ => by cases h
  | [_, _, _], _ :: _, h, _, _ => by cases h
  | [_, _, _, _], _ :: _, h, _, _ => by cases h
/-- the row of elements that is built, from block B on -/
def Row (B : Nat) (w : World) (v : Value) (ns : List Pl.Nd) : Prop := ∃ xs, w.ownsRow B 77 5 v ns.length xs ∧ CellsOf v.ownBlock w xs ns
theorem Row.nil (B : Nat) (w : World) : Row B w (.slice none 0 0) [] := ⟨[], World.ownsRow_nil _ _ _ _, trivial⟩
theorem own_on {w w' : World} {B : Nat} {e : TypeId} {size : Nat} {v : Value} {n : Nat} {xs : List Value} (h : w.ownsRow B e size v n xs) (hb : Below w.heap.size w w') : w'.ownsRow B e size v n xs :=
  h.kept (row := none) ⟨hb.os, hb.tape, hb.output, hb.size, fun k hk _ => hb.block k hk⟩ (by cases v.ownBlock <;> simp)
theorem Row.on {B : Nat} {w w' : World} {v : Value} {ns : List Pl.Nd} (h : Row B w v ns) (hb : Below w.heap.size w w') : Row B w' v ns := by
  obtain ⟨xs, ho, hc⟩ := h
  exact ⟨xs, own_on ho hb, CellsOf.on hb xs ns hc⟩
theorem Row.nds {B : Nat} {w : World} {v : Value} {ns : List Pl.Nd} (h : Row B w v ns) : NdsAt w v ns := by
  obtain ⟨xs, ho, hc⟩ := h
  have hh := ho
  obtain ⟨_, h0 | ⟨g, cap, cur, rfl, _⟩⟩ := ho
  · obtain ⟨rfl, hl⟩ := h0
    have : ns = [] := by simpa using hl
    subst this
    exact ⟨none, 0, rfl, Or.inl rfl⟩
  · refine ⟨_, cap, rfl, Or.inr ⟨g, 0, rfl, fun i hi => ?_⟩⟩
    obtain ⟨vc, va, h0, h1, h2, h3, h4, hcc, haa⟩ := CellsOf.get xs ns hc i hi
    have k0 := World.ownsRow.cells hh rfl _ _ h0
    have k1 := World.ownsRow.cells hh rfl _ _ h1
    have k2 := World.ownsRow.cells hh rfl _ _ h2
    have k3 := World.ownsRow.cells hh rfl _ _ h3
    have k4 := World.ownsRow.cells hh rfl _ _ h4
    simp only [Addr.add_lit] at k0 k1 k2 k3 k4
    exact ⟨vc, va, k0, by simpa [Nat.add_assoc] using k1, by simpa [Nat.add_assoc] using k2, by simpa [Nat.add_assoc] using k3, by simpa [Nat.add_assoc] using k4, hcc.at, haa.at⟩
end Go.Proofs.YtagobgjlhdbhmaaGreatDoor
