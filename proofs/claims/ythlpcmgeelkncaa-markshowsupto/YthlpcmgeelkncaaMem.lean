/-
  How lists of texts, of attributes and of elements lie in memory.
-/
import Derived.Test.YthlpcmgeelkncaaTxt
namespace Go.Proofs.Ythlpcmgeelkncaa
open Go.RowKit

/-- a list of texts -/
def StrsAt (w : World) (v : Value) (ss : List (List UInt8)) : Prop :=
  ∃ a cap, v = .slice a ss.length cap ∧ (ss = [] ∨ ∃ b o, a = some ⟨b, o, none⟩ ∧ ∀ i (h : i < ss.length), w.cell? ⟨b, o + i, none⟩ = some (.string ⟨ss[i].toArray⟩))
/-- a list of attributes -/
def AtsAt (w : World) (v : Value) (ss : List (List UInt8 × List UInt8)) : Prop :=
  ∃ a cap, v = .slice a ss.length cap ∧ (ss = [] ∨ ∃ b o, a = some ⟨b, o, none⟩ ∧ ∀ i (h : i < ss.length), w.cell? ⟨b, o + i * 2, none⟩ = some (.string ⟨ss[i].1.toArray⟩) ∧ w.cell? ⟨b, o + i * 2 + 1, none⟩ = some (.string ⟨ss[i].2.toArray⟩))
/-- an element in five cells -/
def NdAt (w : World) (b o : Nat) (x : Pl.Nd) : Prop :=
  ∃ vc va, w.cell? ⟨b, o, none⟩ = some (.int .i64 x.up) ∧ w.cell? ⟨b, o + 1, none⟩ = some (.string ⟨x.tag.toArray⟩) ∧ w.cell? ⟨b, o + 2, none⟩ = some (.string ⟨x.id.toArray⟩) ∧
    w.cell? ⟨b, o + 3, none⟩ = some vc ∧ w.cell? ⟨b, o + 4, none⟩ = some va ∧ StrsAt w vc x.cls ∧ AtsAt w va x.ats
/-- a list of elements -/
def NdsAt (w : World) (v : Value) (ns : List Pl.Nd) : Prop :=
  ∃ a cap, v = .slice a ns.length cap ∧ (ns = [] ∨ ∃ b o, a = some ⟨b, o, none⟩ ∧ ∀ i (h : i < ns.length), NdAt w b (o + i * 5) ns[i])
/-- a list of numbers -/
def IntsAt (w : World) (v : Value) (ks : List Int) : Prop :=
  ∃ a cap, v = .slice a ks.length cap ∧ (ks = [] ∨ ∃ b o, a = some ⟨b, o, none⟩ ∧ ∀ i (h : i < ks.length), w.cell? ⟨b, o + i, none⟩ = some (.int .i64 ks[i]))

theorem cell_lt {w : World} {p : Addr} {v : Value} (h : w.cell? p = some v) : p.block < w.heap.size := by
  rcases Nat.lt_or_ge p.block w.heap.size with h1 | h1
  · exact h1
  · unfold World.cell? at h
    rw [Array.getElem?_eq_none h1] at h
    cases h
theorem cell_on {w w' : World} {p : Addr} {v : Value} (hb : Below w.heap.size w w') (h : w.cell? p = some v) : w'.cell? p = some v := by
  rw [hb.cell (cell_lt h)]; exact h
theorem StrsAt.on {w w' : World} {v : Value} {ss : List (List UInt8)} (h : StrsAt w v ss) (hb : Below w.heap.size w w') : StrsAt w' v ss := by
  obtain ⟨a, cap, rfl, h⟩ := h
  refine ⟨a, cap, rfl, ?_⟩
  rcases h with h | ⟨b, o, ha, hc⟩
  · exact Or.inl h
  · exact Or.inr ⟨b, o, ha, fun i hi => cell_on hb (hc i hi)⟩
theorem AtsAt.on {w w' : World} {v : Value} {ss : List (List UInt8 × List UInt8)} (h : AtsAt w v ss) (hb : Below w.heap.size w w') : AtsAt w' v ss := by
  obtain ⟨a, cap, rfl, h⟩ := h
  refine ⟨a, cap, rfl, ?_⟩
  rcases h with h | ⟨b, o, ha, hc⟩
  · exact Or.inl h
  · exact Or.inr ⟨b, o, ha, fun i hi => ⟨cell_on hb (hc i hi).1, cell_on hb (hc i hi).2⟩⟩
theorem NdAt.on {w w' : World} {b o : Nat} {x : Pl.Nd} (h : NdAt w b o x) (hb : Below w.heap.size w w') : NdAt w' b o x := by
  obtain ⟨vc, va, h0, h1, h2, h3, h4, hc, ha⟩ := h
  exact ⟨vc, va, cell_on hb h0, cell_on hb h1, cell_on hb h2, cell_on hb h3, cell_on hb h4, hc.on hb, ha.on hb⟩
theorem NdsAt.on {w w' : World} {v : Value} {ns : List Pl.Nd} (h : NdsAt w v ns) (hb : Below w.heap.size w w') : NdsAt w' v ns := by
  obtain ⟨a, cap, rfl, h⟩ := h
  refine ⟨a, cap, rfl, ?_⟩
  rcases h with h | ⟨b, o, ha, hc⟩
  · exact Or.inl h
  · exact Or.inr ⟨b, o, ha, fun i hi => (hc i hi).on hb⟩
theorem IntsAt.on {w w' : World} {v : Value} {ks : List Int} (h : IntsAt w v ks) (hb : Below w.heap.size w w') : IntsAt w' v ks := by
  obtain ⟨a, cap, rfl, h⟩ := h
  refine ⟨a, cap, rfl, ?_⟩
  rcases h with h | ⟨b, o, ha, hc⟩
  · exact Or.inl h
  · exact Or.inr ⟨b, o, ha, fun i hi => cell_on hb (hc i hi)⟩
/-- the world is the old one below its end -/
theorem on_alloc (w : World) (o : Obj) : Below w.heap.size w (w.alloc o) := (Below.refl _ _).alloc (Nat.le_refl _) o
theorem below_trans {w w1 w2 : World} (h1 : Below w.heap.size w w1) (h2 : Below w1.heap.size w1 w2) : Below w.heap.size w w2 := h1.trans (h2.mono h1.size)
end Go.Proofs.Ythlpcmgeelkncaa
