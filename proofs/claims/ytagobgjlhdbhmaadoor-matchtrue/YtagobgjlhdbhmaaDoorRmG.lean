/-
  What the document says of a path.
-/
import Derived.Test.YtagobgjlhdbhmaaDoorRmF
import Derived.Deep.RegionLaw
import Derived.Deep.DeepCutAuto
namespace Go.Proofs.YtagobgjlhdbhmaaDoor
open Go.RowKit

theorem RowAt.cap {β : Type} {E : World → Nat → Nat → β → Prop} {k : Nat} {w : World} {a : Option Addr} {n c : Nat} {l : List β} (h : RowAt E k w (.slice a n c) l) : n = l.length ∧ l.length ≤ c ∧ c ≤ maxLen := by
  obtain ⟨a', c', e, h, _⟩ := h
  injection e with e1 e2 e3
  subst e2 e3
  exact ⟨rfl, h⟩
/-- the first ones of a row -/
theorem RowAt.take {β : Type} {E : World → Nat → Nat → β → Prop} {k : Nat} {w : World} {a : Option Addr} {n c : Nat} {l : List β} (h : RowAt E k w (.slice a n c) l) (j : Nat) (hj : j ≤ l.length) : RowAt E k w (.slice a j c) (l.take j) := by
  obtain ⟨a', c', e, hf, h⟩ := h
  injection e with e1 e2 e3
  subst e1 e2 e3
  have hl : (l.take j).length = j := by simp; omega
  refine ⟨a, c, by rw [hl], ⟨by omega, hf.2⟩, ?_⟩
  rcases h with rfl | ⟨b, o, ha, hc⟩
  · exact Or.inl (by simp)
  · exact Or.inr ⟨b, o, ha, fun i hi => by
      rw [hl] at hi
      simpa using hc i (by omega)⟩
theorem quiet_below {w W : World} (h : Below w.heap.size w W) (k : Nat) : Below w.heap.size w (W.drewN k) := below_drewN h k
theorem on8 {W W' : World} {p1 p2 p3 p4 p5 p6 p7 p8 : Addr} {u1 u2 u3 u4 u5 u6 u7 u8 : Value} (h : W.cell? p1 = some u1 ∧ W.cell? p2 = some u2 ∧ W.cell? p3 = some u3 ∧ W.cell? p4 = some u4 ∧ W.cell? p5 = some u5 ∧ W.cell? p6 = some u6 ∧ W.cell? p7 = some u7 ∧ W.cell? p8 = some u8) (hb : Below W.heap.size W W') : W'.cell? p1 = some u1 ∧ W'.cell? p2 = some u2 ∧ W'.cell? p3 = some u3 ∧ W'.cell? p4 = some u4 ∧ W'.cell? p5 = some u5 ∧ W'.cell? p6 = some u6 ∧ W'.cell? p7 = some u7 ∧ W'.cell? p8 = some u8 :=
  ⟨cell_on hb h.1, cell_on hb h.2.1, cell_on hb h.2.2.1, cell_on hb h.2.2.2.1, cell_on hb h.2.2.2.2.1, cell_on hb h.2.2.2.2.2.1, cell_on hb h.2.2.2.2.2.2.1, cell_on hb h.2.2.2.2.2.2.2⟩
theorem on5 {W W' : World} {p1 p2 p3 p4 p5 : Addr} {u1 u2 u3 u4 u5 : Value} (h : W.cell? p1 = some u1 ∧ W.cell? p2 = some u2 ∧ W.cell? p3 = some u3 ∧ W.cell? p4 = some u4 ∧ W.cell? p5 = some u5) (hb : Below W.heap.size W W') : W'.cell? p1 = some u1 ∧ W'.cell? p2 = some u2 ∧ W'.cell? p3 = some u3 ∧ W'.cell? p4 = some u4 ∧ W'.cell? p5 = some u5 :=
  ⟨cell_on hb h.1, cell_on hb h.2.1, cell_on hb h.2.2.1, cell_on hb h.2.2.2.1, cell_on hb h.2.2.2.2⟩
/-- the boxes of pathMatches: the document, the path, the step -/
structure QsB (w W : World) (dv vs vk : Value) (tag : List UInt8) (vt : Value) : Prop where
  d : W.cell? ⟨w.heap.size, 0, none⟩ = some dv
  p0 : W.cell? ⟨w.heap.size + 1, 0, none⟩ = some vs
  p1 : W.cell? ⟨w.heap.size + 1, 1, none⟩ = some vk
  s0 : W.cell? ⟨w.heap.size + 1 + 1, 0, none⟩ = some (.string ⟨tag.toArray⟩)
  s1 : W.cell? ⟨w.heap.size + 1 + 1, 1, none⟩ = some vt
theorem QsB.on {w W W' : World} {dv vs vk : Value} {tag : List UInt8} {vt : Value} (h : QsB w W dv vs vk tag vt) (hb : Below W.heap.size W W') : QsB w W' dv vs vk tag vt := ⟨cell_on hb h.d, cell_on hb h.p0, cell_on hb h.p1, cell_on hb h.s0, cell_on hb h.s1⟩
theorem blk2d {W : World} {N : Nat} {T : TypeId} {u0 u1 : Value} (h : W.heap[N]? = some (.cells #[u0, u1] T)) : W.cell? ⟨N, 0, none⟩ = some u0 ∧ W.cell? ⟨N, 1, none⟩ = some u1 := by
  refine ⟨?_, ?_⟩ <;> simp [World.cell?, h]
theorem frz {W : World} {N : Nat} {T : TypeId} {c : Array Value} (h : W.heap[N]? = some (.cells c T)) (i : Nat) : W.frozen? ⟨N, i, none⟩ = false := by simp [World.frozen?, h]
theorem stpM_tag {α : Type} {ns : List Pl.Nd} {g : List α → Nat → Bool} {tag : List UInt8} {ts : List (Pl.Tst α)} {n : Nat} (h : tag.isEmpty = false) (h2 : (tag == tagAt ns n) = false) : stpM ns g ⟨tag, ts⟩ n = false := by
  unfold stpM
  dsimp only
  rw [h, h2]
  rfl
theorem stpM_no {α : Type} {ns : List Pl.Nd} {g : List α → Nat → Bool} {tag : List UInt8} {ts : List (Pl.Tst α)} {n j : Nat} (hj : j < ts.length) (h : tstM ns g ts[j] n = false) : stpM ns g ⟨tag, ts⟩ n = false := by
  unfold stpM
  dsimp only
  have : (ts.all fun t => tstM ns g t n) = false := by
    rw [Bool.eq_false_iff]
    intro e
    rw [List.all_eq_true] at e
    rw [e _ (List.getElem_mem hj)] at h
    cases h
  rw [this, Bool.and_false]
theorem stpM_yes {α : Type} {ns : List Pl.Nd} {g : List α → Nat → Bool} {tag : List UInt8} {ts : List (Pl.Tst α)} {n : Nat} (h : (tag.isEmpty || tag == tagAt ns n) = true) (h2 : ∀ j (hj : j < ts.length), tstM ns g ts[j] n = true) : stpM ns g ⟨tag, ts⟩ n = true := by
  unfold stpM
  dsimp only
  rw [h, Bool.true_and, List.all_eq_true]
  intro t ht
  obtain ⟨j, hj, rfl⟩ := List.getElem_of_mem ht
  exact h2 j hj
theorem pthM_no {α : Type} {ns : List Pl.Nd} {g : List α → Nat → Bool} {p : Pl.Pth α} {k n : Nat} (h : stpM ns g (stpAt p k) n = false) : pthM ns g p k n = false := by
  cases k with
  | zero => exact h
  | succ k => unfold pthM; rw [h]; rfl
end Go.Proofs.YtagobgjlhdbhmaaDoor
