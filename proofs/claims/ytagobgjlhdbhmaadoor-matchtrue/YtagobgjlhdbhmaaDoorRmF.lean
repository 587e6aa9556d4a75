/-
  What the document says of a test.
-/
import Derived.Test.YtagobgjlhdbhmaaDoorRmE
import Derived.Test.YtagobgjlhdbhmaaDoorRmC
import Derived.Test.YtagobgjlhdbhmaaDoorRgL
import Derived.Deep.RegionHeld3
import Derived.Deep.QuietTactic
import Derived.BigQuiet
namespace Go.Proofs.YtagobgjlhdbhmaaDoor
open Go.RowKit

/-- the boxes of Passes: the document, the test, the element -/
structure PsB (w W : World) (dv : Value) (kind : Int) (name value : List UInt8) (ta tb : Int) (vl : Value) (up : Int) (tag idn : List UInt8) (vc va : Value) : Prop where
  d : W.cell? ⟨w.heap.size, 0, none⟩ = some dv
  t0 : W.cell? ⟨w.heap.size + 1, 0, none⟩ = some (.int .i64 kind)
  t1 : W.cell? ⟨w.heap.size + 1, 1, none⟩ = some (.string ⟨name.toArray⟩)
  t2 : W.cell? ⟨w.heap.size + 1, 2, none⟩ = some (.string ⟨value.toArray⟩)
  t3 : W.cell? ⟨w.heap.size + 1, 3, none⟩ = some (.int .i64 ta)
  t4 : W.cell? ⟨w.heap.size + 1, 4, none⟩ = some (.int .i64 tb)
  t5 : W.cell? ⟨w.heap.size + 1, 5, none⟩ = some vl
  x0 : W.cell? ⟨w.heap.size + 1 + 1, 0, none⟩ = some (.int .i64 up)
  x1 : W.cell? ⟨w.heap.size + 1 + 1, 1, none⟩ = some (.string ⟨tag.toArray⟩)
  x2 : W.cell? ⟨w.heap.size + 1 + 1, 2, none⟩ = some (.string ⟨idn.toArray⟩)
  x3 : W.cell? ⟨w.heap.size + 1 + 1, 3, none⟩ = some vc
  x4 : W.cell? ⟨w.heap.size + 1 + 1, 4, none⟩ = some va
theorem PsB.on {w W W' : World} {dv : Value} {kind : Int} {name value : List UInt8} {ta tb : Int} {vl : Value} {up : Int} {tag idn : List UInt8} {vc va : Value} (h : PsB w W dv kind name value ta tb vl up tag idn vc va) (hb : Below W.heap.size W W') : PsB w W' dv kind name value ta tb vl up tag idn vc va :=
  ⟨cell_on hb h.d, cell_on hb h.t0, cell_on hb h.t1, cell_on hb h.t2, cell_on hb h.t3, cell_on hb h.t4, cell_on hb h.t5, cell_on hb h.x0, cell_on hb h.x1, cell_on hb h.x2, cell_on hb h.x3, cell_on hb h.x4⟩
theorem blk6c {W : World} {N : Nat} {T : TypeId} {u0 u1 u2 u3 u4 u5 : Value} (h : W.heap[N]? = some (.cells #[u0, u1, u2, u3, u4, u5] T)) : W.cell? ⟨N, 0, none⟩ = some u0 ∧ W.cell? ⟨N, 1, none⟩ = some u1 ∧ W.cell? ⟨N, 2, none⟩ = some u2 ∧ W.cell? ⟨N, 3, none⟩ = some u3 ∧ W.cell? ⟨N, 4, none⟩ = some u4 ∧ W.cell? ⟨N, 5, none⟩ = some u5 := by
  refine ⟨?_, ?_, ?_, ?_, ?_, ?_⟩ <;> simp [World.cell?, h]
theorem at_parts {ns : List Pl.Nd} {n : Nat} (hn : n < ns.length) : tagAt ns n = ns[n].tag ∧ idAt ns n = ns[n].id ∧ clsAt ns n = ns[n].cls ∧ atsAt ns n = ns[n].ats ∧ Pl.upOf ns n = ns[n].up := by
  unfold tagAt idAt clsAt atsAt Pl.upOf
  rw [List.getElem?_eq_getElem hn]
  exact ⟨rfl, rfl, rfl, rfl, rfl⟩
theorem beq_cast (k : Nat) : (((k : Nat) : Int) == 0) = (k == 0) := by
  cases k <;> simp
  omega
theorem val_len {l : List UInt8} (h : Pl.isValue l = true) : l.length ≤ 65536 := by
  unfold Pl.isValue at h
  simp only [Bool.and_eq_true, decide_eq_true_eq] at h
  omega
theorem right_vals {x : Pl.Nd} (h : Pl.right x = true) : ∀ a ∈ x.ats, a.2.length ≤ 65536 := by
  unfold Pl.right at h
  simp only [Bool.and_eq_true, List.all_eq_true] at h
  exact fun a ha => val_len (h.2 a ha)
theorem attr1_mem {ats : List (List UInt8 × List UInt8)} {name v : List UInt8} (h : attr1 ats name = some v) : ∃ a ∈ ats, a.2 = v := by
  unfold attr1 at h
  cases hf : ats.find? (fun a => a.1 == name) with
  | none => rw [hf] at h; cases h
  | some a =>
    rw [hf] at h
    exact ⟨a, List.mem_of_find?_eq_some hf, Option.some.inj h⟩
theorem form_val {α : Type} {t : Pl.Tst α} (h : tF t = true) : t.value.length ≤ 65536 := by
  unfold tF Pl.tForm at h
  simp only [Bool.and_eq_true] at h
  have h2 := h.1.1.2
  unfold Pl.asked at h2
  split at h2
  · exact val_len h2
  · have : t.value = [] := by simpa using h2
    rw [this]
    simp
end Go.Proofs.YtagobgjlhdbhmaaDoor
