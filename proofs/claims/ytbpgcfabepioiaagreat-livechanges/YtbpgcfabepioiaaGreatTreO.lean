/-
  The tree of an element, as the document's own answer builds it.
-/
import Derived.Test.YtbpgcfabepioiaaGreatOwnN
import Derived.Test.YtbpgcfabepioiaaGreatRefK
import Derived.Deep.RegionHeld3
namespace Go.Proofs.YtbpgcfabepioiaaGreat
open Go.RowKit

namespace Pl
def ndAt (ns : List Nd) (n : Nat) : Nd := match ns[n]? with | some x => x | none => ⟨0, [], [], [], []⟩
theorem ndAt_eq (ns : List Nd) (n : Nat) (h : n < ns.length) : ndAt ns n = ns[n] := by unfold ndAt; rw [List.getElem?_eq_getElem h]
/-- the trees of elements, by a bound on how deep they go -/
def trees (sub : Nat → F) (ns : List Nd) (l : List Nat) : F := l.foldr (fun n r => .cons (ndAt ns n) (sub n) r) .nil
def forestOf (ns : List Nd) : Nat → List Nat → F
  | 0, _ => .nil
  | f + 1, l => trees (fun n => forestOf ns f (kidsOf ns n)) ns l
theorem trees_len (sub : Nat → F) (ns : List Nd) (l : List Nat) : (trees sub ns l).len = l.length := by
  unfold trees
  induction l with
  | nil => rfl
  | cons a r ih => simp [F.len, ih]
theorem trees_snoc (sub : Nat → F) (ns : List Nd) (l : List Nat) (m : Nat) : trees sub ns (l ++ [m]) = (trees sub ns l).app (.cons (ndAt ns m) (sub m) .nil) := by
  unfold trees
  induction l with
  | nil => rfl
  | cons a r ih => simp only [List.cons_append, List.foldr_cons, F.app, ih]
theorem kidsOf_mem {ns : List Nd} {n : Int} {k : Nat} (h : k ∈ kidsOf ns n) : k < ns.length ∧ upOf ns k = n := by
  unfold kidsOf kidsTo at h
  rw [List.mem_filter, List.mem_range] at h
  exact ⟨h.1, by simpa using h.2⟩
end Pl
/-- a tree's box -/
def Blk6 (w : World) (N : Nat) (c0 c1 c2 c3 c4 c5 : Value) : Prop := w.heap[N]? = some (.cells #[c0, c1, c2, c3, c4, c5] 60)
theorem Blk6.facts {w : World} {N : Nat} {c0 c1 c2 c3 c4 c5 : Value} (h : Blk6 w N c0 c1 c2 c3 c4 c5) :
    (w.cell? ⟨N, 0, none⟩ = some c0 ∧ w.cell? ⟨N, 1, none⟩ = some c1 ∧ w.cell? ⟨N, 2, none⟩ = some c2 ∧ w.cell? ⟨N, 3, none⟩ = some c3 ∧ w.cell? ⟨N, 4, none⟩ = some c4 ∧ w.cell? ⟨N, 5, none⟩ = some c5) ∧ ∀ i, w.frozen? ⟨N, i, none⟩ = false := by
  unfold Blk6 at h
  refine ⟨⟨?_, ?_, ?_, ?_, ?_, ?_⟩, fun i => ?_⟩
  all_goals simp [World.cell?, World.frozen?, h]
theorem Blk6.lt {w : World} {N : Nat} {c0 c1 c2 c3 c4 c5 : Value} (h : Blk6 w N c0 c1 c2 c3 c4 c5) : N < w.heap.size := (Array.getElem?_eq_some_iff.1 h).1
theorem Blk6.on {w w' : World} {N : Nat} {c0 c1 c2 c3 c4 c5 : Value} (h : Blk6 w N c0 c1 c2 c3 c4 c5) (hb : Below w.heap.size w w') : Blk6 w' N c0 c1 c2 c3 c4 c5 := by
  unfold Blk6; rw [hb.block N h.lt]; exact h
theorem Blk6.grown {w w' : World} {N : Nat} {g : Option Nat} {c0 c1 c2 c3 c4 c5 : Value} (h : Blk6 w N c0 c1 c2 c3 c4 c5) (hb : w.grownBy w' g) (hne : some N ≠ g) : Blk6 w' N c0 c1 c2 c3 c4 c5 := by
  unfold Blk6; rw [hb.block N h.lt hne]; exact h
theorem Blk6.new (w : World) (c0 c1 c2 c3 c4 c5 : Value) : Blk6 (w.alloc (.cells #[c0, c1, c2, c3, c4, c5] 60)) w.heap.size c0 c1 c2 c3 c4 c5 := by
  unfold Blk6
  show (w.heap.push _)[w.heap.size]? = _
  simp
theorem Blk6.set0 {w : World} {N : Nat} {c0 c1 c2 c3 c4 c5 : Value} (h : Blk6 w N c0 c1 c2 c3 c4 c5) (v : Value) : Blk6 (w.setCell ⟨N, 0, none⟩ v) N v c1 c2 c3 c4 c5 := by
  unfold Blk6 at *
  simp [World.setCell, Array.getElem?_modify, h]
theorem Blk6.set1 {w : World} {N : Nat} {c0 c1 c2 c3 c4 c5 : Value} (h : Blk6 w N c0 c1 c2 c3 c4 c5) (v : Value) : Blk6 (w.setCell ⟨N, 1, none⟩ v) N c0 v c2 c3 c4 c5 := by
  unfold Blk6 at *
  simp [World.setCell, Array.getElem?_modify, h]
theorem Blk6.set2 {w : World} {N : Nat} {c0 c1 c2 c3 c4 c5 : Value} (h : Blk6 w N c0 c1 c2 c3 c4 c5) (v : Value) : Blk6 (w.setCell ⟨N, 2, none⟩ v) N c0 c1 v c3 c4 c5 := by
  unfold Blk6 at *
  simp [World.setCell, Array.getElem?_modify, h]
theorem Blk6.set3 {w : World} {N : Nat} {c0 c1 c2 c3 c4 c5 : Value} (h : Blk6 w N c0 c1 c2 c3 c4 c5) (v : Value) : Blk6 (w.setCell ⟨N, 3, none⟩ v) N c0 c1 c2 v c4 c5 := by
  unfold Blk6 at *
  simp [World.setCell, Array.getElem?_modify, h]
theorem Blk6.set4 {w : World} {N : Nat} {c0 c1 c2 c3 c4 c5 : Value} (h : Blk6 w N c0 c1 c2 c3 c4 c5) (v : Value) : Blk6 (w.setCell ⟨N, 4, none⟩ v) N c0 c1 c2 c3 v c5 := by
  unfold Blk6 at *
  simp [World.setCell, Array.getElem?_modify, h]
theorem Blk6.set5 {w : World} {N : Nat} {c0 c1 c2 c3 c4 c5 : Value} (h : Blk6 w N c0 c1 c2 c3 c4 c5) (v : Value) : Blk6 (w.setCell ⟨N, 5, none⟩ v) N c0 c1 c2 c3 c4 v := by
  unfold Blk6 at *
  simp [World.setCell, Array.getElem?_modify, h]
theorem Blk6.other {w : World} {N M i : Nat} {c0 c1 c2 c3 c4 c5 : Value} (h : Blk6 w N c0 c1 c2 c3 c4 c5) (hne : M ≠ N) (v : Value) : Blk6 (w.setCell ⟨M, i, none⟩ v) N c0 c1 c2 c3 c4 c5 := by
  unfold Blk6 at *
  rw [Below.heap_setCell _ _ _ _ (by exact fun e => hne e.symm)]; exact h
/-- all six written -/
def setSix (w : World) (N : Nat) (c0 c1 c2 c3 c4 c5 : Value) : World := (((((w.setCell ⟨N, 0, none⟩ c0).setCell ⟨N, 1, none⟩ c1).setCell ⟨N, 2, none⟩ c2).setCell ⟨N, 3, none⟩ c3).setCell ⟨N, 4, none⟩ c4).setCell ⟨N, 5, none⟩ c5
theorem Blk6.six {w : World} {N : Nat} {d0 d1 d2 d3 d4 d5 : Value} (h : Blk6 w N d0 d1 d2 d3 d4 d5) (c0 c1 c2 c3 c4 c5 : Value) : Blk6 (setSix w N c0 c1 c2 c3 c4 c5) N c0 c1 c2 c3 c4 c5 := (((((h.set0 c0).set1 c1).set2 c2).set3 c3).set4 c4).set5 c5
theorem six_block (w : World) (N : Nat) (c0 c1 c2 c3 c4 c5 : Value) (j : Nat) (h : j ≠ N) : (setSix w N c0 c1 c2 c3 c4 c5).heap[j]? = w.heap[j]? := by
  unfold setSix
  rw [Below.heap_setCell _ _ _ _ h, Below.heap_setCell _ _ _ _ h, Below.heap_setCell _ _ _ _ h, Below.heap_setCell _ _ _ _ h, Below.heap_setCell _ _ _ _ h, Below.heap_setCell _ _ _ _ h]
theorem six_Below {B : Nat} {w0 w : World} (h : Below B w0 w) (N : Nat) (hN : B ≤ N) (c0 c1 c2 c3 c4 c5 : Value) : Below B w0 (setSix w N c0 c1 c2 c3 c4 c5) :=
  (((((h.setCell (p := ⟨N, 0, none⟩) hN c0).setCell (p := ⟨N, 1, none⟩) hN c1).setCell (p := ⟨N, 2, none⟩) hN c2).setCell (p := ⟨N, 3, none⟩) hN c3).setCell (p := ⟨N, 4, none⟩) hN c4).setCell (p := ⟨N, 5, none⟩) hN c5
theorem six_size (w : World) (N : Nat) (c0 c1 c2 c3 c4 c5 : Value) : (setSix w N c0 c1 c2 c3 c4 c5).heap.size = w.heap.size := by simp [setSix, World.setCell]

/-- one tree more, at the step that appends it -/
theorem step_tadd {ops : Array Oper} {o : Oper} {a : Act} {K : Act → World → Prop} {Q : Exit → Act → World → Prop} {E : Prop} {B : Nat} {P : Nat → Prop} {w2 : World} {v : Value} {f : Pl.F} {xs : List Value} {x : Pl.Nd} {k : Pl.F} {vc va vk : Value} (hgd : o.guard = none) (s t : Operand)
    (ho : o.op = .call { callee := .builtin .append, args := #[s, t], argTypes := #[58, 58] }) (hs : a.eval s = v) (hx : a.eval t = .slice (some ⟨w2.heap.size, 0, none⟩) 1 1)
    (hown : w2.ownsRow B 60 6 v f.len xs) (hcs : CellsF (fun j => P j ∧ some j ≠ v.ownBlock) w2 xs f) (hlen : f.len + 1 ≤ 64) (hB : B ≤ w2.heap.size)
    (hvc : StrsP (fun j => P j ∧ some j ≠ v.ownBlock) w2 vc x.cls) (hva : AtsP (fun j => P j ∧ some j ≠ v.ownBlock) w2 va x.ats) (hvk : Sub (fun j => P j ∧ some j ≠ v.ownBlock) w2 vk k)
    (h : ∀ g cap w', TRow B P w' (.slice (some ⟨g, 0, none⟩) (f.len + 1) cap) (f.app (.cons x k .nil)) → (w2.alloc (.cells #[.int .i64 x.up, .string ⟨x.tag.toArray⟩, .string ⟨x.id.toArray⟩, vc, va, vk] 60)).grownBy w' v.ownBlock → K (a.put o.dst (.slice (some ⟨g, 0, none⟩) (f.len + 1) cap)) w') :
    if Region.wanted o (yielded ops a.tmps) = true then Oper.wp Tryz.prog o a (w2.alloc (.cells #[.int .i64 x.up, .string ⟨x.tag.toArray⟩, .string ⟨x.id.toArray⟩, vc, va, vk] 60)) K Q else E := by
  obtain ⟨i0, hi, hz0, hz1, hz2⟩ := info_parts Tryz.info60
  have hm : Mv (fun j => P j ∧ some j ≠ v.ownBlock) w2 (fun j => P j ∧ some j ≠ v.ownBlock) (w2.alloc (.cells #[.int .i64 x.up, .string ⟨x.tag.toArray⟩, .string ⟨x.id.toArray⟩, vc, va, vk] 60)) := fun j hj hl => ⟨hj, (on_alloc _ _).block j hl⟩
  obtain ⟨_, _, e3, _⟩ := id hvc
  obtain ⟨_, _, e4, _⟩ := id hva
  obtain ⟨_, _, e5, _⟩ := id hvk
  refine step_append_lies _ hgd s t 58 ho B 60 i0 _ 6 112 Tryz.underlying58 hi hz0 hz1 hz2 rfl (by decide) v f.len xs hs (own_on hown (on_alloc _ _)) ⟨w2.heap.size, 0, none⟩ 1 1 [.int .i64 x.up, .string ⟨x.tag.toArray⟩, .string ⟨x.id.toArray⟩, vc, va, vk] hx rfl ?_ ?_ (by decide) (by unfold maxLen; omega) (by omega) (by simp; omega) _ rfl ?_
  · exact World.news_of_block (heap_alloc_new w2 _)
  · intro u hu
    simp only [List.mem_cons, List.not_mem_nil, or_false] at hu
    rcases hu with rfl | rfl | rfl | rfl | rfl | rfl
    · rfl
    · rfl
    · rfl
    · rw [e3]; rfl
    · rw [e4]; rfl
    · rw [e5]; rfl
  · intro g cap w' h1 h2 h3 _
    exact h g cap w' (trow_step (CellsF.to hm f _ hcs) (hvc.to hm) (hva.to hm) (hvk.to hm) h1 h2 h3) h2
end Go.Proofs.YtbpgcfabepioiaaGreat
