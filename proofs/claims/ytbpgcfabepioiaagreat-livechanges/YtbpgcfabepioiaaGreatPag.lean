/-
  Pages: a document and its index; what is answered of them, in plain lists and in memory.
-/
import Derived.Test.YtbpgcfabepioiaaGreatBui
import Derived.Test.YtbpgcfabepioiaaGreatTrer
import Derived.Test.YtbpgcfabepioiaaGreatPut
import Derived.Test.YtbpgcfabepioiaaGreatIdxS
namespace Go.Proofs.YtbpgcfabepioiaaGreat
open Go.RowKit

theorem ins_right {ns es : List Pl.Nd} {up at_ : Int} (h : insErr ns up at_ es = 0) : Pl.checkDoc (insOf ns up at_ es) = 0 := by
  obtain ⟨_, _, _, h1, _⟩ := ins_back h
  exact h1
theorem rem_right {ns : List Pl.Nd} {n : Int} (h : remErr ns n = 0) : Pl.checkDoc (remOf ns n) = 0 := by
  have h1 : checkAtOf ns n = 0 := by
    unfold remErr at h
    split at h
    · assumption
    · assumption
  obtain ⟨_, _, _, _, _, _, _, _, h2, _⟩ := rem_back h1 h
  exact (ins_zero h2).1
theorem put_right {ns : List Pl.Nd} {n : Int} {x : Pl.Nd} (h : putErr ns n x = 0) : Pl.checkDoc (putOf ns n x) = 0 := by
  have h0 := h
  unfold putErr at h
  split at h
  · rename_i h1
    split at h
    · rename_i hr
      obtain ⟨c1, k, rfl, hk⟩ := checkAt_zero h1
      obtain ⟨l1, l2, r1, g1⟩ := (Pl.check_iff ns).1 c1
      unfold putOf
      rw [if_pos h0, Pl.map_mvd_id, Int.toNat_natCast]
      have hup : ∀ i, Pl.upOf (ns.set k { x with up := Pl.upOf ns k }) i = Pl.upOf ns i := by
        intro i
        unfold Pl.upOf
        rw [List.getElem?_set]
        by_cases hki : k = i
        · subst hki
          rw [if_pos rfl, if_pos hk, List.getElem?_eq_getElem hk]
        · rw [if_neg hki]
      refine (Pl.check_iff _).2 ⟨by simpa using l1, by simpa using l2, ?_, ?_⟩
      · intro y hy
        rcases List.mem_or_eq_of_mem_set hy with hy | rfl
        · exact r1 y hy
        · exact hr
      · intro i hi
        rw [List.length_set] at hi
        have := g1 i hi
        simp only [hup]
        exact this
    · omega
  · rename_i h1
    exact absurd h h1
theorem part_whole {ns : List Pl.Nd} (h : Pl.checkDoc ns = 0) : checkAtOf ns 0 = 0 ∧ partOf ns 0 = ns := by
  obtain ⟨l1, l2, r1, g1⟩ := (Pl.check_iff ns).1 h
  have hc : checkAtOf ns 0 = 0 := checkAt_of (k := 0) h (by omega)
  refine ⟨hc, ?_⟩
  have hb : Pl.behind ns 0 = ns.length := Pl.behind_eq (by omega) (by omega) (Nat.le_refl _) (fun m h1 h2 => by have := (g1 m h2).2 h1; omega) (fun h => by omega)
  unfold partOf
  rw [if_pos hc]
  simp only [Int.toNat_zero, List.drop_zero, Nat.sub_zero, hb, List.take_length]
  apply List.ext_getElem?
  intro i
  rw [List.getElem?_map]
  cases hi : ns[i]? with
  | none => rfl
  | some x =>
    have hil : i < ns.length := (List.getElem?_eq_some_iff.1 hi).1
    have hux : Pl.upOf ns i = x.up := by unfold Pl.upOf; rw [hi]
    have := g1 i hil
    rw [hux] at this
    show some (Pl.mvd (Pl.mvPart 0) x) = some x
    have e : Pl.mvPart 0 x.up = x.up := by
      unfold Pl.mvPart
      by_cases h0 : i = 0
      · rw [this.1 h0]; rfl
      · have h1 := this.2 (by omega)
        rw [if_neg (by omega), Pl.wr_in (by omega) (by omega)]
        omega
    unfold Pl.mvd
    rw [e]
theorem part_bad {ns : List Pl.Nd} (h : Pl.checkDoc ns ≠ 0) : checkAtOf ns 0 = Pl.checkDoc ns ∧ partOf ns 0 = [] := by
  have hc : checkAtOf ns 0 = Pl.checkDoc ns := by unfold checkAtOf; rw [if_neg h]
  refine ⟨hc, ?_⟩
  unfold partOf
  rw [hc, if_neg h]
/-- what a page made of a document is, or the error -/
def pgErr (err : Int) (ns : List Pl.Nd) : Int := if err = 0 then Pl.checkDoc ns else err
def pgDoc (err : Int) (ns : List Pl.Nd) : List Pl.Nd := if err = 0 then (if Pl.checkDoc ns = 0 then ns else []) else []
def pgIdx (err : Int) (ns : List Pl.Nd) : List Pl.Er := if err = 0 then Pl.idxAns ns else []
/-- the errors of a page -/
def pageErr (ns : List Pl.Nd) (l : List Pl.Er) : Int := if Pl.checkDoc ns = 0 then (if l = Pl.idxAns ns then 0 else 1) else Pl.checkDoc ns
theorem idx_small (ns : List Pl.Nd) : (Pl.idxAns ns).length ≤ 512 ∧ ∀ e ∈ Pl.idxAns ns, e.2.length ≤ 512 := by
  unfold Pl.idxAns
  split
  · rename_i h
    obtain ⟨_, h64, _⟩ := check_zero h
    have := Pl.idx_fit (fun x hx => (check_short h x hx).1) ns.length
    refine ⟨by have := this.1; simp; omega, fun e he => ?_⟩
    obtain ⟨f, hf, rfl⟩ := List.mem_map.1 he
    have := this.2 f hf
    simp [Pl.erOf]
    omega
  · simp
/-- a small block of slices -/
structure Sm (W : World) (N : Nat) : Prop where
  ex : ∃ cs t, W.heap[N]? = some (.cells cs t (0, 0)) ∧ cs.size ≤ 2 ∧ ∀ c ∈ cs.toList, ∃ a l k, c = .slice a l k
theorem Sm.cell {W : World} {N j : Nat} {v : Value} (h : Sm W N) (hc : W.cell? ⟨N, j, none⟩ = some v) : j < 2 ∧ ∃ a l k, v = .slice a l k := by
  obtain ⟨cs, t, h1, h2, h3⟩ := h.ex
  rw [cell_of_row W N j cs t (0, 0) h1] at hc
  have hj : j < cs.size := by
    rcases Nat.lt_or_ge j cs.size with h4 | h4
    · exact h4
    · rw [Array.getElem?_eq_none h4] at hc; cases hc
  refine ⟨by omega, h3 v ?_⟩
  rw [Array.getElem?_eq_getElem hj] at hc
  injection hc with hc
  rw [← hc]
  simp
theorem sm_str {W : World} {N j b o : Nat} {u : Value} {s : ByteArray} (h : Sm W N) (hc : W.cell? ⟨b, o, none⟩ = some (.string s)) : (W.setCell ⟨N, j, none⟩ u).cell? ⟨b, o, none⟩ = some (.string s) := by
  rw [World.cell?_setCell_other _ _ _ _ (by
    intro e
    injection e with e1 _ _
    subst e1
    obtain ⟨_, _, _, _, e⟩ := h.cell hc
    cases e)]
  exact hc
theorem sm_int {W : World} {N j b o : Nat} {u : Value} {k : IntKind} {z : Int} (h : Sm W N) (hc : W.cell? ⟨b, o, none⟩ = some (.int k z)) : (W.setCell ⟨N, j, none⟩ u).cell? ⟨b, o, none⟩ = some (.int k z) := by
  rw [World.cell?_setCell_other _ _ _ _ (by
    intro e
    injection e with e1 _ _
    subst e1
    obtain ⟨_, _, _, _, e⟩ := h.cell hc
    cases e)]
  exact hc
theorem DocAt.sm {W : World} {v u : Value} {ns : List Pl.Nd} {N j : Nat} (h : DocAt W v ns) (hS : Sm W N) : DocAt (W.setCell ⟨N, j, none⟩ u) v ns := by
  refine ⟨?_, h.2⟩
  obtain ⟨a, c, rfl, hc⟩ := h.1
  refine ⟨a, c, rfl, ?_⟩
  rcases hc with hc | ⟨b, o, rfl, hc⟩
  · exact Or.inl hc
  · refine Or.inr ⟨b, o, rfl, fun i hi => ?_⟩
    obtain ⟨vc, va, n0, n1, n2, n3, n4, nc, na⟩ := hc i hi
    have hb : N ≠ b := by
      intro e
      subst e
      have := (hS.cell n4).1
      omega
    refine ⟨vc, va, cell_set n0 hb, cell_set n1 hb, cell_set n2 hb, cell_set n3 hb, cell_set n4 hb, ?_, ?_⟩
    · obtain ⟨a, c, rfl, h⟩ := nc
      refine ⟨a, c, rfl, ?_⟩
      rcases h with h | ⟨b, o, ha, hc⟩
      · exact Or.inl h
      · exact Or.inr ⟨b, o, ha, fun i hi => sm_str hS (hc i hi)⟩
    · obtain ⟨a, c, rfl, h⟩ := na
      refine ⟨a, c, rfl, ?_⟩
      rcases h with h | ⟨b, o, ha, hc⟩
      · exact Or.inl h
      · exact Or.inr ⟨b, o, ha, fun i hi => ⟨sm_str hS (hc i hi).1, sm_str hS (hc i hi).2⟩⟩
theorem EnsAt.sm {W : World} {v u : Value} {l : List Pl.Er} {N j : Nat} (h : EnsAt W v l) (hS : Sm W N) : EnsAt (W.setCell ⟨N, j, none⟩ u) v l := by
  obtain ⟨a, c, rfl, hc⟩ := h
  refine ⟨a, c, rfl, ?_⟩
  rcases hc with hc | ⟨b, o, rfl, hc⟩
  · exact Or.inl hc
  · refine Or.inr ⟨b, o, rfl, fun i hi => ?_⟩
    obtain ⟨vi, n0, n1, n2, n3⟩ := hc i hi
    have hb : N ≠ b := by
      intro e
      subst e
      have := (hS.cell n2).1
      omega
    refine ⟨vi, cell_set n0 hb, cell_set n1 hb, cell_set n2 hb, ?_⟩
    obtain ⟨a, c, rfl, h⟩ := n3
    refine ⟨a, c, rfl, ?_⟩
    rcases h with h | ⟨b, o, ha, hc⟩
    · exact Or.inl h
    · exact Or.inr ⟨b, o, ha, fun i hi => sm_int hS (hc i hi)⟩
/-- a block of two cells: a page's box -/
def Blk2 (w : World) (N : Nat) (c0 c1 : Value) : Prop := w.heap[N]? = some (.cells #[c0, c1] 27)
theorem Blk2.facts {w : World} {N : Nat} {c0 c1 : Value} (h : Blk2 w N c0 c1) : (w.cell? ⟨N, 0, none⟩ = some c0 ∧ w.cell? ⟨N, 1, none⟩ = some c1) ∧ ∀ i, w.frozen? ⟨N, i, none⟩ = false := by
  unfold Blk2 at h
  refine ⟨⟨?_, ?_⟩, fun i => ?_⟩
  all_goals simp [World.cell?, World.frozen?, h]
theorem Blk2.lt {w : World} {N : Nat} {c0 c1 : Value} (h : Blk2 w N c0 c1) : N < w.heap.size := (Array.getElem?_eq_some_iff.1 h).1
theorem Blk2.on {w w' : World} {N : Nat} {c0 c1 : Value} (h : Blk2 w N c0 c1) (hb : Below w.heap.size w w') : Blk2 w' N c0 c1 := by
  unfold Blk2; rw [hb.block N h.lt]; exact h
theorem Blk2.new (w : World) (c0 c1 : Value) : Blk2 (w.alloc (.cells #[c0, c1] 27)) w.heap.size c0 c1 := heap_alloc_new w _
theorem Blk2.set0 {w : World} {N : Nat} {c0 c1 : Value} (h : Blk2 w N c0 c1) (v : Value) : Blk2 (w.setCell ⟨N, 0, none⟩ v) N v c1 := by
  unfold Blk2 at *
  simp [World.setCell, Array.getElem?_modify, h]
theorem Blk2.set1 {w : World} {N : Nat} {c0 c1 : Value} (h : Blk2 w N c0 c1) (v : Value) : Blk2 (w.setCell ⟨N, 1, none⟩ v) N c0 v := by
  unfold Blk2 at *
  simp [World.setCell, Array.getElem?_modify, h]
theorem Blk2.sm {w : World} {N : Nat} {a0 a1 : Option Addr} {l0 l1 k0 k1 : Nat} (h : Blk2 w N (.slice a0 l0 k0) (.slice a1 l1 k1)) : Sm w N := ⟨_, _, h, by simp, fun c hc => by
  simp only [List.mem_cons, List.not_mem_nil, or_false] at hc
  rcases hc with rfl | rfl
  · exact ⟨_, _, _, rfl⟩
  · exact ⟨_, _, _, rfl⟩⟩
theorem Blk1.sm {w : World} {N : Nat} {a0 : Option Addr} {l0 k0 : Nat} (h : Blk1 w N (.slice a0 l0 k0)) : Sm w N := ⟨_, _, h, by simp, fun c hc => by
  simp only [List.mem_cons, List.not_mem_nil, or_false] at hc
  subst hc
  exact ⟨_, _, _, rfl⟩⟩
theorem EnsAt.form {w : World} {v : Value} {l : List Pl.Er} (h : EnsAt w v l) : ∃ a c, v = .slice a l.length c := by
  obtain ⟨a, c, e, _⟩ := h
  exact ⟨a, c, e⟩
/-- a page -/
def PgAt (w : World) (v : Value) (ns : List Pl.Nd) (l : List Pl.Er) : Prop := ∃ a c a2 c2, v = .agg #[.slice a ns.length c, .slice a2 l.length c2] ∧ DocAt w (.slice a ns.length c) ns ∧ EnsAt w (.slice a2 l.length c2) l
theorem PgAt.on {w w' : World} {v : Value} {ns : List Pl.Nd} {l : List Pl.Er} (h : PgAt w v ns l) (hb : Below w.heap.size w w') : PgAt w' v ns l := by
  obtain ⟨a, c, a2, c2, e, h1, h2⟩ := h
  exact ⟨a, c, a2, c2, e, h1.on hb, h2.on hb⟩
theorem PgAt.nil (w : World) : PgAt w (.agg #[.slice none 0 0, .slice none 0 0]) [] [] := ⟨none, 0, none, 0, rfl, DocAt.nil w, EnsAt.nil w⟩
/-- a page laid into its box -/
theorem PgAt.box {w : World} {N : Nat} {ns : List Pl.Nd} {l : List Pl.Er} {a a2 a3 a4 : Option Addr} {c c2 l3 c3 l4 c4 : Nat} (h1 : DocAt w (.slice a ns.length c) ns) (h2 : EnsAt w (.slice a2 l.length c2) l) (hb : Blk2 w N (.slice a3 l3 c3) (.slice a4 l4 c4)) :
    PgAt ((w.setCell ⟨N, 0, none⟩ (.slice a ns.length c)).setCell ⟨N, 1, none⟩ (.slice a2 l.length c2)) (.agg #[.slice a ns.length c, .slice a2 l.length c2]) ns l ∧
      Blk2 ((w.setCell ⟨N, 0, none⟩ (.slice a ns.length c)).setCell ⟨N, 1, none⟩ (.slice a2 l.length c2)) N (.slice a ns.length c) (.slice a2 l.length c2) := by
  have hb1 := hb.set0 (.slice a ns.length c)
  exact ⟨⟨a, c, a2, c2, rfl, (h1.sm hb.sm).sm hb1.sm, (h2.sm hb.sm).sm hb1.sm⟩, hb1.set1 _⟩
end Go.Proofs.YtbpgcfabepioiaaGreat
