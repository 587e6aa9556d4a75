/-
  Pages: a document and its index; what is answered of them, in plain lists and in memory.
-/
import Derived.Test.YtephhllfodlfbaaGreatDoorTrek
import Derived.Test.YtephhllfodlfbaaGreatDoorPut
import Derived.Test.YtephhllfodlfbaaGreatDoorIdxM
import Derived.Test.YtephhllfodlfbaaGreatDoorFor
import Derived.Deep.RegionLaw
import Derived.Test.YtephhllfodlfbaaGreatDoorAsk
namespace Go.Proofs.YtephhllfodlfbaaGreatDoor
open Go.RowKit

theorem ins_right {ns es : List Pl.Nd} {up at_ : Int} (h : insErr ns up at_ es = 0) : Pl.checkDoc (insOf ns up at_ es) = 0 := by
  obtain ⟨_, _, _, h1, _⟩ := ins_back h
  exact h1
theorem rem_right {ns : List Pl.Nd} {n : Int} (h : remErr ns n = 0) : Pl.checkDoc (remOf ns n) = 0 := by
  have h1 : checkAtOf ns n = 0 := by
    unfold remErr at h
    split at h
    · assumption
    · assumption
  obtain ⟨_, _, _, _, _, _, _, _, h2, _⟩ := rem_back h1 h
  exact (ins_zero h2).1
theorem put_right {ns : List Pl.Nd} {n : Int} {x : Pl.Nd} (h : putErr ns n x = 0) : Pl.checkDoc (putOf ns n x) = 0 := by
  have h0 := h
  unfold putErr at h
  split at h
  · rename_i h1
    split at h
    · rename_i hr
      obtain ⟨c1, k, rfl, hk⟩ := checkAt_zero h1
      obtain ⟨l1, l2, r1, g1⟩ := (Pl.check_iff ns).1 c1
      unfold putOf
      rw [if_pos h0, Pl.map_mvd_id, Int.toNat_natCast]
      have hup : ∀ i, Pl.upOf (ns.set k { x with up := Pl.upOf ns k }) i = Pl.upOf ns i := by
        intro i
        unfold Pl.upOf
        rw [List.getElem?_set]
        by_cases hki : k = i
        · subst hki
          rw [if_pos rfl, if_pos hk, List.getElem?_eq_getElem hk]
        · rw [if_neg hki]
      refine (Pl.check_iff _).2 ⟨by simpa using l1, by simpa using l2, ?_, ?_⟩
      · intro y hy
        rcases List.mem_or_eq_of_mem_set hy with hy | rfl
        · exact r1 y hy
        · exact hr
      · intro i hi
        rw [List.length_set] at hi
        have := g1 i hi
        simp only [hup]
        exact this
    · omega
  · rename_i h1
    exact absurd h h1
theorem part_whole {ns : List Pl.Nd} (h : Pl.checkDoc ns = 0) : checkAtOf ns 0 = 0 ∧ partOf ns 0 = ns := by
  obtain ⟨l1, l2, r1, g1⟩ := (Pl.check_iff ns).1 h
  have hc : checkAtOf ns 0 = 0 := checkAt_of (k := 0) h (by omega)
  refine ⟨hc, ?_⟩
  have hb : Pl.behind ns 0 = ns.length := Pl.behind_eq (by omega) (by omega) (Nat.le_refl _) (fun m h1 h2 => by have := (g1 m h2).2 h1; omega) (fun h => by omega)
  unfold partOf
  rw [if_pos hc]
  simp only [Int.toNat_zero, List.drop_zero, Nat.sub_zero, hb, List.take_length]
  apply List.ext_getElem?
  intro i
  rw [List.getElem?_map]
  cases hi : ns[i]? with
  | none => rfl
  | some x =>
    have hil : i < ns.length := (List.getElem?_eq_some_iff.1 hi).1
    have hux : Pl.upOf ns i = x.up := by unfold Pl.upOf; rw [hi]
    have := g1 i hil
    rw [hux] at this
    show some (Pl.mvd (Pl.mvPart 0) x) = some x
    have e : Pl.mvPart 0 x.up = x.up := by
      unfold Pl.mvPart
      by_cases h0 : i = 0
      · rw [this.1 h0]; rfl
      · have h1 := this.2 (by omega)
        rw [if_neg (by omega), Pl.wr_in (by omega) (by omega)]
        omega
    unfold Pl.mvd
    rw [e]
theorem part_bad {ns : List Pl.Nd} (h : Pl.checkDoc ns ≠ 0) : checkAtOf ns 0 = Pl.checkDoc ns ∧ partOf ns 0 = [] := by
  have hc : checkAtOf ns 0 = Pl.checkDoc ns := by unfold checkAtOf; rw [if_neg h]
  refine ⟨hc, ?_⟩
  unfold partOf
  rw [hc, if_neg h]
/-- what a page made of a document is, or the error -/
def pgErr (err : Int) (ns : List Pl.Nd) : Int := if err = 0 then Pl.checkDoc ns else err
def pgDoc (err : Int) (ns : List Pl.Nd) : List Pl.Nd := if err = 0 then (if Pl.checkDoc ns = 0 then ns else []) else []
def pgIdx (err : Int) (ns : List Pl.Nd) : List Pl.Er := if err = 0 then Pl.idxAns ns else []
/-- the errors of a page -/
def pageErr (ns : List Pl.Nd) (l : List Pl.Er) : Int := if Pl.checkDoc ns = 0 then (if l = Pl.idxAns ns then 0 else 1) else Pl.checkDoc ns
theorem idx_small (ns : List Pl.Nd) : (Pl.idxAns ns).length ≤ 512 ∧ ∀ e ∈ Pl.idxAns ns, e.2.length ≤ 512 := by
  unfold Pl.idxAns
  split
  · rename_i h
    obtain ⟨_, h64, _⟩ := check_zero h
    have := Pl.idx_fit (fun x hx => (check_short h x hx).1) ns.length
    refine ⟨by have := this.1; simp; omega, fun e he => ?_⟩
    obtain ⟨f, hf, rfl⟩ := List.mem_map.1 he
    have := this.2 f hf
    simp [Pl.erOf]
    omega
  · simp
/-- a small block of slices -/
structure Sm (W : World) (N : Nat) : Prop where
  ex : ∃ cs t, W.heap[N]? = some (.cells cs t (0, 0)) ∧ cs.size ≤ 2 ∧ ∀ c ∈ cs.toList, ∃ a l k, c = .slice a l k
theorem Sm.cell {W : World} {N j : Nat} {v : Value} (h : Sm W N) (hc : W.cell? ⟨N, j, none⟩ = some v) : j < 2 ∧ ∃ a l k, v = .slice a l k := by
  obtain ⟨cs, t, h1, h2, h3⟩ := h.ex
  rw [cell_of_row W N j cs t (0, 0) h1] at hc
  have hj : j < cs.size := by
    rcases Nat.lt_or_ge j cs.size with h4 | h4
    · exact h4
    · rw [Array.getElem?_eq_none h4] at hc; cases hc
  refine ⟨by omega, h3 v ?_⟩
  rw [Array.getElem?_eq_getElem hj] at hc
  injection hc with hc
  rw [← hc]
  simp
theorem sm_str {W : World} {N j b o : Nat} {u : Value} {s : ByteArray} (h : Sm W N) (hc : W.cell? ⟨b, o, none⟩ = some (.string s)) : (W.setCell ⟨N, j, none⟩ u).cell? ⟨b, o, none⟩ = some (.string s) := by
  rw [World.cell?_setCell_other _ _ _ _ (by
    intro e
    injection e with e1 _ _
    subst e1
    obtain ⟨_, _, _, _, e⟩ := h.cell hc
    cases e)]
  exact hc
theorem sm_int {W : World} {N j b o : Nat} {u : Value} {k : IntKind} {z : Int} (h : Sm W N) (hc : W.cell? ⟨b, o, none⟩ = some (.int k z)) : (W.setCell ⟨N, j, none⟩ u).cell? ⟨b, o, none⟩ = some (.int k z) := by
  rw [World.cell?_setCell_other _ _ _ _ (by
    intro e
    injection e with e1 _ _
    subst e1
    obtain ⟨_, _, _, _, e⟩ := h.cell hc
    cases e)]
  exact hc
theorem DocAt.sm {W : World} {v u : Value} {ns : List Pl.Nd} {N j : Nat} (h : DocAt W v ns) (hS : Sm W N) : DocAt (W.setCell ⟨N, j, none⟩ u) v ns := by
  refine ⟨?_, h.2⟩
  obtain ⟨a, c, rfl, hc⟩ := h.1
  refine ⟨a, c, rfl, ?_⟩
  rcases hc with hc | ⟨b, o, rfl, hc⟩
  · exact Or.inl hc
  · refine Or.inr ⟨b, o, rfl, fun i hi => ?_⟩
    obtain ⟨vc, va, n0, n1, n2, n3, n4, nc, na⟩ := hc i hi
    have hb : N ≠ b := by
      intro e
      subst e
      have := (hS.cell n4).1
      omega
    refine ⟨vc, va, cell_set n0 hb, cell_set n1 hb, cell_set n2 hb, cell_set n3 hb, cell_set n4 hb, ?_, ?_⟩
    · obtain ⟨a, c, rfl, h⟩ := nc
      refine ⟨a, c, rfl, ?_⟩
      rcases h with h | ⟨b, o, ha, hc⟩
      · exact Or.inl h
      · exact Or.inr ⟨b, o, ha, fun i hi => sm_str hS (hc i hi)⟩
    · obtain ⟨a, c, rfl, h⟩ := na
      refine ⟨a, c, rfl, ?_⟩
      rcases h with h | ⟨b, o, ha, hc⟩
      · exact Or.inl h
      · exact Or.inr ⟨b, o, ha, fun i hi => ⟨sm_str hS (hc i hi).1, sm_str hS (hc i hi).2⟩⟩
theorem EnsAt.sm {W : World} {v u : Value} {l : List Pl.Er} {N j : Nat} (h : EnsAt W v l) (hS : Sm W N) : EnsAt (W.setCell ⟨N, j, none⟩ u) v l := by
  obtain ⟨a, c, rfl, hc⟩ := h
  refine ⟨a, c, rfl, ?_⟩
  rcases hc with hc | ⟨b, o, rfl, hc⟩
  · exact Or.inl hc
  · refine Or.inr ⟨b, o, rfl, fun i hi => ?_⟩
    obtain ⟨vi, n0, n1, n2, n3⟩ := hc i hi
    have hb : N ≠ b := by
      intro e
      subst e
      have := (hS.cell n2).1
      omega
    refine ⟨vi, cell_set n0 hb, cell_set n1 hb, cell_set n2 hb, ?_⟩
    obtain ⟨a, c, rfl, h⟩ := n3
    refine ⟨a, c, rfl, ?_⟩
    rcases h with h | ⟨b, o, ha, hc⟩
    · exact Or.inl h
    · exact Or.inr ⟨b, o, ha, fun i hi => sm_int hS (hc i hi)⟩
/-- a block of two cells: a page's box -/
def Blk2 (w : World) (N : Nat) (c0 c1 : Value) : Prop := w.heap[N]? = some (.cells #[c0, c1] 32)
theorem Blk2.facts {w : World} {N : Nat} {c0 c1 : Value} (h : Blk2 w N c0 c1) : (w.cell? ⟨N, 0, none⟩ = some c0 ∧ w.cell? ⟨N, 1, none⟩ = some c1) ∧ ∀ i, w.frozen? ⟨N, i, none⟩ = false := by
  unfold Blk2 at h
  refine ⟨⟨?_, ?_⟩, fun i => ?_⟩
  all_goals simp [World.cell?, World.frozen?, h]
theorem Blk2.lt {w : World} {N : Nat} {c0 c1 : Value} (h : Blk2 w N c0 c1) : N < w.heap.size := (Array.getElem?_eq_some_iff.1 h).1
theorem Blk2.on {w w' : World} {N : Nat} {c0 c1 : Value} (h : Blk2 w N c0 c1) (hb : Below w.heap.size w w') : Blk2 w' N c0 c1 := by
  unfold Blk2; rw [hb.block N h.lt]; exact h
theorem Blk2.new (w : World) (c0 c1 : Value) : Blk2 (w.alloc (.cells #[c0, c1] 32)) w.heap.size c0 c1 := heap_alloc_new w _
theorem Blk2.set0 {w : World} {N : Nat} {c0 c1 : Value} (h : Blk2 w N c0 c1) (v : Value) : Blk2 (w.setCell ⟨N, 0, none⟩ v) N v c1 := by
  unfold Blk2 at *
  simp [World.setCell, Array.getElem?_modify, h]
theorem Blk2.set1 {w : World} {N : Nat} {c0 c1 : Value} (h : Blk2 w N c0 c1) (v : Value) : Blk2 (w.setCell ⟨N, 1, none⟩ v) N c0 v := by
  unfold Blk2 at *
  simp [World.setCell, Array.getElem?_modify, h]
theorem Blk2.sm {w : World} {N : Nat} {a0 a1 : Option Addr} {l0 l1 k0 k1 : Nat} (h : Blk2 w N (.slice a0 l0 k0) (.slice a1 l1 k1)) : Sm w N := ⟨_, _, h, by simp, fun c hc => by
  simp only [List.mem_cons, List.not_mem_nil, or_false] at hc
  rcases hc with rfl | rfl
  · exact ⟨_, _, _, rfl⟩
  · exact ⟨_, _, _, rfl⟩⟩
theorem Blk1.sm {w : World} {N : Nat} {a0 : Option Addr} {l0 k0 : Nat} (h : Blk1 w N (.slice a0 l0 k0)) : Sm w N := ⟨_, _, h, by simp, fun c hc => by
  simp only [List.mem_cons, List.not_mem_nil, or_false] at hc
  subst hc
  exact ⟨_, _, _, rfl⟩⟩
theorem EnsAt.form {w : World} {v : Value} {l : List Pl.Er} (h : EnsAt w v l) : ∃ a c, v = .slice a l.length c := by
  obtain ⟨a, c, e, _⟩ := h
  exact ⟨a, c, e⟩
/-- a page -/
def PgAt (w : World) (v : Value) (ns : List Pl.Nd) (l : List Pl.Er) : Prop := ∃ a c a2 c2, v = .agg #[.slice a ns.length c, .slice a2 l.length c2] ∧ DocAt w (.slice a ns.length c) ns ∧ EnsAt w (.slice a2 l.length c2) l
theorem PgAt.on {w w' : World} {v : Value} {ns : List Pl.Nd} {l : List Pl.Er} (h : PgAt w v ns l) (hb : Below w.heap.size w w') : PgAt w' v ns l := by
  obtain ⟨a, c, a2, c2, e, h1, h2⟩ := h
  exact ⟨a, c, a2, c2, e, h1.on hb, h2.on hb⟩
theorem PgAt.nil (w : World) : PgAt w (.agg #[.slice none 0 0, .slice none 0 0]) [] [] := ⟨none, 0, none, 0, rfl, DocAt.nil w, EnsAt.nil w⟩
/-- a page laid into its box -/
theorem PgAt.box {w : World} {N : Nat} {ns : List Pl.Nd} {l : List Pl.Er} {a a2 a3 a4 : Option Addr} {c c2 l3 c3 l4 c4 : Nat} (h1 : DocAt w (.slice a ns.length c) ns) (h2 : EnsAt w (.slice a2 l.length c2) l) (hb : Blk2 w N (.slice a3 l3 c3) (.slice a4 l4 c4)) :
    PgAt ((w.setCell ⟨N, 0, none⟩ (.slice a ns.length c)).setCell ⟨N, 1, none⟩ (.slice a2 l.length c2)) (.agg #[.slice a ns.length c, .slice a2 l.length c2]) ns l ∧
      Blk2 ((w.setCell ⟨N, 0, none⟩ (.slice a ns.length c)).setCell ⟨N, 1, none⟩ (.slice a2 l.length c2)) N (.slice a ns.length c) (.slice a2 l.length c2) := by
  have hb1 := hb.set0 (.slice a ns.length c)
  exact ⟨⟨a, c, a2, c2, rfl, (h1.sm hb.sm).sm hb1.sm, (h2.sm hb.sm).sm hb1.sm⟩, hb1.set1 _⟩
end Go.Proofs.YtephhllfodlfbaaGreatDoor
/-
  Lists of numbers: whether they are the same, as live tells it.
-/
namespace Go.Proofs.YtephhllfodlfbaaGreatDoor
open Go.RowKit

def sameEn (x y : Pl.Er) : Bool := decide (x = y)
end Go.Proofs.YtephhllfodlfbaaGreatDoor
/-
  live's inner calls: a document made a page, a page checked.
-/
namespace Go.Proofs.YtephhllfodlfbaaGreatDoor
open Go.RowKit

/-- what indexed answers -/
def IdxSays (err : Int) (ns : List Pl.Nd) (w : World) (e : Ending) (w' : World) : Prop :=
  ∃ v, e = .returned (.tuple #[v, .int .i64 (pgErr err ns)]) ∧ PgAt w' v (pgDoc err ns) (pgIdx err ns) ∧ Below w.heap.size w w'
theorem two_boxes (w : World) (o1 o2 : Obj) : ((w.alloc o1).alloc o2).heap.size = w.heap.size + 2 := by simp
set_option maxRecDepth 100000 in
set_option maxHeartbeats 2000000 in
theorem indexed_any (v : Value) (ns : List Pl.Nd) (err : Int) (w : World) (hd : DocAt w v ns) :
    Calls Tryz.prog 29 #[.agg #[v], .int .i64 err] w fun e w' => IdxSays err ns w e w' := by
  obtain ⟨a, c, rfl⟩ := hd.form
  have hb0 := boxes w (.cells #[.slice a ns.length c] 24) (.cells #[.slice none 0 0, .slice none 0 0] 32)
  have bR : Blk2 ((w.alloc (.cells #[.slice a ns.length c] 24)).alloc (.cells #[.slice none 0 0, .slice none 0 0] 32)) (w.heap.size + 1) (.slice none 0 0) (.slice none 0 0) := by
    have := Blk2.new (w.alloc (.cells #[.slice a ns.length c] 24)) (.slice none 0 0) (.slice none 0 0)
    simpa using this
  have bS : Blk1 ((w.alloc (.cells #[.slice a ns.length c] 24)).alloc (.cells #[.slice none 0 0, .slice none 0 0] 32)) w.heap.size (.slice a ns.length c) := (Blk1.new w _).on (on_alloc _ _)
  have hz := two_boxes w (.cells #[.slice a ns.length c] 24) (.cells #[.slice none 0 0, .slice none 0 0] 32)
  have HD : Hid (DocAt ((w.alloc (.cells #[.slice a ns.length c] 24)).alloc (.cells #[.slice none 0 0, .slice none 0 0] 32)) (.slice a ns.length c) ns) := hd.on hb0
  have HB0 : Hid (Below _ _ _) := hb0
  have HBR : Hid (Blk2 _ _ _ _) := bR
  have HBS : Hid (Blk1 _ _ _) := bS
  clear hd hb0 bR bS
  cases he : (err != 0) with
  | true =>
    have HA : Hid (pgErr err ns = err ∧ pgDoc err ns = [] ∧ pgIdx err ns = []) := by
      have : ¬ err = 0 := by simpa using he
      unfold Hid pgErr pgDoc pgIdx
      simp [this]
    obtain ⟨⟨r0, r1⟩, fR⟩ := HBR.out.facts
    go_enter Tryz.func29, Tryz.ntmps29
    go_wp2
    exact bodyPost_ret (v := .tuple #[.agg #[.slice none 0 0, .slice none 0 0], .int .i64 err]) (by simp [results, Tryz.results29, go_sem]) rfl
      ⟨_, by rw [HA.out.1], by rw [HA.out.2.1, HA.out.2.2]; exact PgAt.nil _, HB0.out⟩
  | false =>
    have he0 : err = 0 := by simpa using he
    have HA : Hid (pgErr err ns = Pl.checkDoc ns ∧ pgDoc err ns = (if Pl.checkDoc ns = 0 then ns else []) ∧ pgIdx err ns = Pl.idxAns ns) := by
      unfold Hid pgErr pgDoc pgIdx
      simp [he0]
    clear he0
    obtain ⟨s0, _⟩ := HBS.out.facts
    go_enter Tryz.func29, Tryz.ntmps29
    go_wp2_with fail
    generalize (w.alloc (.cells #[.slice a ns.length c] 24)).alloc (.cells #[.slice none 0 0, .slice none 0 0] 32) = w0 at *
    refine (build_any _ ns _ HD.out).mono ?_
    rintro e w1 ⟨u, rfl, hen, hb1⟩
    obtain ⟨au, cu, rfl⟩ := hen.form
    have HB1 : Hid (Below w.heap.size w w1) := below_trans HB0.out hb1
    have bR1 := Blk2.on HBR.out hb1
    have bS1 := Blk1.on HBS.out hb1
    have hd1 : DocAt w1 (.slice a ns.length c) ns := DocAt.on HD.out hb1
    obtain ⟨⟨r0, r1⟩, fR⟩ := bR1.facts
    obtain ⟨t0, _⟩ := bS1.facts
    cases hc : (Pl.checkDoc ns != 0) with
    | true =>
      have hc0 : ¬ Pl.checkDoc ns = 0 := by simpa using hc
      have HI : Hid (Pl.idxAns ns = []) := by unfold Hid Pl.idxAns; rw [if_neg hc0]
      have HDD : Hid ((if Pl.checkDoc ns = 0 then ns else []) = ([] : List Pl.Nd)) := if_neg hc0
      obtain ⟨p1, p2⟩ := PgAt.box (ns := []) (l := []) (DocAt.nil _) (EnsAt.nil _) bR1
      obtain ⟨⟨q0, q1⟩, _⟩ := p2.facts
      simp only [List.length_nil] at p1 q0 q1
      have HP1 : Hid (PgAt _ _ _ _) := p1
      have HQ0 : Hid _ := q0
      have HQ1 : Hid _ := q1
      clear p1 p2 q0 q1 hc0 hen hd1 bR1 bS1 hb1 s0
      generalize Pl.checkDoc ns = r at *
      go_wp2
      have q0 := HQ0.out
      have q1 := HQ1.out
      exact bodyPost_ret (v := .tuple #[.agg #[.slice none 0 0, .slice none 0 0], .int .i64 r]) (by simp [results, Tryz.results29, go_sem, q0, q1]) rfl
        ⟨_, by rw [HA.out.1], by rw [HA.out.2.1, HA.out.2.2, HI.out, HDD.out]; exact HP1.out, (HB1.out.setCell (p := ⟨w.heap.size + 1, 0, none⟩) (by simp) _).setCell (p := ⟨w.heap.size + 1, 1, none⟩) (by simp) _⟩
    | false =>
      have hc0 : Pl.checkDoc ns = 0 := by simpa using hc
      have HDD : Hid ((if Pl.checkDoc ns = 0 then ns else []) = ns) := if_pos hc0
      have HE0 : Hid (pgErr err ns = 0) := by rw [HA.out.1]; exact hc0
      obtain ⟨p1, p2⟩ := PgAt.box hd1 hen bR1
      obtain ⟨⟨q0, q1⟩, _⟩ := p2.facts
      have HP1 : Hid (PgAt _ _ _ _) := p1
      have HQ0 : Hid _ := q0
      have HQ1 : Hid _ := q1
      clear p1 p2 q0 q1 hc0 hen hd1 bR1 bS1 hb1 s0
      generalize Pl.checkDoc ns = r at *
      generalize Pl.idxAns ns = l at *
      go_wp2
      have q0 := HQ0.out
      have q1 := HQ1.out
      exact bodyPost_ret (v := .tuple #[.agg #[.slice a ns.length c, .slice au l.length cu], .int .i64 0]) (by simp [results, Tryz.results29, go_sem, q0, q1]) rfl
        ⟨_, by rw [HE0.out], by rw [HA.out.2.1, HA.out.2.2, HDD.out]; exact HP1.out, (HB1.out.setCell (p := ⟨w.heap.size + 1, 0, none⟩) (by simp) _).setCell (p := ⟨w.heap.size + 1, 1, none⟩) (by simp) _⟩
/-- an index that fits -/
def IxFit (l : List Pl.Er) : Prop := l.length ≤ maxLen ∧ ∀ e ∈ l, e.2.length ≤ maxLen
theorem ix_ans (ns : List Pl.Nd) : IxFit (Pl.idxAns ns) := ⟨by have := (idx_small ns).1; unfold maxLen; omega, fun e he => by have := (idx_small ns).2 e he; unfold maxLen; omega⟩
end Go.Proofs.YtephhllfodlfbaaGreatDoor
/-
  live's change, whatever closure it is handed.
-/
namespace Go.Proofs.YtephhllfodlfbaaGreatDoor
open Go.RowKit

/-- what a change answers: pe the page's error, E the change's, ms what it makes of the document -/
def chErr (pe E : Int) (ms : List Pl.Nd) : Int := if pe = 0 then pgErr E ms else pe
def chDoc (pe E : Int) (ms : List Pl.Nd) : List Pl.Nd := if pe = 0 then pgDoc E ms else []
def chIdx (pe E : Int) (ms : List Pl.Nd) : List Pl.Er := if pe = 0 then pgIdx E ms else []
def ChSays (pe E : Int) (ms : List Pl.Nd) (w : World) (e : Ending) (w' : World) : Prop :=
  ∃ v, e = .returned (.tuple #[v, .int .i64 (chErr pe E ms)]) ∧ PgAt w' v (chDoc pe E ms) (chIdx pe E ms) ∧ Below w.heap.size w w'
theorem PgAt.form {w : World} {v : Value} {ns : List Pl.Nd} {l : List Pl.Er} (h : PgAt w v ns l) : ∃ a c a2 c2, v = .agg #[.slice a ns.length c, .slice a2 l.length c2] := by
  obtain ⟨a, c, a2, c2, e, _, _⟩ := h
  exact ⟨a, c, a2, c2, e⟩
end Go.Proofs.YtephhllfodlfbaaGreatDoor
/-
  live's calls: Open, Insert, Remove and Put.
-/
namespace Go.Proofs.YtephhllfodlfbaaGreatDoor
open Go.RowKit

/-- what such a closure answers -/
def ClSays (E : Int) (ms : List Pl.Nd) (w : World) (e : Ending) (w' : World) : Prop := ∃ v', e = .returned (.tuple #[.agg #[v'], .int .i64 E]) ∧ DocAt w' v' ms ∧ Below w.heap.size w w'
end Go.Proofs.YtephhllfodlfbaaGreatDoor
/-
  live's four calls.
-/
namespace Go.Proofs.YtephhllfodlfbaaGreatDoor
open Go.RowKit

theorem Blk2.any {w w' : World} {N : Nat} {c0 c1 : Value} (h : Blk2 w N c0 c1) (hb : Below w.heap.size w w') : Blk2 w' N c0 c1 := h.on hb
set_option maxRecDepth 100000 in
set_option maxHeartbeats 2000000 in
theorem open_any (v : Value) (ns : List Pl.Nd) (w : World) (hd : DocAt w v ns) : Calls Tryz.prog 6 #[.agg #[v]] w fun e w' => IdxSays (checkAtOf ns 0) (partOf ns 0) w e w' := by
  obtain ⟨a, c, rfl⟩ := hd.form
  have hb0 := boxes w (.cells #[.slice a ns.length c] 24) (.cells #[.slice none 0 0, .slice none 0 0] 32)
  have bR : Blk2 ((w.alloc (.cells #[.slice a ns.length c] 24)).alloc (.cells #[.slice none 0 0, .slice none 0 0] 32)) (w.heap.size + 1) (.slice none 0 0) (.slice none 0 0) := by
    have := Blk2.new (w.alloc (.cells #[.slice a ns.length c] 24)) (.slice none 0 0) (.slice none 0 0)
    simpa using this
  have bS : Blk1 ((w.alloc (.cells #[.slice a ns.length c] 24)).alloc (.cells #[.slice none 0 0, .slice none 0 0] 32)) w.heap.size (.slice a ns.length c) := (Blk1.new w _).on (on_alloc _ _)
  obtain ⟨x0, _⟩ := bS.facts
  have HD : Hid (DocAt _ _ _) := hd.on hb0
  have HB0 : Hid (Below _ _ _) := hb0
  have HBR0 : Hid (Blk2 _ _ _ _) := bR
  clear hd hb0 bR bS
  go_enter Tryz.func6, Tryz.ntmps6
  go_wp2_with fail
  generalize (w.alloc (.cells #[.slice a ns.length c] 24)).alloc (.cells #[.slice none 0 0, .slice none 0 0] 32) = w0 at *
  refine (part_any _ ns 0 _ HD.out).mono ?_
  rintro e w1 ⟨v1, rfl, hd1, hb1⟩
  obtain ⟨a1, c1, rfl⟩ := hd1.form
  have HD1 : Hid (DocAt _ _ _) := hd1
  have HBR : Hid (Blk2 _ _ _ _) := Blk2.on HBR0.out hb1
  have HBA : Hid (Below w.heap.size w w1) := below_trans HB0.out hb1
  clear hd1 hb1
  generalize hP : partOf ns 0 = P at HD1 ⊢
  generalize hC : checkAtOf ns 0 = C
  have HPe : Hid _ := hP
  have HCe : Hid _ := hC
  clear hP hC
  go_wp2_with fail
  refine (indexed_any _ P C _ HD1.out).mono ?_
  rintro e wz ⟨vz, rfl, hpz, hbz⟩
  obtain ⟨a8, c8, a9, c9, rfl, hd8, he9⟩ := hpz
  have HBz : Hid (Below w.heap.size w wz) := below_trans HBA.out hbz
  have bRz := Blk2.on HBR.out hbz
  obtain ⟨⟨r0, r1⟩, fR⟩ := bRz.facts
  obtain ⟨p1, p2⟩ := PgAt.box hd8 he9 bRz
  obtain ⟨⟨q0, q1⟩, _⟩ := p2.facts
  have HP1 : Hid (PgAt _ _ _ _) := p1
  have HQ0 : Hid _ := q0
  have HQ1 : Hid _ := q1
  clear p1 p2 q0 q1 hd8 he9 bRz hbz
  generalize hD : pgDoc C P = D at HP1 HQ0 HQ1 ⊢
  generalize hI : pgIdx C P = I at HP1 HQ0 HQ1 ⊢
  generalize hE : pgErr C P = EE at *
  have HDe : Hid _ := hD
  have HIe : Hid _ := hI
  have HEe : Hid _ := hE
  clear hD hI hE
  go_wp2
  have q0 := HQ0.out
  have q1 := HQ1.out
  exact bodyPost_ret (v := .tuple #[.agg #[.slice a8 D.length c8, .slice a9 I.length c9], .int .i64 EE]) (by simp [results, Tryz.results6, go_sem, q0, q1]) rfl
    ⟨_, by rw [HPe.out, HCe.out, HEe.out], by rw [HPe.out, HCe.out, HDe.out, HIe.out]; exact HP1.out, (HBz.out.setCell (p := ⟨w.heap.size + 1, 0, none⟩) (by first | (simp; done) | (simp; omega)) _).setCell (p := ⟨w.heap.size + 1, 1, none⟩) (by first | (simp; done) | (simp; omega)) _⟩
end Go.Proofs.YtephhllfodlfbaaGreatDoor
