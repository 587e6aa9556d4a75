/-
  The keys of an element, as index gathers them.
-/
import Derived.Test.YtephhllfodlfbaaGreatDoorAsk
import Derived.Deep.AppendLies
import Derived.Test.YtephhllfodlfbaaGreatDoorMapK
namespace Go.Proofs.YtephhllfodlfbaaGreatDoor
open Go.RowKit

theorem Tryz.info128 : (Tryz.prog.info? 128).map (fun i => (i.zero, i.size, i.bytes)) = some (some (.agg #[.int .i64 0, .string ⟨#[]⟩]), 2, 24) := by kernel_rfl
/-- keys in cells -/
def keyCells (ks : List Pl.Key) : List Value := ks.flatMap fun k => [.int .i64 k.1, .string ⟨k.2.toArray⟩]
/-- one key more -/
theorem wpList_kadd {ops : Array Oper} {rest : List Oper} {o : Oper} {a : Act} {Q : Exit → Act → World → Prop} {B : Nat} {w2 : World} {v : Value} {ks : List Pl.Key} {k : Pl.Key} (hgd : o.guard = none) (s t : Operand)
    (ho : o.op = .call { callee := .builtin .append, args := #[s, t], argTypes := #[125, 125] }) (hs : a.eval s = v) (hx : a.eval t = .slice (some ⟨w2.heap.size, 0, none⟩) 1 1)
    (hown : w2.ownsRow B 128 2 v ks.length (keyCells ks)) (hlen : ks.length + 1 ≤ 64) (hB : B ≤ w2.heap.size)
    (h : ∀ g cap w', w'.ownsRow B 128 2 (.slice (some ⟨g, 0, none⟩) (ks.length + 1) cap) (ks.length + 1) (keyCells (ks ++ [k])) → (w2.alloc (.cells #[.int .i64 k.1, .string ⟨k.2.toArray⟩] 128)).grownBy w' v.ownBlock → wpList Tryz.prog ops Q rest (a.put o.dst (.slice (some ⟨g, 0, none⟩) (ks.length + 1) cap)) w') :
    wpList Tryz.prog ops Q (o :: rest) a (w2.alloc (.cells #[.int .i64 k.1, .string ⟨k.2.toArray⟩] 128)) := by
  obtain ⟨i0, hi, hz0, hz1, hz2⟩ := info_parts Tryz.info128
  refine wpList_append_lies _ hgd s t 125 ho B 128 i0 _ 2 24 Tryz.underlying125 hi hz0 hz1 hz2 rfl (by decide) v ks.length (keyCells ks) hs (own_on hown (on_alloc _ _)) ⟨w2.heap.size, 0, none⟩ 1 1 [.int .i64 k.1, .string ⟨k.2.toArray⟩] hx rfl ?_ ?_ (by decide) (by unfold maxLen; omega) (by omega) (by simp; omega) _ rfl ?_
  · exact World.news_of_block (heap_alloc_new w2 _)
  · intro u hu
    simp only [List.mem_cons, List.not_mem_nil, or_false] at hu
    rcases hu with rfl | rfl <;> rfl
  · intro g cap w' h1 h2 _ _
    exact h g cap w' (by rw [show keyCells (ks ++ [k]) = keyCells ks ++ [.int .i64 k.1, .string ⟨k.2.toArray⟩] by simp [keyCells]]; exact h1) h2
set_option maxRecDepth 100000 in
set_option maxHeartbeats 2000000 in
theorem keysOf_any (v : Value) (x : Pl.Nd) (w : World) (hv : NdV w v x) (h6 : x.cls.length ≤ 6) :
    Calls Tryz.prog 86 #[v] w fun e w' => ∃ u, e = .returned u ∧ w'.ownsRow (w.heap.size + 1) 128 2 u (Pl.keysOf x).length (keyCells (Pl.keysOf x)) ∧ Below w.heap.size w w' := by
  obtain ⟨vc, va, rfl, hvc, hva⟩ := hv
  obtain ⟨ac, cc, rfl, _⟩ := id hvc
  obtain ⟨aa, ca, rfl, _⟩ := id hva
  have HVC : Hid (StrsAt _ _ _) := hvc
  have hB := boxes w (.cells #[.int .i64 x.up, .string ⟨x.tag.toArray⟩, .string ⟨x.id.toArray⟩, .slice ac x.cls.length cc, .slice aa x.ats.length ca] 28) (.cells #[.int .i64 1, .string ⟨x.tag.toArray⟩] 128)
  have bX : Blk (w.alloc (.cells #[.int .i64 x.up, .string ⟨x.tag.toArray⟩, .string ⟨x.id.toArray⟩, .slice ac x.cls.length cc, .slice aa x.ats.length ca] 28)) w.heap.size (.int .i64 x.up) (.string ⟨x.tag.toArray⟩) (.string ⟨x.id.toArray⟩) (.slice ac x.cls.length cc) (.slice aa x.ats.length ca) := heap_alloc_new w _
  have bY := bX.on (on_alloc _ (.cells #[.int .i64 1, .string ⟨x.tag.toArray⟩] 128))
  have hz : (w.alloc (.cells #[.int .i64 x.up, .string ⟨x.tag.toArray⟩, .string ⟨x.id.toArray⟩, .slice ac x.cls.length cc, .slice aa x.ats.length ca] 28)).heap.size = w.heap.size + 1 := by simp
  have O1 : Hid _ := World.ownsRow_lit (base := w.heap.size + 1) (e := 128) (size := 2) (w.alloc (.cells #[.int .i64 x.up, .string ⟨x.tag.toArray⟩, .string ⟨x.id.toArray⟩, .slice ac x.cls.length cc, .slice aa x.ats.length ca] 28)) #[.int .i64 1, .string ⟨x.tag.toArray⟩] 1 (by rw [hz]; exact Nat.le_refl _) (by unfold maxLen; omega) rfl
  have hsz : ((w.alloc (.cells #[.int .i64 x.up, .string ⟨x.tag.toArray⟩, .string ⟨x.id.toArray⟩, .slice ac x.cls.length cc, .slice aa x.ats.length ca] 28)).alloc (.cells #[.int .i64 1, .string ⟨x.tag.toArray⟩] 128)).heap.size = w.heap.size + 2 := by simp
  have HBY : Hid _ := bY
  obtain ⟨⟨_, x1, _, _, _⟩, _⟩ := bX.facts
  obtain ⟨⟨_, _, y2, y3, _⟩, _⟩ := bY.facts
  clear hvc hva bX bY
  have hcase : x.id.isEmpty = true ∨ x.id.isEmpty = false := by cases x.id.isEmpty <;> simp
  go_enter Tryz.func86, Tryz.ntmps86
  rcases hcase with hi | hi
  case' inl =>
    have hk0 : Pl.keysTo x 0 = [(1, x.tag)] := by unfold Pl.keysTo; rw [if_pos (List.isEmpty_iff.1 hi)]; simp
    have HO : Hid (((w.alloc (.cells #[.int .i64 x.up, .string ⟨x.tag.toArray⟩, .string ⟨x.id.toArray⟩, .slice ac x.cls.length cc, .slice aa x.ats.length ca] 28)).alloc (.cells #[.int .i64 1, .string ⟨x.tag.toArray⟩] 128)).ownsRow (w.heap.size + 1) 128 2 (.slice (some ⟨w.heap.size + 1, 0, none⟩) 1 1) (Pl.keysTo x 0).length (keyCells (Pl.keysTo x 0))) := by
      unfold Hid; rw [hk0]; have := O1.out; rw [hz] at this; exact this
    clear hk0 O1
    go_wp2
    generalize (w.alloc (.cells #[.int .i64 x.up, .string ⟨x.tag.toArray⟩, .string ⟨x.id.toArray⟩, .slice ac x.cls.length cc, .slice aa x.ats.length ca] 28)).alloc (.cells #[.int .i64 1, .string ⟨x.tag.toArray⟩] 128) = wl at *
    have HBl : Hid (Blk wl w.heap.size (.int .i64 x.up) (.string ⟨x.tag.toArray⟩) (.string ⟨x.id.toArray⟩) (.slice ac x.cls.length cc) (.slice aa x.ats.length ca)) := HBY.out
    have HBe : Hid (Below w.heap.size w wl) := hB
    have hsl : w.heap.size + 2 ≤ wl.heap.size := by omega
    clear HBY hB x1 y2 y3
  case' inr =>
    have hk0 : Pl.keysTo x 0 = [(1, x.tag)] ++ [(2, x.id)] := by unfold Pl.keysTo; rw [if_neg (by intro e; rw [e] at hi; simp at hi)]; simp
    have HK0 : Hid _ := hk0
    have HO1 : Hid (((w.alloc (.cells #[.int .i64 x.up, .string ⟨x.tag.toArray⟩, .string ⟨x.id.toArray⟩, .slice ac x.cls.length cc, .slice aa x.ats.length ca] 28)).alloc (.cells #[.int .i64 1, .string ⟨x.tag.toArray⟩] 128)).ownsRow (w.heap.size + 1) 128 2 (.slice (some ⟨w.heap.size + 1, 0, none⟩) 1 1) [((1 : Int), x.tag)].length (keyCells [(1, x.tag)])) := by
      unfold Hid; have := O1.out; rw [hz] at this; exact this
    clear hk0 O1
    go_wp2_with (at_builtin; refine Hid.out ?_)
    generalize (w.alloc (.cells #[.int .i64 x.up, .string ⟨x.tag.toArray⟩, .string ⟨x.id.toArray⟩, .slice ac x.cls.length cc, .slice aa x.ats.length ca] 28)).alloc (.cells #[.int .i64 1, .string ⟨x.tag.toArray⟩] 128) = w1 at *
    unfold Hid
    refine wpList_kadd (B := w.heap.size + 1) (w2 := w1) (v := .slice (some ⟨w.heap.size + 1, 0, none⟩) 1 1) (ks := [(1, x.tag)]) (k := (2, x.id)) ?_ (.tmp 13) (.tmp 17) ?_ ?_ ?_ HO1.out (by simp) (by omega) ?_
    · rfl
    · rfl
    · rfl
    · first | rfl | (simp [Act.eval, hsz]; done)
    intro g cap wl hrow hgr
    have HO : Hid (wl.ownsRow (w.heap.size + 1) 128 2 (.slice (some ⟨g, 0, none⟩) 2 cap) (Pl.keysTo x 0).length (keyCells (Pl.keysTo x 0))) := by
      unfold Hid; rw [HK0.out]; exact hrow
    have HBl : Hid (Blk wl w.heap.size (.int .i64 x.up) (.string ⟨x.tag.toArray⟩) (.string ⟨x.id.toArray⟩) (.slice ac x.cls.length cc) (.slice aa x.ats.length ca)) := blk_grown ((show Blk w1 _ _ _ _ _ _ from HBY.out).on (on_alloc _ _)) hgr (by simp [Value.ownBlock])
    have HBe : Hid (Below w.heap.size w wl) := below_grow (below_trans hB (on_alloc _ _)) hgr (fun k hk => by simp [Value.ownBlock] at hk; omega)
    have hsl : w.heap.size + 2 ≤ wl.heap.size := by
      have h1 := hgr.size
      have h2 : ∀ ob : Obj, (w1.alloc ob).heap.size = w1.heap.size + 1 := fun ob => by simp
      rw [h2] at h1
      omega
    clear HBY hB x1 y2 y3 hrow hgr HO1 HK0
    have y3 := HBl.out.facts.1.2.2.2.1
    go_wp2
    clear y3
  all_goals
    go_loopw [3, 22] (fun s i wr => ∃ j : Nat, j ≤ x.cls.length ∧ i = .int .i64 j ∧ Hid (wr.ownsRow (w.heap.size + 1) 128 2 s (Pl.keysTo x j).length (keyCells (Pl.keysTo x j))) ∧ Hid (Blk wr w.heap.size (.int .i64 x.up) (.string ⟨x.tag.toArray⟩) (.string ⟨x.id.toArray⟩) (.slice ac x.cls.length cc) (.slice aa x.ats.length ca)) ∧ Hid (Below w.heap.size w wr) ∧ w.heap.size + 2 ≤ wr.heap.size) (fun _ i _ => x.cls.length - (intOf i).toNat)
    case atStart => exact ⟨0, Nat.zero_le _, rfl, HO, HBl, HBe, hsl⟩
    case round =>
      obtain ⟨j, hj, rfl, hr, hb, hbe, hs⟩ := hrel
      obtain ⟨av, cv, rfl⟩ := own_form hr.out
      have y3 := hb.out.facts.1.2.2.2.1
      by_cases hlt : j < x.cls.length
      · obtain ⟨a9, c9, e9, h9⟩ := StrsAt.on HVC.out hbe.out
        obtain ⟨rfl, rfl⟩ : a9 = ac ∧ c9 = cc := by injection e9 with q1 q2 q3; exact ⟨q1.symm, q3.symm⟩
        obtain ⟨b9, o9, rfl, hc9⟩ := h9.resolve_left (by intro h; rw [h] at hlt; simp at hlt)
        have q9 := hc9 j hlt
        have hkl := Pl.keysTo_len x j
        have HKS : Hid _ := Pl.keysTo_succ x j hlt
        have hOwn := World.ownsRow.lt hr.out
        clear hc9 e9
        generalize Pl.keysTo x j = ks at *
        go_wp2_with (at_builtin; refine Hid.out ?_)
        unfold Hid
        refine wpList_kadd (B := w.heap.size + 1) (w2 := wr) (v := .slice av ks.length cv) (ks := ks) (k := (3, x.cls[j])) ?_ (.tmp 26) (.tmp 29) ?_ ?_ ?_ hr.out (by omega) (by omega) ?_
        · rfl
        · rfl
        · rfl
        · rfl
        intro g cap' w5 hrow hgr
        have HO5 : Hid (w5.ownsRow (w.heap.size + 1) 128 2 (.slice (some ⟨g, 0, none⟩) (ks.length + 1) cap') (Pl.keysTo x (j + 1)).length (keyCells (Pl.keysTo x (j + 1)))) := by
          unfold Hid; rw [HKS.out, List.length_append]; exact hrow
        have HBl5 : Hid (Blk w5 w.heap.size (.int .i64 x.up) (.string ⟨x.tag.toArray⟩) (.string ⟨x.id.toArray⟩) (.slice (some ⟨b9, o9, none⟩) x.cls.length c9) (.slice aa x.ats.length ca)) := blk_grown (hb.out.on (on_alloc _ _)) hgr (fun e => by have := (hOwn _ e.symm).1; omega)
        have HBe5 : Hid (Below w.heap.size w w5) := below_grow (below_trans hbe.out (on_alloc _ _)) hgr (fun k hk => by have := (hOwn k hk).1; omega)
        have hs5 : w.heap.size + 2 ≤ w5.heap.size := by
          have h1 := hgr.size
          have h2 : ∀ ob : Obj, (wr.alloc ob).heap.size = wr.heap.size + 1 := fun ob => by simp
          rw [h2] at h1
          omega
        clear hrow hgr
        go_wp2
        exact ⟨⟨j + 1, hlt, by go_num, HO5, HBl5, HBe5, hs5⟩, by simp [intOf]; omega⟩
      · obtain rfl : j = x.cls.length := by omega
        have hr2 := hr.out
        rw [Pl.keysTo_all] at hr2
        have HR2 : Hid _ := hr2
        clear hr hr2
        go_wp2
        go_ret
        exact ⟨_, rfl, by first | exact HR2.out | (rw [Pl.keysTo_all]; exact HR2.out), hbe.out⟩
end Go.Proofs.YtephhllfodlfbaaGreatDoor
/-
  An index that is being built, beside the keys that are put in.
-/
namespace Go.Proofs.YtephhllfodlfbaaGreatDoor
open Go.RowKit

/-- the index, the row of keys, and what lay there before -/
structure Held (w0 : World) (BK gk ck : Nat) (K : List Pl.Key) (w : World) (v : Value) (ps : List EP) : Prop where
  row : ERow w0.heap.size w v ps
  free : Clear gk v ps
  keys : w.ownsRow BK 61 3 (.slice (some ⟨gk, 0, none⟩) K.length ck) K.length (enCells K)
  old : Below w0.heap.size w0 w
theorem Held.lt {w0 : World} {BK gk ck : Nat} {K : List Pl.Key} {w : World} {v : Value} {ps : List EP} (h : Held w0 BK gk ck K w v ps) : gk < w.heap.size := (World.ownsRow.lt h.keys gk rfl).2
theorem Held.on {w0 : World} {BK gk ck : Nat} {K : List Pl.Key} {w w' : World} {v : Value} {ps : List EP} (h : Held w0 BK gk ck K w v ps) (hb : Below w.heap.size w w') : Held w0 BK gk ck K w' v ps :=
  ⟨h.row.on hb, h.free, own_on h.keys hb, below_trans h.old hb⟩
theorem below_gb {w0 w w' : World} {r : Option Nat} (h : Below w0.heap.size w0 w) (hg : w.grownBy w' r) (hr : ∀ k, r = some k → w0.heap.size ≤ k) : Below w0.heap.size w0 w' := below_grow h hg hr
theorem Held.inserted {w0 : World} {BK gk ck : Nat} {K : List Pl.Key} {w w1 w2 : World} {v : Value} {ps : List EP} {ob : Obj} {g cap n i : Nat} (h : Held w0 BK gk ck K w v ps) (hn : ps.length = n) (hi : i ≤ n) (hg1 : (w.alloc ob).grownBy w1 v.ownBlock) (hat : v.ownBlock = some g ∨ g = w.heap.size + 1)
    (ho2 : w2.ownsRow w0.heap.size 61 3 (.slice (some ⟨g, 0, none⟩) (n + 1) cap) (n + 1) (pCells ((ps ++ [e0]).take (i + 1) ++ ((ps ++ [e0]).drop i).take (n - i)))) (hg2 : w1.grownBy w2 (some g)) (k : Pl.Key) :
    w2.ownsRow BK 61 3 (.slice (some ⟨gk, 0, none⟩) K.length ck) K.length (enCells K) ∧
    Held w0 BK gk ck K (((w2.setCell ⟨g, i * 3, none⟩ (.int .i64 k.1)).setCell ⟨g, i * 3 + 1, none⟩ (.string ⟨k.2.toArray⟩)).setCell ⟨g, i * 3 + 2, none⟩ (.slice none 0 0)) (.slice (some ⟨g, 0, none⟩) (n + 1) cap) (ps.take i ++ (⟨k, []⟩, .slice none 0 0) :: ps.drop i) := by
  obtain ⟨h1, h2⟩ := h.row.inserted hn hi hg1 hat ho2 hg2 k
  have hlt := h.lt
  have hgk : gk ≠ g := by
    rcases hat with e | e
    · intro e2; subst e2; exact h.free.1 e
    · omega
  have hv : ∀ j, v.ownBlock = some j → w0.heap.size ≤ j := fun j hj => (World.ownsRow.lt h.row.own j hj).1
  refine ⟨?_, h1, ⟨fun e => hgk (by simpa [Value.ownBlock] using e.symm), fun p hp => ?_⟩, ?_, below_gb h.old h2 hv⟩
  · exact ((own_on h.keys (on_alloc _ ob)).kept hg1 (Or.inr fun e => h.free.1 e.symm)).kept hg2 (Or.inr fun e => hgk (by simpa [Value.ownBlock] using e))
  · rcases List.mem_append.1 hp with hp | hp
    · exact h.free.2 p (List.mem_of_mem_take hp)
    · rcases List.mem_cons.1 hp with rfl | hp
      · intro e; cases e
      · exact h.free.2 p (List.mem_of_mem_drop hp)
  · exact h.keys.kept h2 (Or.inr fun e => h.free.1 e.symm)
theorem Held.placed {w0 : World} {BK gk ck : Nat} {K : List Pl.Key} {w w1 : World} {v : Value} {ps : List EP} {ob : Obj} {g cap i n m g' cap' : Nat} {key : Pl.Key} {nds : List Nat} {sv : Value} (h : Held w0 BK gk ck K w v ps) (hi : i < ps.length) (he : ps[i] = (⟨key, nds⟩, sv)) (hv : v = .slice (some ⟨g, 0, none⟩) m cap)
    (ho1 : w1.ownsRow w0.heap.size 3 1 (.slice (some ⟨g', 0, none⟩) (nds.length + 1) cap') (nds.length + 1) (natCells (nds ++ [n]))) (hg1 : (w.alloc ob).grownBy w1 sv.ownBlock) (hat : sv.ownBlock = some g' ∨ g' = w.heap.size + 1) :
    (∃ u, w1.cell? ⟨g, i * 3 + 2, none⟩ = some u) ∧ w1.frozen? ⟨g, i * 3 + 2, none⟩ = false ∧
    Held w0 BK gk ck K (w1.setCell ⟨g, i * 3 + 2, none⟩ (.slice (some ⟨g', 0, none⟩) (nds.length + 1) cap')) v (ps.set i (⟨key, nds ++ [n]⟩, .slice (some ⟨g', 0, none⟩) (nds.length + 1) cap')) := by
  have hm : m = ps.length := by
    obtain ⟨a, c, e⟩ := h.row.form
    rw [hv] at e
    injection e
  subst hm
  have hsv : ps[i].2 = sv := by rw [he]
  have hnd : ps[i].1.nodes = nds := by rw [he]
  have hky : ps[i].1.key = key := by rw [he]
  obtain ⟨h1, h2⟩ := h.row.placed (ob := ob) (n := n) (g' := g') (cap' := cap') hi hv (by rw [hnd]; exact ho1) (by rw [hsv]; exact hg1) (by rw [hsv]; exact hat)
  rw [hnd, hky] at h1
  rw [hnd] at h2
  have hlt := h.lt
  have hgv : v.ownBlock = some g := by rw [hv]; rfl
  have hpm := List.getElem_mem hi
  have hgs : some g ≠ sv.ownBlock := by
    intro e
    exact h.row.off ps[i] hpm g (by rw [hsv]; exact e.symm) hgv
  have own1 : w1.ownsRow w0.heap.size 61 3 v ps.length (pCells ps) := (own_on h.row.own (on_alloc _ ob)).kept hg1 (Or.inr (by rw [hgv]; exact hgs))
  have hgk : gk ≠ g := fun e => h.free.1 (by rw [hgv, e])
  have hgk2 : some gk ≠ sv.ownBlock := fun e => h.free.2 ps[i] hpm (by rw [hsv]; exact e.symm)
  have hsB : ∀ j, sv.ownBlock = some j → w0.heap.size ≤ j := fun j hj => (World.ownsRow.lt (h.row.ints ps[i] hpm) j (by rw [hsv]; exact hj)).1
  have hgB := (World.ownsRow.lt h.row.own g hgv).1
  have hcell := World.ownsRow.cellAt (hv ▸ own1) (i * 3 + 2) (by omega)
  refine ⟨⟨_, hcell.trans (pCells_get ps i hi).2.2⟩, World.ownsRow.frozenAt (hv ▸ own1) _, h1, ⟨h.free.1, ?_⟩, ?_, ?_⟩
  · intro p hp
    obtain ⟨j, hj, rfl⟩ := List.getElem_of_mem hp
    have hj' : j < ps.length := by rw [List.length_set] at hj; exact hj
    by_cases hji : j = i
    · subst hji
      rw [List.getElem_set_self]
      intro e
      have e2 : g' = gk := by simpa [Value.ownBlock] using e
      subst e2
      rcases hat with a | a
      · exact hgk2 a.symm
      · omega
    · rw [List.getElem_set_ne (by omega)]
      exact h.free.2 _ (List.getElem_mem hj')
  · exact ((own_on h.keys (on_alloc _ ob)).kept hg1 (Or.inr hgk2)).kept h2 (Or.inr fun e => hgk (by simpa [Value.ownBlock] using e))
  · exact below_gb (below_gb (below_trans h.old (on_alloc _ ob)) hg1 hsB) h2 (fun k hk => by injection hk with hk; omega)
end Go.Proofs.YtephhllfodlfbaaGreatDoor
