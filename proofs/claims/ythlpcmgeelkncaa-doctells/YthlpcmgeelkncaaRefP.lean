/-
  PartOf: the part of an element, as the document's own answer builds it.
-/
import Derived.Test.YthlpcmgeelkncaaLay
import Derived.Test.YthlpcmgeelkncaaLayM
import Derived.Test.YthlpcmgeelkncaaFar
namespace Go.Proofs.Ythlpcmgeelkncaa
open Go.RowKit

theorem part_seg {ns : List Pl.Nd} {n : Nat} (hg : Pl.GoodTo ns ns.length) (hn : n < ns.length) (h64 : ns.length ≤ 64) : Pl.seg ns n (Pl.behind ns n) (fun u => if u < n then -1 else u - n + (0 : Nat)) = ((ns.drop n).take (Pl.behind ns n - n)).map (Pl.mvd (Pl.mvPart n)) := by
  obtain ⟨a1, a2, _, _⟩ := Pl.behind_spec hn
  refine Pl.seg_congr a2 fun m h1 h2 => ?_
  have hlow : Pl.upOf ns m < m := by
    rcases Nat.eq_zero_or_pos m with h | h
    · rw [(hg m (by omega)).1 h]; omega
    · exact ((hg m (by omega)).2 h).2.1
  unfold Pl.mvPart
  by_cases hu : Pl.upOf ns m < n
  · rw [if_pos hu, if_pos hu]
  · rw [if_neg hu, if_neg hu, Pl.wr_in (by omega) (by omega)]
    omega
theorem TV.all {P : Nat → Prop} {w : World} {v : Value} {x : Pl.Nd} {k : Pl.F} (h : TV P w v x k) : TV AllB w v x k := h.to fun _ _ _ => ⟨trivial, rfl⟩
set_option maxRecDepth 100000 in
set_option maxHeartbeats 2000000 in
theorem refPart_some (b o cap : Nat) (ns : List Pl.Nd) (n : Nat) (w : World) (hn : n < ns.length) (h64 : ns.length ≤ 64) (hsh : ∀ x ∈ ns, x.cls.length ≤ 6 ∧ x.ats.length ≤ 4) (hg : Pl.GoodTo ns ns.length) (hl : Pl.Low ns ns.length) (hc : ∀ i (h : i < ns.length), NdAt w b (o + i * 5) ns[i]) :
    Calls Try.prog 15 #[.agg #[.slice (some ⟨b, o, none⟩) ns.length cap], .int .i64 n] w fun e w' => ∃ v', e = .returned (.agg #[v']) ∧ DocAt w' v' (((ns.drop n).take (Pl.behind ns n - n)).map (Pl.mvd (Pl.mvPart n))) ∧ Far w.heap.size v' ∧ Below w.heap.size w w' := by
  have HC : Hid _ := hc
  have HS : Hid _ := hsh
  have hL : Pl.layT (Pl.ndAt ns n) (Pl.forestOf ns ns.length (Pl.kidsOf ns n)) 0 (-1) = ((ns.drop n).take (Pl.behind ns n - n)).map (Pl.mvd (Pl.mvPart n)) := by
    rw [Pl.lay_tree hg ns.length n 0 (-1) hn (by omega)]
    exact part_seg hg hn h64
  have hz : (Pl.forestOf ns ns.length (Pl.kidsOf ns n)).size + 1 ≤ 64 := by
    have := congrArg List.length hL
    rw [Pl.layT_len] at this
    simp at this
    omega
  have HL : Hid _ := hL
  have HW : Hid _ := hl
  clear hc hsh hL hg hl
  have hB0 := ((Below.refl w.heap.size w).alloc (Nat.le_refl _) (.cells #[.slice (some ⟨b, o, none⟩) ns.length cap] 24)).alloc (by simp) (.cells #[.slice none 0 0] 24)
  go_enter Try.func15, Try.ntmps15
  go_wp2_with fail
  refine (tree_any b o cap ns h64 HS.out HW.out ns.length n _ hn (by omega) (fun i hi => (HC.out i hi).on hB0)).mono ?_
  rintro e w1 ⟨tv, rfl, hT, h1⟩
  have c1 := cell_on (p := ⟨w.heap.size + 1, 0, none⟩) (v := .slice none 0 0) h1 (by simp [go_sem])
  have f1 : w1.frozen? ⟨w.heap.size + 1, 0, none⟩ = false := by rw [h1.frozen (by simp)]; simp [go_sem]
  have hB1 := below_trans hB0 h1
  have hsz : w.heap.size + 2 ≤ w1.heap.size := by have := h1.size; simp at this; omega
  have HT : Hid _ := TV.all hT
  obtain ⟨_, _, _, rfl, _, _, _⟩ := hT
  clear h1 hB0
  go_wp2_with fail
  refine (lay_any w1 _ _ _ _ _ [] _ _ (Nat.lt_succ_self _) HT.out (Below.refl _ _) (Row.nil _ _) (by simpa using hz)).mono ?_
  rintro e w2 ⟨v2, rfl, hrow, hgr, _⟩
  have hb2 : Below w1.heap.size w1 w2 := (Below.refl _ _).grown hgr (Nat.le_refl _) (fun k hk => by simp [Value.ownBlock] at hk)
  have c2 := cell_on hb2 c1
  have f2 : w2.frozen? ⟨w.heap.size + 1, 0, none⟩ = false := by rw [hb2.frozen (by show _ < w1.heap.size; simp; omega)]; exact f1
  have hB2 : Below w.heap.size w w2 := below_trans hB1 hb2
  obtain ⟨a2, l2, c3, rfl, _, _⟩ := Row.cap hrow
  have HR : Hid _ := hrow
  clear hb2 hrow hgr c1 f1 hB1
  go_wp2
  have q := World.cell?_setCell_same w2 ⟨w.heap.size + 1, 0, none⟩ (.slice a2 l2 c3) c2
  refine bodyPost_ret (v := .agg #[.slice a2 l2 c3]) (by simp [results, Try.results15, go_sem, q]) rfl
    ⟨_, rfl, ?_, (Row.far HR.out).mono (by omega), hB2.setCell (p := ⟨w.heap.size + 1, 0, none⟩) (by simp) _⟩
  have hr := Row.set HR.out (M := w.heap.size + 1) (j := 0) (by omega) c2 (by simp) (.slice a2 l2 c3)
  rw [List.nil_append] at hr
  have e := HL.out
  change Row _ _ _ (Pl.layT _ _ 0 _) at hr
  rw [e] at hr
  exact hr.doc (by simp; omega) (mvd_short (fun x hx => HS.out x (mem_stretch hx)))
end Go.Proofs.Ythlpcmgeelkncaa
