/-
  without: a tree without the elements that are told by a number.
-/
import Derived.Test.YthlpcmgeelkncaaMarW
namespace Go.Proofs.Ythlpcmgeelkncaa
open Go.RowKit

namespace Pl
def withoutF : F → Int → F
  | .nil, _ => .nil
  | .cons x k r, n => if x.up = n then withoutF r n else .cons x (withoutF k n) (withoutF r n)
theorem without_len (f : F) (n : Int) : (withoutF f n).len ≤ f.len := by
  induction f with
  | nil => simp [withoutF]
  | cons x k r _ ih =>
    unfold withoutF
    split
    · simp only [F.len]; omega
    · simp only [F.len]; omega
theorem without_size (f : F) (n : Int) : (withoutF f n).size ≤ f.size := by
  induction f with
  | nil => simp [withoutF]
  | cons x k r ihk ih =>
    unfold withoutF
    split
    · simp only [F.size]; omega
    · simp only [F.size]; omega
end Pl
/-- one tree more, at the step that appends it -/
theorem wpList_tadd {ops : Array Oper} {rest : List Oper} {o : Oper} {a : Act} {Q : Exit → Act → World → Prop} {B : Nat} {P : Nat → Prop} {w2 : World} {v : Value} {f : Pl.F} {x : Pl.Nd} {k : Pl.F} {vc va vk : Value} (hgd : o.guard = none) (s t : Operand)
    (ho : o.op = .call { callee := .builtin .append, args := #[s, t], argTypes := #[64, 64] }) (hs : a.eval s = v) (hx : a.eval t = .slice (some ⟨w2.heap.size, 0, none⟩) 1 1)
    (hr : TRow B P w2 v f) (hlen : f.len + 1 ≤ 64) (hB : B ≤ w2.heap.size)
    (hvc : StrsP (fun j => P j ∧ some j ≠ v.ownBlock) w2 vc x.cls) (hva : AtsP (fun j => P j ∧ some j ≠ v.ownBlock) w2 va x.ats) (hvk : Sub (fun j => P j ∧ some j ≠ v.ownBlock) w2 vk k)
    (h : ∀ g cap w', TRow B P w' (.slice (some ⟨g, 0, none⟩) (f.len + 1) cap) (f.app (.cons x k .nil)) → (w2.alloc (.cells #[.int .i64 x.up, .string ⟨x.tag.toArray⟩, .string ⟨x.id.toArray⟩, vc, va, vk] 66)).grownBy w' v.ownBlock → wpList Try.prog ops Q rest (a.put o.dst (.slice (some ⟨g, 0, none⟩) (f.len + 1) cap)) w') :
    wpList Try.prog ops Q (o :: rest) a (w2.alloc (.cells #[.int .i64 x.up, .string ⟨x.tag.toArray⟩, .string ⟨x.id.toArray⟩, vc, va, vk] 66)) := by
  obtain ⟨xs, hown, hcs⟩ := hr
  obtain ⟨i0, hi, hz0, hz1, hz2⟩ := info_parts Try.info66
  have hm : Mv (fun j => P j ∧ some j ≠ v.ownBlock) w2 (fun j => P j ∧ some j ≠ v.ownBlock) (w2.alloc (.cells #[.int .i64 x.up, .string ⟨x.tag.toArray⟩, .string ⟨x.id.toArray⟩, vc, va, vk] 66)) := fun j hj hl => ⟨hj, (on_alloc _ _).block j hl⟩
  obtain ⟨_, _, e3, _⟩ := id hvc
  obtain ⟨_, _, e4, _⟩ := id hva
  obtain ⟨_, _, e5, _⟩ := id hvk
  refine wpList_append_lies _ hgd s t 64 ho B 66 i0 _ 6 112 Try.underlying64 hi hz0 hz1 hz2 rfl (by decide) v f.len xs hs (own_on hown (on_alloc _ _)) ⟨w2.heap.size, 0, none⟩ 1 1 [.int .i64 x.up, .string ⟨x.tag.toArray⟩, .string ⟨x.id.toArray⟩, vc, va, vk] hx rfl ?_ ?_ (by decide) (by unfold maxLen; omega) (by omega) (by simp; omega) _ rfl ?_
  · exact World.news_of_block (heap_alloc_new w2 _)
  · intro u hu
    simp only [List.mem_cons, List.not_mem_nil, or_false] at hu
    rcases hu with rfl | rfl | rfl | rfl | rfl | rfl
    · rfl
    · rfl
    · rfl
    · rw [e3]; rfl
    · rw [e4]; rfl
    · rw [e5]; rfl
  · intro g cap w' h1 h2 h3 _
    exact h g cap w' (trow_step (CellsF.to hm f _ hcs) (hvc.to hm) (hva.to hm) (hvk.to hm) h1 h2 h3) h2
theorem TRow.own {B : Nat} {P : Nat → Prop} {w : World} {v : Value} {f : Pl.F} (h : TRow B P w v f) : ∀ k, v.ownBlock = some k → B ≤ k ∧ k < w.heap.size := by
  obtain ⟨xs, ho, _⟩ := h
  exact fun k hk => World.ownsRow.lt ho k hk
/-- a box and a box for the answer -/
theorem two_sixes (w : World) (c0 c1 c2 c3 c4 c5 d0 d1 d2 d3 d4 d5 : Value) :
    Blk6 ((w.alloc (.cells #[c0, c1, c2, c3, c4, c5] 66)).alloc (.cells #[d0, d1, d2, d3, d4, d5] 66)) w.heap.size c0 c1 c2 c3 c4 c5 ∧ Blk6 ((w.alloc (.cells #[c0, c1, c2, c3, c4, c5] 66)).alloc (.cells #[d0, d1, d2, d3, d4, d5] 66)) (w.heap.size + 1) d0 d1 d2 d3 d4 d5 := by
  refine ⟨(Blk6.new w c0 c1 c2 c3 c4 c5).on (on_alloc _ _), ?_⟩
  have := Blk6.new (w.alloc (.cells #[c0, c1, c2, c3, c4, c5] 66)) d0 d1 d2 d3 d4 d5
  simpa using this
theorem boxes' (w : World) (o1 o2 : Obj) : Below w.heap.size w ((w.alloc o1).alloc o2) := ((Below.refl w.heap.size w).alloc (Nat.le_refl _) o1).alloc (by simp) o2
set_option maxRecDepth 100000 in
set_option maxHeartbeats 4000000 in
theorem without_any (n : Int) : ∀ (N : Nat) (P : Nat → Prop) (x : Pl.Nd) (k : Pl.F) (vt : Value) (w : World), k.size < N → k.size ≤ 64 → TV P w vt x k →
    Calls Try.prog 55 #[vt, .int .i64 n] w fun e w' => ∃ v', e = .returned v' ∧ TV (fun j => P j ∨ w.heap.size ≤ j) w' v' x (Pl.withoutF k n) ∧ Below w.heap.size w w' := by
  intro N
  induction N with
  | zero => intro P x k vt w h; omega
  | succ N ih =>
    intro P x k vt w hN h64 hT
    obtain ⟨vc, va, vk, rfl, hc, ha, hk⟩ := hT
    obtain ⟨ac, cc, rfl, _⟩ := id hc
    obtain ⟨aa, ca, rfl, _⟩ := id ha
    obtain ⟨ak, ck, rfl, hkk⟩ := hk
    obtain ⟨up, tag, idn, cls, ats⟩ := x
    dsimp only at *
    have HC : Hid (StrsP P w (.slice ac cls.length cc) cls) := hc
    have HA : Hid (AtsP P w (.slice aa ats.length ca) ats) := ha
    have HK : Hid _ := hkk
    have HIH : Hid _ := ih
    have hkl := Pl.F.len_le_size k
    obtain ⟨bM, bR⟩ := two_sixes w (.int .i64 up) (.string ⟨tag.toArray⟩) (.string ⟨idn.toArray⟩) (.slice ac cls.length cc) (.slice aa ats.length ca) (.slice ak k.len ck) (.int .i64 0) (.string ⟨#[]⟩) (.string ⟨#[]⟩) (.slice none 0 0) (.slice none 0 0) (.slice none 0 0)
    have hB0 := boxes' w (.cells #[.int .i64 up, .string ⟨tag.toArray⟩, .string ⟨idn.toArray⟩, .slice ac cls.length cc, .slice aa ats.length ca, .slice ak k.len ck] 66) (.cells #[.int .i64 0, .string ⟨#[]⟩, .string ⟨#[]⟩, .slice none 0 0, .slice none 0 0, .slice none 0 0] 66)
    have hz0 : ((w.alloc (.cells #[.int .i64 up, .string ⟨tag.toArray⟩, .string ⟨idn.toArray⟩, .slice ac cls.length cc, .slice aa ats.length ca, .slice ak k.len ck] 66)).alloc (.cells #[.int .i64 0, .string ⟨#[]⟩, .string ⟨#[]⟩, .slice none 0 0, .slice none 0 0, .slice none 0 0] 66)).heap.size = w.heap.size + 2 := by simp
    clear hc ha hkk ih
    go_enter Try.func55, Try.ntmps55
    go_wp2_with fail
    generalize (w.alloc (.cells #[.int .i64 up, .string ⟨tag.toArray⟩, .string ⟨idn.toArray⟩, .slice ac cls.length cc, .slice aa ats.length ca, .slice ak k.len ck] 66)).alloc (.cells #[.int .i64 0, .string ⟨#[]⟩, .string ⟨#[]⟩, .slice none 0 0, .slice none 0 0, .slice none 0 0] 66) = w0 at *
    have HBM : Hid _ := bM
    have HBR : Hid _ := bR
    clear bM bR
    go_loopw [5, 6] (fun u i wr => ∃ (j : Nat) (T : Pl.F), j ≤ k.len ∧ i = .int .i64 j ∧ Hid (TRow w0.heap.size (fun j => (P j ∧ j < w.heap.size) ∨ w0.heap.size ≤ j) wr u T) ∧ Hid (Pl.withoutF k n = T.app (Pl.withoutF (k.drop j) n)) ∧ T.len ≤ j ∧ Below w0.heap.size w0 wr) (fun _ i _ => k.len - (intOf i).toNat)
    case atStart => exact ⟨0, .nil, Nat.zero_le _, rfl, TRow.nil _ _ _, by unfold Hid; rw [Pl.F.drop_zero]; rfl, Nat.le_refl _, Below.refl _ _⟩
    case round =>
      obtain ⟨j, T, hj, rfl, hrow, heq, hTj, hBr⟩ := hrel
      have m5 := cell_on hBr (Blk6.facts HBM.out).1.2.2.2.2.2
      obtain ⟨ar, cr, rfl⟩ := hrow.out.form
      by_cases hlt : j < k.len
      · obtain ⟨bk, ok, rfl, hPb, hfin⟩ := HK.out.resolve_left (by omega)
        obtain ⟨y, ky, hd, hsz⟩ := Pl.F.drop_lt k j hlt
        have hf := FIn.drop k j bk ok hfin
        rw [hd] at hf
        obtain ⟨⟨vc', va', n0, n1, n2, n3, n4, nc, na⟩, ⟨a', cap', n5, hsub⟩, _⟩ := hf
        obtain ⟨ac', cc', rfl, _⟩ := id nc
        obtain ⟨aa', ca', rfl, _⟩ := id na
        have hBw : Below w.heap.size w wr := hB0.trans (hBr.mono (by omega))
        replace n0 := cell_on hBw n0
        replace n1 := cell_on hBw n1
        replace n2 := cell_on hBw n2
        replace n3 := cell_on hBw n3
        replace n4 := cell_on hBw n4
        replace n5 := cell_on hBw n5
        cases hx : (y.up != n) with
        | true =>
          have hne : y.up ≠ n := by simpa using hx
          have HE2 : Hid (Pl.withoutF k n = (T.app (.cons y (Pl.withoutF ky n) .nil)).app (Pl.withoutF (k.drop (j + 1)) n)) := by
            unfold Hid
            rw [heq.out, hd, Pl.withoutF, if_neg hne, Pl.F.app_assoc]
            rfl
          have hmv : Mv P w (fun j => P j ∧ j < w.heap.size) wr := fun i h1 h2 => ⟨⟨h1, h2⟩, hBw.block i h2⟩
          have HT : Hid (TV (fun j => P j ∧ j < w.heap.size) wr (.agg #[.int .i64 y.up, .string ⟨y.tag.toArray⟩, .string ⟨y.id.toArray⟩, .slice ac' y.cls.length cc', .slice aa' y.ats.length ca', .slice a' ky.len cap']) y ky) := ⟨_, _, _, rfl, nc.to hmv, na.to hmv, Sub.to ⟨_, _, rfl, hsub⟩ hmv⟩
          have hown := hrow.out.own
          clear nc na hsub hfin hd heq hmv
          go_wp2_with fail
          refine (HIH.out (fun j => P j ∧ j < w.heap.size) y ky _ _ (by omega) (by omega) HT.out).mono ?_
          rintro e w2 ⟨v2, rfl, ⟨vc2, va2, vk2, rfl, hc2, ha2, hk2⟩, hb2⟩
          obtain ⟨y1, y2, rfl, _⟩ := id hc2
          obtain ⟨y3, y4, rfl, _⟩ := id ha2
          obtain ⟨y5, y6, rfl, _⟩ := id hk2
          have hQ : Mv (fun i => (P i ∧ i < w.heap.size) ∨ wr.heap.size ≤ i) w2 (fun i => ((P i ∧ i < w.heap.size) ∨ w0.heap.size ≤ i) ∧ some i ≠ (Value.slice ar T.len cr).ownBlock) w2 := by
            intro i hi _
            refine ⟨⟨?_, fun e => ?_⟩, rfl⟩
            · rcases hi with h | h
              · exact Or.inl h
              · exact Or.inr (Nat.le_trans hBr.size h)
            · have := hown i e.symm
              rcases hi with h | h <;> omega
          have HC2 : Hid _ := hc2.to hQ
          have HA2 : Hid _ := ha2.to hQ
          have HK2 : Hid _ := hk2.to hQ
          have hB2 : Below w0.heap.size w0 w2 := below_trans hBr hb2
          have HR2 : Hid (TRow w0.heap.size (fun j => (P j ∧ j < w.heap.size) ∨ w0.heap.size ≤ j) w2 (.slice ar T.len cr) T) := TRow.on hrow.out hb2
          clear hc2 ha2 hk2 hQ hb2
          go_wp2_with (at_builtin; refine wpList_tadd (w2 := w2) rfl _ _ rfl rfl rfl HR2.out (by omega) hB2.size (x := y) (k := Pl.withoutF ky n) HC2.out HA2.out HK2.out ?_; intro g cap3 w3 hrow3 hgr; refine Hid.out ?_)
          unfold Hid
          have hB3 : Below w0.heap.size w0 w3 := (below_trans hB2 (on_alloc _ _)).grown hgr (by have := hB2.size; simp; omega) (fun k hk => (hown k hk).1)
          have HR3 : Hid _ := hrow3
          clear hrow3 hgr HC2 HA2 HK2 HR2 hB2
          go_wp2
          exact ⟨⟨j + 1, _, hlt, by go_num, HR3, HE2, by rw [Pl.F.app_len]; simp [Pl.F.len]; omega, hB3⟩, by simp [intOf]; omega⟩
        | false =>
          have hne : y.up = n := by simpa using hx
          have HE2 : Hid (Pl.withoutF k n = T.app (Pl.withoutF (k.drop (j + 1)) n)) := by
            unfold Hid
            rw [heq.out, hd, Pl.withoutF, if_pos hne]
          clear nc na hsub hfin hd heq
          go_wp2
          exact ⟨⟨j + 1, T, hlt, by go_num, hrow, HE2, by omega, hBr⟩, by simp [intOf]; omega⟩
      · have HF : Hid (Pl.withoutF k n = T) := by
          unfold Hid
          rw [heq.out, Pl.F.drop_len k j (by omega)]
          simp [Pl.withoutF, Pl.F.app_nil]
        have bM := Blk6.on HBM.out hBr
        have bR := Blk6.on HBR.out hBr
        have bM1 := bM.set5 (.slice ar T.len cr)
        have bR1 := bR.other (M := w.heap.size) (i := 5) (by omega) (.slice ar T.len cr)
        obtain ⟨⟨g0, g1, g2, g3, g4, g5⟩, fM⟩ := bM.facts
        obtain ⟨⟨k0, k1, k2, k3, k4, k5⟩, fM1⟩ := bM1.facts
        obtain ⟨⟨r0, r1, r2, r3, r4, r5⟩, fR1⟩ := bR1.facts
        have HR1 : Hid _ := bR1
        have hsub := hrow.out.sub (P := fun j => (P j ∧ j < w.heap.size) ∨ w0.heap.size ≤ j) (fun j hj => Or.inr hj)
        have HSub : Hid (Sub (fun j => (P j ∧ j < w.heap.size) ∨ w0.heap.size ≤ j) wr (.slice ar T.len cr) T) := hsub
        have hB1 : Below w.heap.size w (wr.setCell ⟨w.heap.size, 5, none⟩ (.slice ar T.len cr)) := (hB0.trans (hBr.mono (by omega))).setCell (p := ⟨w.heap.size, 5, none⟩) (Nat.le_refl _) _
        clear bM bR bM1 bR1 hsub hrow heq
        go_wp2_with fail
        have hF : Blk6 _ _ _ _ _ _ _ _ := Blk6.six HR1.out (.int .i64 up) (.string ⟨tag.toArray⟩) (.string ⟨idn.toArray⟩) (.slice ac cls.length cc) (.slice aa ats.length ca) (.slice ar T.len cr)
        have hBF := six_Below hB1 (w.heap.size + 1) (by omega) (.int .i64 up) (.string ⟨tag.toArray⟩) (.string ⟨idn.toArray⟩) (.slice ac cls.length cc) (.slice aa ats.length ca) (.slice ar T.len cr)
        have hblk := six_block (wr.setCell ⟨w.heap.size, 5, none⟩ (.slice ar T.len cr)) (w.heap.size + 1) (.int .i64 up) (.string ⟨tag.toArray⟩) (.string ⟨idn.toArray⟩) (.slice ac cls.length cc) (.slice aa ats.length ca) (.slice ar T.len cr)
        change bodyPost _ _ _ _ _ (setSix (wr.setCell ⟨w.heap.size, 5, none⟩ (.slice ar T.len cr)) (w.heap.size + 1) (.int .i64 up) (.string ⟨tag.toArray⟩) (.string ⟨idn.toArray⟩) (.slice ac cls.length cc) (.slice aa ats.length ca) (.slice ar T.len cr))
        generalize setSix (wr.setCell ⟨w.heap.size, 5, none⟩ (.slice ar T.len cr)) (w.heap.size + 1) (.int .i64 up) (.string ⟨tag.toArray⟩) (.string ⟨idn.toArray⟩) (.slice ac cls.length cc) (.slice aa ats.length ca) (.slice ar T.len cr) = wF at *
        obtain ⟨⟨q0, q1, q2, q3, q4, q5⟩, _⟩ := hF.facts
        have hmv : Mv P w (fun j => P j ∨ w.heap.size ≤ j) wF := fun j hj hl => ⟨Or.inl hj, hBF.block j hl⟩
        refine bodyPost_ret (v := .agg #[.int .i64 up, .string ⟨tag.toArray⟩, .string ⟨idn.toArray⟩, .slice ac cls.length cc, .slice aa ats.length ca, .slice ar T.len cr]) (by simp [results, Try.results55, go_sem, q0, q1, q2, q3, q4, q5]) rfl
          ⟨_, rfl, ⟨_, _, _, rfl, StrsP.to HC.out hmv, AtsP.to HA.out hmv, ?_⟩, hBF⟩
        rw [HF.out]
        refine Sub.to HSub.out (fun j hj hl => ?_)
        have hjne : j ≠ w.heap.size ∧ j ≠ w.heap.size + 1 := by
          rcases hj with h | h <;> omega
        refine ⟨?_, (hblk j hjne.2).trans (Below.heap_setCell _ _ _ _ hjne.1)⟩
        rcases hj with h | h
        · exact Or.inl h.1
        · exact Or.inr (by omega)
end Go.Proofs.Ythlpcmgeelkncaa
