/-
  lay: a tree laid down behind what lies there.
-/
import Derived.Test.YtbpgcfabepioiaaGreatTreW
namespace Go.Proofs.YtbpgcfabepioiaaGreat
open Go.RowKit

theorem row_step2 {B : Nat} {W w' : World} {v : Value} {ns : List Pl.Nd} {xs : List Value} {x : Pl.Nd} {vc va : Value} {g cap : Nat} (hc : CellsOf v.ownBlock W xs ns)
    (hvc : StrsNe v.ownBlock W vc x.cls) (hva : AtsNe v.ownBlock W va x.ats)
    (h1 : w'.ownsRow B 31 5 (.slice (some ⟨g, 0, none⟩) (ns.length + 1) cap) (ns.length + 1) (xs ++ [.int .i64 x.up, .string ⟨x.tag.toArray⟩, .string ⟨x.id.toArray⟩, vc, va])) (hg : W.grownBy w' v.ownBlock) (hat : v.ownBlock = some g ∨ g = W.heap.size) :
    Row B w' (.slice (some ⟨g, 0, none⟩) (ns.length + 1) cap) (ns ++ [x]) := by
  refine ⟨_, by simpa using h1, ?_⟩
  have hg' : (Value.slice (some ⟨g, 0, none⟩) (ns.length + 1) cap).ownBlock = v.ownBlock ∨ ∃ H, (Value.slice (some ⟨g, 0, none⟩) (ns.length + 1) cap).ownBlock = some H ∧ W.heap.size ≤ H := by
    rcases hat with h | h
    · exact Or.inl (by rw [h]; rfl)
    · exact Or.inr ⟨g, rfl, by omega⟩
  exact CellsOf.append _ _ _ _ (CellsOf.grown hg hg' _ _ hc) ⟨⟨rfl, rfl, rfl, hvc.grown hg hg', hva.grown hg hg'⟩, trivial⟩
/-- one element more, at the step that appends it -/
theorem wpList_radd {ops : Array Oper} {rest : List Oper} {o : Oper} {a : Act} {Q : Exit → Act → World → Prop} {B : Nat} {w2 : World} {v : Value} {ns : List Pl.Nd} {x : Pl.Nd} {vc va : Value} (hgd : o.guard = none) (s t : Operand)
    (ho : o.op = .call { callee := .builtin .append, args := #[s, t], argTypes := #[22, 22] }) (hs : a.eval s = v) (H : Nat) (hH : w2.heap.size = H) (hx : a.eval t = .slice (some ⟨H, 0, none⟩) 1 1)
    (hr : Row B w2 v ns) (hlen : ns.length + 1 ≤ 64) (hB : B ≤ w2.heap.size) (hvc : StrsNe v.ownBlock w2 vc x.cls) (hva : AtsNe v.ownBlock w2 va x.ats)
    (h : ∀ g cap w', Row B w' (.slice (some ⟨g, 0, none⟩) (ns.length + 1) cap) (ns ++ [x]) → (w2.alloc (.cells #[.int .i64 x.up, .string ⟨x.tag.toArray⟩, .string ⟨x.id.toArray⟩, vc, va] 31)).grownBy w' v.ownBlock → (v.ownBlock = some g ∨ g = H + 1) → wpList Tryz.prog ops Q rest (a.put o.dst (.slice (some ⟨g, 0, none⟩) (ns.length + 1) cap)) w') :
    wpList Tryz.prog ops Q (o :: rest) a (w2.alloc (.cells #[.int .i64 x.up, .string ⟨x.tag.toArray⟩, .string ⟨x.id.toArray⟩, vc, va] 31)) := by
  subst hH
  obtain ⟨i0, hi, hz0, hz1, hz2⟩ := info_parts Tryz.info31
  obtain ⟨xs, hown, hcs⟩ := hr
  obtain ⟨_, _, e3, _⟩ := id hvc
  obtain ⟨_, _, e4, _⟩ := id hva
  refine wpList_append_lies _ hgd s t 22 ho B 31 i0 _ 5 88 Tryz.underlying22 hi hz0 hz1 hz2 rfl (by decide) v ns.length xs hs (own_on hown (on_alloc _ _)) ⟨w2.heap.size, 0, none⟩ 1 1 [.int .i64 x.up, .string ⟨x.tag.toArray⟩, .string ⟨x.id.toArray⟩, vc, va] hx rfl ?_ ?_ (by decide) (by unfold maxLen; omega) (by omega) (by simp; omega) _ rfl ?_
  · exact World.news_of_block (heap_alloc_new w2 _)
  · intro u hu
    simp only [List.mem_cons, List.not_mem_nil, or_false] at hu
    rcases hu with rfl | rfl | rfl | rfl | rfl
    · rfl
    · rfl
    · rfl
    · rw [e3]; rfl
    · rw [e4]; rfl
  · intro g cap w' h1 h2 h3 _
    exact h g cap w' (row_step2 (CellsOf.on (on_alloc _ _) _ _ hcs) (hvc.on (on_alloc _ _)) (hva.on (on_alloc _ _)) h1 h2 h3) h2 (by simpa using h3)
/-- all blocks -/
abbrev AllB : Nat → Prop := fun _ => True
theorem mv_below {w0 w : World} (h : Below w0.heap.size w0 w) : Mv AllB w0 (fun j => j < w0.heap.size) w := fun j _ hl => ⟨hl, h.block j hl⟩
theorem StrsP.ne {B : Nat} {w : World} {v : Value} {ss : List (List UInt8)} (h : StrsP (fun j => j < B) w v ss) {g : Option Nat} (hg : ∀ k, g = some k → B ≤ k) : StrsNe g w v ss := by
  obtain ⟨a, cap, rfl, h⟩ := h
  refine ⟨a, cap, rfl, ?_⟩
  rcases h with h | ⟨b, o, ha, hB, hc⟩
  · exact Or.inl h
  · exact Or.inr ⟨b, o, ha, fun e => by have := hg b e.symm; omega, hc⟩
theorem AtsP.ne {B : Nat} {w : World} {v : Value} {ss : List (List UInt8 × List UInt8)} (h : AtsP (fun j => j < B) w v ss) {g : Option Nat} (hg : ∀ k, g = some k → B ≤ k) : AtsNe g w v ss := by
  obtain ⟨a, cap, rfl, h⟩ := h
  refine ⟨a, cap, rfl, ?_⟩
  rcases h with h | ⟨b, o, ha, hB, hc⟩
  · exact Or.inl h
  · exact Or.inr ⟨b, o, ha, fun e => by have := hg b e.symm; omega, hc⟩
/-- the row's block stays, or is new -/
def OwnTo (n : Nat) (v v' : Value) : Prop := v'.ownBlock = v.ownBlock ∨ ∃ H, v'.ownBlock = some H ∧ n ≤ H
theorem Row.own {B : Nat} {w : World} {v : Value} {ns : List Pl.Nd} (h : Row B w v ns) : ∀ k, v.ownBlock = some k → B ≤ k ∧ k < w.heap.size := by
  obtain ⟨xs, ho, _⟩ := h
  exact fun k hk => World.ownsRow.lt ho k hk

set_option maxRecDepth 100000 in
set_option maxHeartbeats 4000000 in
theorem lay_any (w0 : World) : ∀ (N : Nat) (x : Pl.Nd) (k : Pl.F) (vt v : Value) (ns : List Pl.Nd) (up : Int) (w : World), k.size < N → TV AllB w0 vt x k → Below w0.heap.size w0 w → Row w0.heap.size w v ns → ns.length + k.size + 1 ≤ 64 →
    Calls Tryz.prog 31 #[v, vt, .int .i64 up] w fun e w' => ∃ v', e = .returned v' ∧ Row w0.heap.size w' v' (ns ++ Pl.layT x k ns.length up) ∧ w.grownBy w' v.ownBlock ∧ OwnTo w.heap.size v v' := by
  intro N
  induction N with
  | zero => intro x k vt v ns up w h; omega
  | succ N ih =>
    intro x k vt v ns up w hN hT hB hr h64
    obtain ⟨vc, va, vk, rfl, hc, ha, hk⟩ := hT
    obtain ⟨ac, cc, rfl, _⟩ := id hc
    obtain ⟨aa, ca, rfl, _⟩ := id ha
    obtain ⟨ak, ck, rfl, hkk⟩ := hk
    obtain ⟨av, lv, cv, rfl, hv1, hv2⟩ := Row.cap hr
    have hown := Row.own hr
    obtain rfl : lv = ns.length := by
      obtain ⟨_, _, e, _⟩ := hr.nds
      injection e
    have hcN := (hc.to (mv_below hB)).ne (g := (Value.slice av ns.length cv).ownBlock) (fun k hk => (hown k hk).1)
    have haN := (ha.to (mv_below hB)).ne (g := (Value.slice av ns.length cv).ownBlock) (fun k hk => (hown k hk).1)
    have HC : Hid (StrsNe (Value.slice av ns.length cv).ownBlock w (.slice ac x.cls.length cc) x.cls) := hcN
    have HA : Hid (AtsNe (Value.slice av ns.length cv).ownBlock w (.slice aa x.ats.length ca) x.ats) := haN
    have HK : Hid _ := hkk
    have HIH : Hid _ := ih
    have HR : Hid _ := hr
    clear hc ha hkk hr ih hcN haN
    obtain ⟨xup, tag, idn, cls, ats⟩ := x
    dsimp only at *
    have m0 := hv2
    unfold maxLen at m0
    have M1 := Blk6.new w (.int .i64 up) (.string ⟨tag.toArray⟩) (.string ⟨idn.toArray⟩) (.slice ac cls.length cc) (.slice aa ats.length ca) (.slice ak k.len ck)
    go_enter Tryz.func31, Tryz.ntmps31
    go_wp2_with (at_builtin; refine wpList_radd (B := w0.heap.size) (ns := ns) (x := ⟨up, tag, idn, cls, ats⟩) rfl _ _ rfl rfl _ ?hH rfl (Row.on HR.out (on_alloc _ _)) (by omega) ?hB (HC.out.on (on_alloc _ _)) (HA.out.on (on_alloc _ _)) ?_; rotate_left 2; intro g cap w1 hrow hgr hat; refine Hid.out ?_)
    case hH => simp
    case hB => have := hB.size; simp; omega
    unfold Hid
    have hne : some w.heap.size ≠ (Value.slice av ns.length cv).ownBlock := fun e => by have := (hown _ e.symm).2; omega
    have HM : Hid (Blk6 w1 w.heap.size (.int .i64 up) (.string ⟨tag.toArray⟩) (.string ⟨idn.toArray⟩) (.slice ac cls.length cc) (.slice aa ats.length ca) (.slice ak k.len ck)) := (M1.on (on_alloc _ _)).grown hgr hne
    have HG : Hid (w.grownBy w1 (Value.slice av ns.length cv).ownBlock) := gb_grown (gb_below (gb_below (World.grownBy.refl w _) (on_alloc _ _)) (on_alloc _ _)) hgr (fun k hk => Or.inl hk.symm)
    have HO : Hid (OwnTo (w.heap.size + 1) (.slice av ns.length cv) (.slice (some ⟨g, 0, none⟩) (ns.length + 1) cap)) := by
      rcases hat with h | h
      · exact Or.inl h.symm
      · exact Or.inr ⟨g, rfl, by omega⟩
    have HRow : Hid _ := hrow
    have HE : Hid (ns ++ Pl.layT ⟨xup, tag, idn, cls, ats⟩ k ns.length up = (ns ++ [⟨up, tag, idn, cls, ats⟩]) ++ Pl.layF (k.drop 0) (ns ++ [(⟨up, tag, idn, cls, ats⟩ : Pl.Nd)]).length ns.length) := by
      unfold Hid Pl.layT
      rw [Pl.F.drop_zero]
      simp
    clear hrow hgr hat M1 HC HA
    have hB0 := hB.size
    go_wp2_with fail
    go_loopw [0, 8] (fun u i wr => ∃ (j : Nat) (cs : List Pl.Nd), j ≤ k.len ∧ i = .int .i64 j ∧ Hid (Row w0.heap.size wr u cs) ∧ Hid (ns ++ Pl.layT ⟨xup, tag, idn, cls, ats⟩ k ns.length up = cs ++ Pl.layF (k.drop j) cs.length ns.length) ∧ Hid (Blk6 wr w.heap.size (.int .i64 up) (.string ⟨tag.toArray⟩) (.string ⟨idn.toArray⟩) (.slice ac cls.length cc) (.slice aa ats.length ca) (.slice ak k.len ck)) ∧ Hid (w.grownBy wr (Value.slice av ns.length cv).ownBlock) ∧ Hid (OwnTo (w.heap.size + 1) (.slice av ns.length cv) u)) (fun _ i _ => k.len - (intOf i).toNat)
    case atStart => exact ⟨0, _, Nat.zero_le _, rfl, HRow, HE, HM, HG, HO⟩
    case round =>
      obtain ⟨j, cs, hj, rfl, hrow, heq, hMb, hgb, hot⟩ := hrel
      have m5 := hMb.out.facts.1.2.2.2.2.2
      have hkl := Pl.F.len_le_size k
      have Bw : Below w0.heap.size w0 wr := hB.grown hgb.out hB0 (fun k hk => (hown k hk).1)
      obtain ⟨ar, lr, cr, rfl, _, hr2⟩ := Row.cap hrow.out
      by_cases hlt : j < k.len
      · obtain ⟨bk, ok, rfl, _, hfin⟩ := HK.out.resolve_left (by omega)
        obtain ⟨y, ky, hd, hsz⟩ := Pl.F.drop_lt k j hlt
        have hf := FIn.drop k j bk ok hfin
        rw [hd] at hf
        obtain ⟨⟨vc', va', n0, n1, n2, n3, n4, nc, na⟩, ⟨a', cap', n5, hsub⟩, _⟩ := hf
        obtain ⟨ac', cc', rfl, _⟩ := id nc
        obtain ⟨aa', ca', rfl, _⟩ := id na
        replace n0 := cell_on Bw n0
        replace n1 := cell_on Bw n1
        replace n2 := cell_on Bw n2
        replace n3 := cell_on Bw n3
        replace n4 := cell_on Bw n4
        replace n5 := cell_on Bw n5
        have hL : cs.length + ky.size + 1 ≤ 64 := by
          have h := congrArg List.length heq.out
          rw [hd] at h
          simp only [List.length_append, Pl.layT_len, Pl.layF_len, Pl.F.size] at h
          omega
        have HE2 : Hid (ns ++ Pl.layT ⟨xup, tag, idn, cls, ats⟩ k ns.length up = (cs ++ Pl.layT y ky cs.length ns.length) ++ Pl.layF (k.drop (j + 1)) (cs ++ Pl.layT y ky cs.length ns.length).length ns.length) := by
          unfold Hid
          rw [heq.out, hd, Pl.layF, List.append_assoc, List.length_append, Pl.layT_len]
          rw [show cs.length + (ky.size + 1) = cs.length + 1 + ky.size by omega]
          rfl
        have HT : Hid (TV AllB w0 (.agg #[.int .i64 y.up, .string ⟨y.tag.toArray⟩, .string ⟨y.id.toArray⟩, .slice ac' y.cls.length cc', .slice aa' y.ats.length ca', .slice a' ky.len cap']) y ky) := ⟨_, _, _, rfl, nc, na, ⟨_, _, rfl, hsub⟩⟩
        have HBw : Hid _ := Bw
        clear nc na hsub hfin hd Bw
        go_wp2_with fail
        refine (HIH.out y ky _ _ cs _ _ (by omega) HT.out HBw.out hrow.out hL).mono ?_
        rintro e w2 ⟨v2, rfl, hrow2, hg2, ho2⟩
        obtain ⟨a2, l2, c2, rfl, _, _⟩ := Row.cap hrow2
        have HR2 : Hid _ := hrow2
        have hown2 := Row.own hrow.out
        have HG2 : Hid (w.grownBy w2 (Value.slice av ns.length cv).ownBlock) := gb_grown hgb.out hg2 (fun k hk => by
          rcases hot.out with h | ⟨H, h, hH⟩
          · rw [h] at hk; exact Or.inl hk.symm
          · rw [h] at hk; injection hk with hk; exact Or.inr (by omega))
        have HM2 : Hid (Blk6 w2 w.heap.size (.int .i64 up) (.string ⟨tag.toArray⟩) (.string ⟨idn.toArray⟩) (.slice ac cls.length cc) (.slice aa ats.length ca) (.slice (some ⟨bk, ok, none⟩) k.len ck)) := hMb.out.grown hg2 (fun e => by
          rcases hot.out with h | ⟨H, h, hH⟩
          · rw [h] at e; exact hne e
          · rw [h] at e; injection e with e; omega)
        have hsz1 : w.heap.size + 1 ≤ wr.heap.size := by have := hMb.out.lt; omega
        have HO2 : Hid (OwnTo (w.heap.size + 1) (.slice av ns.length cv) (.slice a2 l2 c2)) := by
          rcases ho2 with h | ⟨H, h, hH⟩
          · rcases hot.out with h' | ⟨H, h', hH⟩
            · exact Or.inl (h.trans h')
            · exact Or.inr ⟨H, h.trans h', hH⟩
          · exact Or.inr ⟨H, h, by omega⟩
        clear hrow2 hg2 ho2 hown2 n0 n1 n2 n3 n4 n5 m5
        go_wp2
        exact ⟨⟨j + 1, _, hlt, by go_num, HR2, HE2, HM2, HG2, HO2⟩, by simp [intOf]; omega⟩
      · have HF : Hid (ns ++ Pl.layT ⟨xup, tag, idn, cls, ats⟩ k ns.length up = cs) := by
          unfold Hid
          rw [heq.out, Pl.F.drop_len k j (by omega)]
          simp [Pl.layF]
        go_wp2
        go_ret
        refine ⟨_, rfl, by rw [HF.out]; exact hrow.out, hgb.out, ?_⟩
        rcases hot.out with h | ⟨H, h, hH⟩
        · exact Or.inl h
        · exact Or.inr ⟨H, h, by omega⟩
end Go.Proofs.YtbpgcfabepioiaaGreat
