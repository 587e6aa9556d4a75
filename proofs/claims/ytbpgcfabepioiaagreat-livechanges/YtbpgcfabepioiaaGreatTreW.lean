/-
  treeOf: the tree of an element.
-/
import Derived.Test.YtbpgcfabepioiaaGreatTreO
import Derived.Deep.RegionLaw
namespace Go.Proofs.YtbpgcfabepioiaaGreat
open Go.RowKit

theorem gb_below {w3 W w' : World} {g : Option Nat} (h : w3.grownBy W g) (hb : Below W.heap.size W w') : w3.grownBy w' g :=
  ⟨hb.os.trans h.os, hb.tape.trans h.tape, hb.output.trans h.output, Nat.le_trans h.size hb.size, fun k hk hne => (hb.block k (Nat.lt_of_lt_of_le hk h.size)).trans (h.block k hk hne)⟩
theorem gb_grown {w3 W w' : World} {g g' : Option Nat} (h : w3.grownBy W g) (hb : W.grownBy w' g') (hg : ∀ k, g' = some k → some k = g ∨ w3.heap.size ≤ k) : w3.grownBy w' g :=
  ⟨hb.os.trans h.os, hb.tape.trans h.tape, hb.output.trans h.output, Nat.le_trans h.size hb.size, fun k hk hne => (hb.block k (Nat.lt_of_lt_of_le hk h.size) (fun e => by rcases hg k e.symm with h1 | h1; exact hne h1; omega)).trans (h.block k hk hne)⟩
theorem gb_set {w3 W : World} {M : Nat} (h : w3.grownBy W (some M)) (i : Nat) (v : Value) : w3.grownBy (W.setCell ⟨M, i, none⟩ v) (some M) :=
  ⟨h.os, h.tape, h.output, by simpa [World.setCell] using h.size, fun k hk hne => (Below.heap_setCell _ _ _ _ (by intro e; exact hne (by rw [e]))).trans (h.block k hk hne)⟩
theorem TRow.set {B : Nat} {P : Nat → Prop} {w : World} {v : Value} {f : Pl.F} (h : TRow B P w v f) {M j : Nat} (hM : M < B) (hP : ∀ j, P j → M ≠ j) (u : Value) : TRow B P (w.setCell ⟨M, j, none⟩ u) v f := by
  obtain ⟨xs, ho, hc⟩ := h
  refine ⟨xs, ⟨ho.1, ?_⟩, CellsF.to (w := w) (fun j hj _ => ⟨hj, Below.heap_setCell _ _ _ _ (fun e => hP j hj.1 e.symm)⟩) f xs hc⟩
  rcases ho.2 with h0 | ⟨g, cap, cur, rfl, hb, hgg, rest⟩
  · exact Or.inl h0
  · exact Or.inr ⟨g, cap, cur, rfl, hb, by rw [Below.heap_setCell _ _ _ _ (by simp; omega)]; exact hgg, rest⟩
abbrev Two (p q : Addr) (u v : Value) (w3 : World) (g : Option Nat) (W : World) : Prop := W.cell? p = some u ∧ W.cell? q = some v ∧ w3.grownBy W g
theorem two_of {p q : Addr} {u v : Value} {w3 : World} {g : Option Nat} (hp : w3.cell? p = some u) (hq : w3.cell? q = some v) (np : some p.block ≠ g) (nq : some q.block ≠ g) {w' : World} (h : w3.grownBy w' g) : Two p q u v w3 g w' :=
  ⟨h.cell hp np, h.cell hq nq, h⟩
theorem keep_on {p q : Addr} {u v : Value} {w3 W w' : World} {g : Option Nat} (hs : ∀ w', w3.grownBy w' g → Two p q u v w3 g w') (h : Two p q u v w3 g W) (hb : Below W.heap.size W w') : Two p q u v w3 g w' := hs _ (gb_below h.2.2 hb)
theorem keep_grown {p q : Addr} {u v : Value} {w3 W w' : World} {g g' : Option Nat} (hs : ∀ w', w3.grownBy w' g → Two p q u v w3 g w') (h : Two p q u v w3 g W) (hg : ∀ k, g' = some k → some k = g ∨ w3.heap.size ≤ k) (hb : W.grownBy w' g') : Two p q u v w3 g w' := hs _ (gb_grown h.2.2 hb hg)
theorem keep_set {p q : Addr} {u v : Value} {w3 W : World} {M : Nat} (hs : ∀ w', w3.grownBy w' (some M) → Two p q u v w3 (some M) w') (h : Two p q u v w3 (some M) W) (i : Nat) (x : Value) : Two p q u v w3 (some M) (W.setCell ⟨M, i, none⟩ x) := hs _ (gb_set h.2.2 i x)

set_option maxRecDepth 100000 in
set_option maxHeartbeats 4000000 in
theorem tree_any (b o cap : Nat) (ns : List Pl.Nd) (h64 : ns.length ≤ 64) (hsh : ∀ x ∈ ns, x.cls.length ≤ 6 ∧ x.ats.length ≤ 4) (hl : Pl.Low ns ns.length) : ∀ (f n : Nat) (w : World), n < ns.length → ns.length ≤ n + f → (∀ i (h : i < ns.length), NdAt w b (o + i * 5) ns[i]) →
    Calls Tryz.prog 35 #[.agg #[.slice (some ⟨b, o, none⟩) ns.length cap], .int .i64 n] w fun e w' => ∃ v, e = .returned v ∧ TV (fun j => w.heap.size ≤ j) w' v (Pl.ndAt ns n) (Pl.forestOf ns f (Pl.kidsOf ns n)) ∧ Below w.heap.size w w' := by
  intro f
  induction f with
  | zero => intro n w h1 h2; omega
  | succ f ih =>
    intro n w hn hf hc
    have HC : Hid _ := hc
    have HIH : Hid _ := ih
    have HL : Hid _ := hl
    obtain ⟨vc, va, n0, n1, n2, n3, n4, nc, na⟩ := hc n hn
    obtain ⟨ac, cc, rfl, _⟩ := id nc
    obtain ⟨aa, ca, rfl, _⟩ := id na
    obtain ⟨L1, L2⟩ := hsh ns[n] (List.getElem_mem hn)
    have NV : Hid (NdV w (.agg #[.int .i64 ns[n].up, .string ⟨ns[n].tag.toArray⟩, .string ⟨ns[n].id.toArray⟩, .slice ac ns[n].cls.length cc, .slice aa ns[n].ats.length ca]) ns[n]) := ⟨_, _, rfl, nc, na⟩
    clear nc na hc ih hl
    have hnd := Pl.ndAt_eq ns n hn
    rw [← hnd] at n0 n1 n2 n3 n4 NV L1 L2
    clear hnd
    generalize Pl.ndAt ns n = x at *
    obtain ⟨up, tag, idn, cls, ats⟩ := x
    dsimp only at n0 n1 n2 n3 n4 NV L1 L2
    have hB0 := ((Below.refl w.heap.size w).alloc (Nat.le_refl _) (.cells #[.slice (some ⟨b, o, none⟩) ns.length cap] 24)).alloc (by simp) (.cells #[.int .i64 0, .string ⟨#[]⟩, .string ⟨#[]⟩, .slice none 0 0, .slice none 0 0, .slice none 0 0] 60)
    replace n0 := cell_on hB0 n0
    replace n1 := cell_on hB0 n1
    replace n2 := cell_on hB0 n2
    replace n3 := cell_on hB0 n3
    replace n4 := cell_on hB0 n4
    have i1 : (n : Int) < (ns.length : Int) := by omega
    go_enter Tryz.func35, Tryz.ntmps35
    go_wp2_with fail
    refine (own_any _ ⟨up, tag, idn, cls, ats⟩ _ L1 L2 (NdV.on NV.out hB0)).mono ?_
    rintro e w1 ⟨nv, rfl, ⟨vc, va, rfl, hs, ha⟩, h1⟩
    obtain ⟨a1, c1, rfl, _⟩ := id hs
    obtain ⟨a2, c2, rfl, _⟩ := id ha
    have R1 : Blk6 w1 (w.heap.size + 1) (.int .i64 0) (.string ⟨#[]⟩) (.string ⟨#[]⟩) (.slice none 0 0) (.slice none 0 0) (.slice none 0 0) := by
      have := Blk6.new (w.alloc (.cells #[.slice (some ⟨b, o, none⟩) ns.length cap] 24)) (.int .i64 0) (.string ⟨#[]⟩) (.string ⟨#[]⟩) (.slice none 0 0) (.slice none 0 0) (.slice none 0 0)
      have := this.on h1
      simpa using this
    have s0 := cell_on (p := ⟨w.heap.size, 0, none⟩) (v := .slice (some ⟨b, o, none⟩) ns.length cap) h1 (by simp [go_sem])
    have hB1 := below_trans hB0 h1
    have hz1 : w.heap.size + 1 + 1 ≤ w1.heap.size := by have := h1.size; simpa using this
    have HS : Hid (StrsFrom (w.heap.size + 1 + 1) w1 (.slice a1 cls.length c1) cls) := StrsFrom.mono hs (by simp)
    have HA : Hid (AtsFrom (w.heap.size + 1 + 1) w1 (.slice a2 ats.length c2) ats) := AtsFrom.mono ha (by simp)
    clear h1 hB0 n0 n1 n2 n3 n4 NV hs ha
    have s1 := cell_on (on_alloc w1 (.cells #[.int .i64 up, .string ⟨tag.toArray⟩, .string ⟨idn.toArray⟩, .slice a1 cls.length c1, .slice a2 ats.length c2, .slice none 0 0] 60)) s0
    have M1 := Blk6.new w1 (.int .i64 up) (.string ⟨tag.toArray⟩) (.string ⟨idn.toArray⟩) (.slice a1 cls.length c1) (.slice a2 ats.length c2) (.slice none 0 0)
    have R2 := R1.on (on_alloc w1 (.cells #[.int .i64 up, .string ⟨tag.toArray⟩, .string ⟨idn.toArray⟩, .slice a1 cls.length c1, .slice a2 ats.length c2, .slice none 0 0] 60))
    have hB2 := below_trans hB1 (on_alloc w1 (.cells #[.int .i64 up, .string ⟨tag.toArray⟩, .string ⟨idn.toArray⟩, .slice a1 cls.length c1, .slice a2 ats.length c2, .slice none 0 0] 60))
    clear R1 hB1
    go_wp2_with fail
    refine (refKids_some b o cap ns _ _ h64 (fun i hi => (HC.out i hi).on hB2)).mono ?_
    rintro e w3 ⟨vl, rfl, hint, h3⟩
    have HR : Hid (Blk6 w3 (w.heap.size + 1) (.int .i64 0) (.string ⟨#[]⟩) (.string ⟨#[]⟩) (.slice none 0 0) (.slice none 0 0) (.slice none 0 0)) := R2.on h3
    have HM : Hid (Blk6 w3 w1.heap.size (.int .i64 up) (.string ⟨tag.toArray⟩) (.string ⟨idn.toArray⟩) (.slice a1 cls.length c1) (.slice a2 ats.length c2) (.slice none 0 0)) := M1.on h3
    have s3 := cell_on h3 s1
    have hB3 := below_trans hB2 h3
    have h13 : Below w1.heap.size w1 w3 := below_trans (on_alloc _ _) h3
    have hz3 : w1.heap.size + 1 ≤ w3.heap.size := by have := h3.size; simpa using this
    have HMem : Hid (∀ k ∈ Pl.kidsOf ns n, k < ns.length ∧ n < k) := by
      intro k hk
      obtain ⟨h1, h2⟩ := Pl.kidsOf_mem hk
      have := HL.out k h1
      rw [h2] at this
      exact ⟨h1, by omega⟩
    have hkl : (Pl.kidsOf ns n).length ≤ 64 := Nat.le_trans (Pl.kidsTo_len _ _ _) h64
    have HF : Hid (Pl.forestOf ns (f + 1) (Pl.kidsOf ns n) = Pl.trees (fun m => Pl.forestOf ns f (Pl.kidsOf ns m)) ns (Pl.kidsOf ns n)) := rfl
    generalize hK : Pl.kidsOf ns n = l at *
    have HK : Hid _ := hK
    clear hK
    replace hint := hint.mono (B' := w1.heap.size + 1) (by simp)
    obtain ⟨al, cl, rfl, hcl⟩ := hint
    have HCL : Hid _ := hcl
    clear hcl h3 s0 s1 M1 R2 hB2
    generalize hM : w1.heap.size = M at *
    have HMM : Hid _ := hM
    clear hM
    go_wp2_with fail
    go_loopw [7] (fun i wr => ∃ k : Nat, k ≤ l.length ∧ i = .int .i64 k ∧ ∃ vk, Hid (Blk6 wr M (.int .i64 up) (.string ⟨tag.toArray⟩) (.string ⟨idn.toArray⟩) (.slice a1 cls.length c1) (.slice a2 ats.length c2) vk) ∧ Hid (TRow w3.heap.size (fun j => w3.heap.size ≤ j) wr vk (Pl.trees (fun m => Pl.forestOf ns f (Pl.kidsOf ns m)) ns (l.take k))) ∧ w3.grownBy wr (some M)) (fun i _ => l.length - (intOf i).toNat)
    case atStart => exact ⟨0, Nat.zero_le _, rfl, _, HM, TRow.nil _ _ _, World.grownBy.refl _ _⟩
    case round =>
      obtain ⟨k, hk, rfl, vk, hMb, hrow, hgb⟩ := hrel
      by_cases hlt : k < l.length
      · have hm := HMem.out l[k] (List.getElem_mem hlt)
        obtain ⟨bl, ol, rfl, hbl, hcl⟩ := HCL.out.resolve_left (by intro h; rw [h] at hlt; simp at hlt)
        have q3 := hcl k hlt
        have HT : Hid (Pl.trees (fun m => Pl.forestOf ns f (Pl.kidsOf ns m)) ns (l.take (k + 1)) = (Pl.trees (fun m => Pl.forestOf ns f (Pl.kidsOf ns m)) ns (l.take k)).app (.cons (Pl.ndAt ns l[k]) (Pl.forestOf ns f (Pl.kidsOf ns l[k])) .nil)) := by
          unfold Hid
          rw [List.take_add_one, List.getElem?_eq_getElem hlt]
          exact Pl.trees_snoc _ _ _ _
        have hlen : (Pl.trees (fun m => Pl.forestOf ns f (Pl.kidsOf ns m)) ns (l.take k)).len + 1 ≤ 64 := by rw [Pl.trees_len]; simp; omega
        have h3 : ∀ w', w3.grownBy w' (some M) → Two ⟨w.heap.size, 0, none⟩ ⟨bl, ol + k, none⟩ (.slice (some ⟨b, o, none⟩) ns.length cap) (.int .i64 (l[k] : Nat)) w3 (some M) w' := fun w' h => two_of s3 q3 (by simp; omega) (by simp; omega) h
        have hgd : w3.grownBy wr.drew (some M) := ⟨hgb.os, hgb.tape, hgb.output, hgb.size, hgb.block⟩
        have S0 := h3 _ hgd
        have HCr : Hid (∀ i (h : i < ns.length), NdAt wr.drew b (o + i * 5) ns[i]) := fun i hi => (HC.out i hi).on (hB3.grown hgd hB3.size (fun g hg => by injection hg with hg; omega))
        generalize Pl.trees (fun m => Pl.forestOf ns f (Pl.kidsOf ns m)) ns (l.take k) = T at *
        generalize l[k] = m at *
        obtain ⟨va0, ca0, rfl⟩ := hrow.out.form
        obtain ⟨xs, hown, hcs⟩ := hrow.out
        have hownD : wr.drew.ownsRow w3.heap.size 60 6 (.slice va0 T.len ca0) T.len xs := own_on hown (Below.refl _ _).drew
        have hcsD : CellsF (fun j => w3.heap.size ≤ j ∧ some j ≠ (Value.slice va0 T.len ca0).ownBlock) wr.drew xs T := CellsF.to (w := wr) (w' := wr.drew) (fun j hj _ => ⟨hj, rfl⟩) T xs hcs
        have hMd : Blk6 wr.drew M (.int .i64 up) (.string ⟨tag.toArray⟩) (.string ⟨idn.toArray⟩) (.slice a1 cls.length c1) (.slice a2 ats.length c2) (.slice va0 T.len ca0) := hMb.out
        have hownlt : ∀ k, (Value.slice va0 T.len ca0).ownBlock = some k → w3.heap.size ≤ k ∧ k < wr.drew.heap.size := fun k hk => World.ownsRow.lt hownD k hk
        have m5 := hMd.facts.1.2.2.2.2.2
        have HMd : Hid _ := hMd
        have HX : Hid _ := hcsD
        have HO : Hid _ := hownD
        clear hcs hown hcsD hownD hMd hrow
        go_wp2
        obtain ⟨s0a, s0b, s0c⟩ := S0
        go_region_law (first | (go_simp; go_at_call 35; refine (HIH.out m _ hm.1 (by omega) HCr.out).mono ?_; rintro e w4 ⟨tv, rfl, ⟨vc4, va4, vk4, rfl, hs4, ha4, hk4⟩, hb4⟩; obtain ⟨y1, y2, rfl, _⟩ := id hs4; obtain ⟨y3, y4, rfl, _⟩ := id ha4; obtain ⟨y5, y6, rfl, _⟩ := id hk4; have m5' := cell_on hb4 m5; have m5'' := fun ob => cell_on (on_alloc w4 ob) m5') | (refine step_tadd (B := w3.heap.size) (P := fun j => w3.heap.size ≤ j) (w2 := w4) (v := .slice va0 T.len ca0) (f := T) (xs := xs) rfl (.tmp 25) (.tmp 32) rfl rfl rfl (own_on HO.out hb4) (CellsF.to (P' := fun j => w3.heap.size ≤ j ∧ some j ≠ (Value.slice va0 T.len ca0).ownBlock) (fun j hj hl => ⟨hj, hb4.block j hl⟩) T xs HX.out) hlen (Nat.le_trans hgd.size hb4.size) (x := Pl.ndAt ns m) (k := Pl.forestOf ns f (Pl.kidsOf ns m)) (hs4.to (fun j hj _ => ⟨⟨Nat.le_trans hgd.size hj, fun e => absurd (Nat.lt_of_lt_of_le (hownlt j e.symm).2 hj) (Nat.lt_irrefl _)⟩, rfl⟩)) (ha4.to (fun j hj _ => ⟨⟨Nat.le_trans hgd.size hj, fun e => absurd (Nat.lt_of_lt_of_le (hownlt j e.symm).2 hj) (Nat.lt_irrefl _)⟩, rfl⟩)) (hk4.to (fun j hj _ => ⟨⟨Nat.le_trans hgd.size hj, fun e => absurd (Nat.lt_of_lt_of_le (hownlt j e.symm).2 hj) (Nat.lt_irrefl _)⟩, rfl⟩)) ?_; intro g cap' w5 hrow' hgr; have M5 := Blk6.grown (Blk6.on (Blk6.on HMd.out hb4) (on_alloc _ _)) hgr (fun e => by have := (hownlt _ e.symm).1; omega); obtain ⟨⟨_, _, _, _, _, z5⟩, fz⟩ := M5.facts))
        all_goals
          have hgF := gb_set (gb_grown (gb_below (gb_below hgd hb4) (on_alloc _ _)) hgr (fun k hk => Or.inr (hownlt k hk).1)) 5 (.slice (some ⟨g, 0, none⟩) (T.len + 1) cap')
          have hbF := M5.set5 (.slice (some ⟨g, 0, none⟩) (T.len + 1) cap')
          have hrF := TRow.set hrow' (M := M) (j := 5) (by omega) (fun j hj => by have : w3.heap.size ≤ j := hj; omega) (.slice (some ⟨g, 0, none⟩) (T.len + 1) cap')
          have HF1 : Hid _ := hgF
          have HF2 : Hid _ := hbF
          have HF3 : Hid _ := hrF
          clear hgF hbF hrF hrow' hgr hs4 ha4 hk4 hb4 z5 fz M5
          go_wp2
          exact ⟨⟨k + 1, hlt, by go_num, _, HF2, by unfold Hid; rw [HT.out]; exact HF3.out, HF1.out⟩, by simp [intOf]; omega⟩
      · have hkl : k = l.length := by omega
        subst hkl
        rw [List.take_length] at hrow
        obtain ⟨va0, ca0, rfl⟩ := hrow.out.form
        have hR := HR.out.grown hgb (by simp; omega)
        obtain ⟨⟨r0, r1, r2, r3, r4, r5⟩, fR⟩ := hR.facts
        obtain ⟨⟨m0, m1, m2, m3, m4, m5⟩, fM⟩ := hMb.out.facts
        have hBr : Below w.heap.size w wr := hB3.grown hgb hB3.size (fun g hg => by injection hg with hg; omega)
        have hsub := hrow.out.sub (fun j hj => hj)
        have hlen := Pl.trees_len (fun m => Pl.forestOf ns f (Pl.kidsOf ns m)) ns l
        rw [hlen] at hsub m5
        have HRo : Hid _ := hR
        have HSub : Hid (Sub (fun j => w3.heap.size ≤ j) wr (.slice va0 l.length ca0) (Pl.trees (fun m => Pl.forestOf ns f (Pl.kidsOf ns m)) ns l)) := hsub
        clear hR hsub hrow hMb hlen
        go_wp2_with fail
        have hF : Blk6 _ _ _ _ _ _ _ _ := Blk6.six HRo.out (.int .i64 up) (.string ⟨tag.toArray⟩) (.string ⟨idn.toArray⟩) (.slice a1 cls.length c1) (.slice a2 ats.length c2) (.slice va0 l.length ca0)
        have hBF := six_Below hBr (w.heap.size + 1) (by omega) (.int .i64 up) (.string ⟨tag.toArray⟩) (.string ⟨idn.toArray⟩) (.slice a1 cls.length c1) (.slice a2 ats.length c2) (.slice va0 l.length ca0)
        have hblk := six_block wr (w.heap.size + 1) (.int .i64 up) (.string ⟨tag.toArray⟩) (.string ⟨idn.toArray⟩) (.slice a1 cls.length c1) (.slice a2 ats.length c2) (.slice va0 l.length ca0)
        change bodyPost _ _ _ _ _ (setSix wr (w.heap.size + 1) (.int .i64 up) (.string ⟨tag.toArray⟩) (.string ⟨idn.toArray⟩) (.slice a1 cls.length c1) (.slice a2 ats.length c2) (.slice va0 l.length ca0))
        generalize setSix wr (w.heap.size + 1) (.int .i64 up) (.string ⟨tag.toArray⟩) (.string ⟨idn.toArray⟩) (.slice a1 cls.length c1) (.slice a2 ats.length c2) (.slice va0 l.length ca0) = wF at *
        obtain ⟨⟨q0, q1, q2, q3, q4, q5⟩, _⟩ := hF.facts
        have hmv : Mv (fun j => w.heap.size + 1 + 1 ≤ j) w1 (fun j => w.heap.size ≤ j) wF := by
          intro j hj hlt1
          have hMM := HMM.out
          refine ⟨by omega, ?_⟩
          rw [hblk j (by omega), hgb.block j (by omega) (by intro e; injection e; omega)]
          exact h13.block j (by rw [← hMM]; exact hlt1)
        refine bodyPost_ret (v := .agg #[.int .i64 up, .string ⟨tag.toArray⟩, .string ⟨idn.toArray⟩, .slice a1 cls.length c1, .slice a2 ats.length c2, .slice va0 l.length ca0]) (by simp [results, Tryz.results35, go_sem, q0, q1, q2, q3, q4, q5]) rfl
          ⟨_, rfl, ⟨_, _, _, rfl, StrsP.to HS.out hmv, AtsP.to HA.out hmv, ?_⟩, hBF⟩
        rw [HK.out, HF.out]
        exact HSub.out.to (fun j hj hl => ⟨by omega, hblk j (by omega)⟩)
end Go.Proofs.YtbpgcfabepioiaaGreat
