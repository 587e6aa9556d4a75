/-
  marked: the tree of an element, each element told by its number.
-/
import Derived.Test.YtbpgcfabepioiaaGreatTreW
namespace Go.Proofs.YtbpgcfabepioiaaGreat
open Go.RowKit

namespace Pl
/-- an element told by its number -/
def mark (ns : List Nd) (n : Nat) : Nd := { ndAt ns n with up := n }
def mtrees (sub : Nat → F) (ns : List Nd) (l : List Nat) : F := l.foldr (fun n r => .cons (mark ns n) (sub n) r) .nil
def markedF (ns : List Nd) : Nat → List Nat → F
  | 0, _ => .nil
  | f + 1, l => mtrees (fun n => markedF ns f (kidsOf ns n)) ns l
theorem mtrees_len (sub : Nat → F) (ns : List Nd) (l : List Nat) : (mtrees sub ns l).len = l.length := by
  unfold mtrees
  induction l with
  | nil => rfl
  | cons a r ih => simp [F.len, ih]
theorem mtrees_snoc (sub : Nat → F) (ns : List Nd) (l : List Nat) (m : Nat) : mtrees sub ns (l ++ [m]) = (mtrees sub ns l).app (.cons (mark ns m) (sub m) .nil) := by
  unfold mtrees
  induction l with
  | nil => rfl
  | cons a r ih => simp only [List.cons_append, List.foldr_cons, F.app, ih]
end Pl
set_option maxRecDepth 100000 in
set_option maxHeartbeats 4000000 in
theorem marked_any (b o cap : Nat) (ns : List Pl.Nd) (h64 : ns.length ≤ 64) (hsh : ∀ x ∈ ns, x.cls.length ≤ 6 ∧ x.ats.length ≤ 4) (hl : Pl.Low ns ns.length) : ∀ (f n : Nat) (w : World), n < ns.length → ns.length ≤ n + f → (∀ i (h : i < ns.length), NdAt w b (o + i * 5) ns[i]) →
    Calls Tryz.prog 33 #[.agg #[.slice (some ⟨b, o, none⟩) ns.length cap], .int .i64 n] w fun e w' => ∃ v, e = .returned v ∧ TV (fun j => w.heap.size ≤ j) w' v (Pl.mark ns n) (Pl.markedF ns f (Pl.kidsOf ns n)) ∧ Below w.heap.size w w' := by
  intro f
  induction f with
  | zero => intro n w h1 h2; omega
  | succ f ih =>
    intro n w hn hf hc
    have HC : Hid _ := hc
    have HIH : Hid _ := ih
    have HL : Hid _ := hl
    have HT : Hid (∀ f' : Nat, ns.length ≤ n + f' → ∀ W, (∀ i (h : i < ns.length), NdAt W b (o + i * 5) ns[i]) → Calls Tryz.prog 35 #[.agg #[.slice (some ⟨b, o, none⟩) ns.length cap], .int .i64 n] W fun e w' => ∃ v, e = .returned v ∧ TV (fun j => W.heap.size ≤ j) w' v (Pl.ndAt ns n) (Pl.forestOf ns f' (Pl.kidsOf ns n)) ∧ Below W.heap.size W w') := fun f' hf' W hW => tree_any b o cap ns h64 hsh hl f' n W hn hf' hW
    clear hc ih hl
    have hB0 := ((Below.refl w.heap.size w).alloc (Nat.le_refl _) (.cells #[.slice (some ⟨b, o, none⟩) ns.length cap] 24)).alloc (by simp) (.cells #[.int .i64 0, .string ⟨#[]⟩, .string ⟨#[]⟩, .slice none 0 0, .slice none 0 0, .slice none 0 0] 60)
    have hmk : Pl.mark ns n = { Pl.ndAt ns n with up := n } := rfl
    rw [hmk]
    clear hmk
    generalize Pl.ndAt ns n = x at *
    obtain ⟨up0, tag, idn, cls, ats⟩ := x
    dsimp only
    go_enter Tryz.func33, Tryz.ntmps33
    go_wp2_with fail
    refine (HT.out (f + 1) hf _ (fun i hi => (HC.out i hi).on hB0)).mono ?_
    rintro e w1 ⟨tv, rfl, ⟨vc, va, vk0, rfl, hs, ha, hk0⟩, h1⟩
    obtain ⟨a1, c1, rfl, _⟩ := id hs
    obtain ⟨a2, c2, rfl, _⟩ := id ha
    obtain ⟨a3, c3, rfl, _⟩ := id hk0
    clear HT hk0
    generalize (Pl.forestOf ns (f + 1) (Pl.kidsOf ns n)).len = l3 at *
    dsimp only at *
    have R1 : Blk6 w1 (w.heap.size + 1) (.int .i64 0) (.string ⟨#[]⟩) (.string ⟨#[]⟩) (.slice none 0 0) (.slice none 0 0) (.slice none 0 0) := by
      have := Blk6.new (w.alloc (.cells #[.slice (some ⟨b, o, none⟩) ns.length cap] 24)) (.int .i64 0) (.string ⟨#[]⟩) (.string ⟨#[]⟩) (.slice none 0 0) (.slice none 0 0) (.slice none 0 0)
      have := this.on h1
      simpa using this
    have s0 := cell_on (p := ⟨w.heap.size, 0, none⟩) (v := .slice (some ⟨b, o, none⟩) ns.length cap) h1 (by simp [go_sem])
    have hB1 := below_trans hB0 h1
    have hz1 : w.heap.size + 1 + 1 ≤ w1.heap.size := by have := h1.size; simpa using this
    have HS : Hid (StrsFrom (w.heap.size + 1 + 1) w1 (.slice a1 cls.length c1) cls) := StrsFrom.mono hs (by simp)
    have HA : Hid (AtsFrom (w.heap.size + 1 + 1) w1 (.slice a2 ats.length c2) ats) := AtsFrom.mono ha (by simp)
    clear h1 hB0 hs ha
    have s1 := cell_on (on_alloc w1 (.cells #[.int .i64 (n : Nat), .string ⟨tag.toArray⟩, .string ⟨idn.toArray⟩, .slice a1 cls.length c1, .slice a2 ats.length c2, .slice a3 l3 c3] 60)) s0
    have M1 := Blk6.new w1 (.int .i64 (n : Nat)) (.string ⟨tag.toArray⟩) (.string ⟨idn.toArray⟩) (.slice a1 cls.length c1) (.slice a2 ats.length c2) (.slice a3 l3 c3)
    have R2 := R1.on (on_alloc w1 (.cells #[.int .i64 (n : Nat), .string ⟨tag.toArray⟩, .string ⟨idn.toArray⟩, .slice a1 cls.length c1, .slice a2 ats.length c2, .slice a3 l3 c3] 60))
    have hB2 := below_trans hB1 (on_alloc w1 (.cells #[.int .i64 (n : Nat), .string ⟨tag.toArray⟩, .string ⟨idn.toArray⟩, .slice a1 cls.length c1, .slice a2 ats.length c2, .slice a3 l3 c3] 60))
    clear R1 hB1
    go_wp2_with fail
    refine (refKids_some b o cap ns _ _ h64 (fun i hi => (HC.out i hi).on hB2)).mono ?_
    rintro e w2 ⟨vl, rfl, hint, h3⟩
    have HR : Hid (Blk6 w2 (w.heap.size + 1) (.int .i64 0) (.string ⟨#[]⟩) (.string ⟨#[]⟩) (.slice none 0 0) (.slice none 0 0) (.slice none 0 0)) := R2.on h3
    have HM : Hid (Blk6 w2 w1.heap.size (.int .i64 (n : Nat)) (.string ⟨tag.toArray⟩) (.string ⟨idn.toArray⟩) (.slice a1 cls.length c1) (.slice a2 ats.length c2) (.slice a3 l3 c3)) := M1.on h3
    have s3 := cell_on h3 s1
    have hB3 := below_trans hB2 h3
    have h13 : Below w1.heap.size w1 w2 := below_trans (on_alloc _ _) h3
    have hz3 : w1.heap.size + 1 ≤ w2.heap.size := by have := h3.size; simpa using this
    have HMem : Hid (∀ k ∈ Pl.kidsOf ns n, k < ns.length ∧ n < k) := by
      intro k hk
      obtain ⟨h1, h2⟩ := Pl.kidsOf_mem hk
      have := HL.out k h1
      rw [h2] at this
      exact ⟨h1, by omega⟩
    have hkl : (Pl.kidsOf ns n).length ≤ 64 := Nat.le_trans (Pl.kidsTo_len _ _ _) h64
    have HF : Hid (Pl.markedF ns (f + 1) (Pl.kidsOf ns n) = Pl.mtrees (fun m => Pl.markedF ns f (Pl.kidsOf ns m)) ns (Pl.kidsOf ns n)) := rfl
    generalize hK : Pl.kidsOf ns n = l at *
    have HK : Hid _ := hK
    clear hK
    replace hint := hint.mono (B' := w1.heap.size + 1) (by simp)
    obtain ⟨al, cl, rfl, hcl⟩ := hint
    have HCL : Hid _ := hcl
    clear hcl h3 s0 s1 M1 R2 hB2
    generalize hM : w1.heap.size = M at *
    have HMM : Hid _ := hM
    clear hM
    obtain ⟨⟨_, _, _, _, _, t5⟩, ft⟩ := HM.out.facts
    go_wp2_with fail
    have hsz2 : (w2.setCell ⟨M, 5, none⟩ (.slice none 0 0)).heap.size = w2.heap.size := by simp [World.setCell]
    replace HR : Hid (Blk6 (w2.setCell ⟨M, 5, none⟩ (.slice none 0 0)) (w.heap.size + 1) (.int .i64 0) (.string ⟨#[]⟩) (.string ⟨#[]⟩) (.slice none 0 0) (.slice none 0 0) (.slice none 0 0)) := HR.out.other (by omega) _
    replace HM : Hid (Blk6 (w2.setCell ⟨M, 5, none⟩ (.slice none 0 0)) M (.int .i64 (n : Nat)) (.string ⟨tag.toArray⟩) (.string ⟨idn.toArray⟩) (.slice a1 cls.length c1) (.slice a2 ats.length c2) (.slice none 0 0)) := HM.out.set5 _
    replace s3 := cell_set (M := M) (j := 5) (u := .slice none 0 0) s3 (by omega)
    replace hB3 := hB3.setCell (p := ⟨M, 5, none⟩) (by show w.heap.size ≤ M; omega) (.slice none 0 0)
    replace h13 := h13.setCell (p := ⟨M, 5, none⟩) (Nat.le_refl _) (.slice none 0 0)
    replace hz3 : M + 1 ≤ (w2.setCell ⟨M, 5, none⟩ (.slice none 0 0)).heap.size := by rw [hsz2]; exact hz3
    replace HCL : Hid (l = [] ∨ ∃ b o, al = some ⟨b, o, none⟩ ∧ M + 1 ≤ b ∧ ∀ i (h : i < l.length), (w2.setCell ⟨M, 5, none⟩ (.slice none 0 0)).cell? ⟨b, o + i, none⟩ = some (.int .i64 (l[i] : Nat))) := by
      rcases HCL.out with h | ⟨b, o, e, hb, hc⟩
      · exact Or.inl h
      · exact Or.inr ⟨b, o, e, hb, fun i hi => cell_set (hc i hi) (by omega)⟩
    clear hsz2 t5 ft
    generalize w2.setCell ⟨M, 5, none⟩ (.slice none 0 0) = w3 at *
    go_loopw [7] (fun i wr => ∃ k : Nat, k ≤ l.length ∧ i = .int .i64 k ∧ ∃ vk, Hid (Blk6 wr M (.int .i64 (n : Nat)) (.string ⟨tag.toArray⟩) (.string ⟨idn.toArray⟩) (.slice a1 cls.length c1) (.slice a2 ats.length c2) vk) ∧ Hid (TRow w3.heap.size (fun j => w3.heap.size ≤ j) wr vk (Pl.mtrees (fun m => Pl.markedF ns f (Pl.kidsOf ns m)) ns (l.take k))) ∧ w3.grownBy wr (some M)) (fun i _ => l.length - (intOf i).toNat)
    case atStart => exact ⟨0, Nat.zero_le _, rfl, _, HM, TRow.nil _ _ _, World.grownBy.refl _ _⟩
    case round =>
      obtain ⟨k, hk, rfl, vk, hMb, hrow, hgb⟩ := hrel
      by_cases hlt : k < l.length
      · have hm := HMem.out l[k] (List.getElem_mem hlt)
        obtain ⟨bl, ol, rfl, hbl, hcl⟩ := HCL.out.resolve_left (by intro h; rw [h] at hlt; simp at hlt)
        have q3 := hcl k hlt
        have HT : Hid (Pl.mtrees (fun m => Pl.markedF ns f (Pl.kidsOf ns m)) ns (l.take (k + 1)) = (Pl.mtrees (fun m => Pl.markedF ns f (Pl.kidsOf ns m)) ns (l.take k)).app (.cons (Pl.mark ns l[k]) (Pl.markedF ns f (Pl.kidsOf ns l[k])) .nil)) := by
          unfold Hid
          rw [List.take_add_one, List.getElem?_eq_getElem hlt]
          exact Pl.mtrees_snoc _ _ _ _
        have hlen : (Pl.mtrees (fun m => Pl.markedF ns f (Pl.kidsOf ns m)) ns (l.take k)).len + 1 ≤ 64 := by rw [Pl.mtrees_len]; simp; omega
        have h3 : ∀ w', w3.grownBy w' (some M) → Two ⟨w.heap.size, 0, none⟩ ⟨bl, ol + k, none⟩ (.slice (some ⟨b, o, none⟩) ns.length cap) (.int .i64 (l[k] : Nat)) w3 (some M) w' := fun w' h => two_of s3 q3 (by simp; omega) (by simp; omega) h
        have hgd : w3.grownBy wr.drew (some M) := ⟨hgb.os, hgb.tape, hgb.output, hgb.size, hgb.block⟩
        have S0 := h3 _ hgd
        have HCr : Hid (∀ i (h : i < ns.length), NdAt wr.drew b (o + i * 5) ns[i]) := fun i hi => (HC.out i hi).on (hB3.grown hgd hB3.size (fun g hg => by injection hg with hg; omega))
        generalize Pl.mtrees (fun m => Pl.markedF ns f (Pl.kidsOf ns m)) ns (l.take k) = T at *
        generalize l[k] = m at *
        obtain ⟨va0, ca0, rfl⟩ := hrow.out.form
        obtain ⟨xs, hown, hcs⟩ := hrow.out
        have hownD : wr.drew.ownsRow w3.heap.size 60 6 (.slice va0 T.len ca0) T.len xs := own_on hown (Below.refl _ _).drew
        have hcsD : CellsF (fun j => w3.heap.size ≤ j ∧ some j ≠ (Value.slice va0 T.len ca0).ownBlock) wr.drew xs T := CellsF.to (w := wr) (w' := wr.drew) (fun j hj _ => ⟨hj, rfl⟩) T xs hcs
        have hMd : Blk6 wr.drew M (.int .i64 (n : Nat)) (.string ⟨tag.toArray⟩) (.string ⟨idn.toArray⟩) (.slice a1 cls.length c1) (.slice a2 ats.length c2) (.slice va0 T.len ca0) := hMb.out
        have hownlt : ∀ k, (Value.slice va0 T.len ca0).ownBlock = some k → w3.heap.size ≤ k ∧ k < wr.drew.heap.size := fun k hk => World.ownsRow.lt hownD k hk
        have m5 := hMd.facts.1.2.2.2.2.2
        have HMd : Hid _ := hMd
        have HX : Hid _ := hcsD
        have HO : Hid _ := hownD
        clear hcs hown hcsD hownD hMd hrow
        go_wp2
        obtain ⟨s0a, s0b, s0c⟩ := S0
        go_region_law (first | (go_simp; go_at_call 33; refine (HIH.out m _ hm.1 (by omega) HCr.out).mono ?_; rintro e w4 ⟨tv, rfl, ⟨vc4, va4, vk4, rfl, hs4, ha4, hk4⟩, hb4⟩; obtain ⟨y1, y2, rfl, _⟩ := id hs4; obtain ⟨y3, y4, rfl, _⟩ := id ha4; obtain ⟨y5, y6, rfl, _⟩ := id hk4; have m5' := cell_on hb4 m5; have m5'' := fun ob => cell_on (on_alloc w4 ob) m5') | (refine step_tadd (B := w3.heap.size) (P := fun j => w3.heap.size ≤ j) (w2 := w4) (v := .slice va0 T.len ca0) (f := T) (xs := xs) rfl (.tmp 25) (.tmp 32) rfl rfl rfl (own_on HO.out hb4) (CellsF.to (P' := fun j => w3.heap.size ≤ j ∧ some j ≠ (Value.slice va0 T.len ca0).ownBlock) (fun j hj hl => ⟨hj, hb4.block j hl⟩) T xs HX.out) hlen (Nat.le_trans hgd.size hb4.size) (x := Pl.mark ns m) (k := Pl.markedF ns f (Pl.kidsOf ns m)) (hs4.to (fun j hj _ => ⟨⟨Nat.le_trans hgd.size hj, fun e => absurd (Nat.lt_of_lt_of_le (hownlt j e.symm).2 hj) (Nat.lt_irrefl _)⟩, rfl⟩)) (ha4.to (fun j hj _ => ⟨⟨Nat.le_trans hgd.size hj, fun e => absurd (Nat.lt_of_lt_of_le (hownlt j e.symm).2 hj) (Nat.lt_irrefl _)⟩, rfl⟩)) (hk4.to (fun j hj _ => ⟨⟨Nat.le_trans hgd.size hj, fun e => absurd (Nat.lt_of_lt_of_le (hownlt j e.symm).2 hj) (Nat.lt_irrefl _)⟩, rfl⟩)) ?_; intro g cap' w5 hrow' hgr; have M5 := Blk6.grown (Blk6.on (Blk6.on HMd.out hb4) (on_alloc _ _)) hgr (fun e => by have := (hownlt _ e.symm).1; omega); obtain ⟨⟨_, _, _, _, _, z5⟩, fz⟩ := M5.facts))
        all_goals
          have hgF := gb_set (gb_grown (gb_below (gb_below hgd hb4) (on_alloc _ _)) hgr (fun k hk => Or.inr (hownlt k hk).1)) 5 (.slice (some ⟨g, 0, none⟩) (T.len + 1) cap')
          have hbF := M5.set5 (.slice (some ⟨g, 0, none⟩) (T.len + 1) cap')
          have hrF := TRow.set hrow' (M := M) (j := 5) (by omega) (fun j hj => by have : w3.heap.size ≤ j := hj; omega) (.slice (some ⟨g, 0, none⟩) (T.len + 1) cap')
          have HF1 : Hid _ := hgF
          have HF2 : Hid _ := hbF
          have HF3 : Hid _ := hrF
          clear hgF hbF hrF hrow' hgr hs4 ha4 hk4 hb4 z5 fz M5
          go_wp2
          exact ⟨⟨k + 1, hlt, by go_num, _, HF2, by unfold Hid; rw [HT.out]; exact HF3.out, HF1.out⟩, by simp [intOf]; omega⟩
      · have hkl : k = l.length := by omega
        subst hkl
        rw [List.take_length] at hrow
        obtain ⟨va0, ca0, rfl⟩ := hrow.out.form
        have hR := HR.out.grown hgb (by simp; omega)
        obtain ⟨⟨r0, r1, r2, r3, r4, r5⟩, fR⟩ := hR.facts
        obtain ⟨⟨m0, m1, m2, m3, m4, m5⟩, fM⟩ := hMb.out.facts
        have hBr : Below w.heap.size w wr := hB3.grown hgb hB3.size (fun g hg => by injection hg with hg; omega)
        have hsub := hrow.out.sub (fun j hj => hj)
        have hlen := Pl.mtrees_len (fun m => Pl.markedF ns f (Pl.kidsOf ns m)) ns l
        rw [hlen] at hsub m5
        have HRo : Hid _ := hR
        have HSub : Hid (Sub (fun j => w3.heap.size ≤ j) wr (.slice va0 l.length ca0) (Pl.mtrees (fun m => Pl.markedF ns f (Pl.kidsOf ns m)) ns l)) := hsub
        clear hR hsub hrow hMb hlen
        go_wp2_with fail
        have hF : Blk6 _ _ _ _ _ _ _ _ := Blk6.six HRo.out (.int .i64 (n : Nat)) (.string ⟨tag.toArray⟩) (.string ⟨idn.toArray⟩) (.slice a1 cls.length c1) (.slice a2 ats.length c2) (.slice va0 l.length ca0)
        have hBF := six_Below hBr (w.heap.size + 1) (by omega) (.int .i64 (n : Nat)) (.string ⟨tag.toArray⟩) (.string ⟨idn.toArray⟩) (.slice a1 cls.length c1) (.slice a2 ats.length c2) (.slice va0 l.length ca0)
        have hblk := six_block wr (w.heap.size + 1) (.int .i64 (n : Nat)) (.string ⟨tag.toArray⟩) (.string ⟨idn.toArray⟩) (.slice a1 cls.length c1) (.slice a2 ats.length c2) (.slice va0 l.length ca0)
        change bodyPost _ _ _ _ _ (setSix wr (w.heap.size + 1) (.int .i64 (n : Nat)) (.string ⟨tag.toArray⟩) (.string ⟨idn.toArray⟩) (.slice a1 cls.length c1) (.slice a2 ats.length c2) (.slice va0 l.length ca0))
        generalize setSix wr (w.heap.size + 1) (.int .i64 (n : Nat)) (.string ⟨tag.toArray⟩) (.string ⟨idn.toArray⟩) (.slice a1 cls.length c1) (.slice a2 ats.length c2) (.slice va0 l.length ca0) = wF at *
        obtain ⟨⟨q0, q1, q2, q3, q4, q5⟩, _⟩ := hF.facts
        have hmv : Mv (fun j => w.heap.size + 1 + 1 ≤ j) w1 (fun j => w.heap.size ≤ j) wF := by
          intro j hj hlt1
          have hMM := HMM.out
          refine ⟨by omega, ?_⟩
          rw [hblk j (by omega), hgb.block j (by omega) (by intro e; injection e; omega)]
          exact h13.block j (by rw [← hMM]; exact hlt1)
        refine bodyPost_ret (v := .agg #[.int .i64 (n : Nat), .string ⟨tag.toArray⟩, .string ⟨idn.toArray⟩, .slice a1 cls.length c1, .slice a2 ats.length c2, .slice va0 l.length ca0]) (by simp [results, Tryz.results33, go_sem, q0, q1, q2, q3, q4, q5]) rfl
          ⟨_, rfl, ⟨_, _, _, rfl, StrsP.to HS.out hmv, AtsP.to HA.out hmv, ?_⟩, hBF⟩
        rw [HK.out, HF.out]
        exact HSub.out.to (fun j hj hl => ⟨by omega, hblk j (by omega)⟩)
end Go.Proofs.YtbpgcfabepioiaaGreat
/-
  without: a tree without the elements that are told by a number.
-/
namespace Go.Proofs.YtbpgcfabepioiaaGreat
open Go.RowKit

namespace Pl
def withoutF : F → Int → F
  | .nil, _ => .nil
  | .cons x k r, n => if x.up = n then withoutF r n else .cons x (withoutF k n) (withoutF r n)
theorem without_len (f : F) (n : Int) : (withoutF f n).len ≤ f.len := by
  induction f with
  | nil => simp [withoutF]
  | cons x k r _ ih =>
    unfold withoutF
    split
    · simp only [F.len]; omega
    · simp only [F.len]; omega
theorem without_size (f : F) (n : Int) : (withoutF f n).size ≤ f.size := by
  induction f with
  | nil => simp [withoutF]
  | cons x k r ihk ih =>
    unfold withoutF
    split
    · simp only [F.size]; omega
    · simp only [F.size]; omega
end Pl
/-- one tree more, at the step that appends it -/
theorem wpList_tadd {ops : Array Oper} {rest : List Oper} {o : Oper} {a : Act} {Q : Exit → Act → World → Prop} {B : Nat} {P : Nat → Prop} {w2 : World} {v : Value} {f : Pl.F} {x : Pl.Nd} {k : Pl.F} {vc va vk : Value} (hgd : o.guard = none) (s t : Operand)
    (ho : o.op = .call { callee := .builtin .append, args := #[s, t], argTypes := #[58, 58] }) (hs : a.eval s = v) (hx : a.eval t = .slice (some ⟨w2.heap.size, 0, none⟩) 1 1)
    (hr : TRow B P w2 v f) (hlen : f.len + 1 ≤ 64) (hB : B ≤ w2.heap.size)
    (hvc : StrsP (fun j => P j ∧ some j ≠ v.ownBlock) w2 vc x.cls) (hva : AtsP (fun j => P j ∧ some j ≠ v.ownBlock) w2 va x.ats) (hvk : Sub (fun j => P j ∧ some j ≠ v.ownBlock) w2 vk k)
    (h : ∀ g cap w', TRow B P w' (.slice (some ⟨g, 0, none⟩) (f.len + 1) cap) (f.app (.cons x k .nil)) → (w2.alloc (.cells #[.int .i64 x.up, .string ⟨x.tag.toArray⟩, .string ⟨x.id.toArray⟩, vc, va, vk] 60)).grownBy w' v.ownBlock → wpList Tryz.prog ops Q rest (a.put o.dst (.slice (some ⟨g, 0, none⟩) (f.len + 1) cap)) w') :
    wpList Tryz.prog ops Q (o :: rest) a (w2.alloc (.cells #[.int .i64 x.up, .string ⟨x.tag.toArray⟩, .string ⟨x.id.toArray⟩, vc, va, vk] 60)) := by
  obtain ⟨xs, hown, hcs⟩ := hr
  obtain ⟨i0, hi, hz0, hz1, hz2⟩ := info_parts Tryz.info60
  have hm : Mv (fun j => P j ∧ some j ≠ v.ownBlock) w2 (fun j => P j ∧ some j ≠ v.ownBlock) (w2.alloc (.cells #[.int .i64 x.up, .string ⟨x.tag.toArray⟩, .string ⟨x.id.toArray⟩, vc, va, vk] 60)) := fun j hj hl => ⟨hj, (on_alloc _ _).block j hl⟩
  obtain ⟨_, _, e3, _⟩ := id hvc
  obtain ⟨_, _, e4, _⟩ := id hva
  obtain ⟨_, _, e5, _⟩ := id hvk
  refine wpList_append_lies _ hgd s t 58 ho B 60 i0 _ 6 112 Tryz.underlying58 hi hz0 hz1 hz2 rfl (by decide) v f.len xs hs (own_on hown (on_alloc _ _)) ⟨w2.heap.size, 0, none⟩ 1 1 [.int .i64 x.up, .string ⟨x.tag.toArray⟩, .string ⟨x.id.toArray⟩, vc, va, vk] hx rfl ?_ ?_ (by decide) (by unfold maxLen; omega) (by omega) (by simp; omega) _ rfl ?_
  · exact World.news_of_block (heap_alloc_new w2 _)
  · intro u hu
    simp only [List.mem_cons, List.not_mem_nil, or_false] at hu
    rcases hu with rfl | rfl | rfl | rfl | rfl | rfl
    · rfl
    · rfl
    · rfl
    · rw [e3]; rfl
    · rw [e4]; rfl
    · rw [e5]; rfl
  · intro g cap w' h1 h2 h3 _
    exact h g cap w' (trow_step (CellsF.to hm f _ hcs) (hvc.to hm) (hva.to hm) (hvk.to hm) h1 h2 h3) h2
theorem TRow.own {B : Nat} {P : Nat → Prop} {w : World} {v : Value} {f : Pl.F} (h : TRow B P w v f) : ∀ k, v.ownBlock = some k → B ≤ k ∧ k < w.heap.size := by
  obtain ⟨xs, ho, _⟩ := h
  exact fun k hk => World.ownsRow.lt ho k hk
/-- a box and a box for the answer -/
theorem two_sixes (w : World) (c0 c1 c2 c3 c4 c5 d0 d1 d2 d3 d4 d5 : Value) :
    Blk6 ((w.alloc (.cells #[c0, c1, c2, c3, c4, c5] 60)).alloc (.cells #[d0, d1, d2, d3, d4, d5] 60)) w.heap.size c0 c1 c2 c3 c4 c5 ∧ Blk6 ((w.alloc (.cells #[c0, c1, c2, c3, c4, c5] 60)).alloc (.cells #[d0, d1, d2, d3, d4, d5] 60)) (w.heap.size + 1) d0 d1 d2 d3 d4 d5 := by
  refine ⟨(Blk6.new w c0 c1 c2 c3 c4 c5).on (on_alloc _ _), ?_⟩
  have := Blk6.new (w.alloc (.cells #[c0, c1, c2, c3, c4, c5] 60)) d0 d1 d2 d3 d4 d5
  simpa using this
theorem boxes' (w : World) (o1 o2 : Obj) : Below w.heap.size w ((w.alloc o1).alloc o2) := ((Below.refl w.heap.size w).alloc (Nat.le_refl _) o1).alloc (by simp) o2
set_option maxRecDepth 100000 in
set_option maxHeartbeats 4000000 in
theorem without_any (n : Int) : ∀ (N : Nat) (P : Nat → Prop) (x : Pl.Nd) (k : Pl.F) (vt : Value) (w : World), k.size < N → k.size ≤ 64 → TV P w vt x k →
    Calls Tryz.prog 37 #[vt, .int .i64 n] w fun e w' => ∃ v', e = .returned v' ∧ TV (fun j => P j ∨ w.heap.size ≤ j) w' v' x (Pl.withoutF k n) ∧ Below w.heap.size w w' := by
  intro N
  induction N with
  | zero => intro P x k vt w h; omega
  | succ N ih =>
    intro P x k vt w hN h64 hT
    obtain ⟨vc, va, vk, rfl, hc, ha, hk⟩ := hT
    obtain ⟨ac, cc, rfl, _⟩ := id hc
    obtain ⟨aa, ca, rfl, _⟩ := id ha
    obtain ⟨ak, ck, rfl, hkk⟩ := hk
    obtain ⟨up, tag, idn, cls, ats⟩ := x
    dsimp only at *
    have HC : Hid (StrsP P w (.slice ac cls.length cc) cls) := hc
    have HA : Hid (AtsP P w (.slice aa ats.length ca) ats) := ha
    have HK : Hid _ := hkk
    have HIH : Hid _ := ih
    have hkl := Pl.F.len_le_size k
    obtain ⟨bM, bR⟩ := two_sixes w (.int .i64 up) (.string ⟨tag.toArray⟩) (.string ⟨idn.toArray⟩) (.slice ac cls.length cc) (.slice aa ats.length ca) (.slice ak k.len ck) (.int .i64 0) (.string ⟨#[]⟩) (.string ⟨#[]⟩) (.slice none 0 0) (.slice none 0 0) (.slice none 0 0)
    have hB0 := boxes' w (.cells #[.int .i64 up, .string ⟨tag.toArray⟩, .string ⟨idn.toArray⟩, .slice ac cls.length cc, .slice aa ats.length ca, .slice ak k.len ck] 60) (.cells #[.int .i64 0, .string ⟨#[]⟩, .string ⟨#[]⟩, .slice none 0 0, .slice none 0 0, .slice none 0 0] 60)
    have hz0 : ((w.alloc (.cells #[.int .i64 up, .string ⟨tag.toArray⟩, .string ⟨idn.toArray⟩, .slice ac cls.length cc, .slice aa ats.length ca, .slice ak k.len ck] 60)).alloc (.cells #[.int .i64 0, .string ⟨#[]⟩, .string ⟨#[]⟩, .slice none 0 0, .slice none 0 0, .slice none 0 0] 60)).heap.size = w.heap.size + 2 := by simp
    clear hc ha hkk ih
    go_enter Tryz.func37, Tryz.ntmps37
    go_wp2_with fail
    generalize (w.alloc (.cells #[.int .i64 up, .string ⟨tag.toArray⟩, .string ⟨idn.toArray⟩, .slice ac cls.length cc, .slice aa ats.length ca, .slice ak k.len ck] 60)).alloc (.cells #[.int .i64 0, .string ⟨#[]⟩, .string ⟨#[]⟩, .slice none 0 0, .slice none 0 0, .slice none 0 0] 60) = w0 at *
    have HBM : Hid _ := bM
    have HBR : Hid _ := bR
    clear bM bR
    go_loopw [5, 6] (fun u i wr => ∃ (j : Nat) (T : Pl.F), j ≤ k.len ∧ i = .int .i64 j ∧ Hid (TRow w0.heap.size (fun j => (P j ∧ j < w.heap.size) ∨ w0.heap.size ≤ j) wr u T) ∧ Hid (Pl.withoutF k n = T.app (Pl.withoutF (k.drop j) n)) ∧ T.len ≤ j ∧ Below w0.heap.size w0 wr) (fun _ i _ => k.len - (intOf i).toNat)
    case atStart => exact ⟨0, .nil, Nat.zero_le _, rfl, TRow.nil _ _ _, by unfold Hid; rw [Pl.F.drop_zero]; rfl, Nat.le_refl _, Below.refl _ _⟩
    case round =>
      obtain ⟨j, T, hj, rfl, hrow, heq, hTj, hBr⟩ := hrel
      have m5 := cell_on hBr (Blk6.facts HBM.out).1.2.2.2.2.2
      obtain ⟨ar, cr, rfl⟩ := hrow.out.form
      by_cases hlt : j < k.len
      · obtain ⟨bk, ok, rfl, hPb, hfin⟩ := HK.out.resolve_left (by omega)
        obtain ⟨y, ky, hd, hsz⟩ := Pl.F.drop_lt k j hlt
        have hf := FIn.drop k j bk ok hfin
        rw [hd] at hf
        obtain ⟨⟨vc', va', n0, n1, n2, n3, n4, nc, na⟩, ⟨a', cap', n5, hsub⟩, _⟩ := hf
        obtain ⟨ac', cc', rfl, _⟩ := id nc
        obtain ⟨aa', ca', rfl, _⟩ := id na
        have hBw : Below w.heap.size w wr := hB0.trans (hBr.mono (by omega))
        replace n0 := cell_on hBw n0
        replace n1 := cell_on hBw n1
        replace n2 := cell_on hBw n2
        replace n3 := cell_on hBw n3
        replace n4 := cell_on hBw n4
        replace n5 := cell_on hBw n5
        cases hx : (y.up != n) with
        | true =>
          have hne : y.up ≠ n := by simpa using hx
          have HE2 : Hid (Pl.withoutF k n = (T.app (.cons y (Pl.withoutF ky n) .nil)).app (Pl.withoutF (k.drop (j + 1)) n)) := by
            unfold Hid
            rw [heq.out, hd, Pl.withoutF, if_neg hne, Pl.F.app_assoc]
            rfl
          have hmv : Mv P w (fun j => P j ∧ j < w.heap.size) wr := fun i h1 h2 => ⟨⟨h1, h2⟩, hBw.block i h2⟩
          have HT : Hid (TV (fun j => P j ∧ j < w.heap.size) wr (.agg #[.int .i64 y.up, .string ⟨y.tag.toArray⟩, .string ⟨y.id.toArray⟩, .slice ac' y.cls.length cc', .slice aa' y.ats.length ca', .slice a' ky.len cap']) y ky) := ⟨_, _, _, rfl, nc.to hmv, na.to hmv, Sub.to ⟨_, _, rfl, hsub⟩ hmv⟩
          have hown := hrow.out.own
          clear nc na hsub hfin hd heq hmv
          go_wp2_with fail
          refine (HIH.out (fun j => P j ∧ j < w.heap.size) y ky _ _ (by omega) (by omega) HT.out).mono ?_
          rintro e w2 ⟨v2, rfl, ⟨vc2, va2, vk2, rfl, hc2, ha2, hk2⟩, hb2⟩
          obtain ⟨y1, y2, rfl, _⟩ := id hc2
          obtain ⟨y3, y4, rfl, _⟩ := id ha2
          obtain ⟨y5, y6, rfl, _⟩ := id hk2
          have hQ : Mv (fun i => (P i ∧ i < w.heap.size) ∨ wr.heap.size ≤ i) w2 (fun i => ((P i ∧ i < w.heap.size) ∨ w0.heap.size ≤ i) ∧ some i ≠ (Value.slice ar T.len cr).ownBlock) w2 := by
            intro i hi _
            refine ⟨⟨?_, fun e => ?_⟩, rfl⟩
            · rcases hi with h | h
              · exact Or.inl h
              · exact Or.inr (Nat.le_trans hBr.size h)
            · have := hown i e.symm
              rcases hi with h | h <;> omega
          have HC2 : Hid _ := hc2.to hQ
          have HA2 : Hid _ := ha2.to hQ
          have HK2 : Hid _ := hk2.to hQ
          have hB2 : Below w0.heap.size w0 w2 := below_trans hBr hb2
          have HR2 : Hid (TRow w0.heap.size (fun j => (P j ∧ j < w.heap.size) ∨ w0.heap.size ≤ j) w2 (.slice ar T.len cr) T) := TRow.on hrow.out hb2
          clear hc2 ha2 hk2 hQ hb2
          go_wp2_with (at_builtin; refine wpList_tadd (w2 := w2) rfl _ _ rfl rfl rfl HR2.out (by omega) hB2.size (x := y) (k := Pl.withoutF ky n) HC2.out HA2.out HK2.out ?_; intro g cap3 w3 hrow3 hgr; refine Hid.out ?_)
          unfold Hid
          have hB3 : Below w0.heap.size w0 w3 := (below_trans hB2 (on_alloc _ _)).grown hgr (by have := hB2.size; simp; omega) (fun k hk => (hown k hk).1)
          have HR3 : Hid _ := hrow3
          clear hrow3 hgr HC2 HA2 HK2 HR2 hB2
          go_wp2
          exact ⟨⟨j + 1, _, hlt, by go_num, HR3, HE2, by rw [Pl.F.app_len]; simp [Pl.F.len]; omega, hB3⟩, by simp [intOf]; omega⟩
        | false =>
          have hne : y.up = n := by simpa using hx
          have HE2 : Hid (Pl.withoutF k n = T.app (Pl.withoutF (k.drop (j + 1)) n)) := by
            unfold Hid
            rw [heq.out, hd, Pl.withoutF, if_pos hne]
          clear nc na hsub hfin hd heq
          go_wp2
          exact ⟨⟨j + 1, T, hlt, by go_num, hrow, HE2, by omega, hBr⟩, by simp [intOf]; omega⟩
      · have HF : Hid (Pl.withoutF k n = T) := by
          unfold Hid
          rw [heq.out, Pl.F.drop_len k j (by omega)]
          simp [Pl.withoutF, Pl.F.app_nil]
        have bM := Blk6.on HBM.out hBr
        have bR := Blk6.on HBR.out hBr
        have bM1 := bM.set5 (.slice ar T.len cr)
        have bR1 := bR.other (M := w.heap.size) (i := 5) (by omega) (.slice ar T.len cr)
        obtain ⟨⟨g0, g1, g2, g3, g4, g5⟩, fM⟩ := bM.facts
        obtain ⟨⟨k0, k1, k2, k3, k4, k5⟩, fM1⟩ := bM1.facts
        obtain ⟨⟨r0, r1, r2, r3, r4, r5⟩, fR1⟩ := bR1.facts
        have HR1 : Hid _ := bR1
        have hsub := hrow.out.sub (P := fun j => (P j ∧ j < w.heap.size) ∨ w0.heap.size ≤ j) (fun j hj => Or.inr hj)
        have HSub : Hid (Sub (fun j => (P j ∧ j < w.heap.size) ∨ w0.heap.size ≤ j) wr (.slice ar T.len cr) T) := hsub
        have hB1 : Below w.heap.size w (wr.setCell ⟨w.heap.size, 5, none⟩ (.slice ar T.len cr)) := (hB0.trans (hBr.mono (by omega))).setCell (p := ⟨w.heap.size, 5, none⟩) (Nat.le_refl _) _
        clear bM bR bM1 bR1 hsub hrow heq
        go_wp2_with fail
        have hF : Blk6 _ _ _ _ _ _ _ _ := Blk6.six HR1.out (.int .i64 up) (.string ⟨tag.toArray⟩) (.string ⟨idn.toArray⟩) (.slice ac cls.length cc) (.slice aa ats.length ca) (.slice ar T.len cr)
        have hBF := six_Below hB1 (w.heap.size + 1) (by omega) (.int .i64 up) (.string ⟨tag.toArray⟩) (.string ⟨idn.toArray⟩) (.slice ac cls.length cc) (.slice aa ats.length ca) (.slice ar T.len cr)
        have hblk := six_block (wr.setCell ⟨w.heap.size, 5, none⟩ (.slice ar T.len cr)) (w.heap.size + 1) (.int .i64 up) (.string ⟨tag.toArray⟩) (.string ⟨idn.toArray⟩) (.slice ac cls.length cc) (.slice aa ats.length ca) (.slice ar T.len cr)
        change bodyPost _ _ _ _ _ (setSix (wr.setCell ⟨w.heap.size, 5, none⟩ (.slice ar T.len cr)) (w.heap.size + 1) (.int .i64 up) (.string ⟨tag.toArray⟩) (.string ⟨idn.toArray⟩) (.slice ac cls.length cc) (.slice aa ats.length ca) (.slice ar T.len cr))
        generalize setSix (wr.setCell ⟨w.heap.size, 5, none⟩ (.slice ar T.len cr)) (w.heap.size + 1) (.int .i64 up) (.string ⟨tag.toArray⟩) (.string ⟨idn.toArray⟩) (.slice ac cls.length cc) (.slice aa ats.length ca) (.slice ar T.len cr) = wF at *
        obtain ⟨⟨q0, q1, q2, q3, q4, q5⟩, _⟩ := hF.facts
        have hmv : Mv P w (fun j => P j ∨ w.heap.size ≤ j) wF := fun j hj hl => ⟨Or.inl hj, hBF.block j hl⟩
        refine bodyPost_ret (v := .agg #[.int .i64 up, .string ⟨tag.toArray⟩, .string ⟨idn.toArray⟩, .slice ac cls.length cc, .slice aa ats.length ca, .slice ar T.len cr]) (by simp [results, Tryz.results37, go_sem, q0, q1, q2, q3, q4, q5]) rfl
          ⟨_, rfl, ⟨_, _, _, rfl, StrsP.to HC.out hmv, AtsP.to HA.out hmv, ?_⟩, hBF⟩
        rw [HF.out]
        refine Sub.to HSub.out (fun j hj hl => ?_)
        have hjne : j ≠ w.heap.size ∧ j ≠ w.heap.size + 1 := by
          rcases hj with h | h <;> omega
        refine ⟨?_, (hblk j hjne.2).trans (Below.heap_setCell _ _ _ _ hjne.1)⟩
        rcases hj with h | h
        · exact Or.inl h.1
        · exact Or.inr (by omega)
end Go.Proofs.YtbpgcfabepioiaaGreat
/-
  A tree laid in among an element's kids, in plain forests; what with's walk leans on.
-/
namespace Go.Proofs.YtbpgcfabepioiaaGreat
open Go.RowKit

namespace Pl
def insAt (ex : Nd) (ek : F) : F → Nat → F
  | f, 0 => .cons ex ek f
  | .nil, _ + 1 => .nil
  | .cons x k r, i + 1 => .cons x k (insAt ex ek r i)
/-- laid in at place a, if it is asked for and there is that place -/
def insIf (ex : Nd) (ek : F) (c : Bool) (a : Int) (f : F) : F := if c = true ∧ 0 ≤ a ∧ a ≤ f.len then insAt ex ek f a.toNat else f
def withF (up at_ : Int) (ex : Nd) (ek : F) : F → F
  | .nil => .nil
  | .cons x k r => .cons x (insIf ex ek (x.up == up) at_ (withF up at_ ex ek k)) (withF up at_ ex ek r)
theorem withF_len (up at_ : Int) (ex : Nd) (ek : F) (f : F) : (withF up at_ ex ek f).len = f.len := by
  induction f with
  | nil => rfl
  | cons x k r _ ih => simp [withF, F.len, ih]
theorem insIf_cons (ex : Nd) (ek : F) (c : Bool) (a : Int) (y : Nd) (ky r : F) :
    insIf ex ek c a (.cons y ky r) = (if c = true ∧ a = 0 then F.cons ex ek .nil else .nil).app (.cons y ky (insIf ex ek c (a - 1) r)) := by
  unfold insIf
  by_cases h : c = true
  · rcases Int.lt_trichotomy a 0 with h1 | h1 | h1
    · rw [if_neg (by omega), if_neg (by omega), if_neg (by omega)]; rfl
    · subst h1
      rw [if_pos ⟨h, by omega, by omega⟩, if_pos ⟨h, rfl⟩, if_neg (by omega)]
      rfl
    · rw [show (if c = true ∧ a = 0 then F.cons ex ek .nil else .nil) = F.nil from if_neg (fun h2 => by omega)]
      have hL : (F.cons y ky r).len = r.len + 1 := rfl
      by_cases h3 : a ≤ (r.len + 1 : Nat)
      · rw [if_pos ⟨h, by omega, by rw [hL]; exact h3⟩, if_pos ⟨h, by omega, by omega⟩, show a.toNat = (a - 1).toNat + 1 by omega]
        rfl
      · rw [if_neg (fun h2 => by rw [hL] at h2; exact h3 h2.2.2), if_neg (fun h2 => by omega)]
        rfl
  · rw [if_neg (fun h2 => h h2.1), if_neg (fun h2 => h h2.1), if_neg (fun h2 => h h2.1)]; rfl
theorem insIf_nil (ex : Nd) (ek : F) (c : Bool) (a : Int) : insIf ex ek c a .nil = (if c = true ∧ a = 0 then F.cons ex ek .nil else .nil) := by
  unfold insIf
  by_cases h : c = true ∧ a = 0
  · rw [if_pos h, if_pos ⟨h.1, by omega, by simp [F.len]; omega⟩]
    obtain ⟨_, rfl⟩ := h
    rfl
  · rw [if_neg h, if_neg (fun h2 => h ⟨h2.1, by simp [F.len] at h2; omega⟩)]
end Pl
/-- three boxes -/
theorem three_sixes (w : World) (c0 c1 c2 c3 c4 c5 d0 d1 d2 d3 d4 d5 e0 e1 e2 e3 e4 e5 : Value) :
    Blk6 (((w.alloc (.cells #[c0, c1, c2, c3, c4, c5] 60)).alloc (.cells #[d0, d1, d2, d3, d4, d5] 60)).alloc (.cells #[e0, e1, e2, e3, e4, e5] 60)) w.heap.size c0 c1 c2 c3 c4 c5 ∧ Blk6 (((w.alloc (.cells #[c0, c1, c2, c3, c4, c5] 60)).alloc (.cells #[d0, d1, d2, d3, d4, d5] 60)).alloc (.cells #[e0, e1, e2, e3, e4, e5] 60)) (w.heap.size + 1) d0 d1 d2 d3 d4 d5 ∧
    Blk6 (((w.alloc (.cells #[c0, c1, c2, c3, c4, c5] 60)).alloc (.cells #[d0, d1, d2, d3, d4, d5] 60)).alloc (.cells #[e0, e1, e2, e3, e4, e5] 60)) (w.heap.size + 2) e0 e1 e2 e3 e4 e5 := by
  obtain ⟨h1, h2⟩ := two_sixes w c0 c1 c2 c3 c4 c5 d0 d1 d2 d3 d4 d5
  refine ⟨h1.on (on_alloc _ _), h2.on (on_alloc _ _), ?_⟩
  have := Blk6.new ((w.alloc (.cells #[c0, c1, c2, c3, c4, c5] 60)).alloc (.cells #[d0, d1, d2, d3, d4, d5] 60)) e0 e1 e2 e3 e4 e5
  simpa using this
abbrev Cells6 (W : World) (b o : Nat) (c0 c1 c2 c3 c4 c5 : Value) : Prop := W.cell? ⟨b, o, none⟩ = some c0 ∧ W.cell? ⟨b, o + 1, none⟩ = some c1 ∧ W.cell? ⟨b, o + 2, none⟩ = some c2 ∧ W.cell? ⟨b, o + 3, none⟩ = some c3 ∧ W.cell? ⟨b, o + 4, none⟩ = some c4 ∧ W.cell? ⟨b, o + 5, none⟩ = some c5
theorem CellsF.drew {P : Nat → Prop} {w : World} {xs : List Value} {f : Pl.F} (h : CellsF P w xs f) : CellsF P w.drew xs f := CellsF.to (w := w) (w' := w.drew) (fun _ hj _ => ⟨hj, rfl⟩) f xs h
theorem mv_new {Pp : Nat → Prop} {B s n : Nat} {own : Option Nat} {w4 : World} (hs : B ≤ n) (hge : ∀ k, own = some k → B ≤ k) (hlt : ∀ k, own = some k → k < n) (hsB : s ≤ B) : Mv (fun i => (Pp i ∧ i < s) ∨ n ≤ i) w4 (fun i => ((Pp i ∧ i < s) ∨ B ≤ i) ∧ some i ≠ own) w4 := by
  intro i hi _
  refine ⟨⟨?_, fun e => ?_⟩, rfl⟩
  · rcases hi with h | h
    · exact Or.inl h
    · exact Or.inr (Nat.le_trans hs h)
  · have h1 := hge i e.symm
    have h2 := hlt i e.symm
    rcases hi with h | h <;> omega
theorem bel_grown {w0 W w' : World} {g : Option Nat} (h : Below w0.heap.size w0 W) (hg : W.grownBy w' g) (hr : ∀ k, g = some k → w0.heap.size ≤ k) : Below w0.heap.size w0 w' := h.grown hg h.size hr
theorem TRow.newOwn {B : Nat} {P : Nat → Prop} {w : World} {v : Value} {f : Pl.F} (h : TRow B P w v f) : ∀ k, v.ownBlock = some k → B ≤ k := fun k hk => (h.own k hk).1
end Go.Proofs.YtbpgcfabepioiaaGreat
