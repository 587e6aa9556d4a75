/-
  Pages, as the document's own answer has them.
-/
import Derived.Test.YtbpgcfabepioiaaGreatLiy
import Derived.Test.YtbpgcfabepioiaaGreatRefC
import Derived.Test.YtbpgcfabepioiaaGreatSamd
import Derived.Test.YtbpgcfabepioiaaGreatOwnD
namespace Go.Proofs.YtbpgcfabepioiaaGreat
open Go.RowKit

theorem ref_idx {ns : List Pl.Nd} {ps : List EP} (hc : Pl.checkDoc ns = 0) (hm : ps.map (·.1) = Pl.idxTo ns ns.length) : ps.map (fun p => Pl.erOf p.1) = Pl.idxAns ns := by
  unfold Pl.idxAns
  rw [if_pos hc, ← hm, List.map_map]
  rfl
theorem sameIdx_ref {l : List Pl.Er} {ns : List Pl.Nd} {B : Nat} {w : World} {v v1 : Value} {ps : List EP} {b : Bool} (hc : Pl.checkDoc ns = 0) (hrow : ERow B w v ps) (hm : ps.map (·.1) = Pl.idxTo ns ns.length) (h1 : EnsAt w v1 l) (hl : IxFit l) (hb : sameE l (Pl.idxAns ns) = b) :
    Calls Tryz.prog 29 #[v1, v] w fun e w' => e = .returned (.bool b) ∧ Below w.heap.size w w' := by
  have h2 := hrow.ens
  rw [ref_idx hc hm] at h2
  refine (sameIndexes_any v1 v l (Pl.idxAns ns) w hl.1 hl.2 h1 h2).mono ?_
  rintro e w' ⟨rfl, hd⟩
  exact ⟨by rw [hb], hd.below⟩
theorem pair_on {w W w' : World} {p0 p1 : Addr} {v0 v1 : Value} (h : W.cell? p0 = some v0 ∧ W.cell? p1 = some v1 ∧ Below w.heap.size w W) (hb : Below W.heap.size W w') : w'.cell? p0 = some v0 ∧ w'.cell? p1 = some v1 ∧ Below w.heap.size w w' := ⟨cell_on hb h.1, cell_on hb h.2.1, below_trans h.2.2 hb⟩
theorem pair_last {w W : World} {p0 p1 : Addr} {v0 v1 : Value} (h : W.cell? p0 = some v0 ∧ W.cell? p1 = some v1 ∧ Below w.heap.size w W) : Below w.heap.size w W := h.2.2
set_option maxRecDepth 100000 in
set_option maxHeartbeats 4000000 in
theorem pageError_any (v : Value) (ns : List Pl.Nd) (l : List Pl.Er) (w : World) (hp : PgAt w v ns l) (hl : IxFit l) :
    Calls Tryz.prog 10 #[v] w fun e w' => e = .returned (.int .i64 (pageErr ns l)) ∧ Below w.heap.size w w' := by
  obtain ⟨a, c, a2, c2, rfl, hd, he⟩ := hp
  have hb0 := on_alloc w (.cells #[.slice a ns.length c, .slice a2 l.length c2] 27)
  have bS := Blk2.new w (.slice a ns.length c) (.slice a2 l.length c2)
  have HB0 : Hid (Below _ _ _) := hb0
  have HBS : Hid (Blk2 _ _ _ _) := bS
  have HE : Hid (∀ W, Below w.heap.size w W → EnsAt W (.slice a2 l.length c2) l) := fun W hW => he.on hW
  have HL : Hid (IxFit _) := hl
  obtain ⟨⟨s0, s1⟩, _⟩ := bS.facts
  have hchk := refCheck_any (.slice a ns.length c) ns _ hd.2.2 (hd.1.on hb0)
  have HCHK : Hid (Calls Tryz.prog 9 _ _ _) := hchk
  cases hc : (Pl.checkDoc ns != 0) with
  | true =>
    have HA : Hid (pageErr ns l = Pl.checkDoc ns) := by
      have : ¬ Pl.checkDoc ns = 0 := by simpa using hc
      unfold Hid pageErr
      rw [if_neg this]
    clear hd he hb0 bS hchk
    generalize Pl.checkDoc ns = r at *
    go_enter Tryz.func10, Tryz.ntmps10
    go_wp2_with fail
    refine HCHK.out.mono ?_
    rintro e w1 ⟨rfl, hb1⟩
    have HB1 : Hid (Below w.heap.size w w1) := below_trans HB0.out hb1
    clear hb1
    go_wp2
    go_ret
    exact ⟨by rw [HA.out]; rfl, HB1.out⟩
  | false =>
    have hc0 : Pl.checkDoc ns = 0 := by simpa using hc
    have HC0 : Hid (Pl.checkDoc ns = 0) := hc0
    obtain ⟨h1n, h64, _⟩ := check_zero hc0
    have HSH : Hid (∀ x ∈ ns, x.cls.length ≤ 6) := fun x hx => (check_short hc0 x hx).1
    obtain ⟨a', c', e2, hnil | ⟨b, o, ha, hcell⟩⟩ := hd.1
    · subst hnil; simp at h1n
    injection e2 with q1 _ q3
    subst q1 q3 ha
    have HC : Hid (∀ W, Below w.heap.size w W → ∀ i (h : i < ns.length), NdAt W b (o + i * 5) ns[i]) := fun W hW i hi => (hcell i hi).on hW
    rw [hc0] at HCHK
    clear hd he hb0 bS hchk hcell hc0 hc
    obtain ⟨bb, hbb⟩ : ∃ bb, sameE l (Pl.idxAns ns) = bb := ⟨_, rfl⟩
    have HBB : Hid _ := hbb
    have HA : Hid (pageErr ns l = if bb = true then 0 else 1) := by
      unfold Hid pageErr
      rw [if_pos HC0.out, ← hbb]
      by_cases h : l = Pl.idxAns ns
      · rw [if_pos h, if_pos (show sameE l (Pl.idxAns ns) = true from decide_eq_true h)]
      · rw [if_neg h, if_neg (by unfold sameE; rw [decide_eq_false h]; simp)]
    clear hbb
    go_enter Tryz.func10, Tryz.ntmps10
    go_wp2_with fail
    generalize w.alloc (.cells #[.slice (some ⟨b, o, none⟩) ns.length c, .slice a2 l.length c2] 27) = w0 at *
    refine HCHK.out.mono ?_
    rintro e w1 ⟨rfl, hb1⟩
    have hB1 : Below w.heap.size w w1 := below_trans HB0.out hb1
    obtain ⟨⟨t0, t1⟩, _⟩ := (Blk2.on HBS.out hb1).facts
    have S0 : w1.drew.cell? ⟨w.heap.size, 0, none⟩ = some (.slice (some ⟨b, o, none⟩) ns.length c) ∧ w1.drew.cell? ⟨w.heap.size, 1, none⟩ = some (.slice a2 l.length c2) ∧ Below w.heap.size w w1.drew := ⟨t0, t1, hB1.drew⟩
    clear hb1 hB1 t0 t1 s0 s1
    cases bb with
    | true =>
      go_wp2
      go_region_held3 (fun w' => w'.cell? ⟨w.heap.size, 0, none⟩ = some (.slice (some ⟨b, o, none⟩) ns.length c) ∧ w'.cell? ⟨w.heap.size, 1, none⟩ = some (.slice a2 l.length c2) ∧ Below w.heap.size w w')
        (first | with_reducible assumption | exact pair_on (by with_reducible assumption) (by with_reducible assumption))
        (first | (go_at_call 26; refine (idxOf_any b o c ns _ h64 HSH.out (HC.out _ (pair_last (by with_reducible assumption)))).mono ?_; rintro e w' ⟨u, ps, rfl, hrow, hmp, hw⟩; obtain ⟨au, cu, rfl⟩ := hrow.form) | (go_at_call 29; refine (sameIdx_ref HC0.out hrow hmp (HE.out _ (pair_last (by with_reducible assumption))) HL.out HBB.out).mono ?_; rintro e w' ⟨rfl, hw⟩))
      have HB5 := pair_last (by with_reducible assumption)
      go_wp2
      go_ret
      exact ⟨by rw [HA.out]; rfl, HB5⟩
    | false =>
      go_wp2
      go_region_held3 (fun w' => w'.cell? ⟨w.heap.size, 0, none⟩ = some (.slice (some ⟨b, o, none⟩) ns.length c) ∧ w'.cell? ⟨w.heap.size, 1, none⟩ = some (.slice a2 l.length c2) ∧ Below w.heap.size w w')
        (first | with_reducible assumption | exact pair_on (by with_reducible assumption) (by with_reducible assumption))
        (first | (go_at_call 26; refine (idxOf_any b o c ns _ h64 HSH.out (HC.out _ (pair_last (by with_reducible assumption)))).mono ?_; rintro e w' ⟨u, ps, rfl, hrow, hmp, hw⟩; obtain ⟨au, cu, rfl⟩ := hrow.form) | (go_at_call 29; refine (sameIdx_ref HC0.out hrow hmp (HE.out _ (pair_last (by with_reducible assumption))) HL.out HBB.out).mono ?_; rintro e w' ⟨rfl, hw⟩))
      have HB5 := pair_last (by with_reducible assumption)
      go_wp2
      go_ret
      exact ⟨by rw [HA.out]; rfl, HB5⟩
set_option maxRecDepth 100000 in
set_option maxHeartbeats 4000000 in
theorem samePages_eq (v1 v2 : Value) (ns : List Pl.Nd) (l : List Pl.Er) (w : World) (h1 : PgAt w v1 ns l) (h2 : PgAt w v2 ns l) (hl : IxFit l) :
    Calls Tryz.prog 15 #[v1, v2] w fun e w' => e = .returned (.bool true) ∧ Below w.heap.size w w' := by
  obtain ⟨a, c, a2, c2, rfl, hd, he⟩ := h1
  obtain ⟨a', c', a2', c2', rfl, hd', he'⟩ := h2
  have hb0 := boxes w (.cells #[.slice a ns.length c, .slice a2 l.length c2] 27) (.cells #[.slice a' ns.length c', .slice a2' l.length c2'] 27)
  have b1 : Blk2 ((w.alloc (.cells #[.slice a ns.length c, .slice a2 l.length c2] 27)).alloc (.cells #[.slice a' ns.length c', .slice a2' l.length c2'] 27)) w.heap.size (.slice a ns.length c) (.slice a2 l.length c2) := (Blk2.new w _ _).on (on_alloc _ _)
  have b2 : Blk2 ((w.alloc (.cells #[.slice a ns.length c, .slice a2 l.length c2] 27)).alloc (.cells #[.slice a' ns.length c', .slice a2' l.length c2'] 27)) (w.heap.size + 1) (.slice a' ns.length c') (.slice a2' l.length c2') := by
    have := Blk2.new (w.alloc (.cells #[.slice a ns.length c, .slice a2 l.length c2] 27)) (.slice a' ns.length c') (.slice a2' l.length c2')
    simpa using this
  have HD1 : Hid (DocAt _ _ _) := hd.on hb0
  have HD2 : Hid (DocAt _ _ _) := hd'.on hb0
  have HE1 : Hid (EnsAt _ _ _) := he.on hb0
  have HE2 : Hid (EnsAt _ _ _) := he'.on hb0
  have HB0 : Hid (Below _ _ _) := hb0
  have HBL1 : Hid (Blk2 _ _ _ _) := b1
  have HBL2 : Hid (Blk2 _ _ _ _) := b2
  obtain ⟨⟨s0, s1⟩, _⟩ := b1.facts
  obtain ⟨⟨t0, t1⟩, _⟩ := b2.facts
  clear hd hd' he he' hb0 b1 b2
  go_enter Tryz.func15, Tryz.ntmps15
  go_wp2_with fail
  generalize (w.alloc (.cells #[.slice a ns.length c, .slice a2 l.length c2] 27)).alloc (.cells #[.slice a' ns.length c', .slice a2' l.length c2'] 27) = w0 at *
  refine (sameDocs_eq _ _ ns _ HD1.out HD2.out).mono ?_
  rintro e w1 ⟨rfl, hb1⟩
  have HB1 : Hid (Below w.heap.size w w1) := below_trans HB0.out hb1
  have HE1' : Hid (EnsAt _ _ _) := EnsAt.on HE1.out hb1
  have HE2' : Hid (EnsAt _ _ _) := EnsAt.on HE2.out hb1
  obtain ⟨⟨u0, u1⟩, _⟩ := (Blk2.on HBL1.out hb1).facts
  obtain ⟨⟨x0, x1⟩, _⟩ := (Blk2.on HBL2.out hb1).facts
  clear hb1 s0 s1 t0 t1
  have hcon := sameIndexes_any _ _ l l w1 hl.1 hl.2 HE1'.out HE2'.out
  rw [show sameE l l = true from decide_eq_true rfl] at hcon
  have HCON : Hid (Calls Tryz.prog 29 _ _ _) := hcon
  clear hcon
  go_wp2_with fail
  refine HCON.out.mono ?_
  rintro e w2 ⟨rfl, hd2⟩
  have HB2 : Hid (Below w.heap.size w w2) := below_trans HB1.out hd2.below
  clear hd2
  go_wp2
  go_ret
  exact ⟨rfl, HB2.out⟩
theorem PgAt.box2 {w : World} {N m k : Nat} {ns : List Pl.Nd} {l : List Pl.Er} {a a2 a3 a4 : Option Addr} {c c2 l3 c3 l4 c4 : Nat} (h1 : DocAt w (.slice a k c) ns) (h2 : EnsAt w (.slice a2 m c2) l) (hb : Blk2 w N (.slice a3 l3 c3) (.slice a4 l4 c4)) :
    PgAt ((w.setCell ⟨N, 0, none⟩ (.slice a k c)).setCell ⟨N, 1, none⟩ (.slice a2 m c2)) (.agg #[.slice a k c, .slice a2 m c2]) ns l ∧
      Blk2 ((w.setCell ⟨N, 0, none⟩ (.slice a k c)).setCell ⟨N, 1, none⟩ (.slice a2 m c2)) N (.slice a k c) (.slice a2 m c2) := by
  obtain ⟨_, _, e1⟩ := h1.form
  obtain ⟨_, _, e2⟩ := h2.form
  injection e1 with _ e1 _
  injection e2 with _ e2 _
  subst e1 e2
  exact PgAt.box h1 h2 hb
/-- what PageOf answers of a right document, or of an error -/
def PoSays (err : Int) (ns : List Pl.Nd) (w : World) (e : Ending) (w' : World) : Prop :=
  ∃ v, e = .returned (.tuple #[v, .int .i64 err]) ∧ PgAt w' v (if err = 0 then ns else []) (if err = 0 then Pl.idxAns ns else []) ∧ Below w.heap.size w w'
set_option maxRecDepth 100000 in
set_option maxHeartbeats 2000000 in
theorem pageOf_err (v : Value) (ns : List Pl.Nd) (err : Int) (w : World) (hd : DocAt w v ns) (he : (err != 0) = true) :
    Calls Tryz.prog 8 #[.agg #[v], .int .i64 err] w fun e w' => PoSays err ns w e w' := by
  obtain ⟨a, c, rfl⟩ := hd.form
  have hb0 := boxes w (.cells #[.slice a ns.length c] 24) (.cells #[.slice none 0 0, .slice none 0 0] 27)
  have HB0 : Hid (Below _ _ _) := hb0
  have hne : ¬ err = 0 := by simpa using he
  clear hd hb0
  have HN : Hid _ := hne
  clear hne
  go_enter Tryz.func8, Tryz.ntmps8
  go_wp2
  exact bodyPost_ret (v := .tuple #[.agg #[.slice none 0 0, .slice none 0 0], .int .i64 err]) (by simp [results, Tryz.results8, go_sem]) rfl
    ⟨_, rfl, by rw [if_neg HN.out, if_neg HN.out]; exact PgAt.nil _, HB0.out⟩
theorem one_on {w W w' : World} {p0 : Addr} {v0 : Value} {N : Nat} {c0 c1 : Value} (h : W.cell? p0 = some v0 ∧ Blk2 W N c0 c1 ∧ Below w.heap.size w W) (hb : Below W.heap.size W w') : w'.cell? p0 = some v0 ∧ Blk2 w' N c0 c1 ∧ Below w.heap.size w w' := ⟨cell_on hb h.1, h.2.1.on hb, below_trans h.2.2 hb⟩
theorem one_last {w W : World} {p0 : Addr} {v0 : Value} {N : Nat} {c0 c1 : Value} (h : W.cell? p0 = some v0 ∧ Blk2 W N c0 c1 ∧ Below w.heap.size w W) : Below w.heap.size w W := h.2.2
set_option maxRecDepth 100000 in
set_option maxHeartbeats 4000000 in
theorem pageOf_ok (v : Value) (ns : List Pl.Nd) (w : World) (hd : DocAt w v ns) (hc : Pl.checkDoc ns = 0) :
    Calls Tryz.prog 8 #[.agg #[v], .int .i64 0] w fun e w' => PoSays 0 ns w e w' := by
  obtain ⟨h1n, h64, _⟩ := check_zero hc
  have HSH2 : Hid (∀ x ∈ ns, x.cls.length ≤ 6 ∧ x.ats.length ≤ 4) := check_short hc
  have HSH : Hid (∀ x ∈ ns, x.cls.length ≤ 6) := fun x hx => (check_short hc x hx).1
  have HC0 : Hid _ := hc
  obtain ⟨a, c, rfl⟩ := hd.form
  obtain ⟨a', c', e2, hnil | ⟨b, o, ha, hcell⟩⟩ := hd.1
  · subst hnil; simp at h1n
  injection e2 with q1 _ q3
  subst q1 q3 ha
  have HC : Hid (∀ W, Below w.heap.size w W → ∀ i (h : i < ns.length), NdAt W b (o + i * 5) ns[i]) := fun W hW i hi => (hcell i hi).on hW
  have hb0 := boxes w (.cells #[.slice (some ⟨b, o, none⟩) ns.length c] 24) (.cells #[.slice none 0 0, .slice none 0 0] 27)
  have bR : Blk2 ((w.alloc (.cells #[.slice (some ⟨b, o, none⟩) ns.length c] 24)).alloc (.cells #[.slice none 0 0, .slice none 0 0] 27)) (w.heap.size + 1) (.slice none 0 0) (.slice none 0 0) := by
    have := Blk2.new (w.alloc (.cells #[.slice (some ⟨b, o, none⟩) ns.length c] 24)) (.slice none 0 0) (.slice none 0 0)
    simpa using this
  have bS : Blk1 ((w.alloc (.cells #[.slice (some ⟨b, o, none⟩) ns.length c] 24)).alloc (.cells #[.slice none 0 0, .slice none 0 0] 27)) w.heap.size (.slice (some ⟨b, o, none⟩) ns.length c) := (Blk1.new w _).on (on_alloc _ _)
  have x0 := bS.facts.1
  have S0 : ((w.alloc (.cells #[.slice (some ⟨b, o, none⟩) ns.length c] 24)).alloc (.cells #[.slice none 0 0, .slice none 0 0] 27)).drew.cell? ⟨w.heap.size, 0, none⟩ = some (.slice (some ⟨b, o, none⟩) ns.length c) ∧ Blk2 ((w.alloc (.cells #[.slice (some ⟨b, o, none⟩) ns.length c] 24)).alloc (.cells #[.slice none 0 0, .slice none 0 0] 27)).drew (w.heap.size + 1) (.slice none 0 0) (.slice none 0 0) ∧ Below w.heap.size w ((w.alloc (.cells #[.slice (some ⟨b, o, none⟩) ns.length c] 24)).alloc (.cells #[.slice none 0 0, .slice none 0 0] 27)).drew := ⟨x0, bR, hb0.drew⟩
  clear hd hcell hb0 bR bS x0 hc
  go_enter Tryz.func8, Tryz.ntmps8
  go_wp2
  go_region_law (first | (go_simp; go_at_call 25; refine (refOwn_some b o c ns _ h64 HSH2.out (HC.out _ S0.2.2)).mono ?_; rintro e w2 ⟨v2, rfl, hrow2, hb2⟩; obtain ⟨a5, c5, e5, _⟩ := id hrow2.nds; subst e5; have S1 := one_on S0 hb2) | (go_simp; go_at_call 26; refine (idxOf_any b o c ns _ h64 HSH.out (HC.out _ S1.2.2)).mono ?_; rintro e w3 ⟨u, ps, rfl, hrow, hmp, hw⟩; obtain ⟨au, cu, rfl⟩ := hrow.form; have S2 := one_on S1 hw; obtain ⟨⟨r0, r1⟩, fR⟩ := S2.2.1.facts))
  all_goals
    obtain ⟨p1, p2⟩ := PgAt.box2 (DocAt.on (hrow2.doc h64 HSH2.out) hw) (ref_idx HC0.out hmp ▸ hrow.ens) S2.2.1
    obtain ⟨⟨q0, q1⟩, _⟩ := p2.facts
    have HP1 : Hid (PgAt _ _ _ _) := p1
    have HQ0 : Hid _ := q0
    have HQ1 : Hid _ := q1
    have HB3 : Hid (Below w.heap.size w w3) := S2.2.2
    clear p1 p2 q0 q1 hrow2 hrow hmp S0 S1 S2 hb2 hw r0 r1 fR
    go_wp2
    have q0 := HQ0.out
    have q1 := HQ1.out
    exact bodyPost_ret (v := .tuple #[.agg #[.slice a5 ns.length c5, .slice au ps.length cu], .int .i64 0]) (by simp [results, Tryz.results8, go_sem, q0, q1]) rfl
      ⟨_, rfl, by rw [if_pos rfl, if_pos rfl]; exact HP1.out, (HB3.out.setCell (p := ⟨w.heap.size + 1, 0, none⟩) (by simp) _).setCell (p := ⟨w.heap.size + 1, 1, none⟩) (by simp) _⟩
theorem pageOf_any (v : Value) (ns : List Pl.Nd) (err : Int) (w : World) (hd : DocAt w v ns) (hc : err = 0 → Pl.checkDoc ns = 0) :
    Calls Tryz.prog 8 #[.agg #[v], .int .i64 err] w fun e w' => PoSays err ns w e w' := by
  by_cases he : err = 0
  · subst he
    exact pageOf_ok v ns w hd (hc rfl)
  · exact pageOf_err v ns err w hd (by simpa using he)
end Go.Proofs.YtbpgcfabepioiaaGreat
