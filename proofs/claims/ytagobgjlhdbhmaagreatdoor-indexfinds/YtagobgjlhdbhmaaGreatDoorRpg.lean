/-
  Lists of numbers: whether they are the same, as live tells it.
-/
import Derived.Test.YtagobgjlhdbhmaaGreatDoorIdxM
import Derived.Test.YtagobgjlhdbhmaaGreatDoorFor
import Derived.Test.YtagobgjlhdbhmaaGreatDoorPag
import Derived.Deep.RegionLaw
import Derived.Test.YtagobgjlhdbhmaaGreatDoorRefK
import Derived.Test.YtagobgjlhdbhmaaGreatDoorMbD
import Derived.Test.YtagobgjlhdbhmaaGreatDoorOwnD
namespace Go.Proofs.YtagobgjlhdbhmaaGreatDoor
open Go.RowKit

def sameEn (x y : Pl.Er) : Bool := decide (x = y)
end Go.Proofs.YtagobgjlhdbhmaaGreatDoor
/-
  live's inner calls: a document made a page, a page checked.
-/
namespace Go.Proofs.YtagobgjlhdbhmaaGreatDoor
open Go.RowKit

/-- what indexed answers -/
def IdxSays (err : Int) (ns : List Pl.Nd) (w : World) (e : Ending) (w' : World) : Prop :=
  ∃ v, e = .returned (.tuple #[v, .int .i64 (pgErr err ns)]) ∧ PgAt w' v (pgDoc err ns) (pgIdx err ns) ∧ Below w.heap.size w w'
theorem two_boxes (w : World) (o1 o2 : Obj) : ((w.alloc o1).alloc o2).heap.size = w.heap.size + 2 := by simp
set_option maxRecDepth 100000 in
set_option maxHeartbeats 2000000 in
theorem indexed_any (v : Value) (ns : List Pl.Nd) (err : Int) (w : World) (hd : DocAt w v ns) :
    Calls Tryz.prog 98 #[.agg #[v], .int .i64 err] w fun e w' => IdxSays err ns w e w' := by
  obtain ⟨a, c, rfl⟩ := hd.form
  have hb0 := boxes w (.cells #[.slice a ns.length c] 24) (.cells #[.slice none 0 0, .slice none 0 0] 59)
  have bR : Blk2 ((w.alloc (.cells #[.slice a ns.length c] 24)).alloc (.cells #[.slice none 0 0, .slice none 0 0] 59)) (w.heap.size + 1) (.slice none 0 0) (.slice none 0 0) := by
    have := Blk2.new (w.alloc (.cells #[.slice a ns.length c] 24)) (.slice none 0 0) (.slice none 0 0)
    simpa using this
  have bS : Blk1 ((w.alloc (.cells #[.slice a ns.length c] 24)).alloc (.cells #[.slice none 0 0, .slice none 0 0] 59)) w.heap.size (.slice a ns.length c) := (Blk1.new w _).on (on_alloc _ _)
  have hz := two_boxes w (.cells #[.slice a ns.length c] 24) (.cells #[.slice none 0 0, .slice none 0 0] 59)
  have HD : Hid (DocAt ((w.alloc (.cells #[.slice a ns.length c] 24)).alloc (.cells #[.slice none 0 0, .slice none 0 0] 59)) (.slice a ns.length c) ns) := hd.on hb0
  have HB0 : Hid (Below _ _ _) := hb0
  have HBR : Hid (Blk2 _ _ _ _) := bR
  have HBS : Hid (Blk1 _ _ _) := bS
  clear hd hb0 bR bS
  cases he : (err != 0) with
  | true =>
    have HA : Hid (pgErr err ns = err ∧ pgDoc err ns = [] ∧ pgIdx err ns = []) := by
      have : ¬ err = 0 := by simpa using he
      unfold Hid pgErr pgDoc pgIdx
      simp [this]
    obtain ⟨⟨r0, r1⟩, fR⟩ := HBR.out.facts
    go_enter Tryz.func98, Tryz.ntmps98
    go_wp2
    exact bodyPost_ret (v := .tuple #[.agg #[.slice none 0 0, .slice none 0 0], .int .i64 err]) (by simp [results, Tryz.results98, go_sem]) rfl
      ⟨_, by rw [HA.out.1], by rw [HA.out.2.1, HA.out.2.2]; exact PgAt.nil _, HB0.out⟩
  | false =>
    have he0 : err = 0 := by simpa using he
    have HA : Hid (pgErr err ns = Pl.checkDoc ns ∧ pgDoc err ns = (if Pl.checkDoc ns = 0 then ns else []) ∧ pgIdx err ns = Pl.idxAns ns) := by
      unfold Hid pgErr pgDoc pgIdx
      simp [he0]
    clear he0
    obtain ⟨s0, _⟩ := HBS.out.facts
    go_enter Tryz.func98, Tryz.ntmps98
    go_wp2_with fail
    generalize (w.alloc (.cells #[.slice a ns.length c] 24)).alloc (.cells #[.slice none 0 0, .slice none 0 0] 59) = w0 at *
    refine (build_any _ ns _ HD.out).mono ?_
    rintro e w1 ⟨u, rfl, hen, hb1⟩
    obtain ⟨au, cu, rfl⟩ := hen.form
    have HB1 : Hid (Below w.heap.size w w1) := below_trans HB0.out hb1
    have bR1 := Blk2.on HBR.out hb1
    have bS1 := Blk1.on HBS.out hb1
    have hd1 : DocAt w1 (.slice a ns.length c) ns := DocAt.on HD.out hb1
    obtain ⟨⟨r0, r1⟩, fR⟩ := bR1.facts
    obtain ⟨t0, _⟩ := bS1.facts
    cases hc : (Pl.checkDoc ns != 0) with
    | true =>
      have hc0 : ¬ Pl.checkDoc ns = 0 := by simpa using hc
      have HI : Hid (Pl.idxAns ns = []) := by unfold Hid Pl.idxAns; rw [if_neg hc0]
      have HDD : Hid ((if Pl.checkDoc ns = 0 then ns else []) = ([] : List Pl.Nd)) := if_neg hc0
      obtain ⟨p1, p2⟩ := PgAt.box (ns := []) (l := []) (DocAt.nil _) (EnsAt.nil _) bR1
      obtain ⟨⟨q0, q1⟩, _⟩ := p2.facts
      simp only [List.length_nil] at p1 q0 q1
      have HP1 : Hid (PgAt _ _ _ _) := p1
      have HQ0 : Hid _ := q0
      have HQ1 : Hid _ := q1
      clear p1 p2 q0 q1 hc0 hen hd1 bR1 bS1 hb1 s0
      generalize Pl.checkDoc ns = r at *
      go_wp2
      have q0 := HQ0.out
      have q1 := HQ1.out
      exact bodyPost_ret (v := .tuple #[.agg #[.slice none 0 0, .slice none 0 0], .int .i64 r]) (by simp [results, Tryz.results98, go_sem, q0, q1]) rfl
        ⟨_, by rw [HA.out.1], by rw [HA.out.2.1, HA.out.2.2, HI.out, HDD.out]; exact HP1.out, (HB1.out.setCell (p := ⟨w.heap.size + 1, 0, none⟩) (by simp) _).setCell (p := ⟨w.heap.size + 1, 1, none⟩) (by simp) _⟩
    | false =>
      have hc0 : Pl.checkDoc ns = 0 := by simpa using hc
      have HDD : Hid ((if Pl.checkDoc ns = 0 then ns else []) = ns) := if_pos hc0
      have HE0 : Hid (pgErr err ns = 0) := by rw [HA.out.1]; exact hc0
      obtain ⟨p1, p2⟩ := PgAt.box hd1 hen bR1
      obtain ⟨⟨q0, q1⟩, _⟩ := p2.facts
      have HP1 : Hid (PgAt _ _ _ _) := p1
      have HQ0 : Hid _ := q0
      have HQ1 : Hid _ := q1
      clear p1 p2 q0 q1 hc0 hen hd1 bR1 bS1 hb1 s0
      generalize Pl.checkDoc ns = r at *
      generalize Pl.idxAns ns = l at *
      go_wp2
      have q0 := HQ0.out
      have q1 := HQ1.out
      exact bodyPost_ret (v := .tuple #[.agg #[.slice a ns.length c, .slice au l.length cu], .int .i64 0]) (by simp [results, Tryz.results98, go_sem, q0, q1]) rfl
        ⟨_, by rw [HE0.out], by rw [HA.out.2.1, HA.out.2.2, HDD.out]; exact HP1.out, (HB1.out.setCell (p := ⟨w.heap.size + 1, 0, none⟩) (by simp) _).setCell (p := ⟨w.heap.size + 1, 1, none⟩) (by simp) _⟩
/-- an index that fits -/
def IxFit (l : List Pl.Er) : Prop := l.length ≤ maxLen ∧ ∀ e ∈ l, e.2.length ≤ maxLen
theorem ix_ans (ns : List Pl.Nd) : IxFit (Pl.idxAns ns) := ⟨by have := (idx_small ns).1; unfold maxLen; omega, fun e he => by have := (idx_small ns).2 e he; unfold maxLen; omega⟩
end Go.Proofs.YtagobgjlhdbhmaaGreatDoor
/-
  live's change, whatever closure it is handed.
-/
namespace Go.Proofs.YtagobgjlhdbhmaaGreatDoor
open Go.RowKit

theorem PgAt.form {w : World} {v : Value} {ns : List Pl.Nd} {l : List Pl.Er} (h : PgAt w v ns l) : ∃ a c a2 c2, v = .agg #[.slice a ns.length c, .slice a2 l.length c2] := by
  obtain ⟨a, c, a2, c2, e, _, _⟩ := h
  exact ⟨a, c, a2, c2, e⟩
end Go.Proofs.YtagobgjlhdbhmaaGreatDoor
/-
  Pages, as the document's own answer has them.
-/
namespace Go.Proofs.YtagobgjlhdbhmaaGreatDoor
open Go.RowKit

theorem ref_idx {ns : List Pl.Nd} {ps : List EP} (hc : Pl.checkDoc ns = 0) (hm : ps.map (·.1) = Pl.idxTo ns ns.length) : ps.map (fun p => Pl.erOf p.1) = Pl.idxAns ns := by
  unfold Pl.idxAns
  rw [if_pos hc, ← hm, List.map_map]
  rfl
theorem sameIdx_ref {l : List Pl.Er} {ns : List Pl.Nd} {B : Nat} {w : World} {v v1 : Value} {ps : List EP} {b : Bool} (hc : Pl.checkDoc ns = 0) (hrow : ERow B w v ps) (hm : ps.map (·.1) = Pl.idxTo ns ns.length) (h1 : EnsAt w v1 l) (hl : IxFit l) (hb : sameE l (Pl.idxAns ns) = b) :
    Calls Tryz.prog 25 #[v1, v] w fun e w' => e = .returned (.bool b) ∧ Below w.heap.size w w' := by
  have h2 := hrow.ens
  rw [ref_idx hc hm] at h2
  refine (sameIndexes_any v1 v l (Pl.idxAns ns) w hl.1 hl.2 h1 h2).mono ?_
  rintro e w' ⟨rfl, hd⟩
  exact ⟨by rw [hb], hd.below⟩
theorem pair_on {w W w' : World} {p0 p1 : Addr} {v0 v1 : Value} (h : W.cell? p0 = some v0 ∧ W.cell? p1 = some v1 ∧ Below w.heap.size w W) (hb : Below W.heap.size W w') : w'.cell? p0 = some v0 ∧ w'.cell? p1 = some v1 ∧ Below w.heap.size w w' := ⟨cell_on hb h.1, cell_on hb h.2.1, below_trans h.2.2 hb⟩
theorem pair_last {w W : World} {p0 p1 : Addr} {v0 v1 : Value} (h : W.cell? p0 = some v0 ∧ W.cell? p1 = some v1 ∧ Below w.heap.size w W) : Below w.heap.size w W := h.2.2
set_option maxRecDepth 100000 in
set_option maxHeartbeats 4000000 in
theorem pageError_any (v : Value) (ns : List Pl.Nd) (l : List Pl.Er) (w : World) (hp : PgAt w v ns l) (hl : IxFit l) :
    Calls Tryz.prog 27 #[v] w fun e w' => e = .returned (.int .i64 (pageErr ns l)) ∧ Below w.heap.size w w' := by
  obtain ⟨a, c, a2, c2, rfl, hd, he⟩ := hp
  have hb0 := on_alloc w (.cells #[.slice a ns.length c, .slice a2 l.length c2] 59)
  have bS := Blk2.new w (.slice a ns.length c) (.slice a2 l.length c2)
  have HB0 : Hid (Below _ _ _) := hb0
  have HBS : Hid (Blk2 _ _ _ _) := bS
  have HE : Hid (∀ W, Below w.heap.size w W → EnsAt W (.slice a2 l.length c2) l) := fun W hW => he.on hW
  have HL : Hid (IxFit _) := hl
  obtain ⟨⟨s0, s1⟩, _⟩ := bS.facts
  have hchk := refCheck_any (.slice a ns.length c) ns _ hd.2.2 (hd.1.on hb0)
  have HCHK : Hid (Calls Tryz.prog 21 _ _ _) := hchk
  cases hc : (Pl.checkDoc ns != 0) with
  | true =>
    have HA : Hid (pageErr ns l = Pl.checkDoc ns) := by
      have : ¬ Pl.checkDoc ns = 0 := by simpa using hc
      unfold Hid pageErr
      rw [if_neg this]
    clear hd he hb0 bS hchk
    generalize Pl.checkDoc ns = r at *
    go_enter Tryz.func27, Tryz.ntmps27
    go_wp2_with fail
    refine HCHK.out.mono ?_
    rintro e w1 ⟨rfl, hb1⟩
    have HB1 : Hid (Below w.heap.size w w1) := below_trans HB0.out hb1
    clear hb1
    go_wp2
    go_ret
    exact ⟨by rw [HA.out]; rfl, HB1.out⟩
  | false =>
    have hc0 : Pl.checkDoc ns = 0 := by simpa using hc
    have HC0 : Hid (Pl.checkDoc ns = 0) := hc0
    obtain ⟨h1n, h64, _⟩ := check_zero hc0
    have HSH : Hid (∀ x ∈ ns, x.cls.length ≤ 6) := fun x hx => (check_short hc0 x hx).1
    obtain ⟨a', c', e2, hnil | ⟨b, o, ha, hcell⟩⟩ := hd.1
    · subst hnil; simp at h1n
    injection e2 with q1 _ q3
    subst q1 q3 ha
    have HC : Hid (∀ W, Below w.heap.size w W → ∀ i (h : i < ns.length), NdAt W b (o + i * 5) ns[i]) := fun W hW i hi => (hcell i hi).on hW
    rw [hc0] at HCHK
    clear hd he hb0 bS hchk hcell hc0 hc
    obtain ⟨bb, hbb⟩ : ∃ bb, sameE l (Pl.idxAns ns) = bb := ⟨_, rfl⟩
    have HBB : Hid _ := hbb
    have HA : Hid (pageErr ns l = if bb = true then 0 else 1) := by
      unfold Hid pageErr
      rw [if_pos HC0.out, ← hbb]
      by_cases h : l = Pl.idxAns ns
      · rw [if_pos h, if_pos (show sameE l (Pl.idxAns ns) = true from decide_eq_true h)]
      · rw [if_neg h, if_neg (by unfold sameE; rw [decide_eq_false h]; simp)]
    clear hbb
    go_enter Tryz.func27, Tryz.ntmps27
    go_wp2_with fail
    generalize w.alloc (.cells #[.slice (some ⟨b, o, none⟩) ns.length c, .slice a2 l.length c2] 59) = w0 at *
    refine HCHK.out.mono ?_
    rintro e w1 ⟨rfl, hb1⟩
    have hB1 : Below w.heap.size w w1 := below_trans HB0.out hb1
    obtain ⟨⟨t0, t1⟩, _⟩ := (Blk2.on HBS.out hb1).facts
    have S0 : w1.drew.cell? ⟨w.heap.size, 0, none⟩ = some (.slice (some ⟨b, o, none⟩) ns.length c) ∧ w1.drew.cell? ⟨w.heap.size, 1, none⟩ = some (.slice a2 l.length c2) ∧ Below w.heap.size w w1.drew := ⟨t0, t1, hB1.drew⟩
    clear hb1 hB1 t0 t1 s0 s1
    cases bb with
    | true =>
      go_wp2
      go_region_held3 (fun w' => w'.cell? ⟨w.heap.size, 0, none⟩ = some (.slice (some ⟨b, o, none⟩) ns.length c) ∧ w'.cell? ⟨w.heap.size, 1, none⟩ = some (.slice a2 l.length c2) ∧ Below w.heap.size w w')
        (first | with_reducible assumption | exact pair_on (by with_reducible assumption) (by with_reducible assumption))
        (first | (go_at_call 22; refine (idxOf_any b o c ns _ h64 HSH.out (HC.out _ (pair_last (by with_reducible assumption)))).mono ?_; rintro e w' ⟨u, ps, rfl, hrow, hmp, hw⟩; obtain ⟨au, cu, rfl⟩ := hrow.form) | (go_at_call 25; refine (sameIdx_ref HC0.out hrow hmp (HE.out _ (pair_last (by with_reducible assumption))) HL.out HBB.out).mono ?_; rintro e w' ⟨rfl, hw⟩))
      have HB5 := pair_last (by with_reducible assumption)
      go_wp2
      go_ret
      exact ⟨by rw [HA.out]; rfl, HB5⟩
    | false =>
      go_wp2
      go_region_held3 (fun w' => w'.cell? ⟨w.heap.size, 0, none⟩ = some (.slice (some ⟨b, o, none⟩) ns.length c) ∧ w'.cell? ⟨w.heap.size, 1, none⟩ = some (.slice a2 l.length c2) ∧ Below w.heap.size w w')
        (first | with_reducible assumption | exact pair_on (by with_reducible assumption) (by with_reducible assumption))
        (first | (go_at_call 22; refine (idxOf_any b o c ns _ h64 HSH.out (HC.out _ (pair_last (by with_reducible assumption)))).mono ?_; rintro e w' ⟨u, ps, rfl, hrow, hmp, hw⟩; obtain ⟨au, cu, rfl⟩ := hrow.form) | (go_at_call 25; refine (sameIdx_ref HC0.out hrow hmp (HE.out _ (pair_last (by with_reducible assumption))) HL.out HBB.out).mono ?_; rintro e w' ⟨rfl, hw⟩))
      have HB5 := pair_last (by with_reducible assumption)
      go_wp2
      go_ret
      exact ⟨by rw [HA.out]; rfl, HB5⟩
end Go.Proofs.YtagobgjlhdbhmaaGreatDoor
