/-
  index.Find: whatever it is handed.
-/
import Derived.Test.YtagobgjlhdbhmaaGreatDoorFdR
import Derived.Test.YtagobgjlhdbhmaaGreatDoorFdP
namespace Go.Proofs.YtagobgjlhdbhmaaGreatDoor
open Go.RowKit

def FindSays (ns : List Pl.Nd) (ix : List Pl.Er) (l : List Pl.D3) (w : World) (e : Ending) (w' : World) : Prop :=
  ∃ a c, e = .returned (.tuple #[.slice a (findA ns ix l).length c, .int .i64 (findErr ns ix l)]) ∧ IntsAt w' (.slice a (findA ns ix l).length c) ((findA ns ix l).map fun (k : Nat) => (k : Int)) ∧ Below w.heap.size w w'
theorem FindSays.nil {ns : List Pl.Nd} {ix : List Pl.Er} {l : List Pl.D3} {w w' : World} (r : Int) (h : findErr ns ix l = r) (h0 : findA ns ix l = []) (hb : Below w.heap.size w w') : FindSays ns ix l w (.returned (.tuple #[.slice Option.none 0 0, .int .i64 r])) w' := by
  unfold FindSays
  rw [h, h0]
  exact ⟨_, _, rfl, ⟨_, _, rfl, Or.inl rfl⟩, hb⟩
theorem find_err {ns : List Pl.Nd} {ix : List Pl.Er} {l : List Pl.D3} (h : findErr ns ix l ≠ 0) : findA ns ix l = [] := by
  unfold findA
  rw [if_neg h]
theorem FindSays.err {ns : List Pl.Nd} {ix : List Pl.Er} {l : List Pl.D3} {w w' : World} (r : Int) (h : findErr ns ix l = r) (h0 : r ≠ 0) (hb : Below w.heap.size w w') : FindSays ns ix l w (.returned (.tuple #[.slice Option.none 0 0, .int .i64 r])) w' :=
  FindSays.nil r h (find_err (by rw [h]; exact h0)) hb
theorem eqIdx {l : List Pl.Er} {ns : List Pl.Nd} {B : Nat} {w : World} {v v1 : Value} {qs : List EP} {b : Bool} (hc : Pl.checkDoc ns = 0) (hrow : ERow B w v qs) (hm : qs.map (fun p => Pl.erOf p.1) = (Pl.idxTo ns ns.length).map Pl.erOf) (h1 : EnsAt w v1 l) (hl : IxFit l) (hb : sameE l (Pl.idxAns ns) = b) :
    Calls Tryz.prog 53 #[v1, v, .func (.func 54) #[] #[]] w fun e w' => e = .returned (.bool b) ∧ Below w.heap.size w w' := by
  have h2 := hrow.ens
  rw [hm, show (Pl.idxTo ns ns.length).map Pl.erOf = Pl.idxAns ns by unfold Pl.idxAns; rw [if_pos hc]] at h2
  refine (eqFunc_any v1 v l (Pl.idxAns ns) w hl.1 hl.2 h1 h2).mono ?_
  rintro e w' ⟨rfl, hd⟩
  exact ⟨by rw [hb], hd⟩
theorem pair_id {w W : World} {p0 p1 : Addr} {v0 v1 : Value} (h : W.cell? p0 = some v0 ∧ W.cell? p1 = some v1 ∧ Below w.heap.size w W) : W.cell? p0 = some v0 ∧ W.cell? p1 = some v1 ∧ Below w.heap.size w W := h
theorem gath_good {ns : List Pl.Nd} {ps : List EP} (h : Pl.checkDoc ns = 0) (hm : ps.map (·.1) = Pl.gathTo ns ns.length) : ∀ p ∈ ps, Good p.1.key := fun p hp =>
  Pl.gath_keys (check_keys h).1 ns.length p.1 (by rw [← hm]; exact List.mem_map.2 ⟨p, hp, rfl⟩)
set_option maxRecDepth 100000 in
set_option maxHeartbeats 4000000 in
theorem find_bad (v u : Value) (ns : List Pl.Nd) (ix : List Pl.Er) (l : List Pl.D3) (w : World) (hp : PgAt w v ns ix) (hl : A3 w u l) (hc : (Pl.checkDoc ns != 0) = true) :
    Calls Tryz.prog 26 #[v, u] w fun e w' => FindSays ns ix l w e w' := by
  have hc' : ¬ Pl.checkDoc ns = 0 := by simpa using hc
  have HR : Hid (findErr ns ix l = Pl.checkDoc ns) := by
    unfold Hid findErr pageErr
    rw [if_neg hc', if_neg hc']
  obtain ⟨a, c, a2, c2, rfl, hd, he⟩ := hp
  obtain ⟨al, cl, rfl, -⟩ := isL_3.form hl
  have hb0 := on_alloc w (.cells #[.slice a ns.length c, .slice a2 ix.length c2] 59)
  have HB0 : Hid (Below _ _ _) := hb0
  obtain ⟨⟨s0, s1⟩, _⟩ := (Blk2.new w (.slice a ns.length c) (.slice a2 ix.length c2)).facts
  have HCHK : Hid (Calls Tryz.prog 46 _ _ _) := check_any (.slice a ns.length c) ns _ hd.2.2 (hd.1.on hb0)
  have HNZ : Hid (Pl.checkDoc ns ≠ 0) := hc'
  clear hd he hl hb0 hc'
  generalize Pl.checkDoc ns = r at *
  go_enter Tryz.func26, Tryz.ntmps26
  go_wp2_with fail
  generalize w.alloc (.cells #[.slice a ns.length c, .slice a2 ix.length c2] 59) = w0 at *
  refine HCHK.out.mono ?_
  rintro e w1 ⟨rfl, hb1⟩
  have HB1 : Hid (Below w.heap.size w w1) := below_trans HB0.out hb1
  clear hb1
  go_wp2
  go_ret2
  exact FindSays.err _ HR.out HNZ.out HB1.out
set_option maxRecDepth 100000 in
set_option maxHeartbeats 8000000 in
theorem find_good (v u : Value) (ns : List Pl.Nd) (ix : List Pl.Er) (l : List Pl.D3) (w : World) (hp : PgAt w v ns ix) (hx : IxFit ix) (hl : A3 w u l) (hL : Laid w) (hc : Pl.checkDoc ns = 0) :
    Calls Tryz.prog 26 #[v, u] w fun e w' => FindSays ns ix l w e w' := by
  obtain ⟨h1n, h64, _⟩ := check_zero hc
  have hsh := check_short hc
  obtain ⟨hgood, hndp⟩ := check_keys hc
  obtain ⟨a, c, a2, c2, rfl, hd, he⟩ := hp
  obtain ⟨al, cl, rfl, -⟩ := isL_3.form hl
  obtain ⟨a', c', e2, hnil | ⟨b, o, ha, hcell⟩⟩ := id hd.1
  · subst hnil; simp at h1n
  injection e2 with q1 _ q3
  subst q1 q3 ha
  have hb0 := on_alloc w (.cells #[.slice (some ⟨b, o, none⟩) ns.length c, .slice a2 ix.length c2] 59)
  have HB0 : Hid (Below _ _ _) := hb0
  have HBS : Hid (Blk2 _ _ _ _) := Blk2.new w (.slice (some ⟨b, o, none⟩) ns.length c) (.slice a2 ix.length c2)
  obtain ⟨⟨s0, s1⟩, _⟩ := (Blk2.new w (.slice (some ⟨b, o, none⟩) ns.length c) (.slice a2 ix.length c2)).facts
  have hchk := check_any (.slice (some ⟨b, o, none⟩) ns.length c) ns _ hd.2.2 (hd.1.on hb0)
  rw [hc] at hchk
  have HCHK : Hid (Calls Tryz.prog 46 _ _ _) := hchk
  have HCELL : Hid (∀ W, Below w.heap.size w W → ∀ i (h : i < ns.length), NdAt W b (o + i * 5) ns[i]) := fun W hW i hi => (hcell i hi).on hW
  have HDOC : Hid (∀ W, Below w.heap.size w W → DocAt W (.slice (some ⟨b, o, none⟩) ns.length c) ns) := fun W hW => hd.on hW
  have HE : Hid (∀ W, Below w.heap.size w W → EnsAt W (.slice a2 ix.length c2) ix) := fun W hW => he.on hW
  have HLS : Hid (∀ W, Below w.heap.size w W → A3 W (.slice al l.length cl) l) := fun W hW => isL_3.on hl hW
  have HLD : Hid (∀ W, Below w.heap.size w W → Laid W) := fun W hW => hL.on hW
  have HPC : Hid (∀ W, Below w.heap.size w W → Calls Tryz.prog 55 #[.slice al l.length cl] W fun e w' => e = .returned (.int .i64 (chkList l)) ∧ Below W.heap.size W w') := fun W hW => pathCheck_any W _ l (isL_3.on hl hW) (hL.on hW).forms
  have HX : Hid (IxFit _) := hx
  have HC0 : Hid (Pl.checkDoc ns = 0) := hc
  have HSH : Hid (∀ x ∈ ns, x.cls.length ≤ 6) := fun x hx => (hsh x hx).1
  have HGO : Hid _ := hgood
  have HND : Hid _ := hndp
  clear hchk hd he hl hL hcell hb0 hsh hgood hndp hx hc
  obtain ⟨bb, hbb⟩ : ∃ bb, sameE ix (Pl.idxAns ns) = bb := ⟨_, rfl⟩
  have HBB : Hid _ := hbb
  have HPE : Hid (pageErr ns ix = if bb = true then 0 else 1) := by
    unfold Hid pageErr
    rw [if_pos HC0.out, ← hbb]
    by_cases h : ix = Pl.idxAns ns
    · rw [if_pos h, if_pos (show sameE ix (Pl.idxAns ns) = true from decide_eq_true h)]
    · rw [if_neg h, if_neg (by unfold sameE; rw [decide_eq_false h]; simp)]
  clear hbb
  go_enter Tryz.func26, Tryz.ntmps26
  go_wp2_with fail
  generalize w.alloc (.cells #[.slice (some ⟨b, o, none⟩) ns.length c, .slice a2 ix.length c2] 59) = w0 at *
  refine HCHK.out.mono ?_
  rintro e w1 ⟨rfl, hb1⟩
  have HB1 : Hid (Below w.heap.size w w1) := below_trans HB0.out hb1
  have HBS1 : Hid (Blk2 _ _ _ _) := Blk2.on HBS.out hb1
  obtain ⟨⟨t0, t1⟩, _⟩ := HBS1.out.facts
  clear hb1 s0 s1 HCHK HB0 HBS
  go_wp2_with fail
  refine (gather_any b o c ns w1 h64 HSH.out HGO.out (HCELL.out _ HB1.out)).mono ?_
  rintro e w2 ⟨ps, rfl, hm2, hf2, hp2, hb2⟩
  have hbnd := Pl.gath_fit HSH.out ns.length
  have hpl : ps.length ≤ 1000 := by
    have := hbnd.1
    rw [← hp2, List.length_map] at this
    omega
  have hne := gath_ne h1n hp2 HND.out
  have HM : Hid (∀ W, Below w2.heap.size w2 W → MapAt W w1.heap.size ps) := fun W hW => hm2.on (hW.block _ hm2.lt)
  have HF : Hid (∀ W, Below w2.heap.size w2 W → Fam (w1.heap.size + 1) W ps) := fun W hW => hf2.on hW
  have HP2 : Hid _ := hp2
  have HGK : Hid _ := gath_good HC0.out hp2
  have HB2 : Hid (Below w.heap.size w w2) := below_trans HB1.out hb2
  obtain ⟨⟨x0, x1⟩, _⟩ := (Blk2.on HBS1.out hb2).facts
  have S0 : w2.drew.cell? ⟨w.heap.size, 0, none⟩ = some (.slice (some ⟨b, o, none⟩) ns.length c) ∧ w2.drew.cell? ⟨w.heap.size, 1, none⟩ = some (.slice a2 ix.length c2) ∧ Below w2.heap.size w2 w2.drew := ⟨x0, x1, (Below.refl _ _).drew⟩
  clear hm2 hf2 hp2 hb2 t0 t1 x0 x1 hbnd HBS1 HB1
  cases bb with
  | false =>
    go_wp2
    go_region_held3 (fun w' => w'.cell? ⟨w.heap.size, 0, none⟩ = some (.slice (some ⟨b, o, none⟩) ns.length c) ∧ w'.cell? ⟨w.heap.size, 1, none⟩ = some (.slice a2 ix.length c2) ∧ Below w2.heap.size w2 w')
      (first | with_reducible assumption | exact pair_on (by with_reducible assumption) (by with_reducible assumption))
      (first | (go_at_call 47; refine (entries_any w1.heap.size ps _ (HM.out _ (pair_last (by with_reducible assumption))) (HF.out _ (pair_last (by with_reducible assumption))) hne hpl).mono ?_; rintro e w' ⟨uu, qs, rfl, hperm, hsort, hrow, hw⟩; obtain ⟨au, cu, rfl⟩ := hrow.form) | (go_at_call 53; refine (eqIdx HC0.out hrow (ent_idx HC0.out HP2.out hperm hsort) (HE.out _ (below_trans HB2.out (pair_last (by with_reducible assumption)))) HX.out HBB.out).mono ?_; rintro e w' ⟨rfl, hw⟩))
    have HB5 := pair_last (by with_reducible assumption)
    go_wp2
    go_ret2
    exact FindSays.err 1 (by unfold findErr; rw [HPE.out]; rfl) (by decide) (below_trans HB2.out HB5)
  | true =>
    go_wp2
    go_region_held3 (fun w' => w'.cell? ⟨w.heap.size, 0, none⟩ = some (.slice (some ⟨b, o, none⟩) ns.length c) ∧ w'.cell? ⟨w.heap.size, 1, none⟩ = some (.slice a2 ix.length c2) ∧ Below w2.heap.size w2 w')
      (first | with_reducible assumption | exact pair_on (by with_reducible assumption) (by with_reducible assumption))
      (first | (go_at_call 47; refine (entries_any w1.heap.size ps _ (HM.out _ (pair_last (by with_reducible assumption))) (HF.out _ (pair_last (by with_reducible assumption))) hne hpl).mono ?_; rintro e w' ⟨uu, qs, rfl, hperm, hsort, hrow, hw⟩; obtain ⟨au, cu, rfl⟩ := hrow.form) | (go_at_call 53; refine (eqIdx HC0.out hrow (ent_idx HC0.out HP2.out hperm hsort) (HE.out _ (below_trans HB2.out (pair_last (by with_reducible assumption)))) HX.out HBB.out).mono ?_; rintro e w' ⟨rfl, hw⟩))
    have HS5 := pair_id (by with_reducible assumption)
    obtain ⟨x0, x1, hB5⟩ := HS5
    have HFE : Hid (findErr ns ix l = chkList l) := by unfold Hid findErr; rw [HPE.out]; rfl
    have HB5 : Hid _ := hB5
    have HX5 : Hid _ := And.intro x0 x1
    clear hB5 x0 x1 S0 hrow hperm hsort
    go_wp2_with fail
    refine (HPC.out _ (below_trans HB2.out HB5.out)).mono ?_
    rintro e w6 ⟨rfl, hb6⟩
    have HB6 : Hid (Below w2.heap.size w2 w6) := below_trans HB5.out hb6
    obtain ⟨y0, y1⟩ := HX5.out
    replace y0 := cell_on hb6 y0
    replace y1 := cell_on hb6 y1
    have HX6 : Hid _ := And.intro y0 y1
    clear hb6 HB5 HX5 y0 y1
    by_cases hcl : chkList l = 0
    · have HCL : Hid (chkList l = 0) := hcl
      rw [hcl]
      clear hcl
      go_wp2_with fail
      refine (possible_any w1.heap.size ps _ ns l w6 (HM.out _ HB6.out) (HF.out _ HB6.out) HP2.out HND.out HGK.out (HLS.out _ (below_trans HB2.out HB6.out)) HCL.out).mono ?_
      rintro e w7 ⟨uu, rfl, hO, hb7⟩
      obtain ⟨au, cu, rfl⟩ := hO.form
      have HB7 : Hid (Below w.heap.size w w7) := below_trans (below_trans HB2.out HB6.out) hb7
      obtain ⟨y0, y1⟩ := HX6.out
      replace y0 := cell_on hb7 y0
      have HA7 : Hid (A3 w7 (.slice au (opTo ns l l.length).length cu) (opTo ns l l.length)) := by
        obtain ⟨xs, _, o1, o2⟩ := hO
        exact a3_of o1 (o2.on hb7)
      clear hO hb7 y1 HX6 HB6
      have HOP : Hid _ := opTo_all ns l
      by_cases hz : opTo ns l l.length = []
      · have HZ : Hid (findA ns ix l = []) := by
          unfold Hid findA
          rw [HFE.out, if_pos HCL.out, ← find_open HCL.out, ← HOP.out, hz]
          unfold allTo
          rw [List.filter_eq_nil_iff]
          intro n _ h
          cases h
        have e0 : (opTo ns l l.length).length = 0 := by rw [hz]; rfl
        rw [e0]
        clear e0 hz
        go_wp2
        go_ret2
        exact FindSays.nil 0 (by rw [HFE.out]; exact HCL.out) HZ.out HB7.out
      · have e0 : ¬ (((opTo ns l l.length).length : Int) = 0) := by
          have := List.length_pos_iff.2 hz
          omega
        have HNE : Hid (l.filter (openB ns) ≠ []) := by unfold Hid; rw [← HOP.out]; exact hz
        have HALL : Hid (Calls Tryz.prog 14 _ _ _) := all_call _ _ ns (opTo ns l l.length) w7 (HDOC.out _ HB7.out) HA7.out (HLD.out _ HB7.out).forms (HLD.out _ HB7.out).glob
        clear hz
        go_wp2_with fail
        refine HALL.out.mono ?_
        rintro e w8 ⟨x, rfl, hx8, hb8⟩
        have e1 : chkBoth ns (opTo ns l l.length) = 0 := by
          unfold chkBoth
          rw [if_pos HC0.out, HOP.out]
          exact chk_filter _ HCL.out HNE.out
        have e2 : allA ns (opTo ns l l.length) = findA ns ix l := by
          unfold allA findA
          rw [if_pos e1, HFE.out, if_pos HCL.out, HOP.out, find_open HCL.out]
        rw [e2] at hx8
        have hi8 := hx8.ints
        obtain ⟨a8, c8, rfl, -⟩ := id hx8
        rw [e1]
        have HI8 : Hid _ := hi8
        have HB8 : Hid (Below w.heap.size w w8) := below_trans HB7.out hb8
        clear hx8 hb8 hi8 e1 e2 HALL
        go_wp2
        go_ret2
        refine ⟨a8, c8, ?_, HI8.out, HB8.out⟩
        rw [HFE.out, HCL.out]
        rfl
    · have HCL : Hid (chkList l ≠ 0) := hcl
      have hcn : (chkList l != 0) = true := by simpa using hcl
      clear hcl
      generalize chkList l = r at *
      go_wp2
      go_ret2
      exact FindSays.err _ HFE.out HCL.out (below_trans HB2.out HB6.out)
theorem find_any (v u : Value) (ns : List Pl.Nd) (ix : List Pl.Er) (l : List Pl.D3) (w : World) (hp : PgAt w v ns ix) (hx : IxFit ix) (hl : A3 w u l) (hL : Laid w) :
    Calls Tryz.prog 26 #[v, u] w fun e w' => FindSays ns ix l w e w' := by
  by_cases hc : Pl.checkDoc ns = 0
  · exact find_good v u ns ix l w hp hx hl hL hc
  · exact find_bad v u ns ix l w hp hl (by simpa using hc)
end Go.Proofs.YtagobgjlhdbhmaaGreatDoor
