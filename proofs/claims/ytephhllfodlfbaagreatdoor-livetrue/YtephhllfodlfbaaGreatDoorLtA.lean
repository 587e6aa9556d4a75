/-
  index.Find: whatever it is handed.
-/
import Derived.Test.YtephhllfodlfbaaGreatDoorFdR
import Derived.Test.YtephhllfodlfbaaGreatDoorFdE
import Derived.Test.YtephhllfodlfbaaGreatDoorVLBb
import Derived.Test.YtephhllfodlfbaaGreatDoorVLiy
namespace Go.Proofs.YtephhllfodlfbaaGreatDoor
open Go.RowKit

def FindSays (ns : List Pl.Nd) (ix : List Pl.Er) (l : List Pl.D3) (w : World) (e : Ending) (w' : World) : Prop :=
  ∃ a c, e = .returned (.tuple #[.slice a (findA ns ix l).length c, .int .i64 (findErr ns ix l)]) ∧ IntsAt w' (.slice a (findA ns ix l).length c) ((findA ns ix l).map fun (k : Nat) => (k : Int)) ∧ Below w.heap.size w w'
theorem FindSays.nil {ns : List Pl.Nd} {ix : List Pl.Er} {l : List Pl.D3} {w w' : World} (r : Int) (h : findErr ns ix l = r) (h0 : findA ns ix l = []) (hb : Below w.heap.size w w') : FindSays ns ix l w (.returned (.tuple #[.slice Option.none 0 0, .int .i64 r])) w' := by
  unfold FindSays
  rw [h, h0]
  exact ⟨_, _, rfl, ⟨_, _, rfl, Or.inl rfl⟩, hb⟩
theorem find_err {ns : List Pl.Nd} {ix : List Pl.Er} {l : List Pl.D3} (h : findErr ns ix l ≠ 0) : findA ns ix l = [] := by
  unfold findA
  rw [if_neg h]
theorem FindSays.err {ns : List Pl.Nd} {ix : List Pl.Er} {l : List Pl.D3} {w w' : World} (r : Int) (h : findErr ns ix l = r) (h0 : r ≠ 0) (hb : Below w.heap.size w w') : FindSays ns ix l w (.returned (.tuple #[.slice Option.none 0 0, .int .i64 r])) w' :=
  FindSays.nil r h (find_err (by rw [h]; exact h0)) hb
theorem eqIdx {l : List Pl.Er} {ns : List Pl.Nd} {B : Nat} {w : World} {v v1 : Value} {qs : List EP} {b : Bool} (hc : Pl.checkDoc ns = 0) (hrow : ERow B w v qs) (hm : qs.map (fun p => Pl.erOf p.1) = (Pl.idxTo ns ns.length).map Pl.erOf) (h1 : EnsAt w v1 l) (hl : IxFit l) (hb : sameE l (Pl.idxAns ns) = b) :
    Calls Tryz.prog 41 #[v1, v, .func (.func 43) #[] #[]] w fun e w' => e = .returned (.bool b) ∧ Below w.heap.size w w' := by
  have h2 := hrow.ens
  rw [hm, show (Pl.idxTo ns ns.length).map Pl.erOf = Pl.idxAns ns by unfold Pl.idxAns; rw [if_pos hc]] at h2
  refine (eqFunc_any v1 v l (Pl.idxAns ns) w hl.1 hl.2 h1 h2).mono ?_
  rintro e w' ⟨rfl, hd⟩
  exact ⟨by rw [hb], hd⟩
theorem pair_id {w W : World} {p0 p1 : Addr} {v0 v1 : Value} (h : W.cell? p0 = some v0 ∧ W.cell? p1 = some v1 ∧ Below w.heap.size w W) : W.cell? p0 = some v0 ∧ W.cell? p1 = some v1 ∧ Below w.heap.size w W := h
theorem gath_good {ns : List Pl.Nd} {ps : List EP} (h : Pl.checkDoc ns = 0) (hm : ps.map (·.1) = Pl.gathTo ns ns.length) : ∀ p ∈ ps, Good p.1.key := fun p hp =>
  Pl.gath_keys (check_keys h).1 ns.length p.1 (by rw [← hm]; exact List.mem_map.2 ⟨p, hp, rfl⟩)
set_option maxRecDepth 100000 in
set_option maxHeartbeats 4000000 in
theorem find_bad (v u : Value) (ns : List Pl.Nd) (ix : List Pl.Er) (l : List Pl.D3) (w : World) (hp : PgAt w v ns ix) (hl : A3 w u l) (hc : (Pl.checkDoc ns != 0) = true) :
    Calls Tryz.prog 11 #[v, u] w fun e w' => FindSays ns ix l w e w' := by
  have hc' : ¬ Pl.checkDoc ns = 0 := by simpa using hc
  have HR : Hid (findErr ns ix l = Pl.checkDoc ns) := by
    unfold Hid findErr pageErr
    rw [if_neg hc', if_neg hc']
  obtain ⟨a, c, a2, c2, rfl, hd, he⟩ := hp
  obtain ⟨al, cl, rfl, -⟩ := isL_3.form hl
  have hb0 := on_alloc w (.cells #[.slice a ns.length c, .slice a2 ix.length c2] 32)
  have HB0 : Hid (Below _ _ _) := hb0
  obtain ⟨⟨s0, s1⟩, _⟩ := (Blk2.new w (.slice a ns.length c) (.slice a2 ix.length c2)).facts
  have HCHK : Hid (Calls Tryz.prog 14 _ _ _) := check_any (.slice a ns.length c) ns _ hd.2.2 (hd.1.on hb0)
  have HNZ : Hid (Pl.checkDoc ns ≠ 0) := hc'
  clear hd he hl hb0 hc'
  generalize Pl.checkDoc ns = r at *
  go_enter Tryz.func11, Tryz.ntmps11
  go_wp2_with fail
  generalize w.alloc (.cells #[.slice a ns.length c, .slice a2 ix.length c2] 32) = w0 at *
  refine HCHK.out.mono ?_
  rintro e w1 ⟨rfl, hb1⟩
  have HB1 : Hid (Below w.heap.size w w1) := below_trans HB0.out hb1
  clear hb1
  go_wp2
  go_ret2
  exact FindSays.err _ HR.out HNZ.out HB1.out
set_option maxRecDepth 100000 in
set_option maxHeartbeats 8000000 in
theorem find_good (v u : Value) (ns : List Pl.Nd) (ix : List Pl.Er) (l : List Pl.D3) (w : World) (hp : PgAt w v ns ix) (hx : IxFit ix) (hl : A3 w u l) (hL : Laid w) (hc : Pl.checkDoc ns = 0) :
    Calls Tryz.prog 11 #[v, u] w fun e w' => FindSays ns ix l w e w' := by
  obtain ⟨h1n, h64, _⟩ := check_zero hc
  have hsh := check_short hc
  obtain ⟨hgood, hndp⟩ := check_keys hc
  obtain ⟨a, c, a2, c2, rfl, hd, he⟩ := hp
  obtain ⟨al, cl, rfl, -⟩ := isL_3.form hl
  obtain ⟨a', c', e2, hnil | ⟨b, o, ha, hcell⟩⟩ := id hd.1
  · subst hnil; simp at h1n
  injection e2 with q1 _ q3
  subst q1 q3 ha
  have hb0 := on_alloc w (.cells #[.slice (some ⟨b, o, none⟩) ns.length c, .slice a2 ix.length c2] 32)
  have HB0 : Hid (Below _ _ _) := hb0
  have HBS : Hid (Blk2 _ _ _ _) := Blk2.new w (.slice (some ⟨b, o, none⟩) ns.length c) (.slice a2 ix.length c2)
  obtain ⟨⟨s0, s1⟩, _⟩ := (Blk2.new w (.slice (some ⟨b, o, none⟩) ns.length c) (.slice a2 ix.length c2)).facts
  have hchk := check_any (.slice (some ⟨b, o, none⟩) ns.length c) ns _ hd.2.2 (hd.1.on hb0)
  rw [hc] at hchk
  have HCHK : Hid (Calls Tryz.prog 14 _ _ _) := hchk
  have HCELL : Hid (∀ W, Below w.heap.size w W → ∀ i (h : i < ns.length), NdAt W b (o + i * 5) ns[i]) := fun W hW i hi => (hcell i hi).on hW
  have HDOC : Hid (∀ W, Below w.heap.size w W → DocAt W (.slice (some ⟨b, o, none⟩) ns.length c) ns) := fun W hW => hd.on hW
  have HE : Hid (∀ W, Below w.heap.size w W → EnsAt W (.slice a2 ix.length c2) ix) := fun W hW => he.on hW
  have HLS : Hid (∀ W, Below w.heap.size w W → A3 W (.slice al l.length cl) l) := fun W hW => isL_3.on hl hW
  have HLD : Hid (∀ W, Below w.heap.size w W → Laid W) := fun W hW => hL.on hW
  have HPC : Hid (∀ W, Below w.heap.size w W → Calls Tryz.prog 44 #[.slice al l.length cl] W fun e w' => e = .returned (.int .i64 (chkList l)) ∧ Below W.heap.size W w') := fun W hW => pathCheck_any W _ l (isL_3.on hl hW) (hL.on hW).forms
  have HX : Hid (IxFit _) := hx
  have HC0 : Hid (Pl.checkDoc ns = 0) := hc
  have HSH : Hid (∀ x ∈ ns, x.cls.length ≤ 6) := fun x hx => (hsh x hx).1
  have HGO : Hid _ := hgood
  have HND : Hid _ := hndp
  clear hchk hd he hl hL hcell hb0 hsh hgood hndp hx hc
  obtain ⟨bb, hbb⟩ : ∃ bb, sameE ix (Pl.idxAns ns) = bb := ⟨_, rfl⟩
  have HBB : Hid _ := hbb
  have HPE : Hid (pageErr ns ix = if bb = true then 0 else 1) := by
    unfold Hid pageErr
    rw [if_pos HC0.out, ← hbb]
    by_cases h : ix = Pl.idxAns ns
    · rw [if_pos h, if_pos (show sameE ix (Pl.idxAns ns) = true from decide_eq_true h)]
    · rw [if_neg h, if_neg (by unfold sameE; rw [decide_eq_false h]; simp)]
  clear hbb
  go_enter Tryz.func11, Tryz.ntmps11
  go_wp2_with fail
  generalize w.alloc (.cells #[.slice (some ⟨b, o, none⟩) ns.length c, .slice a2 ix.length c2] 32) = w0 at *
  refine HCHK.out.mono ?_
  rintro e w1 ⟨rfl, hb1⟩
  have HB1 : Hid (Below w.heap.size w w1) := below_trans HB0.out hb1
  have HBS1 : Hid (Blk2 _ _ _ _) := Blk2.on HBS.out hb1
  obtain ⟨⟨t0, t1⟩, _⟩ := HBS1.out.facts
  clear hb1 s0 s1 HCHK HB0 HBS
  go_wp2_with fail
  refine (gather_any b o c ns w1 h64 HSH.out HGO.out (HCELL.out _ HB1.out)).mono ?_
  rintro e w2 ⟨ps, rfl, hm2, hf2, hp2, hb2⟩
  have hbnd := Pl.gath_fit HSH.out ns.length
  have hpl : ps.length ≤ 1000 := by
    have := hbnd.1
    rw [← hp2, List.length_map] at this
    omega
  have hne := gath_ne h1n hp2 HND.out
  have HM : Hid (∀ W, Below w2.heap.size w2 W → MapAt W w1.heap.size ps) := fun W hW => hm2.on (hW.block _ hm2.lt)
  have HF : Hid (∀ W, Below w2.heap.size w2 W → Fam (w1.heap.size + 1) W ps) := fun W hW => hf2.on hW
  have HP2 : Hid _ := hp2
  have HGK : Hid _ := gath_good HC0.out hp2
  have HB2 : Hid (Below w.heap.size w w2) := below_trans HB1.out hb2
  obtain ⟨⟨x0, x1⟩, _⟩ := (Blk2.on HBS1.out hb2).facts
  have S0 : w2.drew.cell? ⟨w.heap.size, 0, none⟩ = some (.slice (some ⟨b, o, none⟩) ns.length c) ∧ w2.drew.cell? ⟨w.heap.size, 1, none⟩ = some (.slice a2 ix.length c2) ∧ Below w2.heap.size w2 w2.drew := ⟨x0, x1, (Below.refl _ _).drew⟩
  clear hm2 hf2 hp2 hb2 t0 t1 x0 x1 hbnd HBS1 HB1
  cases bb with
  | false =>
    go_wp2
    go_region_held3 (fun w' => w'.cell? ⟨w.heap.size, 0, none⟩ = some (.slice (some ⟨b, o, none⟩) ns.length c) ∧ w'.cell? ⟨w.heap.size, 1, none⟩ = some (.slice a2 ix.length c2) ∧ Below w2.heap.size w2 w')
      (first | with_reducible assumption | exact pair_on (by with_reducible assumption) (by with_reducible assumption))
      (first | (go_at_call 42; refine (entries_any w1.heap.size ps _ (HM.out _ (pair_last (by with_reducible assumption))) (HF.out _ (pair_last (by with_reducible assumption))) hne hpl).mono ?_; rintro e w' ⟨uu, qs, rfl, hperm, hsort, hrow, hw⟩; obtain ⟨au, cu, rfl⟩ := hrow.form) | (go_at_call 41; refine (eqIdx HC0.out hrow (ent_idx HC0.out HP2.out hperm hsort) (HE.out _ (below_trans HB2.out (pair_last (by with_reducible assumption)))) HX.out HBB.out).mono ?_; rintro e w' ⟨rfl, hw⟩))
    have HB5 := pair_last (by with_reducible assumption)
    go_wp2
    go_ret2
    exact FindSays.err 1 (by unfold findErr; rw [HPE.out]; rfl) (by decide) (below_trans HB2.out HB5)
  | true =>
    go_wp2
    go_region_held3 (fun w' => w'.cell? ⟨w.heap.size, 0, none⟩ = some (.slice (some ⟨b, o, none⟩) ns.length c) ∧ w'.cell? ⟨w.heap.size, 1, none⟩ = some (.slice a2 ix.length c2) ∧ Below w2.heap.size w2 w')
      (first | with_reducible assumption | exact pair_on (by with_reducible assumption) (by with_reducible assumption))
      (first | (go_at_call 42; refine (entries_any w1.heap.size ps _ (HM.out _ (pair_last (by with_reducible assumption))) (HF.out _ (pair_last (by with_reducible assumption))) hne hpl).mono ?_; rintro e w' ⟨uu, qs, rfl, hperm, hsort, hrow, hw⟩; obtain ⟨au, cu, rfl⟩ := hrow.form) | (go_at_call 41; refine (eqIdx HC0.out hrow (ent_idx HC0.out HP2.out hperm hsort) (HE.out _ (below_trans HB2.out (pair_last (by with_reducible assumption)))) HX.out HBB.out).mono ?_; rintro e w' ⟨rfl, hw⟩))
    have HS5 := pair_id (by with_reducible assumption)
    obtain ⟨x0, x1, hB5⟩ := HS5
    have HFE : Hid (findErr ns ix l = chkList l) := by unfold Hid findErr; rw [HPE.out]; rfl
    have HB5 : Hid _ := hB5
    have HX5 : Hid _ := And.intro x0 x1
    clear hB5 x0 x1 S0 hrow hperm hsort
    go_wp2_with fail
    refine (HPC.out _ (below_trans HB2.out HB5.out)).mono ?_
    rintro e w6 ⟨rfl, hb6⟩
    have HB6 : Hid (Below w2.heap.size w2 w6) := below_trans HB5.out hb6
    obtain ⟨y0, y1⟩ := HX5.out
    replace y0 := cell_on hb6 y0
    replace y1 := cell_on hb6 y1
    have HX6 : Hid _ := And.intro y0 y1
    clear hb6 HB5 HX5 y0 y1
    by_cases hcl : chkList l = 0
    · have HCL : Hid (chkList l = 0) := hcl
      rw [hcl]
      clear hcl
      go_wp2_with fail
      refine (possible_any w1.heap.size ps _ ns l w6 (HM.out _ HB6.out) (HF.out _ HB6.out) HP2.out HND.out HGK.out (HLS.out _ (below_trans HB2.out HB6.out)) HCL.out).mono ?_
      rintro e w7 ⟨uu, rfl, hO, hb7⟩
      obtain ⟨au, cu, rfl⟩ := hO.form
      have HB7 : Hid (Below w.heap.size w w7) := below_trans (below_trans HB2.out HB6.out) hb7
      obtain ⟨y0, y1⟩ := HX6.out
      replace y0 := cell_on hb7 y0
      have HA7 : Hid (A3 w7 (.slice au (opTo ns l l.length).length cu) (opTo ns l l.length)) := by
        obtain ⟨xs, _, o1, o2⟩ := hO
        exact a3_of o1 (o2.on hb7)
      clear hO hb7 y1 HX6 HB6
      have HOP : Hid _ := opTo_all ns l
      by_cases hz : opTo ns l l.length = []
      · have HZ : Hid (findA ns ix l = []) := by
          unfold Hid findA
          rw [HFE.out, if_pos HCL.out, ← find_open HCL.out, ← HOP.out, hz]
          unfold allTo
          rw [List.filter_eq_nil_iff]
          intro n _ h
          cases h
        have e0 : (opTo ns l l.length).length = 0 := by rw [hz]; rfl
        rw [e0]
        clear e0 hz
        go_wp2
        go_ret2
        exact FindSays.nil 0 (by rw [HFE.out]; exact HCL.out) HZ.out HB7.out
      · have e0 : ¬ (((opTo ns l l.length).length : Int) = 0) := by
          have := List.length_pos_iff.2 hz
          omega
        have HNE : Hid (l.filter (openB ns) ≠ []) := by unfold Hid; rw [← HOP.out]; exact hz
        have HALL : Hid (Calls Tryz.prog 12 _ _ _) := all_call _ _ ns (opTo ns l l.length) w7 (HDOC.out _ HB7.out) HA7.out (HLD.out _ HB7.out).forms (HLD.out _ HB7.out).glob
        clear hz
        go_wp2_with fail
        refine HALL.out.mono ?_
        rintro e w8 ⟨x, rfl, hx8, hb8⟩
        have e1 : chkBoth ns (opTo ns l l.length) = 0 := by
          unfold chkBoth
          rw [if_pos HC0.out, HOP.out]
          exact chk_filter _ HCL.out HNE.out
        have e2 : allA ns (opTo ns l l.length) = findA ns ix l := by
          unfold allA findA
          rw [if_pos e1, HFE.out, if_pos HCL.out, HOP.out, find_open HCL.out]
        rw [e2] at hx8
        have hi8 := hx8.ints
        obtain ⟨a8, c8, rfl, -⟩ := id hx8
        rw [e1]
        have HI8 : Hid _ := hi8
        have HB8 : Hid (Below w.heap.size w w8) := below_trans HB7.out hb8
        clear hx8 hb8 hi8 e1 e2 HALL
        go_wp2
        go_ret2
        refine ⟨a8, c8, ?_, HI8.out, HB8.out⟩
        rw [HFE.out, HCL.out]
        rfl
    · have HCL : Hid (chkList l ≠ 0) := hcl
      have hcn : (chkList l != 0) = true := by simpa using hcl
      clear hcl
      generalize chkList l = r at *
      go_wp2
      go_ret2
      exact FindSays.err _ HFE.out HCL.out (below_trans HB2.out HB6.out)
theorem find_any (v u : Value) (ns : List Pl.Nd) (ix : List Pl.Er) (l : List Pl.D3) (w : World) (hp : PgAt w v ns ix) (hx : IxFit ix) (hl : A3 w u l) (hL : Laid w) :
    Calls Tryz.prog 11 #[v, u] w fun e w' => FindSays ns ix l w e w' := by
  by_cases hc : Pl.checkDoc ns = 0
  · exact find_good v u ns ix l w hp hx hl hL hc
  · exact find_bad v u ns ix l w hp hl (by simpa using hc)
end Go.Proofs.YtephhllfodlfbaaGreatDoor
/-
  A page that is changed, in its box.
-/
namespace Go.Proofs.YtephhllfodlfbaaGreatDoor
open Go.RowKit

/-- what a change answers of a right page -/
def Chg (w : World) (e : Ending) (w' : World) : Prop :=
  ∃ (E : Int) (a ai : Option Addr) (n m c ci : Nat), e = .returned (.tuple #[.agg #[.slice a n c, .slice ai m ci], .int .i64 E]) ∧ Below w.heap.size w w' ∧ (E = 0 → ∃ ms, Pl.checkDoc ms = 0 ∧ n = ms.length ∧ m = (Pl.idxAns ms).length ∧ DocAt w' (.slice a n c) ms ∧ EnsAt w' (.slice ai m ci) (Pl.idxAns ms))
theorem chg_of {E : Int} {ms : List Pl.Nd} {w w' : World} {e : Ending} (h : ChSays 0 E ms w e w') : Chg w e w' := by
  obtain ⟨v, rfl, hp, hb⟩ := h
  obtain ⟨a, c, ai, ci, rfl, hd, he⟩ := hp
  refine ⟨_, a, ai, _, _, c, ci, rfl, hb, fun h0 => ?_⟩
  have h1 : E = 0 ∧ Pl.checkDoc ms = 0 := by
    unfold chErr pgErr at h0
    rw [if_pos rfl] at h0
    by_cases hE : E = 0
    · rw [if_pos hE] at h0
      exact ⟨hE, h0⟩
    · rw [if_neg hE] at h0
      exact absurd h0 hE
  have h2 : chDoc 0 E ms = ms := by
    unfold chDoc pgDoc
    rw [if_pos rfl, if_pos h1.1, if_pos h1.2]
  have h3 : chIdx 0 E ms = Pl.idxAns ms := by
    unfold chIdx pgIdx
    rw [if_pos rfl, if_pos h1.1]
  rw [h2] at hd ⊢
  rw [h3] at he ⊢
  exact ⟨ms, h1.2, rfl, rfl, hd, he⟩
/-- a right page in its box, another box beside it, and one block more -/
structure St (w W : World) (M N B : Nat) (ob : Obj) (a ai : Option Addr) (c ci : Nat) (ms : List Pl.Nd) : Prop where
  bel : Below w.heap.size w W
  p : Blk2 W M (.slice a ms.length c) (.slice ai (Pl.idxAns ms).length ci)
  q : ∃ a0 l0 c0 a1 l1 c1, Blk2 W N (.slice a0 l0 c0) (.slice a1 l1 c1)
  doc : DocAt W (.slice a ms.length c) ms
  idx : EnsAt W (.slice ai (Pl.idxAns ms).length ci) (Pl.idxAns ms)
  ne : M ≠ N
  lo : w.heap.size ≤ M ∧ w.heap.size ≤ N
  b : W.heap[B]? = some ob
  bne : B ≠ M ∧ B ≠ N
  chk : Pl.checkDoc ms = 0
section
variable {w W W' : World} {M N B : Nat} {ob : Obj} {a ai a' ai' : Option Addr} {c ci c' ci' n m : Nat} {ms ms' : List Pl.Nd}
theorem blk_on {o : Obj} (h : W.heap[B]? = some o) (hb : Below W.heap.size W W') : W'.heap[B]? = some o := (hb.block B (Array.getElem?_eq_some_iff.1 h).1).trans h
theorem St.on (h : St w W M N B ob a ai c ci ms) (hb : Below W.heap.size W W') : St w W' M N B ob a ai c ci ms := by
  obtain ⟨a0, l0, c0, a1, l1, c1, hq⟩ := h.q
  exact ⟨below_trans h.bel hb, h.p.on hb, ⟨a0, l0, c0, a1, l1, c1, hq.on hb⟩, h.doc.on hb, h.idx.on hb, h.ne, h.lo, blk_on h.b hb, h.bne, h.chk⟩
theorem set_other {o : Obj} {K j : Nat} {v : Value} (h : W.heap[B]? = some o) (hne : B ≠ K) : (W.setCell ⟨K, j, none⟩ v).heap[B]? = some o := by
  rw [Below.heap_setCell _ _ _ _ (by exact hne)]; exact h
theorem Blk2.other {c0 c1 v : Value} {K j : Nat} (h : Blk2 W M c0 c1) (hne : M ≠ K) : Blk2 (W.setCell ⟨K, j, none⟩ v) M c0 c1 := set_other h hne
theorem St.set (h : St w W M N B ob a ai c ci ms) : St w ((W.setCell ⟨N, 0, none⟩ (.slice a' n c')).setCell ⟨N, 1, none⟩ (.slice ai' m ci')) M N B ob a ai c ci ms := by
  obtain ⟨a0, l0, c0, a1, l1, c1, hq⟩ := h.q
  have hq1 := hq.set0 (.slice a' n c')
  refine ⟨(h.bel.setCell (p := ⟨N, 0, none⟩) h.lo.2 _).setCell (p := ⟨N, 1, none⟩) h.lo.2 _, (h.p.other h.ne).other h.ne, ⟨_, _, _, _, _, _, hq1.set1 _⟩, (h.doc.sm hq.sm).sm hq1.sm, (h.idx.sm hq.sm).sm hq1.sm, h.ne, h.lo, set_other (set_other h.b h.bne.2) h.bne.2, h.bne, h.chk⟩
theorem St.put (h : St w W M N B ob a ai c ci ms) (hd : DocAt W (.slice a' ms'.length c') ms') (he : EnsAt W (.slice ai' (Pl.idxAns ms').length ci') (Pl.idxAns ms')) (hc : Pl.checkDoc ms' = 0) : St w ((W.setCell ⟨M, 0, none⟩ (.slice a' ms'.length c')).setCell ⟨M, 1, none⟩ (.slice ai' (Pl.idxAns ms').length ci')) M N B ob a' ai' c' ci' ms' := by
  obtain ⟨a0, l0, c0, a1, l1, c1, hq⟩ := h.q
  have hp1 := h.p.set0 (.slice a' ms'.length c')
  refine ⟨(h.bel.setCell (p := ⟨M, 0, none⟩) h.lo.1 _).setCell (p := ⟨M, 1, none⟩) h.lo.1 _, hp1.set1 _, ⟨_, _, _, _, _, _, (hq.other (Ne.symm h.ne)).other (Ne.symm h.ne)⟩, (hd.sm h.p.sm).sm hp1.sm, (he.sm h.p.sm).sm hp1.sm, h.ne, h.lo, set_other (set_other h.b h.bne.1) h.bne.1, h.bne, hc⟩
/-- a change's answer stored in the second box, then in the first -/
theorem St.put2 (h : St w W M N B ob a ai c ci ms) (hd : DocAt W (.slice a' ms'.length c') ms') (he : EnsAt W (.slice ai' (Pl.idxAns ms').length ci') (Pl.idxAns ms')) (hc : Pl.checkDoc ms' = 0) : St w ((((W.setCell ⟨N, 0, none⟩ (.slice a' ms'.length c')).setCell ⟨N, 1, none⟩ (.slice ai' (Pl.idxAns ms').length ci')).setCell ⟨M, 0, none⟩ (.slice a' ms'.length c')).setCell ⟨M, 1, none⟩ (.slice ai' (Pl.idxAns ms').length ci')) M N B ob a' ai' c' ci' ms' := by
  obtain ⟨a0, l0, c0, a1, l1, c1, hq⟩ := h.q
  have hq1 := hq.set0 (.slice a' ms'.length c')
  exact h.set.put ((hd.sm hq.sm).sm hq1.sm) ((he.sm hq.sm).sm hq1.sm) hc
theorem St.pg (h : St w W M N B ob a ai c ci ms) : PgAt W (.agg #[.slice a ms.length c, .slice ai (Pl.idxAns ms).length ci]) ms (Pl.idxAns ms) := ⟨a, c, ai, ci, rfl, h.doc, h.idx⟩
theorem St.cells (h : St w W M N B ob a ai c ci ms) : (W.cell? ⟨M, 0, none⟩ = some (.slice a ms.length c) ∧ W.cell? ⟨M, 1, none⟩ = some (.slice ai (Pl.idxAns ms).length ci)) ∧ (∀ i, W.frozen? ⟨M, i, none⟩ = false) ∧ ∀ i, W.frozen? ⟨N, i, none⟩ = false := by
  obtain ⟨a0, l0, c0, a1, l1, c1, hq⟩ := h.q
  exact ⟨h.p.facts.1, h.p.facts.2, hq.facts.2⟩
end
theorem right_pg {ms : List Pl.Nd} (h : Pl.checkDoc ms = 0) : pageErr ms (Pl.idxAns ms) = 0 := by
  unfold pageErr
  rw [if_pos h, if_pos rfl]
theorem insC (ms es : List Pl.Nd) (up at_ : Int) (v v2 : Value) (W : World) (hc : Pl.checkDoc ms = 0) (hp : PgAt W v ms (Pl.idxAns ms)) (hd : DocAt W v2 es) : Calls Tryz.prog 8 #[v, .int .i64 up, .int .i64 at_, .agg #[v2]] W fun e w' => Chg W e w' := by
  refine (linsert_any v ms _ up at_ v2 es W hp (ix_ans ms) hd).mono fun e w' h => ?_
  rw [right_pg hc] at h
  exact chg_of h
theorem remC (ms : List Pl.Nd) (n : Int) (v : Value) (W : World) (hc : Pl.checkDoc ms = 0) (hp : PgAt W v ms (Pl.idxAns ms)) : Calls Tryz.prog 9 #[v, .int .i64 n] W fun e w' => Chg W e w' := by
  refine (lremove_any v ms _ n W hp (ix_ans ms)).mono fun e w' h => ?_
  rw [right_pg hc] at h
  exact chg_of h
theorem putC (ms : List Pl.Nd) (n : Int) (x : Pl.Nd) (v xv : Value) (W : World) (hc : Pl.checkDoc ms = 0) (hp : PgAt W v ms (Pl.idxAns ms)) (hx : NdV W xv x) (hf : Fits x) : Calls Tryz.prog 10 #[v, .int .i64 n, xv] W fun e w' => Chg W e w' := by
  refine (lput_any v ms _ n xv x W hp (ix_ans ms) hx hf).mono fun e w' h => ?_
  rw [right_pg hc] at h
  exact chg_of h
/-- what is found, and all that there is to be found -/
theorem findC (ms : List Pl.Nd) (l : List Pl.D3) (v u : Value) (W : World) (hc : Pl.checkDoc ms = 0) (hp : PgAt W v ms (Pl.idxAns ms)) (hl : A3 W u l) (hL : Laid W) : Calls Tryz.prog 11 #[v, u] W fun e w' => ∃ a c, e = .returned (.tuple #[.slice a (allA ms l).length c, .int .i64 (chkBoth ms l)]) ∧ IntsAt w' (.slice a (allA ms l).length c) ((allA ms l).map fun (k : Nat) => (k : Int)) ∧ Below W.heap.size W w' := by
  refine (find_any v u ms _ l W hp (ix_ans ms) hl hL).mono fun e w' h => ?_
  have h1 : findErr ms (Pl.idxAns ms) l = chkBoth ms l := by
    unfold findErr chkBoth
    rw [if_pos (right_pg hc), if_pos hc]
  have h2 : findA ms (Pl.idxAns ms) l = allA ms l := by
    unfold findA allA
    rw [h1]
  unfold FindSays at h
  rw [h1, h2] at h
  exact h
theorem allC (ms : List Pl.Nd) (l : List Pl.D3) (v u : Value) (W : World) (hd : DocAt W v ms) (hl : A3 W u l) (hL : Laid W) : Calls Tryz.prog 12 #[.agg #[v], u] W fun e w' => ∃ a c, e = .returned (.tuple #[.slice a (allA ms l).length c, .int .i64 (chkBoth ms l)]) ∧ IntsAt w' (.slice a (allA ms l).length c) ((allA ms l).map fun (k : Nat) => (k : Int)) ∧ Below W.heap.size W w' := by
  refine (all_call v u ms l W hd hl hL.forms hL.glob).mono ?_
  rintro e w' ⟨x, rfl, hx, hb⟩
  have h1 := hx.ints
  obtain ⟨a, c, rfl, -⟩ := id hx
  exact ⟨a, c, rfl, h1, hb⟩
end Go.Proofs.YtephhllfodlfbaaGreatDoor
