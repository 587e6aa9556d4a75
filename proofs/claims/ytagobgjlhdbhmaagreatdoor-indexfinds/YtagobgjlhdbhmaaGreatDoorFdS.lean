/-
  index.possible: the paths that do not ask for what nobody has.
-/
import Derived.Test.YtagobgjlhdbhmaaGreatDoorFdQ
import Derived.WalkMore
import Derived.Test.YtagobgjlhdbhmaaGreatDoorRpg
namespace Go.Proofs.YtagobgjlhdbhmaaGreatDoor
open Go.RowKit

theorem chk_fits {l : List Pl.D3} (h : chkList l = 0) : l.length ≤ 5 ∧ ∀ p ∈ l, p.steps.length ≤ 5 ∧ (∀ s ∈ p.steps, s.tests.length ≤ 6) ∧ Pl.pForm Pl.isName Pl.isValue p = true := by
  obtain ⟨h1, _, h3, _⟩ := chk_parts h
  unfold Pl.fit3 Pl.fitUp at h1
  rw [Bool.and_eq_true, decide_eq_true_eq, List.all_eq_true] at h1
  unfold Pl.form3 Pl.evUp at h3
  rw [List.all_eq_true] at h3
  refine ⟨h1.1.2, fun p hp => ?_⟩
  have h2 := h1.2 p hp
  have h4 := h3 p hp
  rw [Bool.and_eq_true] at h2 h4
  have h5 := h2.1
  unfold Pl.pFits at h5
  rw [Bool.and_eq_true, decide_eq_true_eq, List.all_eq_true] at h5
  exact ⟨h5.1.2.1, fun s hs => by simpa using h5.2 s hs, h4.1⟩
/-- the row of paths that is built -/
def POut (w wr : World) (ns : List Pl.Nd) (l : List Pl.D3) (u : Value) (k : Nat) : Prop := ∃ xs, xs.length = (opTo ns l k).length * 2 ∧ wr.ownsRow w.heap.size 70 2 u (opTo ns l k).length xs ∧ PV w (opTo ns l k) xs
theorem POut.on {w wr w' : World} {ns : List Pl.Nd} {l : List Pl.D3} {u : Value} {k : Nat} (h : POut w wr ns l u k) (hb : Below wr.heap.size wr w') : POut w w' ns l u k := by
  obtain ⟨xs, h1, h2, h3⟩ := h
  exact ⟨xs, h1, own_on h2 hb, h3⟩
theorem POut.form {w wr : World} {ns : List Pl.Nd} {l : List Pl.D3} {u : Value} {k : Nat} (h : POut w wr ns l u k) : ∃ a c, u = .slice a (opTo ns l k).length c := by
  obtain ⟨xs, _, h2, _⟩ := h
  exact own_form h2
theorem POut.no {w wr : World} {ns : List Pl.Nd} {l : List Pl.D3} {u : Value} {k : Nat} (h : POut w wr ns l u k) (hk : k < l.length) (ho : openB ns l[k] = false) : POut w wr ns l u (k + 1) := by
  unfold POut
  rw [opTo_no hk ho]
  exact h
set_option maxRecDepth 100000 in
set_option maxHeartbeats 8000000 in
theorem possible_any (b : Nat) (ps : List EP) (v : Value) (ns : List Pl.Nd) (l : List Pl.D3) (w : World) (hm : MapAt w b ps) (hf : Fam (b + 1) w ps) (hp : ps.map (·.1) = Pl.gathTo ns ns.length) (hd : ∀ x ∈ ns, (Pl.keysOf x).Nodup) (hgk : ∀ p ∈ ps, Good p.1.key) (hl : A3 w v l) (hc : chkList l = 0) :
    Calls Tryz.prog 56 #[.map (some b), v] w fun e w' => ∃ u, e = .returned u ∧ POut w w' ns l u l.length ∧ Below w.heap.size w w' := by
  obtain ⟨h5, hfit⟩ := chk_fits hc
  have HFIT : Hid _ := hfit
  obtain ⟨a, c, rfl, _, hA⟩ := hl
  have HA : Hid _ := hA
  have HM : Hid (∀ W, Below w.heap.size w W → MapAt W b ps) := fun W hW => hm.on (hW.block b hm.lt)
  have HF : Hid (∀ W, Below w.heap.size w W → Fam (b + 1) W ps) := fun W hW => hf.on hW
  have HP : Hid _ := hp
  have HD : Hid _ := hd
  have HGK : Hid _ := hgk
  clear hfit hA hm hf hp hd hgk hc
  go_enter Tryz.func56, Tryz.ntmps56
  go_wp2
  go_step3
  go_wp2
  go_step3
  go_wp2
  go_loopw [5, 12] (fun u i wr => ∃ k : Nat, k ≤ l.length ∧ i = .int .i64 k ∧ Hid (POut w wr ns l u k) ∧ Hid (Below w.heap.size w wr)) (fun _ i _ => l.length - (intOf i).toNat)
  case atStart => exact ⟨0, Nat.zero_le _, rfl, ⟨[], rfl, World.ownsRow_nil _ _ _ _, PV.nil _⟩, Below.refl _ _⟩
  case round =>
    obtain ⟨k, hk, rfl, HO, HB⟩ := hrel
    obtain ⟨au, cu, rfl⟩ := HO.out.form
    by_cases hlt : k < l.length
    · rcases HA.out with h0 | ⟨b0, o, rfl, hcell⟩
      · rw [h0] at hlt; simp at hlt
      obtain ⟨vs, vl, n0, n1, hS, hL⟩ := hcell k hlt
      obtain ⟨f1, f2, f3⟩ := HFIT.out l[k] (List.getElem_mem hlt)
      obtain ⟨as_, cs, rfl⟩ := hS.form
      obtain ⟨al, cl, rfl⟩ := hL.form
      have HS : Hid (RowAt (StpAt A2) 2 w (.slice as_ l[k].steps.length cs) l[k].steps) := hS
      have HL : Hid (RowAt IntAt 1 w (.slice al l[k].links.length cl) l[k].links) := hL
      have HN0 : Hid (∀ ho, POut w wr ns l (.slice au (opTo ns l k).length cu) k → openB ns l[k] = ho → True) := fun _ _ _ => trivial
      have HNO : Hid (∀ W, openB ns l[k] = false → POut w W ns l (.slice au (opTo ns l k).length cu) k → POut w W ns l (.slice au (opTo ns l k).length cu) (k + 1)) := fun W ho h => h.no hlt ho
      have HYES : Hid (openB ns l[k] = true → opTo ns l (k + 1) = opTo ns l k ++ [l[k]]) := opTo_yes hlt
      have HON : Hid (∀ j (h : j < (askP l[k]).length), (Pl.whoTo ns (askP l[k])[j] ns.length).length = 0 → openB ns l[k] = false) := fun j h hj => open_no h hj
      have HOY : Hid ((∀ j (h : j < (askP l[k]).length), (Pl.whoTo ns (askP l[k])[j] ns.length).length ≠ 0) → openB ns l[k] = true) := open_yes
      have HGD : Hid (∀ j (h : j < (askP l[k]).length), Good (askP l[k])[j]) := fun j h => ask_good f3 _ (List.getElem_mem h)
      replace n0 := cell_on HB.out n0
      replace n1 := cell_on HB.out n1
      have HLo : Hid ((opTo ns l k).length + 1 ≤ 64) := by unfold Hid; have := opTo_len ns l k; omega
      have i1 : (0 : Int) ≤ (k : Int) := by omega
      have i2 : (k : Int) < (l.length : Int) := by omega
      clear hcell hS hL HN0
      generalize l[k] = p at *
      have HBa : Hid (Below wr.heap.size wr (wr.alloc (.cells #[.slice as_ p.steps.length cs, .slice al p.links.length cl] 70))) := on_alloc _ _
      have c0 : (wr.alloc (.cells #[.slice as_ p.steps.length cs, .slice al p.links.length cl] 70)).cell? ⟨wr.heap.size, 0, none⟩ = some (.slice as_ p.steps.length cs) := by simp [go_sem]
      have c1 : (wr.alloc (.cells #[.slice as_ p.steps.length cs, .slice al p.links.length cl] 70)).cell? ⟨wr.heap.size, 1, none⟩ = some (.slice al p.links.length cl) := by simp [go_sem]
      have HC0 : Hid _ := c0
      have HC1 : Hid _ := c1
      clear c0 c1
      obtain ⟨wq, hwq⟩ : ∃ q, q = wr := ⟨_, rfl⟩
      subst hwq
      go_wp2_with fail
      generalize wq.alloc (.cells #[.slice as_ p.steps.length cs, .slice al p.links.length cl] 70) = w0 at *
      have hB0 : Below w.heap.size w w0 := below_trans HB.out HBa.out
      refine (asked_any isL_2 _ p _ ⟨_, _, rfl, HS.out.map fun b o x hx => hx.on isL_2 hB0, HL.out.map fun b o x hx => cell_on hB0 hx⟩ f1 f2).mono ?_
      rintro e w1 ⟨u, rfl, hK, hb1⟩
      obtain ⟨ak, ck, rfl⟩ := own_form hK
      have HK : Hid (KR (w0.heap.size + 1) w1 (.slice ak (askP p).length ck) (askP p)) := hK
      have HB1 : Hid (Below w.heap.size w w1) := below_trans hB0 hb1
      have HO1 : Hid (POut w w1 ns l (.slice au (opTo ns l k).length cu) k) := (HO.out.on HBa.out).on hb1
      have HX1 : Hid (w1.cell? ⟨wq.heap.size, 0, none⟩ = some (.slice as_ p.steps.length cs) ∧ w1.cell? ⟨wq.heap.size, 1, none⟩ = some (.slice al p.links.length cl)) := ⟨cell_on hb1 HC0.out, cell_on hb1 HC1.out⟩
      have hkl : (askP p).length ≤ 35 := by rw [← askTo_all]; exact askTo_len f2 f1
      clear hK hb1 hB0 HC0 HC1 HBa n0 n1 f1 f2 f3
      generalize askP p = ks at *
      go_wp2
      go_loopw [19] (fun i wy => ∃ j : Nat, j ≤ ks.length ∧ i = .int .i64 j ∧ Hid (∀ j' (h : j' < ks.length), j' < j → (Pl.whoTo ns ks[j'] ns.length).length ≠ 0) ∧ Hid (Below w1.heap.size w1 wy)) (fun i _ => ks.length - (intOf i).toNat)
      case atStart => exact ⟨0, Nat.zero_le _, rfl, fun j' _ h => by omega, Below.refl _ _⟩
      case round =>
        as_aux_lemma =>
        obtain ⟨j, hj, rfl, HQ, HBy⟩ := hrel
        by_cases hjl : j < ks.length
        · obtain ⟨g, cg, eg, _, _⟩ := HK.out.form (by omega)
          obtain ⟨rfl, rfl⟩ : ak = some ⟨g, 0, none⟩ ∧ ck = cg := by injection eg with q1 q2 q3; exact ⟨q1, q3⟩
          obtain ⟨q0, q1⟩ := own_two (own_on HK.out HBy.out) hjl (keyCells_get ks j hjl)
          have HGj := HGD.out j hjl
          have HONj := HON.out j hjl
          have HQn : Hid ((Pl.whoTo ns ks[j] ns.length).length ≠ 0 → ∀ j' (h : j' < ks.length), j' < j + 1 → (Pl.whoTo ns ks[j'] ns.length).length ≠ 0) := fun hn j' h h' => by
            by_cases e : j' = j
            · subst e; exact hn
            · exact HQ.out j' h (by omega)
          have HLL : Hid (∀ (v : Value), Looked ps ks[j] v → ∃ a c, v = .slice a (Pl.whoTo ns ks[j] ns.length).length c) := fun v hv => looked_len hv (HF.out _ (Below.refl _ _)) HP.out HD.out
          generalize ks[j] = key at *
          generalize (Pl.whoTo ns key ns.length).length = N at *
          obtain ⟨kk, kn⟩ := key
          dsimp only at q0 q1
          have HGJ : Hid (Good (kk, kn)) := HGj
          have HONJ : Hid _ := HONj
          have j1 : (0 : Int) ≤ (j : Int) := by omega
          have j2 : (j : Int) < (ks.length : Int) := by omega
          have HBz : Hid (Below w1.heap.size w1 (wr.alloc (.cells #[.int .i64 kk, .string ⟨kn.toArray⟩] 117))) := below_trans HBy.out (on_alloc _ _)
          clear HGj HONj eg
          go_wp2_with (with_reducible refine at_lookup ?_)
          generalize wr.alloc (.cells #[.int .i64 kk, .string ⟨kn.toArray⟩] 117) = wz at *
          unfold Hid
          refine wpList_lookup (b := b) (ps := ps) (k := (kk, kn)) ?_ (.tmp 23) (.tmp 24) ?_ ?_ ?_ (HM.out _ (below_trans HB1.out HBz.out)) HGK.out HGJ.out Tryz.zero55 ?_
          · rfl
          · rfl
          · rfl
          · rfl
          as_aux_lemma =>
          intro vv hvv
          obtain ⟨av, cv, rfl⟩ := HLL.out vv hvv
          clear hvv q0 q1
          rcases Nat.eq_zero_or_pos N with hN | hN
          · subst hN
            have HO2 : Hid (POut w wz ns l (.slice au (opTo ns l k).length cu) (k + 1)) := HNO.out _ (HONJ.out rfl) (HO1.out.on HBz.out)
            have HB2 : Hid (Below w.heap.size w wz) := below_trans HB1.out HBz.out
            go_wp2
            exact ⟨⟨k + 1, hlt, by go_num, HO2, HB2⟩, by simp [intOf]; omega⟩
          · have hN1 : ¬ ((N : Int) = 0) := by omega
            have HQ2 := HQn.out (by omega)
            have HQ3 : Hid (∀ j' (h : j' < ks.length), j' < j + 1 → (Pl.whoTo ns ks[j'] ns.length).length ≠ 0) := HQ2
            clear HQ2
            go_wp2
            exact ⟨⟨j + 1, hjl, by go_num, HQ3, HBz⟩, by simp [intOf]; omega⟩
        · have HOp : Hid (openB ns p = true) := HOY.out fun j' h => HQ.out j' h (by omega)
          obtain ⟨x0, x1⟩ := HX1.out
          replace x0 := cell_on HBy.out x0
          replace x1 := cell_on HBy.out x1
          obtain ⟨xs, hxl, hxo, hxp⟩ := HO1.out.on HBy.out
          have HXL : Hid _ := hxl
          have HXO : Hid (wr.ownsRow w.heap.size 70 2 (.slice au (opTo ns l k).length cu) (opTo ns l k).length xs) := hxo
          have HXP : Hid (PV w (opTo ns l k) xs) := hxp
          have HBw : Hid (Below w.heap.size w wr) := below_trans HB1.out HBy.out
          have hsz : w.heap.size ≤ wr.heap.size := HBw.out.size
          clear hxl hxo hxp
          go_wp2_with (at_builtin; refine Hid.out ?_)
          unfold Hid
          refine wpList_padd (B := w.heap.size) (w2 := wr) (v := .slice au (opTo ns l k).length cu) (n := (opTo ns l k).length) (xs := xs) (a1 := as_) (n1 := p.steps.length) (c1 := cs) (a2 := al) (n2 := p.links.length) (c2 := cl) ?_ (.tmp 29) (.tmp 31) ?_ ?_ ?_ HXO.out HLo.out hsz ?_
          · rfl
          · rfl
          · rfl
          · first | rfl | (simp [Act.eval]; done)
          as_aux_lemma =>
          intro g cap w' ho' hg'
          have HO' : Hid (POut w w' ns l (.slice (some ⟨g, 0, none⟩) ((opTo ns l k).length + 1) cap) (k + 1)) := by
            refine ⟨xs ++ [.slice as_ p.steps.length cs, .slice al p.links.length cl], ?_, ?_, ?_⟩
            · rw [HYES.out HOp.out]; simp [HXL.out]; omega
            · rw [HYES.out HOp.out, List.length_append]; exact ho'
            · rw [HYES.out HOp.out]; exact HXP.out.snoc HXL.out HS.out HL.out
          have HB' : Hid (Below w.heap.size w w') := (below_trans HBw.out (on_alloc _ _)).grown hg' (by have := HBw.out.size; simp; omega) (fun k hk => by have := (HXO.out.lt k hk).1; omega)
          clear ho' hg'
          go_wp2
          exact ⟨⟨k + 1, hlt, by go_num, HO', HB'⟩, by simp [intOf]; omega⟩
    · obtain rfl : k = l.length := by omega
      go_wp2
      try rw [Exit.noGoto_ret]
      go_ret
      exact ⟨_, rfl, HO.out, HB.out⟩
end Go.Proofs.YtagobgjlhdbhmaaGreatDoor
/-
  index.Find: whatever it is handed.
-/
namespace Go.Proofs.YtagobgjlhdbhmaaGreatDoor
open Go.RowKit

def FindSays (ns : List Pl.Nd) (ix : List Pl.Er) (l : List Pl.D3) (w : World) (e : Ending) (w' : World) : Prop :=
  ∃ a c, e = .returned (.tuple #[.slice a (findA ns ix l).length c, .int .i64 (findErr ns ix l)]) ∧ IntsAt w' (.slice a (findA ns ix l).length c) ((findA ns ix l).map fun (k : Nat) => (k : Int)) ∧ Below w.heap.size w w'
theorem FindSays.nil {ns : List Pl.Nd} {ix : List Pl.Er} {l : List Pl.D3} {w w' : World} (r : Int) (h : findErr ns ix l = r) (h0 : findA ns ix l = []) (hb : Below w.heap.size w w') : FindSays ns ix l w (.returned (.tuple #[.slice Option.none 0 0, .int .i64 r])) w' := by
  unfold FindSays
  rw [h, h0]
  exact ⟨_, _, rfl, ⟨_, _, rfl, Or.inl rfl⟩, hb⟩
theorem find_err {ns : List Pl.Nd} {ix : List Pl.Er} {l : List Pl.D3} (h : findErr ns ix l ≠ 0) : findA ns ix l = [] := by
  unfold findA
  rw [if_neg h]
theorem FindSays.err {ns : List Pl.Nd} {ix : List Pl.Er} {l : List Pl.D3} {w w' : World} (r : Int) (h : findErr ns ix l = r) (h0 : r ≠ 0) (hb : Below w.heap.size w w') : FindSays ns ix l w (.returned (.tuple #[.slice Option.none 0 0, .int .i64 r])) w' :=
  FindSays.nil r h (find_err (by rw [h]; exact h0)) hb
theorem eqIdx {l : List Pl.Er} {ns : List Pl.Nd} {B : Nat} {w : World} {v v1 : Value} {qs : List EP} {b : Bool} (hc : Pl.checkDoc ns = 0) (hrow : ERow B w v qs) (hm : qs.map (fun p => Pl.erOf p.1) = (Pl.idxTo ns ns.length).map Pl.erOf) (h1 : EnsAt w v1 l) (hl : IxFit l) (hb : sameE l (Pl.idxAns ns) = b) :
    Calls Tryz.prog 53 #[v1, v, .func (.func 54) #[] #[]] w fun e w' => e = .returned (.bool b) ∧ Below w.heap.size w w' := by
  have h2 := hrow.ens
  rw [hm, show (Pl.idxTo ns ns.length).map Pl.erOf = Pl.idxAns ns by unfold Pl.idxAns; rw [if_pos hc]] at h2
  refine (eqFunc_any v1 v l (Pl.idxAns ns) w hl.1 hl.2 h1 h2).mono ?_
  rintro e w' ⟨rfl, hd⟩
  exact ⟨by rw [hb], hd⟩
theorem pair_id {w W : World} {p0 p1 : Addr} {v0 v1 : Value} (h : W.cell? p0 = some v0 ∧ W.cell? p1 = some v1 ∧ Below w.heap.size w W) : W.cell? p0 = some v0 ∧ W.cell? p1 = some v1 ∧ Below w.heap.size w W := h
theorem gath_good {ns : List Pl.Nd} {ps : List EP} (h : Pl.checkDoc ns = 0) (hm : ps.map (·.1) = Pl.gathTo ns ns.length) : ∀ p ∈ ps, Good p.1.key := fun p hp =>
  Pl.gath_keys (check_keys h).1 ns.length p.1 (by rw [← hm]; exact List.mem_map.2 ⟨p, hp, rfl⟩)
set_option maxRecDepth 100000 in
set_option maxHeartbeats 4000000 in
theorem find_bad (v u : Value) (ns : List Pl.Nd) (ix : List Pl.Er) (l : List Pl.D3) (w : World) (hp : PgAt w v ns ix) (hl : A3 w u l) (hc : (Pl.checkDoc ns != 0) = true) :
    Calls Tryz.prog 26 #[v, u] w fun e w' => FindSays ns ix l w e w' := by
  have hc' : ¬ Pl.checkDoc ns = 0 := by simpa using hc
  have HR : Hid (findErr ns ix l = Pl.checkDoc ns) := by
    unfold Hid findErr pageErr
    rw [if_neg hc', if_neg hc']
  obtain ⟨a, c, a2, c2, rfl, hd, he⟩ := hp
  obtain ⟨al, cl, rfl, -⟩ := isL_3.form hl
  have hb0 := on_alloc w (.cells #[.slice a ns.length c, .slice a2 ix.length c2] 59)
  have HB0 : Hid (Below _ _ _) := hb0
  obtain ⟨⟨s0, s1⟩, _⟩ := (Blk2.new w (.slice a ns.length c) (.slice a2 ix.length c2)).facts
  have HCHK : Hid (Calls Tryz.prog 46 _ _ _) := check_any (.slice a ns.length c) ns _ hd.2.2 (hd.1.on hb0)
  have HNZ : Hid (Pl.checkDoc ns ≠ 0) := hc'
  clear hd he hl hb0 hc'
  generalize Pl.checkDoc ns = r at *
  go_enter Tryz.func26, Tryz.ntmps26
  go_wp2_with fail
  generalize w.alloc (.cells #[.slice a ns.length c, .slice a2 ix.length c2] 59) = w0 at *
  refine HCHK.out.mono ?_
  rintro e w1 ⟨rfl, hb1⟩
  have HB1 : Hid (Below w.heap.size w w1) := below_trans HB0.out hb1
  clear hb1
  go_wp2
  go_ret2
  exact FindSays.err _ HR.out HNZ.out HB1.out
set_option maxRecDepth 100000 in
set_option maxHeartbeats 8000000 in
theorem find_good (v u : Value) (ns : List Pl.Nd) (ix : List Pl.Er) (l : List Pl.D3) (w : World) (hp : PgAt w v ns ix) (hx : IxFit ix) (hl : A3 w u l) (hL : Laid w) (hc : Pl.checkDoc ns = 0) :
    Calls Tryz.prog 26 #[v, u] w fun e w' => FindSays ns ix l w e w' := by
  obtain ⟨h1n, h64, _⟩ := check_zero hc
  have hsh := check_short hc
  obtain ⟨hgood, hndp⟩ := check_keys hc
  obtain ⟨a, c, a2, c2, rfl, hd, he⟩ := hp
  obtain ⟨al, cl, rfl, -⟩ := isL_3.form hl
  obtain ⟨a', c', e2, hnil | ⟨b, o, ha, hcell⟩⟩ := id hd.1
  · subst hnil; simp at h1n
  injection e2 with q1 _ q3
  subst q1 q3 ha
  have hb0 := on_alloc w (.cells #[.slice (some ⟨b, o, none⟩) ns.length c, .slice a2 ix.length c2] 59)
  have HB0 : Hid (Below _ _ _) := hb0
  have HBS : Hid (Blk2 _ _ _ _) := Blk2.new w (.slice (some ⟨b, o, none⟩) ns.length c) (.slice a2 ix.length c2)
  obtain ⟨⟨s0, s1⟩, _⟩ := (Blk2.new w (.slice (some ⟨b, o, none⟩) ns.length c) (.slice a2 ix.length c2)).facts
  have hchk := check_any (.slice (some ⟨b, o, none⟩) ns.length c) ns _ hd.2.2 (hd.1.on hb0)
  rw [hc] at hchk
  have HCHK : Hid (Calls Tryz.prog 46 _ _ _) := hchk
  have HCELL : Hid (∀ W, Below w.heap.size w W → ∀ i (h : i < ns.length), NdAt W b (o + i * 5) ns[i]) := fun W hW i hi => (hcell i hi).on hW
  have HDOC : Hid (∀ W, Below w.heap.size w W → DocAt W (.slice (some ⟨b, o, none⟩) ns.length c) ns) := fun W hW => hd.on hW
  have HE : Hid (∀ W, Below w.heap.size w W → EnsAt W (.slice a2 ix.length c2) ix) := fun W hW => he.on hW
  have HLS : Hid (∀ W, Below w.heap.size w W → A3 W (.slice al l.length cl) l) := fun W hW => isL_3.on hl hW
  have HLD : Hid (∀ W, Below w.heap.size w W → Laid W) := fun W hW => hL.on hW
  have HPC : Hid (∀ W, Below w.heap.size w W → Calls Tryz.prog 55 #[.slice al l.length cl] W fun e w' => e = .returned (.int .i64 (chkList l)) ∧ Below W.heap.size W w') := fun W hW => pathCheck_any W _ l (isL_3.on hl hW) (hL.on hW).forms
  have HX : Hid (IxFit _) := hx
  have HC0 : Hid (Pl.checkDoc ns = 0) := hc
  have HSH : Hid (∀ x ∈ ns, x.cls.length ≤ 6) := fun x hx => (hsh x hx).1
  have HGO : Hid _ := hgood
  have HND : Hid _ := hndp
  clear hchk hd he hl hL hcell hb0 hsh hgood hndp hx hc
  obtain ⟨bb, hbb⟩ : ∃ bb, sameE ix (Pl.idxAns ns) = bb := ⟨_, rfl⟩
  have HBB : Hid _ := hbb
  have HPE : Hid (pageErr ns ix = if bb = true then 0 else 1) := by
    unfold Hid pageErr
    rw [if_pos HC0.out, ← hbb]
    by_cases h : ix = Pl.idxAns ns
    · rw [if_pos h, if_pos (show sameE ix (Pl.idxAns ns) = true from decide_eq_true h)]
    · rw [if_neg h, if_neg (by unfold sameE; rw [decide_eq_false h]; simp)]
  clear hbb
  go_enter Tryz.func26, Tryz.ntmps26
  go_wp2_with fail
  generalize w.alloc (.cells #[.slice (some ⟨b, o, none⟩) ns.length c, .slice a2 ix.length c2] 59) = w0 at *
  refine HCHK.out.mono ?_
  rintro e w1 ⟨rfl, hb1⟩
  have HB1 : Hid (Below w.heap.size w w1) := below_trans HB0.out hb1
  have HBS1 : Hid (Blk2 _ _ _ _) := Blk2.on HBS.out hb1
  obtain ⟨⟨t0, t1⟩, _⟩ := HBS1.out.facts
  clear hb1 s0 s1 HCHK HB0 HBS
  go_wp2_with fail
  refine (gather_any b o c ns w1 h64 HSH.out HGO.out (HCELL.out _ HB1.out)).mono ?_
  rintro e w2 ⟨ps, rfl, hm2, hf2, hp2, hb2⟩
  have hbnd := Pl.gath_fit HSH.out ns.length
  have hpl : ps.length ≤ 1000 := by
    have := hbnd.1
    rw [← hp2, List.length_map] at this
    omega
  have hne := gath_ne h1n hp2 HND.out
  have HM : Hid (∀ W, Below w2.heap.size w2 W → MapAt W w1.heap.size ps) := fun W hW => hm2.on (hW.block _ hm2.lt)
  have HF : Hid (∀ W, Below w2.heap.size w2 W → Fam (w1.heap.size + 1) W ps) := fun W hW => hf2.on hW
  have HP2 : Hid _ := hp2
  have HGK : Hid _ := gath_good HC0.out hp2
  have HB2 : Hid (Below w.heap.size w w2) := below_trans HB1.out hb2
  obtain ⟨⟨x0, x1⟩, _⟩ := (Blk2.on HBS1.out hb2).facts
  have S0 : w2.drew.cell? ⟨w.heap.size, 0, none⟩ = some (.slice (some ⟨b, o, none⟩) ns.length c) ∧ w2.drew.cell? ⟨w.heap.size, 1, none⟩ = some (.slice a2 ix.length c2) ∧ Below w2.heap.size w2 w2.drew := ⟨x0, x1, (Below.refl _ _).drew⟩
  clear hm2 hf2 hp2 hb2 t0 t1 x0 x1 hbnd HBS1 HB1
  cases bb with
  | false =>
    go_wp2
    go_region_held3 (fun w' => w'.cell? ⟨w.heap.size, 0, none⟩ = some (.slice (some ⟨b, o, none⟩) ns.length c) ∧ w'.cell? ⟨w.heap.size, 1, none⟩ = some (.slice a2 ix.length c2) ∧ Below w2.heap.size w2 w')
      (first | with_reducible assumption | exact pair_on (by with_reducible assumption) (by with_reducible assumption))
      (first | (go_at_call 47; refine (entries_any w1.heap.size ps _ (HM.out _ (pair_last (by with_reducible assumption))) (HF.out _ (pair_last (by with_reducible assumption))) hne hpl).mono ?_; rintro e w' ⟨uu, qs, rfl, hperm, hsort, hrow, hw⟩; obtain ⟨au, cu, rfl⟩ := hrow.form) | (go_at_call 53; refine (eqIdx HC0.out hrow (ent_idx HC0.out HP2.out hperm hsort) (HE.out _ (below_trans HB2.out (pair_last (by with_reducible assumption)))) HX.out HBB.out).mono ?_; rintro e w' ⟨rfl, hw⟩))
    have HB5 := pair_last (by with_reducible assumption)
    go_wp2
    go_ret2
    exact FindSays.err 1 (by unfold findErr; rw [HPE.out]; rfl) (by decide) (below_trans HB2.out HB5)
  | true =>
    go_wp2
    go_region_held3 (fun w' => w'.cell? ⟨w.heap.size, 0, none⟩ = some (.slice (some ⟨b, o, none⟩) ns.length c) ∧ w'.cell? ⟨w.heap.size, 1, none⟩ = some (.slice a2 ix.length c2) ∧ Below w2.heap.size w2 w')
      (first | with_reducible assumption | exact pair_on (by with_reducible assumption) (by with_reducible assumption))
      (first | (go_at_call 47; refine (entries_any w1.heap.size ps _ (HM.out _ (pair_last (by with_reducible assumption))) (HF.out _ (pair_last (by with_reducible assumption))) hne hpl).mono ?_; rintro e w' ⟨uu, qs, rfl, hperm, hsort, hrow, hw⟩; obtain ⟨au, cu, rfl⟩ := hrow.form) | (go_at_call 53; refine (eqIdx HC0.out hrow (ent_idx HC0.out HP2.out hperm hsort) (HE.out _ (below_trans HB2.out (pair_last (by with_reducible assumption)))) HX.out HBB.out).mono ?_; rintro e w' ⟨rfl, hw⟩))
    have HS5 := pair_id (by with_reducible assumption)
    obtain ⟨x0, x1, hB5⟩ := HS5
    have HFE : Hid (findErr ns ix l = chkList l) := by unfold Hid findErr; rw [HPE.out]; rfl
    have HB5 : Hid _ := hB5
    have HX5 : Hid _ := And.intro x0 x1
    clear hB5 x0 x1 S0 hrow hperm hsort
    go_wp2_with fail
    refine (HPC.out _ (below_trans HB2.out HB5.out)).mono ?_
    rintro e w6 ⟨rfl, hb6⟩
    have HB6 : Hid (Below w2.heap.size w2 w6) := below_trans HB5.out hb6
    obtain ⟨y0, y1⟩ := HX5.out
    replace y0 := cell_on hb6 y0
    replace y1 := cell_on hb6 y1
    have HX6 : Hid _ := And.intro y0 y1
    clear hb6 HB5 HX5 y0 y1
    by_cases hcl : chkList l = 0
    · have HCL : Hid (chkList l = 0) := hcl
      rw [hcl]
      clear hcl
      go_wp2_with fail
      refine (possible_any w1.heap.size ps _ ns l w6 (HM.out _ HB6.out) (HF.out _ HB6.out) HP2.out HND.out HGK.out (HLS.out _ (below_trans HB2.out HB6.out)) HCL.out).mono ?_
      rintro e w7 ⟨uu, rfl, hO, hb7⟩
      obtain ⟨au, cu, rfl⟩ := hO.form
      have HB7 : Hid (Below w.heap.size w w7) := below_trans (below_trans HB2.out HB6.out) hb7
      obtain ⟨y0, y1⟩ := HX6.out
      replace y0 := cell_on hb7 y0
      have HA7 : Hid (A3 w7 (.slice au (opTo ns l l.length).length cu) (opTo ns l l.length)) := by
        obtain ⟨xs, _, o1, o2⟩ := hO
        exact a3_of o1 (o2.on hb7)
      clear hO hb7 y1 HX6 HB6
      have HOP : Hid _ := opTo_all ns l
      by_cases hz : opTo ns l l.length = []
      · have HZ : Hid (findA ns ix l = []) := by
          unfold Hid findA
          rw [HFE.out, if_pos HCL.out, ← find_open HCL.out, ← HOP.out, hz]
          unfold allTo
          rw [List.filter_eq_nil_iff]
          intro n _ h
          cases h
        have e0 : (opTo ns l l.length).length = 0 := by rw [hz]; rfl
        rw [e0]
        clear e0 hz
        go_wp2
        go_ret2
        exact FindSays.nil 0 (by rw [HFE.out]; exact HCL.out) HZ.out HB7.out
      · have e0 : ¬ (((opTo ns l l.length).length : Int) = 0) := by
          have := List.length_pos_iff.2 hz
          omega
        have HNE : Hid (l.filter (openB ns) ≠ []) := by unfold Hid; rw [← HOP.out]; exact hz
        have HALL : Hid (Calls Tryz.prog 14 _ _ _) := all_call _ _ ns (opTo ns l l.length) w7 (HDOC.out _ HB7.out) HA7.out (HLD.out _ HB7.out).forms (HLD.out _ HB7.out).glob
        clear hz
        go_wp2_with fail
        refine HALL.out.mono ?_
        rintro e w8 ⟨x, rfl, hx8, hb8⟩
        have e1 : chkBoth ns (opTo ns l l.length) = 0 := by
          unfold chkBoth
          rw [if_pos HC0.out, HOP.out]
          exact chk_filter _ HCL.out HNE.out
        have e2 : allA ns (opTo ns l l.length) = findA ns ix l := by
          unfold allA findA
          rw [if_pos e1, HFE.out, if_pos HCL.out, HOP.out, find_open HCL.out]
        rw [e2] at hx8
        have hi8 := hx8.ints
        obtain ⟨a8, c8, rfl, -⟩ := id hx8
        rw [e1]
        have HI8 : Hid _ := hi8
        have HB8 : Hid (Below w.heap.size w w8) := below_trans HB7.out hb8
        clear hx8 hb8 hi8 e1 e2 HALL
        go_wp2
        go_ret2
        refine ⟨a8, c8, ?_, HI8.out, HB8.out⟩
        rw [HFE.out, HCL.out]
        rfl
    · have HCL : Hid (chkList l ≠ 0) := hcl
      have hcn : (chkList l != 0) = true := by simpa using hcl
      clear hcl
      generalize chkList l = r at *
      go_wp2
      go_ret2
      exact FindSays.err _ HFE.out HCL.out (below_trans HB2.out HB6.out)
theorem find_any (v u : Value) (ns : List Pl.Nd) (ix : List Pl.Er) (l : List Pl.D3) (w : World) (hp : PgAt w v ns ix) (hx : IxFit ix) (hl : A3 w u l) (hL : Laid w) :
    Calls Tryz.prog 26 #[v, u] w fun e w' => FindSays ns ix l w e w' := by
  by_cases hc : Pl.checkDoc ns = 0
  · exact find_good v u ns ix l w hp hx hl hL hc
  · exact find_bad v u ns ix l w hp hl (by simpa using hc)
end Go.Proofs.YtagobgjlhdbhmaaGreatDoor
