/-
  index.possible: the paths that do not ask for what nobody has.
-/
import Derived.Test.YtagobgjlhdbhmaaGreatDoorFdQ
import Derived.WalkMore
namespace Go.Proofs.YtagobgjlhdbhmaaGreatDoor
open Go.RowKit

theorem chk_fits {l : List Pl.D3} (h : chkList l = 0) : l.length ≤ 5 ∧ ∀ p ∈ l, p.steps.length ≤ 5 ∧ (∀ s ∈ p.steps, s.tests.length ≤ 6) ∧ Pl.pForm Pl.isName Pl.isValue p = true := by
  obtain ⟨h1, _, h3, _⟩ := chk_parts h
  unfold Pl.fit3 Pl.fitUp at h1
  rw [Bool.and_eq_true, decide_eq_true_eq, List.all_eq_true] at h1
  unfold Pl.form3 Pl.evUp at h3
  rw [List.all_eq_true] at h3
  refine ⟨h1.1.2, fun p hp => ?_⟩
  have h2 := h1.2 p hp
  have h4 := h3 p hp
  rw [Bool.and_eq_true] at h2 h4
  have h5 := h2.1
  unfold Pl.pFits at h5
  rw [Bool.and_eq_true, decide_eq_true_eq, List.all_eq_true] at h5
  exact ⟨h5.1.2.1, fun s hs => by simpa using h5.2 s hs, h4.1⟩
/-- the row of paths that is built -/
def POut (w wr : World) (ns : List Pl.Nd) (l : List Pl.D3) (u : Value) (k : Nat) : Prop := ∃ xs, xs.length = (opTo ns l k).length * 2 ∧ wr.ownsRow w.heap.size 70 2 u (opTo ns l k).length xs ∧ PV w (opTo ns l k) xs
theorem POut.on {w wr w' : World} {ns : List Pl.Nd} {l : List Pl.D3} {u : Value} {k : Nat} (h : POut w wr ns l u k) (hb : Below wr.heap.size wr w') : POut w w' ns l u k := by
  obtain ⟨xs, h1, h2, h3⟩ := h
  exact ⟨xs, h1, own_on h2 hb, h3⟩
theorem POut.form {w wr : World} {ns : List Pl.Nd} {l : List Pl.D3} {u : Value} {k : Nat} (h : POut w wr ns l u k) : ∃ a c, u = .slice a (opTo ns l k).length c := by
  obtain ⟨xs, _, h2, _⟩ := h
  exact own_form h2
theorem POut.no {w wr : World} {ns : List Pl.Nd} {l : List Pl.D3} {u : Value} {k : Nat} (h : POut w wr ns l u k) (hk : k < l.length) (ho : openB ns l[k] = false) : POut w wr ns l u (k + 1) := by
  unfold POut
  rw [opTo_no hk ho]
  exact h
set_option maxRecDepth 100000 in
set_option maxHeartbeats 8000000 in
theorem possible_any (b : Nat) (ps : List EP) (v : Value) (ns : List Pl.Nd) (l : List Pl.D3) (w : World) (hm : MapAt w b ps) (hf : Fam (b + 1) w ps) (hp : ps.map (·.1) = Pl.gathTo ns ns.length) (hd : ∀ x ∈ ns, (Pl.keysOf x).Nodup) (hgk : ∀ p ∈ ps, Good p.1.key) (hl : A3 w v l) (hc : chkList l = 0) :
    Calls Tryz.prog 56 #[.map (some b), v] w fun e w' => ∃ u, e = .returned u ∧ POut w w' ns l u l.length ∧ Below w.heap.size w w' := by
  obtain ⟨h5, hfit⟩ := chk_fits hc
  have HFIT : Hid _ := hfit
  obtain ⟨a, c, rfl, _, hA⟩ := hl
  have HA : Hid _ := hA
  have HM : Hid (∀ W, Below w.heap.size w W → MapAt W b ps) := fun W hW => hm.on (hW.block b hm.lt)
  have HF : Hid (∀ W, Below w.heap.size w W → Fam (b + 1) W ps) := fun W hW => hf.on hW
  have HP : Hid _ := hp
  have HD : Hid _ := hd
  have HGK : Hid _ := hgk
  clear hfit hA hm hf hp hd hgk hc
  go_enter Tryz.func56, Tryz.ntmps56
  go_wp2
  go_step3
  go_wp2
  go_step3
  go_wp2
  go_loopw [5, 12] (fun u i wr => ∃ k : Nat, k ≤ l.length ∧ i = .int .i64 k ∧ Hid (POut w wr ns l u k) ∧ Hid (Below w.heap.size w wr)) (fun _ i _ => l.length - (intOf i).toNat)
  case atStart => exact ⟨0, Nat.zero_le _, rfl, ⟨[], rfl, World.ownsRow_nil _ _ _ _, PV.nil _⟩, Below.refl _ _⟩
  case round =>
    obtain ⟨k, hk, rfl, HO, HB⟩ := hrel
    obtain ⟨au, cu, rfl⟩ := HO.out.form
    by_cases hlt : k < l.length
    · rcases HA.out with h0 | ⟨b0, o, rfl, hcell⟩
      · rw [h0] at hlt; simp at hlt
      obtain ⟨vs, vl, n0, n1, hS, hL⟩ := hcell k hlt
      obtain ⟨f1, f2, f3⟩ := HFIT.out l[k] (List.getElem_mem hlt)
      obtain ⟨as_, cs, rfl⟩ := hS.form
      obtain ⟨al, cl, rfl⟩ := hL.form
      have HS : Hid (RowAt (StpAt A2) 2 w (.slice as_ l[k].steps.length cs) l[k].steps) := hS
      have HL : Hid (RowAt IntAt 1 w (.slice al l[k].links.length cl) l[k].links) := hL
      have HN0 : Hid (∀ ho, POut w wr ns l (.slice au (opTo ns l k).length cu) k → openB ns l[k] = ho → True) := fun _ _ _ => trivial
      have HNO : Hid (∀ W, openB ns l[k] = false → POut w W ns l (.slice au (opTo ns l k).length cu) k → POut w W ns l (.slice au (opTo ns l k).length cu) (k + 1)) := fun W ho h => h.no hlt ho
      have HYES : Hid (openB ns l[k] = true → opTo ns l (k + 1) = opTo ns l k ++ [l[k]]) := opTo_yes hlt
      have HON : Hid (∀ j (h : j < (askP l[k]).length), (Pl.whoTo ns (askP l[k])[j] ns.length).length = 0 → openB ns l[k] = false) := fun j h hj => open_no h hj
      have HOY : Hid ((∀ j (h : j < (askP l[k]).length), (Pl.whoTo ns (askP l[k])[j] ns.length).length ≠ 0) → openB ns l[k] = true) := open_yes
      have HGD : Hid (∀ j (h : j < (askP l[k]).length), Good (askP l[k])[j]) := fun j h => ask_good f3 _ (List.getElem_mem h)
      replace n0 := cell_on HB.out n0
      replace n1 := cell_on HB.out n1
      have HLo : Hid ((opTo ns l k).length + 1 ≤ 64) := by unfold Hid; have := opTo_len ns l k; omega
      have i1 : (0 : Int) ≤ (k : Int) := by omega
      have i2 : (k : Int) < (l.length : Int) := by omega
      clear hcell hS hL HN0
      generalize l[k] = p at *
      have HBa : Hid (Below wr.heap.size wr (wr.alloc (.cells #[.slice as_ p.steps.length cs, .slice al p.links.length cl] 70))) := on_alloc _ _
      have c0 : (wr.alloc (.cells #[.slice as_ p.steps.length cs, .slice al p.links.length cl] 70)).cell? ⟨wr.heap.size, 0, none⟩ = some (.slice as_ p.steps.length cs) := by simp [go_sem]
      have c1 : (wr.alloc (.cells #[.slice as_ p.steps.length cs, .slice al p.links.length cl] 70)).cell? ⟨wr.heap.size, 1, none⟩ = some (.slice al p.links.length cl) := by simp [go_sem]
      have HC0 : Hid _ := c0
      have HC1 : Hid _ := c1
      clear c0 c1
      obtain ⟨wq, hwq⟩ : ∃ q, q = wr := ⟨_, rfl⟩
      subst hwq
      go_wp2_with fail
      generalize wq.alloc (.cells #[.slice as_ p.steps.length cs, .slice al p.links.length cl] 70) = w0 at *
      have hB0 : Below w.heap.size w w0 := below_trans HB.out HBa.out
      refine (asked_any isL_2 _ p _ ⟨_, _, rfl, HS.out.map fun b o x hx => hx.on isL_2 hB0, HL.out.map fun b o x hx => cell_on hB0 hx⟩ f1 f2).mono ?_
      rintro e w1 ⟨u, rfl, hK, hb1⟩
      obtain ⟨ak, ck, rfl⟩ := own_form hK
      have HK : Hid (KR (w0.heap.size + 1) w1 (.slice ak (askP p).length ck) (askP p)) := hK
      have HB1 : Hid (Below w.heap.size w w1) := below_trans hB0 hb1
      have HO1 : Hid (POut w w1 ns l (.slice au (opTo ns l k).length cu) k) := (HO.out.on HBa.out).on hb1
      have HX1 : Hid (w1.cell? ⟨wq.heap.size, 0, none⟩ = some (.slice as_ p.steps.length cs) ∧ w1.cell? ⟨wq.heap.size, 1, none⟩ = some (.slice al p.links.length cl)) := ⟨cell_on hb1 HC0.out, cell_on hb1 HC1.out⟩
      have hkl : (askP p).length ≤ 35 := by rw [← askTo_all]; exact askTo_len f2 f1
      clear hK hb1 hB0 HC0 HC1 HBa n0 n1 f1 f2 f3
      generalize askP p = ks at *
      go_wp2
      go_loopw [19] (fun i wy => ∃ j : Nat, j ≤ ks.length ∧ i = .int .i64 j ∧ Hid (∀ j' (h : j' < ks.length), j' < j → (Pl.whoTo ns ks[j'] ns.length).length ≠ 0) ∧ Hid (Below w1.heap.size w1 wy)) (fun i _ => ks.length - (intOf i).toNat)
      case atStart => exact ⟨0, Nat.zero_le _, rfl, fun j' _ h => by omega, Below.refl _ _⟩
      case round =>
        as_aux_lemma =>
        obtain ⟨j, hj, rfl, HQ, HBy⟩ := hrel
        by_cases hjl : j < ks.length
        · obtain ⟨g, cg, eg, _, _⟩ := HK.out.form (by omega)
          obtain ⟨rfl, rfl⟩ : ak = some ⟨g, 0, none⟩ ∧ ck = cg := by injection eg with q1 q2 q3; exact ⟨q1, q3⟩
          obtain ⟨q0, q1⟩ := own_two (own_on HK.out HBy.out) hjl (keyCells_get ks j hjl)
          have HGj := HGD.out j hjl
          have HONj := HON.out j hjl
          have HQn : Hid ((Pl.whoTo ns ks[j] ns.length).length ≠ 0 → ∀ j' (h : j' < ks.length), j' < j + 1 → (Pl.whoTo ns ks[j'] ns.length).length ≠ 0) := fun hn j' h h' => by
            by_cases e : j' = j
            · subst e; exact hn
            · exact HQ.out j' h (by omega)
          have HLL : Hid (∀ (v : Value), Looked ps ks[j] v → ∃ a c, v = .slice a (Pl.whoTo ns ks[j] ns.length).length c) := fun v hv => looked_len hv (HF.out _ (Below.refl _ _)) HP.out HD.out
          generalize ks[j] = key at *
          generalize (Pl.whoTo ns key ns.length).length = N at *
          obtain ⟨kk, kn⟩ := key
          dsimp only at q0 q1
          have HGJ : Hid (Good (kk, kn)) := HGj
          have HONJ : Hid _ := HONj
          have j1 : (0 : Int) ≤ (j : Int) := by omega
          have j2 : (j : Int) < (ks.length : Int) := by omega
          have HBz : Hid (Below w1.heap.size w1 (wr.alloc (.cells #[.int .i64 kk, .string ⟨kn.toArray⟩] 117))) := below_trans HBy.out (on_alloc _ _)
          clear HGj HONj eg
          go_wp2_with (with_reducible refine at_lookup ?_)
          generalize wr.alloc (.cells #[.int .i64 kk, .string ⟨kn.toArray⟩] 117) = wz at *
          unfold Hid
          refine wpList_lookup (b := b) (ps := ps) (k := (kk, kn)) ?_ (.tmp 23) (.tmp 24) ?_ ?_ ?_ (HM.out _ (below_trans HB1.out HBz.out)) HGK.out HGJ.out Tryz.zero55 ?_
          · rfl
          · rfl
          · rfl
          · rfl
          as_aux_lemma =>
          intro vv hvv
          obtain ⟨av, cv, rfl⟩ := HLL.out vv hvv
          clear hvv q0 q1
          rcases Nat.eq_zero_or_pos N with hN | hN
          · subst hN
            have HO2 : Hid (POut w wz ns l (.slice au (opTo ns l k).length cu) (k + 1)) := HNO.out _ (HONJ.out rfl) (HO1.out.on HBz.out)
            have HB2 : Hid (Below w.heap.size w wz) := below_trans HB1.out HBz.out
            go_wp2
            exact ⟨⟨k + 1, hlt, by go_num, HO2, HB2⟩, by simp [intOf]; omega⟩
          · have hN1 : ¬ ((N : Int) = 0) := by omega
            have HQ2 := HQn.out (by omega)
            have HQ3 : Hid (∀ j' (h : j' < ks.length), j' < j + 1 → (Pl.whoTo ns ks[j'] ns.length).length ≠ 0) := HQ2
            clear HQ2
            go_wp2
            exact ⟨⟨j + 1, hjl, by go_num, HQ3, HBz⟩, by simp [intOf]; omega⟩
        · have HOp : Hid (openB ns p = true) := HOY.out fun j' h => HQ.out j' h (by omega)
          obtain ⟨x0, x1⟩ := HX1.out
          replace x0 := cell_on HBy.out x0
          replace x1 := cell_on HBy.out x1
          obtain ⟨xs, hxl, hxo, hxp⟩ := HO1.out.on HBy.out
          have HXL : Hid _ := hxl
          have HXO : Hid (wr.ownsRow w.heap.size 70 2 (.slice au (opTo ns l k).length cu) (opTo ns l k).length xs) := hxo
          have HXP : Hid (PV w (opTo ns l k) xs) := hxp
          have HBw : Hid (Below w.heap.size w wr) := below_trans HB1.out HBy.out
          have hsz : w.heap.size ≤ wr.heap.size := HBw.out.size
          clear hxl hxo hxp
          go_wp2_with (at_builtin; refine Hid.out ?_)
          unfold Hid
          refine wpList_padd (B := w.heap.size) (w2 := wr) (v := .slice au (opTo ns l k).length cu) (n := (opTo ns l k).length) (xs := xs) (a1 := as_) (n1 := p.steps.length) (c1 := cs) (a2 := al) (n2 := p.links.length) (c2 := cl) ?_ (.tmp 29) (.tmp 31) ?_ ?_ ?_ HXO.out HLo.out hsz ?_
          · rfl
          · rfl
          · rfl
          · first | rfl | (simp [Act.eval]; done)
          as_aux_lemma =>
          intro g cap w' ho' hg'
          have HO' : Hid (POut w w' ns l (.slice (some ⟨g, 0, none⟩) ((opTo ns l k).length + 1) cap) (k + 1)) := by
            refine ⟨xs ++ [.slice as_ p.steps.length cs, .slice al p.links.length cl], ?_, ?_, ?_⟩
            · rw [HYES.out HOp.out]; simp [HXL.out]; omega
            · rw [HYES.out HOp.out, List.length_append]; exact ho'
            · rw [HYES.out HOp.out]; exact HXP.out.snoc HXL.out HS.out HL.out
          have HB' : Hid (Below w.heap.size w w') := (below_trans HBw.out (on_alloc _ _)).grown hg' (by have := HBw.out.size; simp; omega) (fun k hk => by have := (HXO.out.lt k hk).1; omega)
          clear ho' hg'
          go_wp2
          exact ⟨⟨k + 1, hlt, by go_num, HO', HB'⟩, by simp [intOf]; omega⟩
    · obtain rfl : k = l.length := by omega
      go_wp2
      try rw [Exit.noGoto_ret]
      go_ret
      exact ⟨_, rfl, HO.out, HB.out⟩
end Go.Proofs.YtagobgjlhdbhmaaGreatDoor
