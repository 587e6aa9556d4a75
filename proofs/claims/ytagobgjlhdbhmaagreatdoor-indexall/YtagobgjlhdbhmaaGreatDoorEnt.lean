/-
  index.entries: the gathered map, laid out in order.
-/
import Derived.Test.YtagobgjlhdbhmaaGreatDoorSrtW
namespace Go.Proofs.YtagobgjlhdbhmaaGreatDoor
open Go.RowKit Go.Sort

theorem fam_sls {B : Nat} {w : World} {ps : List EP} (h : Fam B w ps) : Sls ps := fun p hp => by
  obtain ⟨a, c, e⟩ := own_form (h.ints p hp)
  exact ⟨a, _, c, e⟩
theorem pick_sls {ps : List EP} (h : Sls ps) (js : List Nat) : Sls (pick ps js) := by
  intro p hp
  obtain ⟨j, _, rfl⟩ := List.mem_map.1 hp
  cases hj : ps[j]? with
  | none => exact ⟨none, 0, 0, by simp [e0]⟩
  | some q => exact h q (List.mem_of_getElem? hj)
/-- what the program lays out -/
def EntSays (b : Nat) (ps : List EP) (w : World) (e : Ending) (w' : World) : Prop :=
  ∃ v qs, e = .returned v ∧ qs.Perm ps ∧ qs.Pairwise (fun p q => Pl.keyLess q.1.key p.1.key = false) ∧ ERow (b + 1) w' v qs ∧ Below w.heap.size w w'
theorem ent_sorted {b : Nat} {ps qs : List EP} {w wr : World} {g n cap m : Nat} {os : Array Obj} {d' : Array SE} (ho : wr.ownsRow (w.heap.size + 1) 55 3 (.slice (some ⟨g, 0, none⟩) n cap) n (pCells qs)) (hn : qs.length = n) (hs : Sls qs) (hp : qs.Perm ps) (hf : Fam (b + 1) w ps) (hB : RowKit.Below w.heap.size w wr) (hb : b < w.heap.size)
    (hpi : PermIn 0 n (qs.map toSE).toArray d') (hsi : SortedIn (ltOf cfE) 0 n d') : EntSays b ps w (.returned (.slice (some ⟨g, 0, none⟩) n cap)) (sortWorldK encE 3 wr g 0 m d' os) := by
  obtain ⟨hsz, _, hperm⟩ := hpi
  have e1 : (d'.extract 0 n).toList = d'.toList := by
    have : d'.size = n := by rw [hsz]; simp [hn]
    rw [← this]; simp
  have e2 : ((qs.map toSE).toArray.extract 0 n).toList = qs.map toSE := by
    have : (qs.map toSE).toArray.size = n := by simp [hn]
    rw [← this]; simp [List.take_of_length_le]
  rw [e1, e2] at hperm
  obtain ⟨qs', hq, hm⟩ := perm_lift hperm qs rfl
  have hd : d' = (qs'.map toSE).toArray := by rw [hm]
  subst hd
  obtain ⟨s1, s2⟩ := sorted_row (m := m) (os := os) ho hn hs hq
  have hgB := (World.ownsRow.lt ho g rfl).1
  have hl : qs'.length = n := hq.length_eq.trans hn
  have hqp := hq.trans hp
  have hfw := (hf.on hB)
  have hlow : ∀ p ∈ ps, p.2.ownBlock ≠ some g := by
    intro p hp2 e
    have := (World.ownsRow.lt (hf.ints p hp2) g e).2
    omega
  have hfs := hfw.kept s2 (fun q hq2 => by injection hq2 with e; subst e; exact hlow)
  refine ⟨_, qs', rfl, hqp, ?_, ⟨?_, fun p hp2 => hfs.ints p (hqp.mem_iff.1 hp2), (hqp.pairwise_iff (fun {_ _} h => Apart.symm h)).2 hfs.apart, ?_⟩, ?_⟩
  · rw [List.pairwise_iff_getElem]
    intro i j hi hj hij
    have := hsi i j (Nat.zero_le _) hij (by omega)
    rw [lt_eq] at this
    rw [getElem!_pos _ _ (by simpa using hj), getElem!_pos _ _ (by simpa using hi)] at this
    simpa [toSE] using this
  · rw [hl]; exact own_mono s1 (by omega)
  · intro p hp2 q hq2 e
    have e3 : g = q := by simpa [Value.ownBlock] using e
    subst e3
    exact hlow p (hqp.mem_iff.1 hp2) hq2
  · exact hB.grown s2 hB.size (fun q hq2 => by injection hq2 with e; omega)
set_option maxRecDepth 100000 in
set_option maxHeartbeats 4000000 in
theorem entries_any (b : Nat) (ps : List EP) (w : World) (hmap : MapAt w b ps) (hfam : Fam (b + 1) w ps) (hne : ps ≠ []) (hlen : ps.length ≤ 1000) :
    Calls Tryz.prog 47 #[.map (some b)] w fun e w' => EntSays b ps w e w' := by
  have HMAP : Hid (MapAt _ _ _) := hmap
  have HFAM : Hid (Fam _ _ _) := hfam
  have hbw := hmap.lt
  clear hmap hfam
  go_enter Tryz.func47, Tryz.ntmps47
  go_wp2_with (at_range; refine Hid.out ?_)
  unfold Hid
  refine wpList_range_m (b := b) (ps := ps) ?_ (.tmp 6) ?_ ?_ HMAP.out ?_
  · rfl
  · rfl
  · rfl
  intro w0 hR0 hg0 hs0
  have HB0 : Hid (Below w.heap.size w w0) := ⟨hg0.os, hg0.tape, hg0.output, hg0.size, fun k hk => hg0.block k hk (by simp)⟩
  have HR0 : Hid (Rng _ _ _ _ _) := hR0
  clear hR0 hg0 hs0
  go_wp2_with fail
  go_frame
  go_loopw [3] (fun v wr => ∃ js, Hid (Rng wr b w.heap.size ps js) ∧ Hid (wr.ownsRow (w.heap.size + 1) 55 3 v (pick ps js).length (pCells (pick ps js))) ∧ Hid (Below w.heap.size w wr)) (fun _ wr => wr.rangeLeft b w.heap.size)
  case atStart => exact ⟨[], HR0, World.ownsRow_nil _ _ _ _, HB0⟩
  case round =>
    obtain ⟨js, HR, HO, HB⟩ := hrel
    obtain ⟨av, cv, rfl⟩ := own_form HO.out
    obtain ⟨hjd, hjl⟩ := HR.out.facts
    have hjn := nodup_le _ _ hjd hjl
    have hrl := HR.out.lt
    have HJD : Hid _ := hjd
    have HJL : Hid _ := hjl
    clear hjd hjl
    rw [pick_len] at *
    go_wp2_with (at_next; refine Hid.out ?_)
    unfold Hid
    refine wpList_next_m (b := b) (r := w.heap.size) (ps := ps) (js := js) ?_ (.tmp 7) ?_ ?_ HR.out ?_ ?_
    · rfl
    · rfl
    · rfl
    · intro hall
      have HP : Hid ((pick ps js).Perm ps) := pick_all HJD.out HJL.out hall
      clear hall
      have hjpos : 0 < js.length := by
        have h1 := HP.out.length_eq
        rw [pick_len] at h1
        have h2 : 0 < ps.length := List.length_pos_iff.2 hne
        omega
      obtain ⟨g, cg, eg, hgB, hgS⟩ := HO.out.form hjpos
      obtain ⟨rfl, rfl⟩ : av = some ⟨g, 0, none⟩ ∧ cv = cg := by injection eg with q1 q2 q3; exact ⟨q1, q3⟩
      have hsl := pick_sls (fam_sls HFAM.out) js
      have hH := holds_row HO.out (pick_len ps js) hsl
      have eg76 : ∀ args w, (callFunc 70 args).run Tryz.prog w = .ok (.enter 70 args) w := enters_of Tryz.func70 (by kernel_rfl) rfl
      have hcon := AnyQ.slices_SortFunc Tryz.sort75 3 Tryz.isAgg55 Tryz.sizeOf55 encE (fun _ => rfl) (fun x v hv => by simp [encE] at hv; rcases hv with rfl | rfl | rfl <;> rfl) cfE swoE 70 #[] g 0 cv ((pick ps js).map toSE).toArray wr eg76 (cmpLays76 g 0 _ wr) hH hgS (by simp [pick_len]; omega)
      change Calls Tryz.prog 69 _ _ _ at hcon
      simp only [List.size_toArray, List.length_map, pick_len] at hcon
      have HCON : Hid (Calls Tryz.prog 69 _ _ _) := hcon
      have HSL : Hid (Sls _) := hsl
      clear hcon hH hsl eg76 eg
      go_wp2_with fail
      refine HCON.out.mono ?_
      rintro e w5 ⟨rfl, d', m, os, hp, hs, rfl⟩
      have HS : Hid (EntSays b ps w (.returned (.slice (some ⟨g, 0, none⟩) js.length cv)) (sortWorldK encE 3 wr g 0 m d' os)) := ent_sorted HO.out (pick_len ps js) HSL.out HP.out HFAM.out HB.out hbw hp hs
      clear hp hs HCON
      go_wp2
      go_ret
      exact HS.out
    · intro j hj w1 hjn1 hR1 hlt1 hg1 hs1 hen
      obtain ⟨as_, ls, cs, esl⟩ := fam_sls HFAM.out ps[j] (List.getElem_mem hj)
      have HPS : Hid (pick ps (js ++ [j]) = pick ps js ++ [ps[j]]) := pick_snoc ps js hj
      obtain ⟨p, hp⟩ : ∃ p, ps[j] = p := ⟨_, rfl⟩
      rw [hp] at hen esl ⊢
      have HPj : Hid (ps[j] = p) := hp
      clear hp
      obtain ⟨⟨⟨pk, pn⟩, nds⟩, sv⟩ := p
      dsimp only at hen esl ⊢
      subst esl
      have HR1 : Hid (Rng _ _ _ _ _) := hR1
      have HLT : Hid (_ < _) := hlt1
      have HO1 : Hid (w1.ownsRow (w.heap.size + 1) 55 3 (.slice av js.length cv) js.length (pCells (pick ps js))) := HO.out.kept hg1 (by
        cases hv : (Value.slice av js.length cv).ownBlock with
        | none => exact Or.inl rfl
        | some q => exact Or.inr fun e => by injection e with e; have := (World.ownsRow.lt HO.out q hv).1; omega)
      have HB1 : Hid (RowKit.Below w.heap.size w w1) := HB.out.grown hg1 (by have := HB.out.size; omega) (fun q hq => by injection hq with e; omega)
      have hz1 : w.heap.size + 1 ≤ w1.heap.size := by rw [hs1]; omega
      clear hR1 hlt1 hg1 hs1
      go_wp2_with (at_builtin; refine Hid.out ?_)
      unfold Hid
      have h100 : (pick ps js).length + 1 ≤ 100000 := by rw [pick_len]; omega
      refine wpList_epush2 (B := w.heap.size + 1) (w2 := w1.alloc (.cells #[.int .i64 pk, .string ⟨pn.toArray⟩] 117)) (v := .slice av js.length cv) (qs := pick ps js) (p := (⟨(pk, pn), nds⟩, .slice as_ ls cs)) ?_ (.tmp 13) (.tmp 20) ?_ ?_ ?_ rfl (by rw [pick_len]; exact own_on HO1.out (on_alloc _ _)) h100 (by simp; omega) ?_
      · rfl
      · rfl
      · rfl
      · first | rfl | (simp [Act.eval]; done)
      intro g7 cap7 w7 ho7 hg7 hat7 hlt7
      have hvb : ∀ q, (Value.slice av js.length cv).ownBlock = some q → w.heap.size + 1 ≤ q := fun q hq => (World.ownsRow.lt HO1.out q hq).1
      have hga : w1.grownBy w7 (Value.slice av js.length cv).ownBlock := gb_grown (gb_grown (World.grownBy_alloc w1 _ _) (World.grownBy_alloc _ _ _) (fun q hq => Or.inl hq.symm)) hg7 (fun q hq => Or.inl hq.symm)
      have hlt1 := HR1.out.lt
      obtain ⟨hR7, hl7⟩ := HR1.out.on (hga.block b hlt1.1 (fun e => by have := hvb b e.symm; omega)) (hga.block w.heap.size hlt1.2 (fun e => by have := hvb _ e.symm; omega))
      have HR7 : Hid (Rng _ _ _ _ _) := hR7
      have HLT7 : Hid (w7.rangeLeft b w.heap.size < wr.rangeLeft b w.heap.size) := by unfold Hid; rw [hl7]; exact HLT.out
      have HB7 : Hid (RowKit.Below w.heap.size w w7) := HB1.out.grown hga (by omega) (fun q hq => by have := hvb q hq; omega)
      have HO7 : Hid (w7.ownsRow (w.heap.size + 1) 55 3 (.slice (some ⟨g7, 0, none⟩) ((pick ps js).length + 1) cap7) (pick ps (js ++ [j])).length (pCells (pick ps (js ++ [j])))) := by
        unfold Hid
        rw [HPS.out, HPj.out, List.length_append]
        exact ho7
      clear ho7 hg7 hat7 hlt7 hga hvb hR7 hl7 hen
      go_wp2
      exact ⟨⟨js ++ [j], HR7, HO7, HB7⟩, HLT7.out⟩
end Go.Proofs.YtagobgjlhdbhmaaGreatDoor
