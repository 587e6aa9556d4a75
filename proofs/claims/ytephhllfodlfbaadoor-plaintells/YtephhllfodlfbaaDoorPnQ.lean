/-
  plain.plainerPath: a path made plainer, from what is done with its steps.
-/
import Derived.Test.YtephhllfodlfbaaDoorPnM
namespace Go.Proofs.YtephhllfodlfbaaDoor
open Go.RowKit

/-- what is done with a step -/
def StepC {α : Type} [DecidableEq α] (A : MemL α) (L : Pl.Lev α) : Prop := ∀ (a : Option Addr) (c : Nat) (s : Pl.Stp α) (w : World), RowAt (TstAt A) 6 w (.slice a s.tests.length c) s.tests → Pl.okS L.W s →
    Calls Tryd.prog 52 #[.agg #[.string ⟨s.tag.toArray⟩, .slice a s.tests.length c]] w fun e w' => ∃ a' c', e = .returned (.agg #[.string ⟨(Pl.plS L.f L.only s).tag.toArray⟩, .slice a' (Pl.plS L.f L.only s).tests.length c']) ∧ RowAt (TstAt A) 6 (mask (frm w.heap.size) w') (.slice a' (Pl.plS L.f L.only s).tests.length c') (Pl.plS L.f L.only s).tests ∧ Below w.heap.size w w'
theorem ints_of_own {w : World} {B : Nat} {v : Value} {l : List Int} (h : w.ownsRow B 3 1 v l.length (l.map (Value.int .i64 ·))) : RowAt IntAt 1 (mask (frm B) w) v l := by
  have hh := h
  obtain ⟨_, h0 | ⟨g, cap, cur, rfl, hB, _, h1, h2, _⟩⟩ := h
  · obtain ⟨rfl, hl⟩ := h0
    have : l = [] := by simpa using hl
    subst this
    exact RowAt.nil _ _ _
  · refine ⟨_, cap, rfl, ⟨h1, h2⟩, Or.inr ⟨g, 0, rfl, fun i hi => ?_⟩⟩
    have h0 := World.ownsRow.cells hh rfl i (.int .i64 l[i]) (by simp [List.getElem?_eq_getElem hi])
    rw [Addr.add_lit] at h0
    exact mask_cell.2 ⟨by simp only [frm, decide_eq_true_eq]; exact hB, by simpa using h0⟩
theorem append_nilI {i : TypeInfo} (hi : Tryd.prog.info? 3 = some i) (a : Option Addr) (c : Nat) (ty : TypeId) (w : World) :
    (Builtin.append_ #[36, 36] ty #[.slice none 0 0, .slice a 0 c]).run Tryd.prog w = .ok (.slice none 0 0) w := by
  cases a with
  | none => simp [Builtin.append_, run_underlying Tryd.underlying36, sizeOf, typeInfo, hi, Builtin.lenOf, Builtin.firstCells]
  | some p =>
    have h0 := run_loadCells_list (P := Tryd.prog) w p [] (fun j v hj => by simp at hj)
    simp only [List.length_nil] at h0
    simp [Builtin.append_, run_underlying Tryd.underlying36, sizeOf, typeInfo, hi, Builtin.lenOf, Builtin.firstCells, h0]
/-- 'append(nil, xs...)' of numbers: a copy in new memory -/
theorem wpList_copyR {w : World} {ops : Array Oper} {rest : List Oper} {o : Oper} {a : Act} {Q : Exit → Act → World → Prop} (hgd : o.guard = none) (s x : Operand)
    (ho : o.op = .call { callee := .builtin .append, args := #[s, x], argTypes := #[36, 36] }) (hs : a.eval s = .slice none 0 0) (xv : Value) (ss : List Int) (hx : a.eval x = xv) (hS : RowAt IntAt 1 w xv ss) (hl : ss.length ≤ 64)
    (h : ∀ a' c' w', RowAt IntAt 1 (mask (frm w.heap.size) w') (.slice a' ss.length c') ss → Below w.heap.size w w' → wpList Tryd.prog ops Q rest (a.put o.dst (.slice a' ss.length c')) w') : wpList Tryd.prog ops Q (o :: rest) a w := by
  obtain ⟨i3, hi3, hz0, hz1, hz2⟩ := info_parts infI
  obtain ⟨ad, cap, rfl, -, hc⟩ := hS
  rcases hc with rfl | ⟨b, of, rfl, hc⟩
  · refine wpList_plain hgd fun K hK => ?_
    have hr := append_nilI hi3 ad cap o.type w
    unfold Oper.wp execOp
    simp only [ho, resolve, invoke, builtin, Sem.run_bind, Sem.run_pure, Result.andThen_ok, List.map_toArray, List.map_cons, List.map_nil, hs, hx, List.length_nil, hr]
    exact hK _ _ (h none 0 w (RowAt.nil _ _ _) (Below.refl _ _))
  · refine wpList_append_own w hgd s x 36 ho w.heap.size 3 i3 (.int .i64 0) 1 8 Tryd.underlying36 hi3 hz0 hz1 hz2 rfl (by decide) (.slice none 0 0) 0 [] hs (World.ownsRow_nil _ _ _ _) ⟨b, of, none⟩ ss.length cap (ss.map (Value.int .i64 ·)) hx (by simp) ?_ ?_ (by unfold maxLen; omega) (by omega) (Nat.le_refl _) ?_
    · intro j u hj
      have hlt : j < ss.length := by
        have := (List.getElem?_eq_some_iff.1 hj).1
        simpa using this
      have h0 := hc j hlt
      unfold IntAt at h0
      rw [Nat.mul_one] at h0
      rw [Addr.add_lit, h0]
      simp [List.getElem?_eq_getElem hlt] at hj
      rw [hj]
    · intro u hu
      simp only [List.mem_map] at hu
      obtain ⟨_, _, rfl⟩ := hu
      rfl
    · intro v' w' hown hg _
      rw [Nat.zero_add, List.nil_append] at hown
      have hS' := ints_of_own hown
      obtain ⟨a', c', rfl, _⟩ := id hS'
      exact h a' c' w' hS' ((Below.refl _ _).grown hg (Nat.le_refl _) (fun k hk => by simp [Value.ownBlock] at hk))
theorem res38 {W : World} {M : Nat} {v0 v1 : Value} (h : W.heap[M]? = some (.cells #[v0, v1] 38)) : W.cell? ⟨M, 0, none⟩ = some v0 ∧ W.cell? ⟨M, 1, none⟩ = some v1 ∧ W.frozen? ⟨M, 0, none⟩ = false ∧ W.frozen? ⟨M, 1, none⟩ = false := by
  refine ⟨?_, ?_, ?_, ?_⟩ <;> simp [World.cell?, World.frozen?, h]
theorem b38 {W : World} {M : Nat} {v0 v1 : Value} (h : W.heap[M]? = some (.cells #[v0, v1] 38)) (u0 u1 : Value) : ((W.setCell ⟨M, 0, none⟩ u0).setCell ⟨M, 1, none⟩ u1).heap[M]? = some (.cells #[u0, u1] 38) := by
  simp [World.setCell, Array.getElem?_modify, h]
theorem set38_0 {W : World} {M : Nat} {v0 v1 : Value} (h : W.heap[M]? = some (.cells #[v0, v1] 38)) (u : Value) : (W.setCell ⟨M, 0, none⟩ u).heap[M]? = some (.cells #[u, v1] 38) := by
  simp [World.setCell, Array.getElem?_modify, h]
/-- a path that is being made: its box, its steps -/
structure MadeP {α : Type} (A : MemL α) (M : Nat) (w : World) (ss : List (Pl.Stp α)) (u lv : Value) : Prop where
  box : w.heap[M]? = some (.cells #[u, lv] 38)
  row : Grow (frm (M + 1)) (M + 1) 41 2 (VS A) w u ss
theorem MadeP.sz {α : Type} {A : MemL α} {M : Nat} {w : World} {ss : List (Pl.Stp α)} {u lv : Value} (h : MadeP A M w ss u lv) : M + 1 ≤ w.heap.size := (Array.getElem?_eq_some_iff.1 h.box).1
theorem MadeP.on {α : Type} {A : MemL α} (hS : IsSub A) {M : Nat} {w w' : World} {ss : List (Pl.Stp α)} {u lv : Value} (h : MadeP A M w ss u lv) (hb : Below w.heap.size w w') : MadeP A M w' ss u lv :=
  ⟨hblk h.box hb, h.row.move (isV_s hS) fun j hj hjw => ⟨hj, hb.block j hjw⟩⟩
theorem MadeP.drew {α : Type} {A : MemL α} (hS : IsSub A) {M : Nat} {w : World} {ss : List (Pl.Stp α)} {u lv : Value} (h : MadeP A M w ss u lv) : MadeP A M w.drew ss u lv :=
  ⟨h.box, h.row.move (isV_s hS) fun _ hj _ => ⟨hj, rfl⟩⟩
theorem MadeP.put {α : Type} {A : MemL α} (hS : IsSub A) {M : Nat} {W W1 W2 : World} {ss ss' : List (Pl.Stp α)} {u lv v' : Value} (h : MadeP A M W ss u lv) (hb : Below W.heap.size W W1) (hg : W1.grownBy W2 u.ownBlock) (hr : Grow (frm (M + 1)) (M + 1) 41 2 (VS A) W2 v' ss') :
    MadeP A M (W2.setCell ⟨M, 0, none⟩ v') ss' v' lv ∧ FrA (M + 1) M W (W2.setCell ⟨M, 0, none⟩ v') ∧ (W2.cell? ⟨M, 0, none⟩ = some u ∧ W2.frozen? ⟨M, 0, none⟩ = false) := by
  have hown : ∀ j, u.ownBlock = some j → M + 1 ≤ j := fun j hj => (h.row.own j hj).2
  have h1 := h.on hS hb
  have hM : W2.heap[M]? = some (.cells #[u, lv] 38) := by
    rw [hg.block M (Array.getElem?_eq_some_iff.1 h1.box).1 (fun e => by have := hown M e.symm; omega)]
    exact h1.box
  refine ⟨⟨set38_0 hM _, ?_⟩, ?_, (res38 hM).1, (res38 hM).2.2.1⟩
  · exact hr.move (isV_s hS) fun j hj _ => ⟨hj, Below.heap_setCell _ _ _ _ (by
      have : M + 1 ≤ j := by simpa [frm] using hj
      show j ≠ M
      omega)⟩
  · exact ((FrA.below hb h.sz).trans (FrA.grown hg h1.sz hown)).set 0 _
def stTo {α : Type} [DecidableEq α] (L : Pl.Lev α) (l : List (Pl.Stp α)) (k : Nat) : List (Pl.Stp α) := (l.take k).map (Pl.plS L.f L.only)
theorem stTo_next {α : Type} [DecidableEq α] {L : Pl.Lev α} {l : List (Pl.Stp α)} {k : Nat} (h : k < l.length) : stTo L l (k + 1) = stTo L l k ++ [Pl.plS L.f L.only l[k]] := by
  unfold stTo
  rw [List.take_succ_eq_append_getElem h, List.map_append]
  rfl
theorem stTo_len {α : Type} [DecidableEq α] (L : Pl.Lev α) (l : List (Pl.Stp α)) (k : Nat) : (stTo L l k).length ≤ k := by
  unfold stTo
  rw [List.length_map, List.length_take]
  omega
set_option maxRecDepth 100000 in
set_option maxHeartbeats 8000000 in
theorem path_any {α : Type} [DecidableEq α] {A : MemL α} (hA : IsL A) (hS : IsSub A) (L : Pl.Lev α) (hStep : StepC A L) : PathC A L := by
  intro as_ al cs cl p w hrow hlinks hok
  have HOK : Hid (Pl.okP L.W p) := hok
  have HROW : Hid (RowAt (StpAt A) 2 w (.slice as_ p.steps.length cs) p.steps) := hrow
  have h5 := hok.2.1
  have H64 : Hid (p.links.length ≤ 64) := by unfold Hid; have := hok.2.2.1; omega
  have hb1 := on_alloc w (.cells #[.slice as_ p.steps.length cs, .slice al p.links.length cl] 38)
  have hb2 := on_alloc (w.alloc (.cells #[.slice as_ p.steps.length cs, .slice al p.links.length cl] 38)) (.cells #[.slice none 0 0, .slice none 0 0] 38)
  have HLNK : Hid (RowAt IntAt 1 ((w.alloc (.cells #[.slice as_ p.steps.length cs, .slice al p.links.length cl] 38)).alloc (.cells #[.slice none 0 0, .slice none 0 0] 38)) (.slice al p.links.length cl) p.links) := hlinks.map fun _ _ _ hx => cell_on hb2 (cell_on hb1 hx)
  have HX1 : Hid (((w.alloc (.cells #[.slice as_ p.steps.length cs, .slice al p.links.length cl] 38)).alloc (.cells #[.slice none 0 0, .slice none 0 0] 38)).heap[w.heap.size]? = some (.cells #[.slice as_ p.steps.length cs, .slice al p.links.length cl] 38)) := hblk (heap_alloc_new w _) hb2
  have HX2 : Hid (((w.alloc (.cells #[.slice as_ p.steps.length cs, .slice al p.links.length cl] 38)).alloc (.cells #[.slice none 0 0, .slice none 0 0] 38)).heap[w.heap.size + 1]? = some (.cells #[.slice none 0 0, .slice none 0 0] 38)) := by
    have h1 := heap_alloc_new (w.alloc (.cells #[.slice as_ p.steps.length cs, .slice al p.links.length cl] 38)) (.cells #[.slice none 0 0, .slice none 0 0] 38)
    unfold Hid
    simpa using h1
  have HZ : Hid (((w.alloc (.cells #[.slice as_ p.steps.length cs, .slice al p.links.length cl] 38)).alloc (.cells #[.slice none 0 0, .slice none 0 0] 38)).heap.size = w.heap.size + 2) := by unfold Hid; simp
  have HB0 : Hid (Below w.heap.size w ((w.alloc (.cells #[.slice as_ p.steps.length cs, .slice al p.links.length cl] 38)).alloc (.cells #[.slice none 0 0, .slice none 0 0] 38))) := ((Below.refl w.heap.size w).alloc (Nat.le_refl _) _).alloc (by simp) _
  clear hrow hlinks hok hb1 hb2
  go_enter Tryd.func30, Tryd.ntmps30
  go_wp2_with (at_builtin; refine Hid.out ?_)
  unfold Hid
  refine wpList_copyR rfl (.const (.slice none 0 0)) (.tmp 7) rfl rfl (.slice al p.links.length cl) p.links rfl ?_ H64.out ?_
  · exact HLNK.out
  intro a2 c2 wB hr2 hbB
  clear HLNK
  generalize (w.alloc (.cells #[.slice as_ p.steps.length cs, .slice al p.links.length cl] 38)).alloc (.cells #[.slice none 0 0, .slice none 0 0] 38) = wA at *
  have HR2 : Hid _ := hr2
  have HBB : Hid _ := hbB
  have HX1B : Hid _ := hblk HX1.out hbB
  have x0 := (res38 HX1B.out).1
  have x0a := cell_on (on_alloc wB (.cells #[.slice none 0 0, .slice a2 p.links.length c2] 38)) x0
  have hbA := on_alloc wB (.cells #[.slice none 0 0, .slice a2 p.links.length c2] 38)
  have HB3 : Hid (Below w.heap.size w (wB.alloc (.cells #[.slice none 0 0, .slice a2 p.links.length c2] 38))) := (below_trans HB0.out hbB).trans (hbA.mono (below_trans HB0.out hbB).size)
  have HX23 : Hid ((wB.alloc (.cells #[.slice none 0 0, .slice a2 p.links.length c2] 38)).heap[w.heap.size + 1]? = some (.cells #[.slice none 0 0, .slice none 0 0] 38)) := hblk (hblk HX2.out hbB) hbA
  have HM0 : Hid (MadeP A wB.heap.size (wB.alloc (.cells #[.slice none 0 0, .slice a2 p.links.length c2] 38)) (stTo L p.steps 0) (.slice none 0 0) (.slice a2 p.links.length c2)) := ⟨heap_alloc_new wB _, Grow.nil _ _ _ _ _ _⟩
  have HLK3 : Hid (RowAt IntAt 1 (mask (frm wA.heap.size) wB) (.slice a2 p.links.length c2) p.links) := hr2
  have HBA : Hid _ := hbA
  clear hr2 hbB hbA
  go_wp2
  have hBz : wB.heap.size ≥ w.heap.size + 2 := by have := HBB.out.size; have := HZ.out; omega
  have HBZ : Hid (wB.heap.size ≥ w.heap.size + 2) := hBz
  have HZ3 : Hid ((wB.alloc (.cells #[.slice none 0 0, .slice a2 p.links.length c2] 38)).heap.size = wB.heap.size + 1) := by unfold Hid; simp
  have HBLK : Hid (∀ j, j < wB.heap.size → (wB.alloc (.cells #[.slice none 0 0, .slice a2 p.links.length c2] 38)).heap[j]? = wB.heap[j]?) := fun j hj => HBA.out.block j hj
  clear x0 x0a HBA HX1B HX1 HX2 hBz HBB
  generalize wB.alloc (.cells #[.slice none 0 0, .slice a2 p.links.length c2] 38) = w3 at *
  obtain ⟨M, hM⟩ : ∃ q, q = wB.heap.size := ⟨_, rfl⟩
  rw [← hM] at HM0 HBZ HZ3 HBLK ⊢
  have HMB : Hid _ := hM
  clear hM
  go_loopw [13] (fun i wr => ∃ k : Nat, k ≤ p.steps.length ∧ i = .int .i64 k ∧ Hid (∃ au cu, MadeP A M wr (stTo L p.steps k) (.slice au (stTo L p.steps k).length cu) (.slice a2 p.links.length c2)) ∧ Hid (FrA (M + 1) M w3 wr)) (fun i _ => p.steps.length - (intOf i).toNat)
  case atStart => exact ⟨0, Nat.zero_le _, rfl, ⟨none, 0, HM0.out⟩, FrA.refl _ _ _⟩
  case round =>
    obtain ⟨k, hk, rfl, HMk, HFk⟩ := hrel
    obtain ⟨au, cu, hmk⟩ := HMk.out
    have HM : Hid (MadeP A M wr (stTo L p.steps k) (.slice au (stTo L p.steps k).length cu) (.slice a2 p.links.length c2)) := hmk
    clear HMk hmk
    have HBW : Hid (Below w.heap.size w wr) := HFk.out.belowW HB3.out (by have := HBZ.out; omega) (by have := HBZ.out; omega)
    by_cases hlt : k < p.steps.length
    · as_aux_lemma =>
      obtain ⟨a', c', e', -, hcs⟩ := HROW.out
      injection e' with e1 _ e3
      subst e1 e3
      rcases hcs with h0 | ⟨b, o, rfl, hc⟩
      · rw [h0] at hlt; simp at hlt
      obtain ⟨vv, n0, n1, hm5⟩ := hc k hlt
      obtain ⟨at_, ct, rfl⟩ := hm5.form
      replace n0 := cell_on HBW.out n0
      replace n1 := cell_on HBW.out n1
      have hoks := HOK.out.2.2.2 p.steps[k] (List.getElem_mem hlt)
      have HNX : Hid _ := stTo_next (L := L) hlt
      have HLN : Hid ((stTo L p.steps k).length + 1 ≤ 64) := by unfold Hid; have := stTo_len L p.steps k; omega
      have i1 : (0 : Int) ≤ (k : Int) := by omega
      have i2 : (k : Int) < (p.steps.length : Int) := by omega
      clear hc
      generalize p.steps[k] = s at *
      generalize stTo L p.steps k = done at *
      have hba := on_alloc wr (.cells #[.string ⟨s.tag.toArray⟩, .slice at_ s.tests.length ct] 41)
      have H5 : Hid ((wr.alloc (.cells #[.string ⟨s.tag.toArray⟩, .slice at_ s.tests.length ct] 41)).heap[wr.heap.size]? = some (.cells #[.string ⟨s.tag.toArray⟩, .slice at_ s.tests.length ct] 41)) := heap_alloc_new wr _
      have HMA : Hid (MadeP A M (wr.alloc (.cells #[.string ⟨s.tag.toArray⟩, .slice at_ s.tests.length ct] 41)) done (.slice au done.length cu) (.slice a2 p.links.length c2)) := HM.out.on hS hba
      have HFA : Hid (FrA (M + 1) M w3 (wr.alloc (.cells #[.string ⟨s.tag.toArray⟩, .slice at_ s.tests.length ct] 41))) := HFk.out.trans (FrA.below hba HM.out.sz)
      have HC : Hid (Calls Tryd.prog 52 _ _ _) := hStep at_ ct s (wr.alloc (.cells #[.string ⟨s.tag.toArray⟩, .slice at_ s.tests.length ct] 41)).drew (hm5.map fun _ _ _ hq => ((hq.on hA (below_trans HBW.out hba)).on hA (show Below (wr.alloc (.cells #[.string ⟨s.tag.toArray⟩, .slice at_ s.tests.length ct] 41)).heap.size (wr.alloc (.cells #[.string ⟨s.tag.toArray⟩, .slice at_ s.tests.length ct] 41)) (wr.alloc (.cells #[.string ⟨s.tag.toArray⟩, .slice at_ s.tests.length ct] 41)).drew from (Below.refl _ _).drew))) hoks
      have HOW : Hid (∀ j, (.slice au done.length cu : Value).ownBlock = some j → j < (wr.alloc (.cells #[.string ⟨s.tag.toArray⟩, .slice at_ s.tests.length ct] 41)).heap.size) := HMA.out.row.lt
      clear hm5 hoks hba HM HFk HBW
      obtain ⟨wq, hwq⟩ : ∃ q, q = wr := ⟨_, rfl⟩
      subst hwq
      generalize hq : Pl.plS L.f L.only s = q at *
      clear hq
      go_wp2_with fail
      clear n0 n1
      generalize wq.alloc (.cells #[.string ⟨s.tag.toArray⟩, .slice at_ s.tests.length ct] 41) = wa at *
      have HMD : Hid (MadeP A M wa.drew done (.slice au done.length cu) (.slice a2 p.links.length c2)) := HMA.out.drew hS
      have HFD : Hid (FrA (M + 1) M w3 wa.drew) := HFA.out.drew
      obtain ⟨b0, b1, b2, b3⟩ := res38 HMD.out.box
      obtain ⟨v0, v1⟩ := f2 (W := wa.drew) H5.out
      clear HMA HFA H5
      have HARM : Hid (∀ (a6 : Option Addr) (c6 : Nat) (w6 : World), RowAt (TstAt A) 6 (mask (frm wa.drew.heap.size) w6) (.slice a6 q.tests.length c6) q.tests → Below wa.drew.heap.size wa.drew w6 → MadeP A M w6 done (.slice au done.length cu) (.slice a2 p.links.length c2) ∧ FrA (M + 1) M w3 w6 ∧ VS A (mask (Off (frm (M + 1)) (.slice au done.length cu)) w6) [.string ⟨q.tag.toArray⟩, .slice a6 q.tests.length c6] q ∧ M + 1 ≤ w6.heap.size ∧ frm (M + 1) (w6.heap.size + 1) = true) := by
        intro a6 c6 w6 hr6 hb6
        have hsz := HMD.out.sz
        change M + 1 ≤ wa.heap.size at hsz
        have h6 := HMD.out.on hS hb6
        refine ⟨h6, HFD.out.trans (FrA.below hb6 HMD.out.sz), ⟨_, rfl, hr6.map fun _ _ _ hq => hq.sub hS (incl_mask fun j o x hj hx => ⟨?_, hx⟩)⟩, h6.sz, ?_⟩
        · simp only [frm, decide_eq_true_eq] at hj
          change wa.heap.size ≤ j at hj
          unfold Off
          rw [show frm (M + 1) j = true by simp only [frm, decide_eq_true_eq]; omega]
          cases hq : ((.slice au done.length cu : Value).ownBlock == some j) with
          | false => rfl
          | true => exact absurd (HOW.out j (by simpa using hq)) (by omega)
        · have := h6.sz
          simp only [frm, decide_eq_true_eq]
          omega
      go_region_law (first | (go_simp; go_at_call 52; refine HC.out.mono ?_; rintro e w6 ⟨a6, c6, rfl, hr6, hb6⟩; have HAR : Hid _ := HARM.out a6 c6 w6 hr6 hb6; have z6 := (res38 HAR.out.1.box).1; have z6a := cell_on (on_alloc w6 (.cells #[.string ⟨q.tag.toArray⟩, .slice a6 q.tests.length c6] 41)) z6; clear hr6 hb6) | (refine step_grow (P := frm (M + 1)) (B := (M + 1)) (isV_s hS) Tryd.underlying35 infS rfl (by decide) (by decide) (w2 := w6) (v := .slice au done.length cu) (l := done) (x := q) (news := [.string ⟨q.tag.toArray⟩, .slice a6 q.tests.length c6]) rfl (.tmp 18) (.tmp 21) rfl rfl rfl HAR.out.1.row HAR.out.2.2.1 (by intro u hu; simp only [List.mem_cons, List.not_mem_nil, or_false] at hu; rcases hu with rfl | rfl <;> rfl) HLN.out HAR.out.2.2.2.1 HAR.out.2.2.2.2 ?_; intro g cap w7 hrow' hgr _; have HPUT := HAR.out.1.put hS (on_alloc w6 _) hgr hrow'; have z7 := HPUT.2.2.1; have zf7 := HPUT.2.2.2))
      all_goals
        have HM7 : Hid (∃ au cu, MadeP A M (w7.setCell ⟨M, 0, none⟩ (.slice (some ⟨g, 0, none⟩) (done.length + 1) cap)) (stTo L p.steps (k + 1)) (.slice au (stTo L p.steps (k + 1)).length cu) (.slice a2 p.links.length c2)) := by
          unfold Hid
          rw [HNX.out]
          refine ⟨some ⟨g, 0, none⟩, cap, ?_⟩
          rw [List.length_append]
          exact HPUT.1
        have HF7 : Hid (FrA (M + 1) M w3 _) := HAR.out.2.1.trans HPUT.2.1
        clear HPUT hrow' hgr z7 zf7 HAR
        go_wp2
        exact ⟨⟨k + 1, hlt, by go_num, HM7, HF7⟩, by simp [intOf]; omega⟩
    · as_aux_lemma =>
      have hke : k = p.steps.length := by omega
      subst hke
      have HPT : Hid ((Pl.plP L.f L.only p).steps = stTo L p.steps p.steps.length ∧ (Pl.plP L.f L.only p).links = p.links) := ⟨by unfold stTo Pl.plP; rw [List.take_length], rfl⟩
      have HX2k : Hid (wr.heap[w.heap.size + 1]? = some (.cells #[.slice none 0 0, .slice none 0 0] 38)) := HFk.out.blkAt HX23.out (by have := HBZ.out; omega) (by have := HBZ.out; omega)
      have hln := stTo_len L p.steps p.steps.length
      have HLN : Hid ((stTo L p.steps p.steps.length).length ≤ 64) := by unfold Hid; omega
      clear hln
      generalize stTo L p.steps p.steps.length = done at *
      obtain ⟨b0, b1, b2, b3⟩ := res38 HM.out.box
      obtain ⟨g0, g1, g2, g3⟩ := res38 HX2k.out
      have Z2 := b38 HX2k.out (.slice au done.length cu) (.slice a2 p.links.length c2)
      obtain ⟨z0, z1, -, -⟩ := res38 Z2
      have HR1 : Hid (RowAt (StpAt A) 2 (mask (frm w.heap.size) ((wr.setCell ⟨w.heap.size + 1, 0, none⟩ (.slice au done.length cu)).setCell ⟨w.heap.size + 1, 1, none⟩ (.slice a2 p.links.length c2))) (.slice au done.length cu) done) := (Grow.row (isV_s hS) HM.out.row).map fun _ _ _ hq => hq.sub hS (incl_mask fun j o y hj hy => by
        have hz := HBZ.out
        simp only [frm, decide_eq_true_eq] at hj ⊢
        refine ⟨by omega, ?_⟩
        rw [World.cell?_setCell_other _ _ _ _ (by intro e; injection e with e1 _ _; omega), World.cell?_setCell_other _ _ _ _ (by intro e; injection e with e1 _ _; omega)]
        exact hy)
      have HR2' : Hid (RowAt IntAt 1 (mask (frm w.heap.size) ((wr.setCell ⟨w.heap.size + 1, 0, none⟩ (.slice au done.length cu)).setCell ⟨w.heap.size + 1, 1, none⟩ (.slice a2 p.links.length c2))) (.slice a2 p.links.length c2) p.links) := ints_sub HLK3.out (incl_mask fun j o y hj hy => by
        have hz := HZ.out
        have hjl : j < wB.heap.size := cell_lt hy
        have hmb := HMB.out
        simp only [frm, decide_eq_true_eq] at hj ⊢
        refine ⟨by omega, ?_⟩
        rw [World.cell?_setCell_other _ _ _ _ (by intro e; injection e with e1 _ _; omega), World.cell?_setCell_other _ _ _ _ (by intro e; injection e with e1 _ _; omega)]
        refine HFk.out.cell ?_ (by omega) (by omega)
        have := HBLK.out j (by omega)
        simp only [World.cell?] at hy ⊢
        rw [this]
        exact hy)
      have HBE : Hid (Below w.heap.size w ((wr.setCell ⟨w.heap.size + 1, 0, none⟩ (.slice au done.length cu)).setCell ⟨w.heap.size + 1, 1, none⟩ (.slice a2 p.links.length c2))) := (HBW.out.setCell (p := ⟨w.heap.size + 1, 0, none⟩) (by show w.heap.size ≤ w.heap.size + 1; omega) _).setCell (p := ⟨w.heap.size + 1, 1, none⟩) (by show w.heap.size ≤ w.heap.size + 1; omega) _
      have HZ0' : Hid _ := z0
      have HZ1' : Hid _ := z1
      clear Z2 z0 z1
      go_wp2
      have z0 := HZ0'.out
      have z1 := HZ1'.out
      exact bodyPost_ret (v := .agg #[.slice au done.length cu, .slice a2 p.links.length c2]) (by simp [results, Tryd.results30, go_sem, z0, z1]) rfl (by rw [HPT.out.1, HPT.out.2]; exact ⟨au, cu, a2, c2, rfl, HR1.out, HR2'.out, HBE.out⟩)
end Go.Proofs.YtephhllfodlfbaaDoor
