/-
  What is found of a step, by what its tests ask.
-/
import Derived.Test.YtephhllfodlfbaaGreatDoorMaC
namespace Go.Proofs.YtephhllfodlfbaaGreatDoor
open Go.RowKit

/-- what asking tells of a test: a function that tells whether an element passes it -/
def ASK {α : Type} (A : MemL α) (g : List Pl.Nd → List α → Nat → Bool) (R : List α → Prop) : Prop := ∀ (w0 w : World) (b o cap bk bn bl : Nat) (ns : List Pl.Nd) (v : Value) (t : Pl.Tst α), TR w0 b o bk bn bl ns → A w0 v t.list → RT R t → Below w0.heap.size w0 w → Calls Tryz.prog 168 #[.agg #[.slice (some ⟨b, o, none⟩) ns.length cap, .slice (some ⟨bk, 0, none⟩) ns.length ns.length, .slice (some ⟨bn, 0, none⟩) ns.length ns.length, .slice (some ⟨bl, 0, none⟩) ns.length ns.length], .agg #[.int .i64 t.kind, .string ⟨t.name.toArray⟩, .string ⟨t.value.toArray⟩, .int .i64 t.a, .int .i64 t.b, v]] w fun e w' => ∃ (K : Nat) (caps : Array Value), e = .returned (.func (.func K) #[] caps) ∧ (∀ args W, (callFunc K args).run Tryz.prog W = .ok (.enter K args) W) ∧ Below w.heap.size w w' ∧ ∀ (W : World) (n : Nat), Below w0.heap.size w0 W → (∀ k, w.heap.size ≤ k → k < w'.heap.size → W.heap[k]? = w'.heap[k]?) → n < ns.length → Calls Tryz.prog K (#[.int .i64 n] ++ caps) W fun e W' => e = .returned (.bool (tstM ns (g ns) t n)) ∧ Below W.heap.size W W'
/-- while a step's row is filled: the tree's box, the step's, the row behind them -/
structure LS (w W : World) (t0 t1 t2 t3 : Value) (tag : List UInt8) (vt : Value) (bs : List Bool) : Prop where
  bel : Below w.heap.size w W
  box : W.heap[w.heap.size]? = some (.cells #[t0, t1, t2, t3] 92)
  stp : W.heap[w.heap.size + 1]? = some (.cells #[.string ⟨tag.toArray⟩, vt] 67)
  row : BRow W (w.heap.size + 2) bs
section
variable {w W W' : World} {t0 t1 t2 t3 vt : Value} {tag : List UInt8} {bs : List Bool}
theorem LS.on (h : LS w W t0 t1 t2 t3 tag vt bs) (hb : Below W.heap.size W W') : LS w W' t0 t1 t2 t3 tag vt bs := ⟨below_trans h.bel hb, (hb.block _ (Array.getElem?_eq_some_iff.1 h.box).1).trans h.box, (hb.block _ (Array.getElem?_eq_some_iff.1 h.stp).1).trans h.stp, h.row.on hb⟩
theorem LS.set (h : LS w W t0 t1 t2 t3 tag vt bs) (i : Nat) (x : Bool) : LS w (W.setCell ⟨w.heap.size + 2, i, none⟩ (.bool x)) t0 t1 t2 t3 tag vt (bs.set i x) :=
  ⟨h.bel.setCell (p := ⟨w.heap.size + 2, i, none⟩) (by simp) _, by rw [Below.heap_setCell _ _ _ _ (by show w.heap.size ≠ w.heap.size + 2; omega)]; exact h.box, by rw [Below.heap_setCell _ _ _ _ (by show w.heap.size + 1 ≠ w.heap.size + 2; omega)]; exact h.stp, h.row.set i x⟩
end
set_option maxRecDepth 100000 in
set_option maxHeartbeats 8000000 in
theorem ofStep_up {α : Type} {A : MemL α} (hA : IsL A) {g : List Pl.Nd → List α → Nat → Bool} {R : List α → Prop} (hK : ASK A g R) : OFS A g R := by
  intro w b o cap bk bn bl ns vt s hT hrow hS
  obtain ⟨tag, tests⟩ := s
  dsimp only at hrow
  obtain ⟨at_, ct, rfl⟩ := hrow.form
  obtain ⟨-, hs6, hRT⟩ := hS
  dsimp only at hs6 hRT ⊢
  have h64 := hT.rd.n64
  have hmk := make_bools ns.length h64
  have hb1 := on_alloc w (.cells #[.slice (some ⟨b, o, none⟩) ns.length cap, .slice (some ⟨bk, 0, none⟩) ns.length ns.length, .slice (some ⟨bn, 0, none⟩) ns.length ns.length, .slice (some ⟨bl, 0, none⟩) ns.length ns.length] 92)
  have hb2 := on_alloc (w.alloc (.cells #[.slice (some ⟨b, o, none⟩) ns.length cap, .slice (some ⟨bk, 0, none⟩) ns.length ns.length, .slice (some ⟨bn, 0, none⟩) ns.length ns.length, .slice (some ⟨bl, 0, none⟩) ns.length ns.length] 92)) (.cells #[.string ⟨tag.toArray⟩, .slice at_ tests.length ct] 67)
  have hb3 := mkB_on ((w.alloc (.cells #[.slice (some ⟨b, o, none⟩) ns.length cap, .slice (some ⟨bk, 0, none⟩) ns.length ns.length, .slice (some ⟨bn, 0, none⟩) ns.length ns.length, .slice (some ⟨bl, 0, none⟩) ns.length ns.length] 92)).alloc (.cells #[.string ⟨tag.toArray⟩, .slice at_ tests.length ct] 67)) ns.length
  have e1 := World.alloc_heap_new w (.cells #[.slice (some ⟨b, o, none⟩) ns.length cap, .slice (some ⟨bk, 0, none⟩) ns.length ns.length, .slice (some ⟨bn, 0, none⟩) ns.length ns.length, .slice (some ⟨bl, 0, none⟩) ns.length ns.length] 92)
  have e2 := World.alloc_heap_new (w.alloc (.cells #[.slice (some ⟨b, o, none⟩) ns.length cap, .slice (some ⟨bk, 0, none⟩) ns.length ns.length, .slice (some ⟨bn, 0, none⟩) ns.length ns.length, .slice (some ⟨bl, 0, none⟩) ns.length ns.length] 92)) (.cells #[.string ⟨tag.toArray⟩, .slice at_ tests.length ct] 67)
  have e3 := mkB_row ((w.alloc (.cells #[.slice (some ⟨b, o, none⟩) ns.length cap, .slice (some ⟨bk, 0, none⟩) ns.length ns.length, .slice (some ⟨bn, 0, none⟩) ns.length ns.length, .slice (some ⟨bl, 0, none⟩) ns.length ns.length] 92)).alloc (.cells #[.string ⟨tag.toArray⟩, .slice at_ tests.length ct] 67)) ns.length
  simp only [World.size_alloc] at e2 e3
  obtain ⟨C, hC⟩ : ∃ C : Nat → Bool, C = fun n => tag.isEmpty || tag == tagAt ns n := ⟨_, rfl⟩
  have HCC : Hid (∀ n, C n = (tag.isEmpty || tag == tagAt ns n)) := fun n => by rw [hC]
  clear hC
  have HL0 : Hid (LS w (mkB ((w.alloc (.cells #[.slice (some ⟨b, o, none⟩) ns.length cap, .slice (some ⟨bk, 0, none⟩) ns.length ns.length, .slice (some ⟨bn, 0, none⟩) ns.length ns.length, .slice (some ⟨bl, 0, none⟩) ns.length ns.length] 92)).alloc (.cells #[.string ⟨tag.toArray⟩, .slice at_ tests.length ct] 67)) ns.length) (.slice (some ⟨b, o, none⟩) ns.length cap) (.slice (some ⟨bk, 0, none⟩) ns.length ns.length) (.slice (some ⟨bn, 0, none⟩) ns.length ns.length) (.slice (some ⟨bl, 0, none⟩) ns.length ns.length) tag (.slice at_ tests.length ct) (mix (fun _ => false) C 0 ns.length)) := ⟨below_trans (below_trans hb1 hb2) hb3, (hb3.block _ (by simp; omega)).trans ((hb2.block _ (by simp)).trans e1), (hb3.block _ (by simp)).trans e2, by rw [mix_zero, ← none_row]; exact e3⟩
  have HT : Hid (TR w b o bk bn bl ns) := hT
  have HRW : Hid (RowAt (TstAt A) 6 w (.slice at_ tests.length ct) tests) := hrow
  have HRT : Hid (∀ t ∈ tests, RT R t) := hRT
  have HIA : Hid (IsL A) := hA
  have HKK : Hid (ASK A g R) := hK
  have c0 : ((w.alloc (.cells #[.slice (some ⟨b, o, none⟩) ns.length cap, .slice (some ⟨bk, 0, none⟩) ns.length ns.length, .slice (some ⟨bn, 0, none⟩) ns.length ns.length, .slice (some ⟨bl, 0, none⟩) ns.length ns.length] 92)).alloc (.cells #[.string ⟨tag.toArray⟩, .slice at_ tests.length ct] 67)).cell? ⟨w.heap.size, 0, none⟩ = some (.slice (some ⟨b, o, none⟩) ns.length cap) := cell_on hb2 (by simp [go_sem])
  have c1 : (mkB ((w.alloc (.cells #[.slice (some ⟨b, o, none⟩) ns.length cap, .slice (some ⟨bk, 0, none⟩) ns.length ns.length, .slice (some ⟨bn, 0, none⟩) ns.length ns.length, .slice (some ⟨bl, 0, none⟩) ns.length ns.length] 92)).alloc (.cells #[.string ⟨tag.toArray⟩, .slice at_ tests.length ct] 67)) ns.length).cell? ⟨w.heap.size, 0, none⟩ = some (.slice (some ⟨b, o, none⟩) ns.length cap) := cell_on hb3 c0
  clear hT hrow hRT hA hK hb1 hb2 hb3 e1 e2 e3
  go_enter Tryz.func133, Tryz.ntmps133
  go_wp2_with fail
  clear hmk c0 c1
  generalize mkB ((w.alloc (.cells #[.slice (some ⟨b, o, none⟩) ns.length cap, .slice (some ⟨bk, 0, none⟩) ns.length ns.length, .slice (some ⟨bn, 0, none⟩) ns.length ns.length, .slice (some ⟨bl, 0, none⟩) ns.length ns.length] 92)).alloc (.cells #[.string ⟨tag.toArray⟩, .slice at_ tests.length ct] 67)) ns.length = W0 at *
  go_loopw [19] (fun i wr => ∃ n : Nat, n ≤ ns.length ∧ i = .int .i64 n ∧ Hid (LS w wr (.slice (some ⟨b, o, none⟩) ns.length cap) (.slice (some ⟨bk, 0, none⟩) ns.length ns.length) (.slice (some ⟨bn, 0, none⟩) ns.length ns.length) (.slice (some ⟨bl, 0, none⟩) ns.length ns.length) tag (.slice at_ tests.length ct) (mix (fun _ => false) C n ns.length))) (fun i _ => ns.length - (intOf i).toNat)
  case atStart => exact ⟨0, Nat.zero_le _, rfl, HL0⟩
  case round =>
    obtain ⟨n, hn, rfl, HR⟩ := hrel
    clear HL0
    by_cases hln : n < ns.length
    · obtain ⟨vc, va, m0, m1, m2, m3, m4, hsc, hsa⟩ := (HT.out.rd.on HR.out.bel).at_ n hln
      obtain ⟨p1, -⟩ := at_parts hln
      rw [← p1] at m1
      obtain ⟨xup, hxup⟩ : ∃ q, q = ns[n].up := ⟨_, rfl⟩
      obtain ⟨xid, hxid⟩ : ∃ q, q = ns[n].id := ⟨_, rfl⟩
      rw [← hxup] at m0
      rw [← hxid] at m2
      obtain ⟨ac, cc, rfl, -⟩ := hsc
      obtain ⟨aa, ca, rfl, -⟩ := hsa
      clear p1 hxup hxid
      generalize ns[n].cls.length = ncl at *
      generalize ns[n].ats.length = nal at *
      have hba := on_alloc wr (.cells #[.int .i64 xup, .string ⟨(tagAt ns n).toArray⟩, .string ⟨xid.toArray⟩, .slice ac ncl cc, .slice aa nal ca] 28)
      have HR2 : Hid (LS w (wr.alloc (.cells #[.int .i64 xup, .string ⟨(tagAt ns n).toArray⟩, .string ⟨xid.toArray⟩, .slice ac ncl cc, .slice aa nal ca] 28)) (.slice (some ⟨b, o, none⟩) ns.length cap) (.slice (some ⟨bk, 0, none⟩) ns.length ns.length) (.slice (some ⟨bn, 0, none⟩) ns.length ns.length) (.slice (some ⟨bl, 0, none⟩) ns.length ns.length) tag (.slice at_ tests.length ct) _) := HR.out.on hba
      obtain ⟨-, x1, -⟩ := blk5_cells (World.alloc_heap_new wr (.cells #[.int .i64 xup, .string ⟨(tagAt ns n).toArray⟩, .string ⟨xid.toArray⟩, .slice ac ncl cc, .slice aa nal ca] 28))
      obtain ⟨s0, -⟩ := blk2d HR2.out.stp
      have z2 := HR2.out.row.cell (i := n) (by rw [mix_len]; exact hln)
      have zf := HR2.out.row.frozen n
      have n1 : (0 : Int) ≤ (n : Int) := by omega
      have n2 : (n : Int) < (ns.length : Int) := by omega
      have HS2 : ∀ x, x = C n → Hid (LS w ((wr.alloc (.cells #[.int .i64 xup, .string ⟨(tagAt ns n).toArray⟩, .string ⟨xid.toArray⟩, .slice ac ncl cc, .slice aa nal ca] 28)).setCell ⟨w.heap.size + 2, n, none⟩ (.bool x)) (.slice (some ⟨b, o, none⟩) ns.length cap) (.slice (some ⟨bk, 0, none⟩) ns.length ns.length) (.slice (some ⟨bn, 0, none⟩) ns.length ns.length) (.slice (some ⟨bl, 0, none⟩) ns.length ns.length) tag (.slice at_ tests.length ct) (mix (fun _ => false) C (n + 1) ns.length)) := fun x hx => by
        have h1 := HR2.out.set n x
        rw [hx, mix_set (fun _ => false) C hln] at h1
        rw [hx]
        exact h1
      have hcn := HCC.out n
      clear hba HR
      cases hte : tag.isEmpty with
      | true =>
        have HS3 := HS2 true (by rw [hcn, hte]; rfl)
        clear HS2 HR2 hcn
        go_wp2
        exact ⟨⟨n + 1, by omega, by go_num, HS3⟩, by simp [intOf]; omega⟩
      | false =>
        cases htt : (tag == tagAt ns n) with
        | true =>
          have HS3 := HS2 true (by rw [hcn, hte, htt]; rfl)
          have e : tagAt ns n = tag := (by simpa using htt : tag = tagAt ns n).symm
          rw [e] at HS3 x1 m1 z2 s0 zf
          clear HS2 HR2 hcn e htt
          go_wp2
          exact ⟨⟨n + 1, by omega, by go_num, HS3⟩, by simp [intOf]; omega⟩
        | false =>
          have HS3 := HS2 false (by rw [hcn, hte, htt]; rfl)
          clear HS2 HR2 hcn
          generalize tagAt ns n = tg at *
          have he2 : ¬ (⟨tag.toArray⟩ : ByteArray) = ⟨tg.toArray⟩ := fun e => by
            have := congrArg (fun x : ByteArray => x.data.toList) e
            simp at this
            rw [this] at htt
            simp at htt
          go_wp2
          exact ⟨⟨n + 1, by omega, by go_num, HS3⟩, by simp [intOf]; omega⟩
    · obtain ⟨D, hD⟩ : ∃ D : Nat → Nat → Bool, D = fun j n => C n && (tests.take j).all fun t => tstM ns (g ns) t n := ⟨_, rfl⟩
      have hnl : n = ns.length := by omega
      have HD0 : Hid (LS w wr (.slice (some ⟨b, o, none⟩) ns.length cap) (.slice (some ⟨bk, 0, none⟩) ns.length ns.length) (.slice (some ⟨bn, 0, none⟩) ns.length ns.length) (.slice (some ⟨bl, 0, none⟩) ns.length ns.length) tag (.slice at_ tests.length ct) ((List.range ns.length).map (D 0))) := by
        have h1 := HR.out
        rw [show mix (fun _ => false) C n ns.length = (List.range ns.length).map (D 0) by rw [hnl, mix_all, hD]; congr 1; funext n; simp] at h1
        exact h1
      have HDS : Hid (∀ j (h : j < tests.length) n, D (j + 1) n = (D j n && tstM ns (g ns) tests[j] n)) := fun j h n => by
        rw [hD]
        dsimp only
        rw [List.take_succ_eq_append_getElem h, List.all_append, Bool.and_assoc]
        simp
      have HDE : Hid ((List.range ns.length).map (D tests.length) = (List.range ns.length).map (stpM ns (g ns) ⟨tag, tests⟩)) := by
        unfold Hid
        apply List.map_congr_left
        intro n _
        rw [hD]
        dsimp only
        rw [List.take_length, HCC.out n]
        rfl
      obtain ⟨-, s1⟩ := blk2d HR.out.stp
      obtain ⟨wq, hwq⟩ : ∃ q, q = wr := ⟨_, rfl⟩
      subst hwq
      clear hD HR HCC hnl
      go_wp2_with fail
      clear s1
      go_loopw [41] (fun i wr => ∃ j : Nat, j ≤ tests.length ∧ i = .int .i64 j ∧ Hid (LS w wr (.slice (some ⟨b, o, none⟩) ns.length cap) (.slice (some ⟨bk, 0, none⟩) ns.length ns.length) (.slice (some ⟨bn, 0, none⟩) ns.length ns.length) (.slice (some ⟨bl, 0, none⟩) ns.length ns.length) tag (.slice at_ tests.length ct) ((List.range ns.length).map (D j)))) (fun i _ => tests.length - (intOf i).toNat)
      case atStart => exact ⟨0, Nat.zero_le _, rfl, HD0⟩
      case round =>
        obtain ⟨j, hj, rfl, HR⟩ := hrel
        clear HD0
        by_cases hlt : j < tests.length
        · obtain ⟨-, bt, ot, rfl, hcells⟩ := RowAt.at HRW.out (by omega)
          obtain ⟨vt1, t0, t1, t2, t3, t4, t5, hA5⟩ := hcells j hlt
          obtain ⟨al, cl, rfl, -⟩ := HIA.out.form hA5
          have hrt := HRT.out _ (List.getElem_mem hlt)
          have HDJ : Hid (∀ n, D (j + 1) n = (D j n && tstM ns (g ns) tests[j] n)) := fun n => HDS.out j hlt n
          generalize tests[j] = tt at *
          replace t0 := cell_on HR.out.bel t0
          replace t1 := cell_on HR.out.bel t1
          replace t2 := cell_on HR.out.bel t2
          replace t3 := cell_on HR.out.bel t3
          replace t4 := cell_on HR.out.bel t4
          replace t5 := cell_on HR.out.bel t5
          have hba := on_alloc wr (.cells #[.int .i64 tt.kind, .string ⟨tt.name.toArray⟩, .string ⟨tt.value.toArray⟩, .int .i64 tt.a, .int .i64 tt.b, .slice al tt.list.length cl] 71)
          have HR2 : Hid (LS w (wr.alloc (.cells #[.int .i64 tt.kind, .string ⟨tt.name.toArray⟩, .string ⟨tt.value.toArray⟩, .int .i64 tt.a, .int .i64 tt.b, .slice al tt.list.length cl] 71)) (.slice (some ⟨b, o, none⟩) ns.length cap) (.slice (some ⟨bk, 0, none⟩) ns.length ns.length) (.slice (some ⟨bn, 0, none⟩) ns.length ns.length) (.slice (some ⟨bl, 0, none⟩) ns.length ns.length) tag (.slice (some ⟨bt, ot, none⟩) tests.length ct) _) := HR.out.on hba
          obtain ⟨x0, x1, x2, x3, x4, x5⟩ := blk6c (World.alloc_heap_new wr (.cells #[.int .i64 tt.kind, .string ⟨tt.name.toArray⟩, .string ⟨tt.value.toArray⟩, .int .i64 tt.a, .int .i64 tt.b, .slice al tt.list.length cl] 71))
          obtain ⟨y0, y1, y2, y3⟩ := blk4c HR2.out.box
          have HC : Hid (Calls Tryz.prog 168 _ _ _) := HKK.out w _ b o cap bk bn bl ns _ tt HT.out hA5 hrt HR2.out.bel
          have j1 : (0 : Int) ≤ (j : Int) := by omega
          have j2 : (j : Int) < (tests.length : Int) := by omega
          clear hba hA5 hcells hrt HR
          go_wp2_with fail
          clear t0 t1 t2 t3 t4 t5 x0 x1 x2 x3 x4 x5 y0 y1 y2 y3
          generalize wr.alloc (.cells #[.int .i64 tt.kind, .string ⟨tt.name.toArray⟩, .string ⟨tt.value.toArray⟩, .int .i64 tt.a, .int .i64 tt.b, .slice al tt.list.length cl] 71) = W1 at *
          refine HC.out.mono ?_
          rintro e w2 ⟨K, caps, rfl, hen, hb2, hcl⟩
          have HCL : Hid (∀ (W : World) (n : Nat), Below w.heap.size w W → (∀ k, W1.heap.size ≤ k → k < w2.heap.size → W.heap[k]? = w2.heap[k]?) → n < ns.length → Calls Tryz.prog K (#[.int .i64 n] ++ caps) W fun e W' => e = .returned (.bool (tstM ns (g ns) tt n)) ∧ Below W.heap.size W W') := hcl
          have HR3 : Hid (LS w w2 (.slice (some ⟨b, o, none⟩) ns.length cap) (.slice (some ⟨bk, 0, none⟩) ns.length ns.length) (.slice (some ⟨bn, 0, none⟩) ns.length ns.length) (.slice (some ⟨bl, 0, none⟩) ns.length ns.length) tag (.slice (some ⟨bt, ot, none⟩) tests.length ct) (mix (D j) (D (j + 1)) 0 ns.length)) := by
            have h1 := HR2.out.on hb2
            unfold Hid
            rw [mix_zero]
            exact h1
          have hfl : w.heap.size + 2 < W1.heap.size := HR2.out.row.lt
          have hlw : W1.heap.size ≤ w2.heap.size := hb2.size
          clear hb2 hcl HR2 HC
          go_wp2_with fail
          go_loopw [50] (fun i wr => ∃ n : Nat, n ≤ ns.length ∧ i = .int .i64 n ∧ w2.heap.size ≤ wr.heap.size ∧ Hid (LS w wr (.slice (some ⟨b, o, none⟩) ns.length cap) (.slice (some ⟨bk, 0, none⟩) ns.length ns.length) (.slice (some ⟨bn, 0, none⟩) ns.length ns.length) (.slice (some ⟨bl, 0, none⟩) ns.length ns.length) tag (.slice (some ⟨bt, ot, none⟩) tests.length ct) (mix (D j) (D (j + 1)) n ns.length)) ∧ Hid (∀ k, W1.heap.size ≤ k → k < w2.heap.size → wr.heap[k]? = w2.heap[k]?)) (fun i _ => ns.length - (intOf i).toNat)
          case atStart => exact ⟨0, Nat.zero_le _, rfl, Nat.le_refl _, HR3, fun k _ _ => rfl⟩
          case round =>
            obtain ⟨n, hn, rfl, hsz, HRn, HBK⟩ := hrel
            clear HR3
            by_cases hln : n < ns.length
            · have z2 : wr.cell? ⟨w.heap.size + 2, n, none⟩ = some (.bool (D j n)) := by
                have := HRn.out.row.cell (i := n) (by rw [mix_len]; exact hln)
                rw [mix_get] at this
                simpa using this
              have zf := HRn.out.row.frozen n
              have n1 : (0 : Int) ≤ (n : Int) := by omega
              have n2 : (n : Int) < (ns.length : Int) := by omega
              have hdj := HDJ.out n
              cases hf : D j n with
              | false =>
                rw [hf, Bool.false_and] at hdj
                rw [hf] at z2
                have HS : Hid (LS w (wr.setCell ⟨w.heap.size + 2, n, none⟩ (.bool false)) (.slice (some ⟨b, o, none⟩) ns.length cap) (.slice (some ⟨bk, 0, none⟩) ns.length ns.length) (.slice (some ⟨bn, 0, none⟩) ns.length ns.length) (.slice (some ⟨bl, 0, none⟩) ns.length ns.length) tag (.slice (some ⟨bt, ot, none⟩) tests.length ct) (mix (D j) (D (j + 1)) (n + 1) ns.length)) := by
                  have h1 := HRn.out.set n false
                  rw [← hdj, mix_set (D j) (D (j + 1)) hln] at h1
                  rw [← hdj]
                  exact h1
                have HBK2 : Hid (∀ k, W1.heap.size ≤ k → k < w2.heap.size → (wr.setCell ⟨w.heap.size + 2, n, none⟩ (.bool false)).heap[k]? = w2.heap[k]?) := fun k h1 h2 => by
                  rw [Below.heap_setCell _ _ _ _ (by show k ≠ w.heap.size + 2; omega)]
                  exact HBK.out k h1 h2
                have hsz2 : w2.heap.size ≤ (wr.setCell ⟨w.heap.size + 2, n, none⟩ (.bool false)).heap.size := by simpa [World.setCell] using hsz
                clear hdj hf
                go_wp2
                exact ⟨⟨n + 1, by omega, by go_num, hsz2, HS, HBK2⟩, by simp [intOf]; omega⟩
              | true =>
                rw [hf, Bool.true_and] at hdj
                rw [hf] at z2
                have HCN := HCL.out wr n HRn.out.bel HBK.out hln
                rw [← hdj] at HCN
                have HCN2 : Hid (Calls Tryz.prog K _ _ _) := HCN
                clear HCN hf hdj
                go_wp2_with fail
                refine HCN2.out.mono ?_
                rintro e w5 ⟨rfl, hb5⟩
                have z5 := cell_on hb5 z2
                have zf5 := (HRn.out.on hb5).row.frozen n
                have HS : Hid (LS w (w5.setCell ⟨w.heap.size + 2, n, none⟩ (.bool (D (j + 1) n))) (.slice (some ⟨b, o, none⟩) ns.length cap) (.slice (some ⟨bk, 0, none⟩) ns.length ns.length) (.slice (some ⟨bn, 0, none⟩) ns.length ns.length) (.slice (some ⟨bl, 0, none⟩) ns.length ns.length) tag (.slice (some ⟨bt, ot, none⟩) tests.length ct) (mix (D j) (D (j + 1)) (n + 1) ns.length)) := by
                  have h1 := (HRn.out.on hb5).set n (D (j + 1) n)
                  rw [mix_set (D j) (D (j + 1)) hln] at h1
                  exact h1
                have HBK2 : Hid (∀ k, W1.heap.size ≤ k → k < w2.heap.size → (w5.setCell ⟨w.heap.size + 2, n, none⟩ (.bool (D (j + 1) n))).heap[k]? = w2.heap[k]?) := fun k h1 h2 => by
                  rw [Below.heap_setCell _ _ _ _ (by show k ≠ w.heap.size + 2; omega), hb5.block k (by omega)]
                  exact HBK.out k h1 h2
                have hsz2 : w2.heap.size ≤ (w5.setCell ⟨w.heap.size + 2, n, none⟩ (.bool (D (j + 1) n))).heap.size := by
                  have := hb5.size
                  simp [World.setCell]
                  omega
                clear hb5 z2 zf
                generalize D (j + 1) n = x at *
                go_wp2
                exact ⟨⟨n + 1, by omega, by go_num, hsz2, HS, HBK2⟩, by simp [intOf]; omega⟩
            · have hnl : n = ns.length := by omega
              have HSF : Hid (LS w wr (.slice (some ⟨b, o, none⟩) ns.length cap) (.slice (some ⟨bk, 0, none⟩) ns.length ns.length) (.slice (some ⟨bn, 0, none⟩) ns.length ns.length) (.slice (some ⟨bl, 0, none⟩) ns.length ns.length) tag (.slice (some ⟨bt, ot, none⟩) tests.length ct) ((List.range ns.length).map (D (j + 1)))) := by
                have h1 := HRn.out
                rw [show mix (D j) (D (j + 1)) n ns.length = (List.range ns.length).map (D (j + 1)) by rw [hnl]; exact mix_all _ _ _] at h1
                exact h1
              clear hnl
              go_wp2
              exact ⟨⟨j + 1, by omega, by go_num, HSF⟩, by simp [intOf]; omega⟩
        · have hjl : j = tests.length := by omega
          have HRF : Hid (BRow wr (w.heap.size + 2) ((List.range ns.length).map (stpM ns (g ns) ⟨tag, tests⟩))) := by
            have h1 := HR.out.row
            rw [hjl, HDE.out] at h1
            exact h1
          have HBF : Hid (Below w.heap.size w wr) := HR.out.bel
          go_wp2
          go_ret
          exact ⟨w.heap.size + 2, rfl, by omega, HRF.out, HBF.out⟩
end Go.Proofs.YtephhllfodlfbaaGreatDoor
/-
  The questions that tests are made into.
-/
namespace Go.Proofs.YtephhllfodlfbaaGreatDoor
open Go.RowKit

theorem enter_131 (args : Array Value) (W : World) : (callFunc 180 args).run Tryz.prog W = .ok (.enter 180 args) W := by simp [callFunc, go_sem, Tryz.func180, Tryz.f180]
theorem enter_133 (args : Array Value) (W : World) : (callFunc 182 args).run Tryz.prog W = .ok (.enter 182 args) W := by simp [callFunc, go_sem, Tryz.func182, Tryz.f182]
theorem enter_134 (args : Array Value) (W : World) : (callFunc 183 args).run Tryz.prog W = .ok (.enter 183 args) W := by simp [callFunc, go_sem, Tryz.func183, Tryz.f183]
theorem enter_136 (args : Array Value) (W : World) : (callFunc 185 args).run Tryz.prog W = .ok (.enter 185 args) W := by simp [callFunc, go_sem, Tryz.func185, Tryz.f185]
theorem enter_137 (args : Array Value) (W : World) : (callFunc 186 args).run Tryz.prog W = .ok (.enter 186 args) W := by simp [callFunc, go_sem, Tryz.func186, Tryz.f186]
theorem enter_138 (args : Array Value) (W : World) : (callFunc 187 args).run Tryz.prog W = .ok (.enter 187 args) W := by simp [callFunc, go_sem, Tryz.func187, Tryz.f187]
theorem enter_139 (args : Array Value) (W : World) : (callFunc 188 args).run Tryz.prog W = .ok (.enter 188 args) W := by simp [callFunc, go_sem, Tryz.func188, Tryz.f188]
theorem enter_140 (args : Array Value) (W : World) : (callFunc 189 args).run Tryz.prog W = .ok (.enter 189 args) W := by simp [callFunc, go_sem, Tryz.func189, Tryz.f189]
theorem enter_142 (args : Array Value) (W : World) : (callFunc 191 args).run Tryz.prog W = .ok (.enter 191 args) W := by simp [callFunc, go_sem, Tryz.func191, Tryz.f191]
theorem enter_143 (args : Array Value) (W : World) : (callFunc 192 args).run Tryz.prog W = .ok (.enter 192 args) W := by simp [callFunc, go_sem, Tryz.func192, Tryz.f192]
set_option maxHeartbeats 1000000 in
theorem index_any (v : Value) (ss : List (List UInt8)) (name : List UInt8) (w : World) (hv : StrsAt w v ss) (hl : ss.length ≤ 65536) :
    Calls Tryz.prog 205 #[v, .string ⟨name.toArray⟩] w fun e w' => ∃ i : Int, e = .returned (.int .i64 i) ∧ decide (0 ≤ i) = ss.any (· == name) ∧ w' = w := by
  obtain ⟨a, cap, rfl, hc⟩ := hv
  have HC : Hid (∀ i (h : i < ss.length), ∃ b o, a = some ⟨b, o, none⟩ ∧ w.cell? ⟨b, o + i, none⟩ = some (.string ⟨ss[i].toArray⟩)) := fun i hi => by
    rcases hc with rfl | ⟨b, o, rfl, hc⟩
    · simp at hi
    · exact ⟨b, o, rfl, hc i hi⟩
  clear hc
  go_enter Tryz.func205, Tryz.ntmps205
  go_wp2_with fail
  go_loop [8] (fun m => ∃ k : Nat, k ≤ ss.length ∧ m = .int .i64 k ∧ Hid (∀ j (h : j < ss.length), j < k → (ss[j] == name) = false)) (fun m => ss.length - (intOf m).toNat)
  case atStart => exact ⟨0, Nat.zero_le _, rfl, fun j _ hj => by omega⟩
  case round =>
    obtain ⟨k, hk, rfl, HD⟩ := hrel
    by_cases hlt : k < ss.length
    · obtain ⟨b, o, rfl, d1⟩ := HC.out k hlt
      cases he : (ss[k] == name) with
      | true =>
        have HY : Hid (ss.any (· == name) = true) := by
          unfold Hid
          rw [List.any_eq_true]
          exact ⟨ss[k], List.getElem_mem hlt, he⟩
        have e : ss[k] = name := by simpa using he
        rw [e] at d1
        clear he e
        go_wp2
        go_ret
        exact ⟨k, rfl, by rw [HY.out]; simp, rfl⟩
      | false =>
        have HD2 : Hid (∀ j (h : j < ss.length), j < k + 1 → (ss[j] == name) = false) := by
          intro j h hj
          by_cases e : j = k
          · subst e
            exact he
          · exact HD.out j h (by omega)
        generalize ss[k] = q at *
        have he2 : ¬ (⟨name.toArray⟩ : ByteArray) = ⟨q.toArray⟩ := fun e => by
          have := congrArg (fun x : ByteArray => x.data.toList) e
          simp at this
          rw [this] at he
          simp at he
        have he3 : (name == q) = false := by
          rw [Bool.eq_false_iff]
          intro e
          rw [(by simpa using e : name = q)] at he
          simp at he
        go_wp2
        go_round
        case rel => exact ⟨k + 1, by omega, by go_num, HD2⟩
        case measure => simp [intOf]; omega
    · have HN : Hid (ss.any (· == name) = false) := by
        unfold Hid
        rw [Bool.eq_false_iff]
        intro e
        rw [List.any_eq_true] at e
        obtain ⟨c, hc, hp⟩ := e
        obtain ⟨j, hj, rfl⟩ := List.getElem_of_mem hc
        rw [HD.out j hj (by omega)] at hp
        cases hp
      go_wp2
      go_ret
      exact ⟨-1, rfl, by rw [HN.out]; rfl, rfl⟩
set_option maxHeartbeats 1000000 in
theorem contains_any (v : Value) (ss : List (List UInt8)) (name : List UInt8) (w : World) (hv : StrsAt w v ss) (hl : ss.length ≤ 65536) :
    Calls Tryz.prog 181 #[v, .string ⟨name.toArray⟩] w fun e w' => e = .returned (.bool (ss.any (· == name))) ∧ w' = w := by
  obtain ⟨a, cap, rfl, -⟩ := id hv
  have HC : Hid (Calls Tryz.prog 205 _ _ _) := index_any _ ss name w hv hl
  clear hv
  go_enter Tryz.func181, Tryz.ntmps181
  go_wp2_with fail
  refine HC.out.mono ?_
  rintro e w1 ⟨i, rfl, hi, rfl⟩
  have HI : Hid (decide (0 ≤ i) = ss.any (· == name)) := hi
  clear hi
  go_wp2
  go_ret
  exact ⟨by rw [← HI.out]; rfl, rfl⟩
theorem on4c {W W' : World} {p1 p2 p3 p4 : Addr} {u1 u2 u3 u4 : Value} (h : W.cell? p1 = some u1 ∧ W.cell? p2 = some u2 ∧ W.cell? p3 = some u3 ∧ W.cell? p4 = some u4) (hb : Below W.heap.size W W') : W'.cell? p1 = some u1 ∧ W'.cell? p2 = some u2 ∧ W'.cell? p3 = some u3 ∧ W'.cell? p4 = some u4 :=
  ⟨cell_on hb h.1, cell_on hb h.2.1, cell_on hb h.2.2.1, cell_on hb h.2.2.2⟩
set_option maxRecDepth 100000 in
set_option maxHeartbeats 2000000 in
theorem ask1 (W : World) (Bt Bq b o cap bk bn bl : Nat) (ns : List Pl.Nd) (kind : Int) (name value : List UInt8) (ta tb : Int) (vl : Value) (n : Nat) (hT : TR W b o bk bn bl ns) (ht : W.heap[Bt]? = some (.cells #[.slice (some ⟨b, o, none⟩) ns.length cap, .slice (some ⟨bk, 0, none⟩) ns.length ns.length, .slice (some ⟨bn, 0, none⟩) ns.length ns.length, .slice (some ⟨bl, 0, none⟩) ns.length ns.length] 92)) (hq : W.heap[Bq]? = some (.cells #[.int .i64 kind, .string ⟨name.toArray⟩, .string ⟨value.toArray⟩, .int .i64 ta, .int .i64 tb, vl] 71)) (hn : n < ns.length) :
    Calls Tryz.prog 180 #[.int .i64 n, .pointer (some ⟨Bt, 0, none⟩), .pointer (some ⟨Bq, 0, none⟩)] W fun e W' => e = .returned (.bool ((clsAt ns n).any (· == name))) ∧ Below W.heap.size W W' := by
  obtain ⟨x0, x1, x2, x3⟩ := blk4c ht
  obtain ⟨q0, q1, q2, q3, q4, q5⟩ := blk6c hq
  have i1 : (0 : Int) ≤ (n : Int) := by omega
  have i2 : (n : Int) < (ns.length : Int) := by omega
  obtain ⟨vc, va, m0, m1, m2, m3, m4, hsc, hsa⟩ := hT.rd.at_ n hn
  have h6 := (right_short (hT.rd.rt _ (List.getElem_mem hn))).1
  rw [(at_parts hn).2.2.1]
  obtain ⟨ac, cc, rfl, -⟩ := id hsc
  have HC : Hid (Calls Tryz.prog 181 _ _ _) := contains_any _ ns[n].cls name W.drew hsc (by omega)
  have S0 : W.drew.cell? ⟨Bt, 0, none⟩ = some (.slice (some ⟨b, o, none⟩) ns.length cap) ∧ W.drew.cell? ⟨b, o + n * 5 + 3, none⟩ = some (.slice ac ns[n].cls.length cc) ∧ W.drew.cell? ⟨Bq, 1, none⟩ = some (.string ⟨name.toArray⟩) := ⟨x0, m3, q1⟩
  generalize ns[n].cls.length = cn at *
  generalize ns[n].cls.any (· == name) = bv at *
  clear hT ht hq x0 x1 x2 x3 q0 q1 q2 q3 q4 q5 m0 m1 m2 m3 m4 hsc hsa
  go_enter Tryz.func180, Tryz.ntmps180
  go_wp2_with fail
  go_region_held3 (fun w' => w'.cell? ⟨Bt, 0, none⟩ = some (.slice (some ⟨b, o, none⟩) ns.length cap) ∧ w'.cell? ⟨b, o + n * 5 + 3, none⟩ = some (.slice ac cn cc) ∧ w'.cell? ⟨Bq, 1, none⟩ = some (.string ⟨name.toArray⟩)) (first | with_reducible assumption | exact on3c (by with_reducible assumption) (by with_reducible assumption))
    (first | (go_at_call 181; refine HC.out.mono ?_; rintro e w2 ⟨rfl, hw2⟩; rw [hw2]; clear hw2))
  all_goals
    go_wp2
    go_ret
    exact ⟨rfl, (Below.refl _ W).drew⟩
set_option maxRecDepth 100000 in
set_option maxHeartbeats 2000000 in
theorem ask2 (W : World) (Bt Bq b o cap bk bn bl : Nat) (ns : List Pl.Nd) (kind : Int) (name value : List UInt8) (ta tb : Int) (vl : Value) (n : Nat) (hT : TR W b o bk bn bl ns) (ht : W.heap[Bt]? = some (.cells #[.slice (some ⟨b, o, none⟩) ns.length cap, .slice (some ⟨bk, 0, none⟩) ns.length ns.length, .slice (some ⟨bn, 0, none⟩) ns.length ns.length, .slice (some ⟨bl, 0, none⟩) ns.length ns.length] 92)) (hq : W.heap[Bq]? = some (.cells #[.int .i64 kind, .string ⟨name.toArray⟩, .string ⟨value.toArray⟩, .int .i64 ta, .int .i64 tb, vl] 71)) (hn : n < ns.length) :
    Calls Tryz.prog 182 #[.int .i64 n, .pointer (some ⟨Bt, 0, none⟩), .pointer (some ⟨Bq, 0, none⟩)] W fun e W' => e = .returned (.bool (idAt ns n == name)) ∧ Below W.heap.size W W' := by
  obtain ⟨x0, x1, x2, x3⟩ := blk4c ht
  obtain ⟨q0, q1, q2, q3, q4, q5⟩ := blk6c hq
  have i1 : (0 : Int) ≤ (n : Int) := by omega
  have i2 : (n : Int) < (ns.length : Int) := by omega
  obtain ⟨vc, va, m0, m1, m2, m3, m4, hsc, hsa⟩ := hT.rd.at_ n hn
  rw [← (at_parts hn).2.1] at m2
  generalize idAt ns n = idn at *
  clear hT ht hq x1 x2 x3 q0 q2 q3 q4 q5 m0 m1 m3 m4 hsc hsa
  cases he : (idn == name) with
  | true =>
    have e : idn = name := by simpa using he
    subst e
    clear he
    go_enter Tryz.func182, Tryz.ntmps182
    go_wp2_with fail
    go_quiet (fail)
    go_wp2
    go_ret
    exact ⟨rfl, below_drewN (Below.refl _ _) _⟩
  | false =>
    have he2 : ¬ (⟨idn.toArray⟩ : ByteArray) = ⟨name.toArray⟩ := fun e => by
      have := congrArg (fun x : ByteArray => x.data.toList) e
      simp at this
      rw [this] at he
      simp at he
    go_enter Tryz.func182, Tryz.ntmps182
    go_wp2_with fail
    go_quiet (fail)
    go_wp2
    go_ret
    exact ⟨rfl, below_drewN (Below.refl _ _) _⟩
set_option maxRecDepth 100000 in
set_option maxHeartbeats 2000000 in
theorem ask3 (W : World) (Bt Bq b o cap bk bn bl : Nat) (ns : List Pl.Nd) (kind : Int) (name value : List UInt8) (ta tb : Int) (vl : Value) (n : Nat) (hT : TR W b o bk bn bl ns) (ht : W.heap[Bt]? = some (.cells #[.slice (some ⟨b, o, none⟩) ns.length cap, .slice (some ⟨bk, 0, none⟩) ns.length ns.length, .slice (some ⟨bn, 0, none⟩) ns.length ns.length, .slice (some ⟨bl, 0, none⟩) ns.length ns.length] 92)) (hq : W.heap[Bq]? = some (.cells #[.int .i64 kind, .string ⟨name.toArray⟩, .string ⟨value.toArray⟩, .int .i64 ta, .int .i64 tb, vl] 71)) (hn : n < ns.length) :
    Calls Tryz.prog 183 #[.int .i64 n, .pointer (some ⟨Bq, 0, none⟩), .pointer (some ⟨Bt, 0, none⟩)] W fun e W' => e = .returned (.bool (Nt.Pl.holds ta tb (plc (famOf ns n) n + 1))) ∧ Below W.heap.size W W' := by
  obtain ⟨x0, x1, x2, x3⟩ := blk4c ht
  obtain ⟨q0, q1, q2, q3, q4, q5⟩ := blk6c hq
  have i1 : (0 : Int) ≤ (n : Int) := by omega
  have i2 : (n : Int) < (ns.length : Int) := by omega
  have m0 := hT.num n hn
  generalize (plc (famOf ns n) n + 1 : Int) = nv at *
  have S0 : W.drew.cell? ⟨Bt, 2, none⟩ = some (.slice (some ⟨bn, 0, none⟩) ns.length ns.length) ∧ W.drew.cell? ⟨bn, n, none⟩ = some (.int .i64 nv) ∧ W.drew.cell? ⟨Bq, 3, none⟩ = some (.int .i64 ta) ∧ W.drew.cell? ⟨Bq, 4, none⟩ = some (.int .i64 tb) := ⟨x2, m0, q3, q4⟩
  clear hT ht hq x0 x1 x2 x3 q0 q1 q2 q3 q4 q5 m0
  go_enter Tryz.func183, Tryz.ntmps183
  go_wp2_with fail
  go_region_held3 (fun w' => w'.cell? ⟨Bt, 2, none⟩ = some (.slice (some ⟨bn, 0, none⟩) ns.length ns.length) ∧ w'.cell? ⟨bn, n, none⟩ = some (.int .i64 nv) ∧ w'.cell? ⟨Bq, 3, none⟩ = some (.int .i64 ta) ∧ w'.cell? ⟨Bq, 4, none⟩ = some (.int .i64 tb)) (first | with_reducible assumption | exact on4c (by with_reducible assumption) (by with_reducible assumption))
    (first | (go_at_call 184; refine (Nt.holds_any ta tb nv _).mono ?_; rintro e w2 ⟨rfl, hb2⟩))
  all_goals
    have HB2 : Hid (Below W.heap.size W w2) := below_trans (Below.refl _ W).drew hb2
    clear hb2 S0
    go_wp2
    go_ret
    exact ⟨rfl, HB2.out⟩
set_option maxRecDepth 100000 in
set_option maxHeartbeats 2000000 in
theorem ask4 (W : World) (Bt Bq b o cap bk bn bl : Nat) (ns : List Pl.Nd) (kind : Int) (name value : List UInt8) (ta tb : Int) (vl : Value) (n : Nat) (hT : TR W b o bk bn bl ns) (ht : W.heap[Bt]? = some (.cells #[.slice (some ⟨b, o, none⟩) ns.length cap, .slice (some ⟨bk, 0, none⟩) ns.length ns.length, .slice (some ⟨bn, 0, none⟩) ns.length ns.length, .slice (some ⟨bl, 0, none⟩) ns.length ns.length] 92)) (hq : W.heap[Bq]? = some (.cells #[.int .i64 kind, .string ⟨name.toArray⟩, .string ⟨value.toArray⟩, .int .i64 ta, .int .i64 tb, vl] 71)) (hn : n < ns.length) :
    Calls Tryz.prog 185 #[.int .i64 n, .pointer (some ⟨Bq, 0, none⟩), .pointer (some ⟨Bt, 0, none⟩)] W fun e W' => e = .returned (.bool (Nt.Pl.holds ta tb ((famOf ns n).length - plc (famOf ns n) n))) ∧ Below W.heap.size W W' := by
  obtain ⟨x0, x1, x2, x3⟩ := blk4c ht
  obtain ⟨q0, q1, q2, q3, q4, q5⟩ := blk6c hq
  have i1 : (0 : Int) ≤ (n : Int) := by omega
  have i2 : (n : Int) < (ns.length : Int) := by omega
  have m0 := hT.lst n hn
  generalize ((famOf ns n).length - plc (famOf ns n) n : Int) = nv at *
  have S0 : W.drew.cell? ⟨Bt, 3, none⟩ = some (.slice (some ⟨bl, 0, none⟩) ns.length ns.length) ∧ W.drew.cell? ⟨bl, n, none⟩ = some (.int .i64 nv) ∧ W.drew.cell? ⟨Bq, 3, none⟩ = some (.int .i64 ta) ∧ W.drew.cell? ⟨Bq, 4, none⟩ = some (.int .i64 tb) := ⟨x3, m0, q3, q4⟩
  clear hT ht hq x0 x1 x2 x3 q0 q1 q2 q3 q4 q5 m0
  go_enter Tryz.func185, Tryz.ntmps185
  go_wp2_with fail
  go_region_held3 (fun w' => w'.cell? ⟨Bt, 3, none⟩ = some (.slice (some ⟨bl, 0, none⟩) ns.length ns.length) ∧ w'.cell? ⟨bl, n, none⟩ = some (.int .i64 nv) ∧ w'.cell? ⟨Bq, 3, none⟩ = some (.int .i64 ta) ∧ w'.cell? ⟨Bq, 4, none⟩ = some (.int .i64 tb)) (first | with_reducible assumption | exact on4c (by with_reducible assumption) (by with_reducible assumption))
    (first | (go_at_call 184; refine (Nt.holds_any ta tb nv _).mono ?_; rintro e w2 ⟨rfl, hb2⟩))
  all_goals
    have HB2 : Hid (Below W.heap.size W w2) := below_trans (Below.refl _ W).drew hb2
    clear hb2 S0
    go_wp2
    go_ret
    exact ⟨rfl, HB2.out⟩
set_option maxHeartbeats 1000000 in
theorem ask5 (W : World) (Bt b o cap bk bn bl : Nat) (ns : List Pl.Nd) (n : Nat) (hT : TR W b o bk bn bl ns) (ht : W.heap[Bt]? = some (.cells #[.slice (some ⟨b, o, none⟩) ns.length cap, .slice (some ⟨bk, 0, none⟩) ns.length ns.length, .slice (some ⟨bn, 0, none⟩) ns.length ns.length, .slice (some ⟨bl, 0, none⟩) ns.length ns.length] 92)) (hn : n < ns.length) :
    Calls Tryz.prog 186 #[.int .i64 n, .pointer (some ⟨Bt, 0, none⟩)] W fun e W' => e = .returned (.bool ((Pl.kidsOf ns n).length == 0)) ∧ Below W.heap.size W W' := by
  obtain ⟨x0, x1, x2, x3⟩ := blk4c ht
  have m0 := hT.kids n hn
  rw [← beq_cast]
  generalize (Pl.kidsOf ns n).length = kn at *
  have i1 : (0 : Int) ≤ (n : Int) := by omega
  have i2 : (n : Int) < (ns.length : Int) := by omega
  clear hT ht x0 x2 x3
  go_enter Tryz.func186, Tryz.ntmps186
  go_wp2
  go_ret
  exact ⟨rfl, Below.refl _ _⟩
set_option maxHeartbeats 1000000 in
theorem ask6 (W : World) (n : Nat) : Calls Tryz.prog 187 #[.int .i64 n] W fun e W' => e = .returned (.bool (n == 0)) ∧ Below W.heap.size W W' := by
  rw [← beq_cast]
  go_enter Tryz.func187, Tryz.ntmps187
  go_wp2
  go_ret
  exact ⟨rfl, Below.refl _ _⟩
set_option maxHeartbeats 1000000 in
theorem ask7 (W : World) (Bf g N : Nat) (F : Nat → Bool) (n : Nat) (hf : W.cell? ⟨Bf, 0, none⟩ = some (.slice (some ⟨g, 0, none⟩) N N)) (hr : BRow W g ((List.range N).map F)) (hn : n < N) :
    Calls Tryz.prog 188 #[.int .i64 n, .pointer (some ⟨Bf, 0, none⟩)] W fun e W' => e = .returned (.bool (!F n)) ∧ Below W.heap.size W W' := by
  have z1 : W.cell? ⟨g, n, none⟩ = some (.bool (F n)) := by
    have := hr.cell (i := n) (by simpa using hn)
    simpa using this
  have i1 : (0 : Int) ≤ (n : Int) := by omega
  have i2 : (n : Int) < (N : Int) := by omega
  generalize F n = x at *
  clear hr
  go_enter Tryz.func188, Tryz.ntmps188
  go_wp2
  go_ret
  exact ⟨rfl, Below.refl _ _⟩
set_option maxHeartbeats 1000000 in
theorem ask8 (W : World) (Bf g N : Nat) (F : Nat → Bool) (n : Nat) (hf : W.cell? ⟨Bf, 0, none⟩ = some (.slice (some ⟨g, 0, none⟩) N N)) (hr : BRow W g ((List.range N).map F)) (hn : n < N) :
    Calls Tryz.prog 189 #[.int .i64 n, .pointer (some ⟨Bf, 0, none⟩)] W fun e W' => e = .returned (.bool (F n)) ∧ Below W.heap.size W W' := by
  have z1 : W.cell? ⟨g, n, none⟩ = some (.bool (F n)) := by
    have := hr.cell (i := n) (by simpa using hn)
    simpa using this
  have i1 : (0 : Int) ≤ (n : Int) := by omega
  have i2 : (n : Int) < (N : Int) := by omega
  generalize F n = x at *
  clear hr
  go_enter Tryz.func189, Tryz.ntmps189
  go_wp2
  go_ret
  exact ⟨rfl, Below.refl _ _⟩
set_option maxHeartbeats 1000000 in
theorem ask9 (W : World) (Bf g N : Nat) (F : Nat → Bool) (n : Nat) (hf : W.cell? ⟨Bf, 0, none⟩ = some (.slice (some ⟨g, 0, none⟩) N N)) (hr : BRow W g ((List.range N).map F)) (hn : n < N) :
    Calls Tryz.prog 191 #[.int .i64 n, .pointer (some ⟨Bf, 0, none⟩)] W fun e W' => e = .returned (.bool (F n)) ∧ Below W.heap.size W W' := by
  have z1 : W.cell? ⟨g, n, none⟩ = some (.bool (F n)) := by
    have := hr.cell (i := n) (by simpa using hn)
    simpa using this
  have i1 : (0 : Int) ≤ (n : Int) := by omega
  have i2 : (n : Int) < (N : Int) := by omega
  generalize F n = x at *
  clear hr
  go_enter Tryz.func191, Tryz.ntmps191
  go_wp2
  go_ret
  exact ⟨rfl, Below.refl _ _⟩
end Go.Proofs.YtephhllfodlfbaaGreatDoor
/-
  asking: a test is made into a question.
-/
namespace Go.Proofs.YtephhllfodlfbaaGreatDoor
open Go.RowKit

/-- what over tells, and what the question of an attribute test does -/
def OVR : Prop := ∀ (w : World) (b o cap bk bn bl : Nat) (ns : List Pl.Nd) (f : Nat) (F : Nat → Bool), TR w b o bk bn bl ns → BRow w f ((List.range ns.length).map F) → Calls Tryz.prog 190 #[.agg #[.slice (some ⟨b, o, none⟩) ns.length cap, .slice (some ⟨bk, 0, none⟩) ns.length ns.length, .slice (some ⟨bn, 0, none⟩) ns.length ns.length, .slice (some ⟨bl, 0, none⟩) ns.length ns.length], .slice (some ⟨f, 0, none⟩) ns.length ns.length] w fun e w' => ∃ gB, e = .returned (.slice (some ⟨gB, 0, none⟩) ns.length ns.length) ∧ w.heap.size ≤ gB ∧ BRow w' gB ((List.range ns.length).map fun n => (List.range ns.length).any fun m => aboveB ns n m && F m) ∧ Below w.heap.size w w'
def ATR : Prop := ∀ (W : World) (Bt Bq b o cap bk bn bl : Nat) (ns : List Pl.Nd) (kind : Int) (name value : List UInt8) (ta tb : Int) (vl : Value) (n : Nat), TR W b o bk bn bl ns → W.heap[Bt]? = some (.cells #[.slice (some ⟨b, o, none⟩) ns.length cap, .slice (some ⟨bk, 0, none⟩) ns.length ns.length, .slice (some ⟨bn, 0, none⟩) ns.length ns.length, .slice (some ⟨bl, 0, none⟩) ns.length ns.length] 92) → W.heap[Bq]? = some (.cells #[.int .i64 kind, .string ⟨name.toArray⟩, .string ⟨value.toArray⟩, .int .i64 ta, .int .i64 tb, vl] 71) → n < ns.length → 3 ≤ kind → kind ≤ 8 → value.length ≤ 65536 → Calls Tryz.prog 192 #[.int .i64 n, .pointer (some ⟨Bt, 0, none⟩), .pointer (some ⟨Bq, 0, none⟩)] W fun e W' => e = .returned (.bool (match attr1 (atsAt ns n) name with | some v => Pl.valOk kind v value | none => false)) ∧ Below W.heap.size W W'
/-- asking, of a test of one kind alone -/
def ASKk {α : Type} (q : Int) (A : MemL α) (g : List Pl.Nd → List α → Nat → Bool) (R : List α → Prop) : Prop := ∀ (w0 w : World) (b o cap bk bn bl : Nat) (ns : List Pl.Nd) (v : Value) (t : Pl.Tst α), t.kind = q → TR w0 b o bk bn bl ns → A w0 v t.list → RT R t → Below w0.heap.size w0 w → Calls Tryz.prog 168 #[.agg #[.slice (some ⟨b, o, none⟩) ns.length cap, .slice (some ⟨bk, 0, none⟩) ns.length ns.length, .slice (some ⟨bn, 0, none⟩) ns.length ns.length, .slice (some ⟨bl, 0, none⟩) ns.length ns.length], .agg #[.int .i64 t.kind, .string ⟨t.name.toArray⟩, .string ⟨t.value.toArray⟩, .int .i64 t.a, .int .i64 t.b, v]] w fun e w' => ∃ (K : Nat) (caps : Array Value), e = .returned (.func (.func K) #[] caps) ∧ (∀ args W, (callFunc K args).run Tryz.prog W = .ok (.enter K args) W) ∧ Below w.heap.size w w' ∧ ∀ (W : World) (n : Nat), Below w0.heap.size w0 W → (∀ k, w.heap.size ≤ k → k < w'.heap.size → W.heap[k]? = w'.heap[k]?) → n < ns.length → Calls Tryz.prog K (#[.int .i64 n] ++ caps) W fun e W' => e = .returned (.bool (tstM ns (g ns) t n)) ∧ Below W.heap.size W W'
set_option maxRecDepth 100000 in
set_option maxHeartbeats 8000000 in
theorem asking_up {α : Type} {A : MemL α} (hA : IsL A) {g : List Pl.Nd → List α → Nat → Bool} {R : List α → Prop} (hL : OFL A g R) (h15 : ASKk 15 A g R) (hX : ATR) : ASK A g R := by
  intro w0 w b o cap bk bn bl ns v t hT hA5 hRT hB
  by_cases hq15 : t.kind = 15
  · exact h15 w0 w b o cap bk bn bl ns v t hq15 hT hA5 hRT hB
  obtain ⟨kind, name, value, ta, tb, list⟩ := t
  obtain ⟨hk, htf, -, hkl⟩ := hRT
  dsimp only at hA5 hk hkl ⊢
  have hval := form_val htf
  dsimp only at hval
  obtain ⟨al, cl, rfl, -⟩ := hA.form hA5
  have hb1 := on_alloc w (.cells #[.slice (some ⟨b, o, none⟩) ns.length cap, .slice (some ⟨bk, 0, none⟩) ns.length ns.length, .slice (some ⟨bn, 0, none⟩) ns.length ns.length, .slice (some ⟨bl, 0, none⟩) ns.length ns.length] 92)
  have hb2 := on_alloc (w.alloc (.cells #[.slice (some ⟨b, o, none⟩) ns.length cap, .slice (some ⟨bk, 0, none⟩) ns.length ns.length, .slice (some ⟨bn, 0, none⟩) ns.length ns.length, .slice (some ⟨bl, 0, none⟩) ns.length ns.length] 92)) (.cells #[.int .i64 kind, .string ⟨name.toArray⟩, .string ⟨value.toArray⟩, .int .i64 ta, .int .i64 tb, .slice al list.length cl] 71)
  have e1 := World.alloc_heap_new w (.cells #[.slice (some ⟨b, o, none⟩) ns.length cap, .slice (some ⟨bk, 0, none⟩) ns.length ns.length, .slice (some ⟨bn, 0, none⟩) ns.length ns.length, .slice (some ⟨bl, 0, none⟩) ns.length ns.length] 92)
  have e2 := World.alloc_heap_new (w.alloc (.cells #[.slice (some ⟨b, o, none⟩) ns.length cap, .slice (some ⟨bk, 0, none⟩) ns.length ns.length, .slice (some ⟨bn, 0, none⟩) ns.length ns.length, .slice (some ⟨bl, 0, none⟩) ns.length ns.length] 92)) (.cells #[.int .i64 kind, .string ⟨name.toArray⟩, .string ⟨value.toArray⟩, .int .i64 ta, .int .i64 tb, .slice al list.length cl] 71)
  simp only [World.size_alloc] at e2
  have HB : Hid (Below w.heap.size w ((w.alloc (.cells #[.slice (some ⟨b, o, none⟩) ns.length cap, .slice (some ⟨bk, 0, none⟩) ns.length ns.length, .slice (some ⟨bn, 0, none⟩) ns.length ns.length, .slice (some ⟨bl, 0, none⟩) ns.length ns.length] 92)).alloc (.cells #[.int .i64 kind, .string ⟨name.toArray⟩, .string ⟨value.toArray⟩, .int .i64 ta, .int .i64 tb, .slice al list.length cl] 71))) := below_trans hb1 hb2
  have HZ : Hid (((w.alloc (.cells #[.slice (some ⟨b, o, none⟩) ns.length cap, .slice (some ⟨bk, 0, none⟩) ns.length ns.length, .slice (some ⟨bn, 0, none⟩) ns.length ns.length, .slice (some ⟨bl, 0, none⟩) ns.length ns.length] 92)).alloc (.cells #[.int .i64 kind, .string ⟨name.toArray⟩, .string ⟨value.toArray⟩, .int .i64 ta, .int .i64 tb, .slice al list.length cl] 71)).heap[w.heap.size]? = some (.cells #[.slice (some ⟨b, o, none⟩) ns.length cap, .slice (some ⟨bk, 0, none⟩) ns.length ns.length, .slice (some ⟨bn, 0, none⟩) ns.length ns.length, .slice (some ⟨bl, 0, none⟩) ns.length ns.length] 92) ∧ ((w.alloc (.cells #[.slice (some ⟨b, o, none⟩) ns.length cap, .slice (some ⟨bk, 0, none⟩) ns.length ns.length, .slice (some ⟨bn, 0, none⟩) ns.length ns.length, .slice (some ⟨bl, 0, none⟩) ns.length ns.length] 92)).alloc (.cells #[.int .i64 kind, .string ⟨name.toArray⟩, .string ⟨value.toArray⟩, .int .i64 ta, .int .i64 tb, .slice al list.length cl] 71)).heap[w.heap.size + 1]? = some (.cells #[.int .i64 kind, .string ⟨name.toArray⟩, .string ⟨value.toArray⟩, .int .i64 ta, .int .i64 tb, .slice al list.length cl] 71) ∧ w.heap.size < ((w.alloc (.cells #[.slice (some ⟨b, o, none⟩) ns.length cap, .slice (some ⟨bk, 0, none⟩) ns.length ns.length, .slice (some ⟨bn, 0, none⟩) ns.length ns.length, .slice (some ⟨bl, 0, none⟩) ns.length ns.length] 92)).alloc (.cells #[.int .i64 kind, .string ⟨name.toArray⟩, .string ⟨value.toArray⟩, .int .i64 ta, .int .i64 tb, .slice al list.length cl] 71)).heap.size ∧ w.heap.size + 1 < ((w.alloc (.cells #[.slice (some ⟨b, o, none⟩) ns.length cap, .slice (some ⟨bk, 0, none⟩) ns.length ns.length, .slice (some ⟨bn, 0, none⟩) ns.length ns.length, .slice (some ⟨bl, 0, none⟩) ns.length ns.length] 92)).alloc (.cells #[.int .i64 kind, .string ⟨name.toArray⟩, .string ⟨value.toArray⟩, .int .i64 ta, .int .i64 tb, .slice al list.length cl] 71)).heap.size) := ⟨(hb2.block _ (by simp)).trans e1, e2, by simp; omega, by simp⟩
  have HT : Hid (TR w0 b o bk bn bl ns) := hT
  have HA0 : Hid (A w0 (.slice al list.length cl) list) := hA5
  have HB0 : Hid (Below w0.heap.size w0 w) := hB
  have HIA : Hid (IsL A) := hA
  have HOL : Hid (OFL A g R) := hL
  have HAT : Hid ATR := hX
  have hk15 : 1 ≤ kind ∧ kind ≤ 15 := by
    unfold Pl.isKind at hk
    simpa using hk
  have t0 := (blk6c HZ.out.2.1).1
  clear hT hA5 hB hA hL hX hk htf h15 hb1 hb2 e1 e2
  have hmf : ∀ (fn : Fn) (first cap : Array Value) (w : World), (Instr.makeFunc fn first cap).run Tryz.prog w = .ok (.func fn first cap) w := fun _ _ _ _ => rfl
  have hcase : kind = 1 ∨ kind = 2 ∨ (3 ≤ kind ∧ kind ≤ 8) ∨ kind = 9 ∨ kind = 10 ∨ kind = 11 ∨ kind = 12 ∨ kind = 13 ∨ kind = 14 := by
    have : kind ≠ 15 := hq15
    omega
  clear hk15 hq15
  rcases hcase with rfl | rfl | ⟨hk3, hk8⟩ | rfl | rfl | rfl | rfl | rfl | rfl
  · go_enter Tryz.func168, Tryz.ntmps168
    go_wp2_with fail
    go_ret
    exact ⟨180, #[(.pointer (some ⟨w.heap.size, 0, none⟩)), (.pointer (some ⟨w.heap.size + 1, 0, none⟩))], rfl, enter_131, HB.out, fun W n hW hk hn => by
      have ht := (hk w.heap.size (Nat.le_refl _) HZ.out.2.2.1).trans HZ.out.1
      have hq := (hk (w.heap.size + 1) (by omega) HZ.out.2.2.2).trans HZ.out.2.1
      have hTW := HT.out.on hW
      exact ask1 W _ _ b o cap bk bn bl ns 1 name value ta tb _ n hTW ht hq hn⟩
  · go_enter Tryz.func168, Tryz.ntmps168
    go_wp2_with fail
    go_ret
    exact ⟨182, #[(.pointer (some ⟨w.heap.size, 0, none⟩)), (.pointer (some ⟨w.heap.size + 1, 0, none⟩))], rfl, enter_133, HB.out, fun W n hW hk hn => by
      have ht := (hk w.heap.size (Nat.le_refl _) HZ.out.2.2.1).trans HZ.out.1
      have hq := (hk (w.heap.size + 1) (by omega) HZ.out.2.2.2).trans HZ.out.2.1
      have hTW := HT.out.on hW
      exact ask2 W _ _ b o cap bk bn bl ns 2 name value ta tb _ n hTW ht hq hn⟩
  · have k1 : (kind == 1) = false := by simp; omega
    have k2 : (kind == 2) = false := by simp; omega
    have k9 : (kind == 9) = false := by simp; omega
    have k10 : (kind == 10) = false := by simp; omega
    have k11 : (kind == 11) = false := by simp; omega
    have k12 : (kind == 12) = false := by simp; omega
    have k13 : (kind == 13) = false := by simp; omega
    have k14 : (kind == 14) = false := by simp; omega
    have k15 : (kind == 15) = false := by simp; omega
    have HK3 : Hid (3 ≤ kind ∧ kind ≤ 8) := ⟨hk3, hk8⟩
    have HV : Hid (∀ n, tstM ns (g ns) ⟨kind, name, value, ta, tb, list⟩ n = (match attr1 (atsAt ns n) name with | some v => Pl.valOk kind v value | none => false)) := fun n => by
      unfold tstM
      dsimp only
      rw [if_neg (by omega), if_neg (by omega), if_pos ⟨hk3, hk8⟩]
      rfl
    clear hk3 hk8
    go_enter Tryz.func168, Tryz.ntmps168
    go_wp2_with fail
    go_ret
    exact ⟨192, #[(.pointer (some ⟨w.heap.size, 0, none⟩)), (.pointer (some ⟨w.heap.size + 1, 0, none⟩))], rfl, enter_143, HB.out, fun W n hW hk hn => by
      have ht := (hk w.heap.size (Nat.le_refl _) HZ.out.2.2.1).trans HZ.out.1
      have hq := (hk (w.heap.size + 1) (by omega) HZ.out.2.2.2).trans HZ.out.2.1
      have hTW := HT.out.on hW
      have h1 := HAT.out W _ _ b o cap bk bn bl ns kind name value ta tb _ n hTW ht hq hn HK3.out.1 HK3.out.2 hval
      rw [HV.out]
      exact h1⟩
  · go_enter Tryz.func168, Tryz.ntmps168
    go_wp2_with fail
    go_ret
    exact ⟨183, #[(.pointer (some ⟨w.heap.size + 1, 0, none⟩)), (.pointer (some ⟨w.heap.size, 0, none⟩))], rfl, enter_134, HB.out, fun W n hW hk hn => by
      have ht := (hk w.heap.size (Nat.le_refl _) HZ.out.2.2.1).trans HZ.out.1
      have hq := (hk (w.heap.size + 1) (by omega) HZ.out.2.2.2).trans HZ.out.2.1
      have hTW := HT.out.on hW
      exact ask3 W _ _ b o cap bk bn bl ns 9 name value ta tb _ n hTW ht hq hn⟩
  · go_enter Tryz.func168, Tryz.ntmps168
    go_wp2_with fail
    go_ret
    exact ⟨185, #[(.pointer (some ⟨w.heap.size + 1, 0, none⟩)), (.pointer (some ⟨w.heap.size, 0, none⟩))], rfl, enter_136, HB.out, fun W n hW hk hn => by
      have ht := (hk w.heap.size (Nat.le_refl _) HZ.out.2.2.1).trans HZ.out.1
      have hq := (hk (w.heap.size + 1) (by omega) HZ.out.2.2.2).trans HZ.out.2.1
      have hTW := HT.out.on hW
      exact ask4 W _ _ b o cap bk bn bl ns 10 name value ta tb _ n hTW ht hq hn⟩
  · go_enter Tryz.func168, Tryz.ntmps168
    go_wp2_with fail
    go_ret
    exact ⟨186, #[(.pointer (some ⟨w.heap.size, 0, none⟩))], rfl, enter_137, HB.out, fun W n hW hk hn => by
      have ht := (hk w.heap.size (Nat.le_refl _) HZ.out.2.2.1).trans HZ.out.1
      have hq := (hk (w.heap.size + 1) (by omega) HZ.out.2.2.2).trans HZ.out.2.1
      have hTW := HT.out.on hW
      exact ask5 W _ b o cap bk bn bl ns n hTW ht hn⟩
  · go_enter Tryz.func168, Tryz.ntmps168
    go_wp2_with fail
    go_ret
    exact ⟨187, #[], rfl, enter_138, HB.out, fun W n hW hk hn => by
      have ht := (hk w.heap.size (Nat.le_refl _) HZ.out.2.2.1).trans HZ.out.1
      have hq := (hk (w.heap.size + 1) (by omega) HZ.out.2.2.2).trans HZ.out.2.1
      have hTW := HT.out.on hW
      exact ask6 W n⟩
  · obtain ⟨x0, x1, x2, x3⟩ := blk4c HZ.out.1
    have t5 := (blk6c HZ.out.2.1).2.2.2.2.2
    have HBX : Hid (Below w0.heap.size w0 ((w.alloc (.cells #[.slice (some ⟨b, o, none⟩) ns.length cap, .slice (some ⟨bk, 0, none⟩) ns.length ns.length, .slice (some ⟨bn, 0, none⟩) ns.length ns.length, .slice (some ⟨bl, 0, none⟩) ns.length ns.length] 92)).alloc (.cells #[.int .i64 13, .string ⟨name.toArray⟩, .string ⟨value.toArray⟩, .int .i64 ta, .int .i64 tb, .slice al list.length cl] 71))) := below_trans HB0.out HB.out
    have HC : Hid (Calls Tryz.prog 48 _ _ _) := HOL.out _ b o cap bk bn bl ns _ list (HT.out.on HBX.out) (HIA.out.on HA0.out HBX.out) (hkl rfl)
    go_enter Tryz.func168, Tryz.ntmps168
    go_wp2_with fail
    generalize (w.alloc (.cells #[.slice (some ⟨b, o, none⟩) ns.length cap, .slice (some ⟨bk, 0, none⟩) ns.length ns.length, .slice (some ⟨bn, 0, none⟩) ns.length ns.length, .slice (some ⟨bl, 0, none⟩) ns.length ns.length] 92)).alloc (.cells #[.int .i64 13, .string ⟨name.toArray⟩, .string ⟨value.toArray⟩, .int .i64 ta, .int .i64 tb, .slice al list.length cl] 71) = W1 at *
    refine HC.out.mono ?_
    rintro e w2 ⟨gB, rfl, hgB, hrow, hb2⟩
    have hba := on_alloc w2 (.cells #[.slice (some ⟨gB, 0, none⟩) ns.length ns.length] 90)
    have HBF : Hid (Below w.heap.size w (w2.alloc (.cells #[.slice (some ⟨gB, 0, none⟩) ns.length ns.length] 90))) := below_trans (below_trans HB.out hb2) hba
    have HRB : Hid (BRow (w2.alloc (.cells #[.slice (some ⟨gB, 0, none⟩) ns.length ns.length] 90)) gB ((List.range ns.length).map (g ns list))) := hrow.on hba
    have HXB : Hid ((w2.alloc (.cells #[.slice (some ⟨gB, 0, none⟩) ns.length ns.length] 90)).heap[w2.heap.size]? = some (.cells #[.slice (some ⟨gB, 0, none⟩) ns.length ns.length] 90)) := World.alloc_heap_new w2 _
    have hs1 : w.heap.size ≤ W1.heap.size := HB.out.size
    have hs2 : W1.heap.size ≤ w2.heap.size := hb2.size
    clear hrow hb2 hba x0 x1 x2 x3 t5 t0
    go_wp2_with fail
    go_ret
    exact ⟨188, #[.pointer (some ⟨w2.heap.size, 0, none⟩)], rfl, enter_139, HBF.out, fun W n hW hk hn => by
      have h1 := (hk w2.heap.size (by omega) (Array.getElem?_eq_some_iff.1 HXB.out).1).trans HXB.out
      have h2 : BRow W gB ((List.range ns.length).map (g ns list)) := (hk gB (by omega) HRB.out.lt).trans HRB.out
      exact ask7 W w2.heap.size gB ns.length (g ns list) n (by simp [World.cell?, h1]) h2 hn⟩
  · obtain ⟨x0, x1, x2, x3⟩ := blk4c HZ.out.1
    have t5 := (blk6c HZ.out.2.1).2.2.2.2.2
    have HBX : Hid (Below w0.heap.size w0 ((w.alloc (.cells #[.slice (some ⟨b, o, none⟩) ns.length cap, .slice (some ⟨bk, 0, none⟩) ns.length ns.length, .slice (some ⟨bn, 0, none⟩) ns.length ns.length, .slice (some ⟨bl, 0, none⟩) ns.length ns.length] 92)).alloc (.cells #[.int .i64 14, .string ⟨name.toArray⟩, .string ⟨value.toArray⟩, .int .i64 ta, .int .i64 tb, .slice al list.length cl] 71))) := below_trans HB0.out HB.out
    have HC : Hid (Calls Tryz.prog 48 _ _ _) := HOL.out _ b o cap bk bn bl ns _ list (HT.out.on HBX.out) (HIA.out.on HA0.out HBX.out) (hkl rfl)
    go_enter Tryz.func168, Tryz.ntmps168
    go_wp2_with fail
    generalize (w.alloc (.cells #[.slice (some ⟨b, o, none⟩) ns.length cap, .slice (some ⟨bk, 0, none⟩) ns.length ns.length, .slice (some ⟨bn, 0, none⟩) ns.length ns.length, .slice (some ⟨bl, 0, none⟩) ns.length ns.length] 92)).alloc (.cells #[.int .i64 14, .string ⟨name.toArray⟩, .string ⟨value.toArray⟩, .int .i64 ta, .int .i64 tb, .slice al list.length cl] 71) = W1 at *
    refine HC.out.mono ?_
    rintro e w2 ⟨gB, rfl, hgB, hrow, hb2⟩
    have hba := on_alloc w2 (.cells #[.slice (some ⟨gB, 0, none⟩) ns.length ns.length] 90)
    have HBF : Hid (Below w.heap.size w (w2.alloc (.cells #[.slice (some ⟨gB, 0, none⟩) ns.length ns.length] 90))) := below_trans (below_trans HB.out hb2) hba
    have HRB : Hid (BRow (w2.alloc (.cells #[.slice (some ⟨gB, 0, none⟩) ns.length ns.length] 90)) gB ((List.range ns.length).map (g ns list))) := hrow.on hba
    have HXB : Hid ((w2.alloc (.cells #[.slice (some ⟨gB, 0, none⟩) ns.length ns.length] 90)).heap[w2.heap.size]? = some (.cells #[.slice (some ⟨gB, 0, none⟩) ns.length ns.length] 90)) := World.alloc_heap_new w2 _
    have hs1 : w.heap.size ≤ W1.heap.size := HB.out.size
    have hs2 : W1.heap.size ≤ w2.heap.size := hb2.size
    clear hrow hb2 hba x0 x1 x2 x3 t5 t0
    go_wp2_with fail
    go_ret
    exact ⟨189, #[.pointer (some ⟨w2.heap.size, 0, none⟩)], rfl, enter_140, HBF.out, fun W n hW hk hn => by
      have h1 := (hk w2.heap.size (by omega) (Array.getElem?_eq_some_iff.1 HXB.out).1).trans HXB.out
      have h2 : BRow W gB ((List.range ns.length).map (g ns list)) := (hk gB (by omega) HRB.out.lt).trans HRB.out
      exact ask8 W w2.heap.size gB ns.length (g ns list) n (by simp [World.cell?, h1]) h2 hn⟩
end Go.Proofs.YtephhllfodlfbaaGreatDoor
/-
  asking, of a test that asks for what lies beneath.
-/
namespace Go.Proofs.YtephhllfodlfbaaGreatDoor
open Go.RowKit

theorem blkOn {w w' : World} {k : Nat} {c : Obj} (hb : Below w.heap.size w w') (h : w.heap[k]? = some c) : w'.heap[k]? = some c :=
  (hb.block k (Array.getElem?_eq_some_iff.1 h).1).trans h
theorem one_cell {w : World} {k : Nat} {v : Value} {T : TypeId} (h : w.heap[k]? = some (.cells #[v] T)) : w.cell? ⟨k, 0, none⟩ = some v ∧ w.frozen? ⟨k, 0, none⟩ = false := by
  constructor <;> simp [World.cell?, World.frozen?, h]
theorem oneSet {w : World} {k : Nat} {v : Value} {T : TypeId} (h : w.heap[k]? = some (.cells #[v] T)) (u : Value) : (w.setCell ⟨k, 0, none⟩ u).heap[k]? = some (.cells #[u] T) := by
  simp [World.setCell, Array.getElem?_modify, h]
set_option maxRecDepth 100000 in
set_option maxHeartbeats 8000000 in
theorem asking_has {α : Type} {A : MemL α} (hA : IsL A) {g : List Pl.Nd → List α → Nat → Bool} {R : List α → Prop} (hL : OFL A g R) (hO : OVR) : ASKk 15 A g R := by
  intro w0 w b o cap bk bn bl ns v t hq hT hA5 hRT hB
  obtain ⟨kind, name, value, ta, tb, list⟩ := t
  obtain ⟨hk, htf, -, hkl⟩ := hRT
  dsimp only at hA5 hk hkl hq ⊢
  subst hq
  obtain ⟨al, cl, rfl, -⟩ := hA.form hA5
  have hb1 := on_alloc w (.cells #[.slice (some ⟨b, o, none⟩) ns.length cap, .slice (some ⟨bk, 0, none⟩) ns.length ns.length, .slice (some ⟨bn, 0, none⟩) ns.length ns.length, .slice (some ⟨bl, 0, none⟩) ns.length ns.length] 92)
  have hb2 := on_alloc (w.alloc (.cells #[.slice (some ⟨b, o, none⟩) ns.length cap, .slice (some ⟨bk, 0, none⟩) ns.length ns.length, .slice (some ⟨bn, 0, none⟩) ns.length ns.length, .slice (some ⟨bl, 0, none⟩) ns.length ns.length] 92)) (.cells #[.int .i64 15, .string ⟨name.toArray⟩, .string ⟨value.toArray⟩, .int .i64 ta, .int .i64 tb, .slice al list.length cl] 71)
  have e1 := World.alloc_heap_new w (.cells #[.slice (some ⟨b, o, none⟩) ns.length cap, .slice (some ⟨bk, 0, none⟩) ns.length ns.length, .slice (some ⟨bn, 0, none⟩) ns.length ns.length, .slice (some ⟨bl, 0, none⟩) ns.length ns.length] 92)
  have e2 := World.alloc_heap_new (w.alloc (.cells #[.slice (some ⟨b, o, none⟩) ns.length cap, .slice (some ⟨bk, 0, none⟩) ns.length ns.length, .slice (some ⟨bn, 0, none⟩) ns.length ns.length, .slice (some ⟨bl, 0, none⟩) ns.length ns.length] 92)) (.cells #[.int .i64 15, .string ⟨name.toArray⟩, .string ⟨value.toArray⟩, .int .i64 ta, .int .i64 tb, .slice al list.length cl] 71)
  simp only [World.size_alloc] at e2
  have HB : Hid (Below w.heap.size w ((w.alloc (.cells #[.slice (some ⟨b, o, none⟩) ns.length cap, .slice (some ⟨bk, 0, none⟩) ns.length ns.length, .slice (some ⟨bn, 0, none⟩) ns.length ns.length, .slice (some ⟨bl, 0, none⟩) ns.length ns.length] 92)).alloc (.cells #[.int .i64 15, .string ⟨name.toArray⟩, .string ⟨value.toArray⟩, .int .i64 ta, .int .i64 tb, .slice al list.length cl] 71))) := below_trans hb1 hb2
  have HBX : Hid (Below w0.heap.size w0 ((w.alloc (.cells #[.slice (some ⟨b, o, none⟩) ns.length cap, .slice (some ⟨bk, 0, none⟩) ns.length ns.length, .slice (some ⟨bn, 0, none⟩) ns.length ns.length, .slice (some ⟨bl, 0, none⟩) ns.length ns.length] 92)).alloc (.cells #[.int .i64 15, .string ⟨name.toArray⟩, .string ⟨value.toArray⟩, .int .i64 ta, .int .i64 tb, .slice al list.length cl] 71))) := below_trans hB (below_trans hb1 hb2)
  have HS : Hid (((w.alloc (.cells #[.slice (some ⟨b, o, none⟩) ns.length cap, .slice (some ⟨bk, 0, none⟩) ns.length ns.length, .slice (some ⟨bn, 0, none⟩) ns.length ns.length, .slice (some ⟨bl, 0, none⟩) ns.length ns.length] 92)).alloc (.cells #[.int .i64 15, .string ⟨name.toArray⟩, .string ⟨value.toArray⟩, .int .i64 ta, .int .i64 tb, .slice al list.length cl] 71)).cell? ⟨w.heap.size, 0, none⟩ = some (.slice (some ⟨b, o, none⟩) ns.length cap) ∧ ((w.alloc (.cells #[.slice (some ⟨b, o, none⟩) ns.length cap, .slice (some ⟨bk, 0, none⟩) ns.length ns.length, .slice (some ⟨bn, 0, none⟩) ns.length ns.length, .slice (some ⟨bl, 0, none⟩) ns.length ns.length] 92)).alloc (.cells #[.int .i64 15, .string ⟨name.toArray⟩, .string ⟨value.toArray⟩, .int .i64 ta, .int .i64 tb, .slice al list.length cl] 71)).cell? ⟨w.heap.size, 1, none⟩ = some (.slice (some ⟨bk, 0, none⟩) ns.length ns.length) ∧ ((w.alloc (.cells #[.slice (some ⟨b, o, none⟩) ns.length cap, .slice (some ⟨bk, 0, none⟩) ns.length ns.length, .slice (some ⟨bn, 0, none⟩) ns.length ns.length, .slice (some ⟨bl, 0, none⟩) ns.length ns.length] 92)).alloc (.cells #[.int .i64 15, .string ⟨name.toArray⟩, .string ⟨value.toArray⟩, .int .i64 ta, .int .i64 tb, .slice al list.length cl] 71)).cell? ⟨w.heap.size, 2, none⟩ = some (.slice (some ⟨bn, 0, none⟩) ns.length ns.length) ∧ ((w.alloc (.cells #[.slice (some ⟨b, o, none⟩) ns.length cap, .slice (some ⟨bk, 0, none⟩) ns.length ns.length, .slice (some ⟨bn, 0, none⟩) ns.length ns.length, .slice (some ⟨bl, 0, none⟩) ns.length ns.length] 92)).alloc (.cells #[.int .i64 15, .string ⟨name.toArray⟩, .string ⟨value.toArray⟩, .int .i64 ta, .int .i64 tb, .slice al list.length cl] 71)).cell? ⟨w.heap.size, 3, none⟩ = some (.slice (some ⟨bl, 0, none⟩) ns.length ns.length) ∧ ((w.alloc (.cells #[.slice (some ⟨b, o, none⟩) ns.length cap, .slice (some ⟨bk, 0, none⟩) ns.length ns.length, .slice (some ⟨bn, 0, none⟩) ns.length ns.length, .slice (some ⟨bl, 0, none⟩) ns.length ns.length] 92)).alloc (.cells #[.int .i64 15, .string ⟨name.toArray⟩, .string ⟨value.toArray⟩, .int .i64 ta, .int .i64 tb, .slice al list.length cl] 71)).cell? ⟨w.heap.size + 1, 5, none⟩ = some (.slice al list.length cl)) := by
    have f1 := (hb2.block _ (by simp)).trans e1
    exact ⟨(blk4c f1).1, (blk4c f1).2.1, (blk4c f1).2.2.1, (blk4c f1).2.2.2, (blk6c e2).2.2.2.2.2⟩
  obtain ⟨x0, x1, x2, x3, x5⟩ := HS.out
  have t0 := (blk6c e2).1
  have HCW : Hid (∀ W, Below ((w.alloc (.cells #[.slice (some ⟨b, o, none⟩) ns.length cap, .slice (some ⟨bk, 0, none⟩) ns.length ns.length, .slice (some ⟨bn, 0, none⟩) ns.length ns.length, .slice (some ⟨bl, 0, none⟩) ns.length ns.length] 92)).alloc (.cells #[.int .i64 15, .string ⟨name.toArray⟩, .string ⟨value.toArray⟩, .int .i64 ta, .int .i64 tb, .slice al list.length cl] 71)).heap.size ((w.alloc (.cells #[.slice (some ⟨b, o, none⟩) ns.length cap, .slice (some ⟨bk, 0, none⟩) ns.length ns.length, .slice (some ⟨bn, 0, none⟩) ns.length ns.length, .slice (some ⟨bl, 0, none⟩) ns.length ns.length] 92)).alloc (.cells #[.int .i64 15, .string ⟨name.toArray⟩, .string ⟨value.toArray⟩, .int .i64 ta, .int .i64 tb, .slice al list.length cl] 71)) W → Calls Tryz.prog 48 #[.agg #[.slice (some ⟨b, o, none⟩) ns.length cap, .slice (some ⟨bk, 0, none⟩) ns.length ns.length, .slice (some ⟨bn, 0, none⟩) ns.length ns.length, .slice (some ⟨bl, 0, none⟩) ns.length ns.length], .slice al list.length cl] W fun e W' => ∃ gB, e = .returned (.slice (some ⟨gB, 0, none⟩) ns.length ns.length) ∧ W.heap.size ≤ gB ∧ BRow W' gB ((List.range ns.length).map (g ns list)) ∧ Below ((w.alloc (.cells #[.slice (some ⟨b, o, none⟩) ns.length cap, .slice (some ⟨bk, 0, none⟩) ns.length ns.length, .slice (some ⟨bn, 0, none⟩) ns.length ns.length, .slice (some ⟨bl, 0, none⟩) ns.length ns.length] 92)).alloc (.cells #[.int .i64 15, .string ⟨name.toArray⟩, .string ⟨value.toArray⟩, .int .i64 ta, .int .i64 tb, .slice al list.length cl] 71)).heap.size ((w.alloc (.cells #[.slice (some ⟨b, o, none⟩) ns.length cap, .slice (some ⟨bk, 0, none⟩) ns.length ns.length, .slice (some ⟨bn, 0, none⟩) ns.length ns.length, .slice (some ⟨bl, 0, none⟩) ns.length ns.length] 92)).alloc (.cells #[.int .i64 15, .string ⟨name.toArray⟩, .string ⟨value.toArray⟩, .int .i64 ta, .int .i64 tb, .slice al list.length cl] 71)) W' ∧ (W'.cell? ⟨w.heap.size, 0, none⟩ = some (.slice (some ⟨b, o, none⟩) ns.length cap) ∧ W'.cell? ⟨w.heap.size, 1, none⟩ = some (.slice (some ⟨bk, 0, none⟩) ns.length ns.length) ∧ W'.cell? ⟨w.heap.size, 2, none⟩ = some (.slice (some ⟨bn, 0, none⟩) ns.length ns.length) ∧ W'.cell? ⟨w.heap.size, 3, none⟩ = some (.slice (some ⟨bl, 0, none⟩) ns.length ns.length) ∧ W'.cell? ⟨w.heap.size + 1, 5, none⟩ = some (.slice al list.length cl)) ∧ Below W.heap.size W W') := fun W hW => (hL W b o cap bk bn bl ns _ list (hT.on (below_trans HBX.out hW)) (hA.on hA5 (below_trans HBX.out hW)) (hkl rfl)).mono (fun e W' h => by obtain ⟨gB, he, h1, h2, h3⟩ := h; exact ⟨gB, he, h1, h2, below_trans hW h3, on5 HS.out (below_trans hW h3), h3⟩)
  have HDW : Hid (∀ W f, Below ((w.alloc (.cells #[.slice (some ⟨b, o, none⟩) ns.length cap, .slice (some ⟨bk, 0, none⟩) ns.length ns.length, .slice (some ⟨bn, 0, none⟩) ns.length ns.length, .slice (some ⟨bl, 0, none⟩) ns.length ns.length] 92)).alloc (.cells #[.int .i64 15, .string ⟨name.toArray⟩, .string ⟨value.toArray⟩, .int .i64 ta, .int .i64 tb, .slice al list.length cl] 71)).heap.size ((w.alloc (.cells #[.slice (some ⟨b, o, none⟩) ns.length cap, .slice (some ⟨bk, 0, none⟩) ns.length ns.length, .slice (some ⟨bn, 0, none⟩) ns.length ns.length, .slice (some ⟨bl, 0, none⟩) ns.length ns.length] 92)).alloc (.cells #[.int .i64 15, .string ⟨name.toArray⟩, .string ⟨value.toArray⟩, .int .i64 ta, .int .i64 tb, .slice al list.length cl] 71)) W → BRow W f ((List.range ns.length).map (g ns list)) → Calls Tryz.prog 190 #[.agg #[.slice (some ⟨b, o, none⟩) ns.length cap, .slice (some ⟨bk, 0, none⟩) ns.length ns.length, .slice (some ⟨bn, 0, none⟩) ns.length ns.length, .slice (some ⟨bl, 0, none⟩) ns.length ns.length], .slice (some ⟨f, 0, none⟩) ns.length ns.length] W fun e W' => ∃ gB, e = .returned (.slice (some ⟨gB, 0, none⟩) ns.length ns.length) ∧ W.heap.size ≤ gB ∧ BRow W' gB ((List.range ns.length).map (fun n => (List.range ns.length).any fun m => aboveB ns n m && g ns list m)) ∧ Below ((w.alloc (.cells #[.slice (some ⟨b, o, none⟩) ns.length cap, .slice (some ⟨bk, 0, none⟩) ns.length ns.length, .slice (some ⟨bn, 0, none⟩) ns.length ns.length, .slice (some ⟨bl, 0, none⟩) ns.length ns.length] 92)).alloc (.cells #[.int .i64 15, .string ⟨name.toArray⟩, .string ⟨value.toArray⟩, .int .i64 ta, .int .i64 tb, .slice al list.length cl] 71)).heap.size ((w.alloc (.cells #[.slice (some ⟨b, o, none⟩) ns.length cap, .slice (some ⟨bk, 0, none⟩) ns.length ns.length, .slice (some ⟨bn, 0, none⟩) ns.length ns.length, .slice (some ⟨bl, 0, none⟩) ns.length ns.length] 92)).alloc (.cells #[.int .i64 15, .string ⟨name.toArray⟩, .string ⟨value.toArray⟩, .int .i64 ta, .int .i64 tb, .slice al list.length cl] 71)) W' ∧ (W'.cell? ⟨w.heap.size, 0, none⟩ = some (.slice (some ⟨b, o, none⟩) ns.length cap) ∧ W'.cell? ⟨w.heap.size, 1, none⟩ = some (.slice (some ⟨bk, 0, none⟩) ns.length ns.length) ∧ W'.cell? ⟨w.heap.size, 2, none⟩ = some (.slice (some ⟨bn, 0, none⟩) ns.length ns.length) ∧ W'.cell? ⟨w.heap.size, 3, none⟩ = some (.slice (some ⟨bl, 0, none⟩) ns.length ns.length) ∧ W'.cell? ⟨w.heap.size + 1, 5, none⟩ = some (.slice al list.length cl)) ∧ Below W.heap.size W W') := fun W f hW hf => (hO W b o cap bk bn bl ns f (g ns list) (hT.on (below_trans HBX.out hW)) hf).mono (fun e W' h => by obtain ⟨gB, he, h1, h2, h3⟩ := h; exact ⟨gB, he, h1, h2, below_trans hW h3, on5 HS.out (below_trans hW h3), h3⟩)
  have HV : Hid (∀ n, n < ns.length → tstM ns (g ns) ⟨15, name, value, ta, tb, list⟩ n = (fun n => (List.range ns.length).any fun m => aboveB ns n m && g ns list m) n) := fun n hn => rfl
  clear hT hA5 hB hA hL hO hk htf hkl hb1 hb2 e1 e2
  go_enter Tryz.func168, Tryz.ntmps168
  go_wp2_with fail
  generalize (w.alloc (.cells #[.slice (some ⟨b, o, none⟩) ns.length cap, .slice (some ⟨bk, 0, none⟩) ns.length ns.length, .slice (some ⟨bn, 0, none⟩) ns.length ns.length, .slice (some ⟨bl, 0, none⟩) ns.length ns.length] 92)).alloc (.cells #[.int .i64 15, .string ⟨name.toArray⟩, .string ⟨value.toArray⟩, .int .i64 ta, .int .i64 tb, .slice al list.length cl] 71) = W1 at *
  have S0 : W1.drew.cell? ⟨w.heap.size, 0, none⟩ = some (.slice (some ⟨b, o, none⟩) ns.length cap) ∧ W1.drew.cell? ⟨w.heap.size, 1, none⟩ = some (.slice (some ⟨bk, 0, none⟩) ns.length ns.length) ∧ W1.drew.cell? ⟨w.heap.size, 2, none⟩ = some (.slice (some ⟨bn, 0, none⟩) ns.length ns.length) ∧ W1.drew.cell? ⟨w.heap.size, 3, none⟩ = some (.slice (some ⟨bl, 0, none⟩) ns.length ns.length) ∧ W1.drew.cell? ⟨w.heap.size + 1, 5, none⟩ = some (.slice al list.length cl) := on5 HS.out ((Below.refl _ W1).drew)
  clear x0 x1 x2 x3 x5 t0
  have HBD : Hid (Below W1.heap.size W1 W1.drew) := (Below.refl _ W1).drew
  go_cut [7] (fun v wx => ∃ Bf gB, v = .pointer (some ⟨Bf, 0, none⟩) ∧ W1.heap.size ≤ Bf ∧ W1.heap.size ≤ gB ∧ Hid (wx.heap[Bf]? = some (.cells #[.slice (some ⟨gB, 0, none⟩) ns.length ns.length] 90)) ∧ Hid (BRow wx gB ((List.range ns.length).map (fun n => (List.range ns.length).any fun m => aboveB ns n m && g ns list m))) ∧ Hid (Below W1.heap.size W1 wx))
  case first =>
    go_region_held3 (fun w' => w'.cell? ⟨w.heap.size, 0, none⟩ = some (.slice (some ⟨b, o, none⟩) ns.length cap) ∧ w'.cell? ⟨w.heap.size, 1, none⟩ = some (.slice (some ⟨bk, 0, none⟩) ns.length ns.length) ∧ w'.cell? ⟨w.heap.size, 2, none⟩ = some (.slice (some ⟨bn, 0, none⟩) ns.length ns.length) ∧ w'.cell? ⟨w.heap.size, 3, none⟩ = some (.slice (some ⟨bl, 0, none⟩) ns.length ns.length) ∧ w'.cell? ⟨w.heap.size + 1, 5, none⟩ = some (.slice al list.length cl)) (first | with_reducible assumption | exact on5 S0 (on_alloc _ _) | exact on5 S2 (on_alloc _ _) | exact on5 S3 (on_alloc _ _) | exact on5 HS.out (HB3.setCell HB2.size _) | exact on5 HS.out (HB3.setCell (Nat.le_refl _) _))
      (first | (go_at_call 48; refine (HCW.out _ ?_).mono ?_; (first | exact HBD.out | exact below_trans HBD.out (on_alloc _ _)); rintro e w2 ⟨fB, rfl, hfB, hrow2, HB2, S2, hb2⟩) | (go_at_call 190; refine (HDW.out _ _ ?_ ?_).mono ?_; (first | exact HB2 | exact below_trans HB2 (on_alloc _ _)); (first | exact hrow2 | exact hrow2.on (on_alloc _ _)); rintro e w3 ⟨gB, rfl, hgB, hrow3, HB3, S3, hb3⟩; (first | (have Z : Hid (w3.heap[W1.heap.size]? = some (.cells #[.slice none 0 0] 90)) := blkOn hb3 (blkOn hb2 (World.alloc_heap_new _ _)); obtain ⟨z1, z2⟩ := one_cell Z.out) | (have Z : Hid (w3.heap[w2.heap.size]? = some (.cells #[.slice none 0 0] 90)) := blkOn hb3 (World.alloc_heap_new _ _); obtain ⟨z1, z2⟩ := one_cell Z.out) | skip)))
    all_goals
      go_wp2_with fail
      go_meet
    · exact ⟨w3.heap.size, gB, rfl, HB3.size, Nat.le_trans HB2.size hgB, World.alloc_heap_new _ _, hrow3.on (on_alloc _ _), below_trans HB3 (on_alloc _ _)⟩
    · have h1 : w2.heap.size + 1 ≤ gB := by
        have := hgB
        simp only [World.size_alloc] at this
        exact this
      have h2 : W1.heap.size ≤ w2.heap.size := HB2.size
      exact ⟨w2.heap.size, gB, rfl, h2, by omega, oneSet Z.out _, hrow3.other (by omega) _, HB3.setCell h2 _⟩
    · have h1 : W1.heap.size + 1 ≤ w2.heap.size := by
        have h3 : (W1.alloc (.cells #[.slice none 0 0] 90)).heap.size ≤ w2.heap.size := hb2.size
        simp only [World.size_alloc] at h3
        exact h3
      have h2 : w2.heap.size ≤ gB := hgB
      exact ⟨W1.heap.size, gB, rfl, Nat.le_refl _, by omega, oneSet Z.out _, hrow3.other (by omega) _, HB3.setCell (Nat.le_refl _) _⟩
  case rest =>
    obtain ⟨Bf, gB, rfl, hBf, hgB, HX, HR, HBZ⟩ := hcut
    have hs1 : w.heap.size ≤ W1.heap.size := HB.out.size
    have HBF : Hid (Below w.heap.size w wc) := below_trans HB.out HBZ.out
    have hmf : ∀ (fn : Fn) (first cap : Array Value) (w : World), (Instr.makeFunc fn first cap).run Tryz.prog w = .ok (.func fn first cap) w := fun _ _ _ _ => rfl
    clear S0
    go_wp2_with fail
    go_ret
    exact ⟨191, #[.pointer (some ⟨Bf, 0, none⟩)], rfl, enter_142, HBF.out, fun W n hW hk hn => by
      have h1 := (hk Bf (by omega) (Array.getElem?_eq_some_iff.1 HX.out).1).trans HX.out
      have h2 := (hk gB (by omega) HR.out.lt).trans HR.out
      rw [HV.out n hn]
      exact ask9 W Bf gB ns.length _ n (by simp [World.cell?, h1]) h2 hn⟩
end Go.Proofs.YtephhllfodlfbaaGreatDoor
/-
  The values of attributes: what begins, what ends, and isValue by what it calls.
-/
namespace Go.Proofs.YtephhllfodlfbaaGreatDoor
open Go.RowKit

set_option maxHeartbeats 1000000 in
theorem pfx_in (s t : List UInt8) (w : World) :
    Calls Tryz.prog 215 #[.string ⟨s.toArray⟩, .string ⟨t.toArray⟩] w fun e w' => e = .returned (.bool (Pl.stands s t 0)) ∧ w' = w := by
  by_cases h1 : (t.length : Int) ≤ (s.length : Int)
  · have hk : t.length ≤ s.length := by omega
    have e1 : (⟨s.toArray⟩ : ByteArray).extract 0 t.length = ⟨(s.take t.length).toArray⟩ := by
      rw [ex_mid]
      simp
    cases he : (s.take t.length == t) with
    | true =>
      have HV : Hid (Pl.stands s t 0 = true) := by
        unfold Hid Pl.stands
        simp [he, hk]
      have e2 : s.take t.length = t := by simpa using he
      rw [e2] at e1
      clear he e2
      go_enter Tryz.func215, Tryz.ntmps215
      go_wp2
      go_ret
      exact ⟨by rw [HV.out]; rfl, rfl⟩
    | false =>
      have HV : Hid (Pl.stands s t 0 = false) := by
        unfold Hid Pl.stands
        simp [he]
      generalize s.take t.length = q at *
      have he2 : ¬ (⟨q.toArray⟩ : ByteArray) = ⟨t.toArray⟩ := fun e => by
        have := congrArg (fun x : ByteArray => x.data.toList) e
        simp at this
        rw [this] at he
        simp at he
      go_enter Tryz.func215, Tryz.ntmps215
      go_wp2
      go_ret
      exact ⟨by rw [HV.out]; rfl, rfl⟩
  · have HV : Hid (Pl.stands s t 0 = false) := by
      unfold Hid Pl.stands
      simp
      omega
    go_enter Tryz.func215, Tryz.ntmps215
    go_wp2
    go_ret
    exact ⟨by rw [HV.out]; rfl, rfl⟩
set_option maxHeartbeats 1000000 in
theorem pfx_any (s t : List UInt8) (w : World) :
    Calls Tryz.prog 207 #[.string ⟨s.toArray⟩, .string ⟨t.toArray⟩] w fun e w' => e = .returned (.bool (Pl.stands s t 0)) ∧ w' = w := by
  have HC : Hid (Calls Tryz.prog 215 _ _ _) := pfx_in s t w
  go_enter Tryz.func207, Tryz.ntmps207
  go_wp2_with fail
  refine HC.out.mono ?_
  rintro e w1 ⟨rfl, rfl⟩
  go_wp2
  go_ret
  exact ⟨rfl, rfl⟩
set_option maxHeartbeats 1000000 in
theorem sfx_in (s t : List UInt8) (w : World) (hs : s.length ≤ 1048576) (ht : t.length ≤ 1048576) :
    Calls Tryz.prog 216 #[.string ⟨s.toArray⟩, .string ⟨t.toArray⟩] w fun e w' => e = .returned (.bool (Pl.stands s t ((s.length : Int) - t.length))) ∧ w' = w := by
  by_cases h1 : (t.length : Int) ≤ (s.length : Int)
  · have hst : Pl.stands s t ((s.length : Int) - t.length) = (((⟨s.toArray⟩ : ByteArray).extract (s.length - t.length) s.length).toList == t) := by
      have hi : (s.length : Int) - (t.length : Int) = ((s.length - t.length : Nat) : Int) := by omega
      have e1 : (⟨s.toArray⟩ : ByteArray).extract (s.length - t.length) s.length = ⟨(s.drop (s.length - t.length)).toArray⟩ := by
        rw [ex_mid, List.take_of_length_le (by simp)]
      have e2 : (⟨(s.drop (s.length - t.length)).toArray⟩ : ByteArray).toList = s.drop (s.length - t.length) := by simp
      rw [e1, e2]
      unfold Pl.stands
      rw [hi, Int.toNat_natCast, List.take_of_length_le (by simp; omega), decide_eq_true (by omega : (0 : Int) ≤ ((s.length - t.length : Nat) : Int)), decide_eq_true (by omega : ((s.length - t.length : Nat) : Int) + t.length ≤ s.length)]
      rfl
    have HV : Hid (Pl.stands s t ((s.length : Int) - t.length) = (((⟨s.toArray⟩ : ByteArray).extract (s.length - t.length) s.length).toList == t)) := hst
    have hw : wrap64 ((s.length : Int) - (t.length : Int)) = (s.length : Int) - (t.length : Int) := IntWalk.wrap64_in _ ⟨by omega, by omega⟩
    clear hst
    go_enter Tryz.func216, Tryz.ntmps216
    go_wp2
    go_ret
    exact ⟨by rw [HV.out]; rfl, rfl⟩
  · have HV : Hid (Pl.stands s t ((s.length : Int) - t.length) = false) := by
      unfold Hid Pl.stands
      rw [decide_eq_false (by omega)]
      rfl
    go_enter Tryz.func216, Tryz.ntmps216
    go_wp2
    go_ret
    exact ⟨by rw [HV.out]; rfl, rfl⟩
set_option maxHeartbeats 1000000 in
theorem sfx_any (s t : List UInt8) (w : World) (hs : s.length ≤ 1048576) (ht : t.length ≤ 1048576) :
    Calls Tryz.prog 208 #[.string ⟨s.toArray⟩, .string ⟨t.toArray⟩] w fun e w' => e = .returned (.bool (Pl.stands s t ((s.length : Int) - t.length))) ∧ w' = w := by
  have HC : Hid (Calls Tryz.prog 216 _ _ _) := sfx_in s t w hs ht
  generalize Pl.stands s t ((s.length : Int) - t.length) = q at *
  go_enter Tryz.func208, Tryz.ntmps208
  go_wp2_with fail
  refine HC.out.mono ?_
  rintro e w1 ⟨rfl, rfl⟩
  go_wp2
  go_ret
  exact ⟨rfl, rfl⟩
end Go.Proofs.YtephhllfodlfbaaGreatDoor
/-
  isValue, by what it calls.
-/
namespace Go.Proofs.YtephhllfodlfbaaGreatDoor
open Go.RowKit

/-- strings.Contains, and hasWord -/
def CON : Prop := ∀ (s t : List UInt8) (w : World), Glob w → s.length ≤ 1048576 → t.length ≤ 1048576 → t.isEmpty = false → Calls Tryz.prog 209 #[.string ⟨s.toArray⟩, .string ⟨t.toArray⟩] w fun e w' => e = .returned (.bool ((List.range s.length).any fun i => Pl.stands s t i)) ∧ Below w.heap.size w w'
def WRD : Prop := ∀ (s t : List UInt8) (w : World), Glob w → s.length ≤ 1048576 → t.length ≤ 1048576 → t.isEmpty = false → Calls Tryz.prog 210 #[.string ⟨s.toArray⟩, .string ⟨t.toArray⟩] w fun e w' => e = .returned (.bool (Pl.word s t)) ∧ Below w.heap.size w w'
set_option maxRecDepth 100000 in
set_option maxHeartbeats 4000000 in
theorem isValue_up (hC : CON) (hW : WRD) (kind : Int) (name value s : List UInt8) (ta tb : Int) (vl : Value) (w : World) (hG : Glob w) (h3 : 3 ≤ kind) (h8 : kind ≤ 8) (hs : s.length ≤ 1048576) (ht : value.length ≤ 1048576) :
    Calls Tryz.prog 195 #[.agg #[.int .i64 kind, .string ⟨name.toArray⟩, .string ⟨value.toArray⟩, .int .i64 ta, .int .i64 tb, vl], .string ⟨s.toArray⟩] w fun e w' => e = .returned (.bool (Pl.valOk kind s value)) ∧ Below w.heap.size w w' := by
  have HBA : Hid (Below w.heap.size w (w.alloc (.cells #[.int .i64 kind, .string ⟨name.toArray⟩, .string ⟨value.toArray⟩, .int .i64 ta, .int .i64 tb, vl] 71))) := on_alloc _ _
  have HG : Hid (Glob (w.alloc (.cells #[.int .i64 kind, .string ⟨name.toArray⟩, .string ⟨value.toArray⟩, .int .i64 ta, .int .i64 tb, vl] 71))) := hG.on (on_alloc _ _)
  have HOC : Hid CON := hC
  have HOW : Hid WRD := hW
  have hcase : kind = 3 ∨ kind = 4 ∨ kind = 5 ∨ kind = 6 ∨ kind = 7 ∨ kind = 8 := by omega
  clear hC hW h3 h8 hG
  rcases hcase with rfl | rfl | rfl | rfl | rfl | rfl
  · have t0 := (blk6c (World.alloc_heap_new w (.cells #[.int .i64 3, .string ⟨name.toArray⟩, .string ⟨value.toArray⟩, .int .i64 ta, .int .i64 tb, vl] 71))).1
    go_enter Tryz.func195, Tryz.ntmps195
    go_wp2
    go_ret
    exact ⟨rfl, HBA.out⟩
  · have t0 := (blk6c (World.alloc_heap_new w (.cells #[.int .i64 4, .string ⟨name.toArray⟩, .string ⟨value.toArray⟩, .int .i64 ta, .int .i64 tb, vl] 71))).1
    have t2 := (blk6c (World.alloc_heap_new w (.cells #[.int .i64 4, .string ⟨name.toArray⟩, .string ⟨value.toArray⟩, .int .i64 ta, .int .i64 tb, vl] 71))).2.2.1
    have HV : Hid (Pl.valOk 4 s value = (s == value)) := rfl
    go_enter Tryz.func195, Tryz.ntmps195
    go_wp2
    go_ret
    exact ⟨by rw [HV.out]; rfl, HBA.out⟩
  · have t0 := (blk6c (World.alloc_heap_new w (.cells #[.int .i64 5, .string ⟨name.toArray⟩, .string ⟨value.toArray⟩, .int .i64 ta, .int .i64 tb, vl] 71))).1
    have t2 := (blk6c (World.alloc_heap_new w (.cells #[.int .i64 5, .string ⟨name.toArray⟩, .string ⟨value.toArray⟩, .int .i64 ta, .int .i64 tb, vl] 71))).2.2.1
    cases hv : value with
    | nil =>
      subst hv
      have HV : Hid (Pl.valOk 5 s [] = false) := by
        unfold Hid Pl.valOk Pl.word
        rfl
      go_enter Tryz.func195, Tryz.ntmps195
      go_wp2
      go_ret
      exact ⟨by rw [HV.out]; rfl, HBA.out⟩
    | cons c r =>
      have hne : value.isEmpty = false := by rw [hv]; rfl
      have hn2 : ¬ (⟨value.toArray⟩ : ByteArray) = ⟨#[]⟩ := fun e => by
        have := congrArg (fun x : ByteArray => x.data.toList) e
        rw [hv] at this
        simp at this
      have hn3 : ¬ value = [] := by rw [hv]; simp
      rw [← hv]
      have HV : Hid (Pl.valOk 5 s value = (!value.isEmpty && Pl.stands s value 0)) := by
        unfold Hid Pl.valOk
        rw [hne]
        rfl
      have HC : Hid (Calls Tryz.prog 207 _ _ _) := pfx_any s value (w.alloc (.cells #[.int .i64 5, .string ⟨name.toArray⟩, .string ⟨value.toArray⟩, .int .i64 ta, .int .i64 tb, vl] 71))
      clear hne hv
      go_enter Tryz.func195, Tryz.ntmps195
      go_wp2_with fail
      refine HC.out.mono ?_
      rintro e w1 ⟨rfl, hb1⟩
      have HB1 : Hid (Below w.heap.size w w1) := by first | (subst hb1; exact HBA.out) | exact below_trans HBA.out hb1
      clear hb1 t0 t2
      go_wp2
      go_ret
      exact ⟨by rw [HV.out]; rfl, HB1.out⟩
  · have t0 := (blk6c (World.alloc_heap_new w (.cells #[.int .i64 6, .string ⟨name.toArray⟩, .string ⟨value.toArray⟩, .int .i64 ta, .int .i64 tb, vl] 71))).1
    have t2 := (blk6c (World.alloc_heap_new w (.cells #[.int .i64 6, .string ⟨name.toArray⟩, .string ⟨value.toArray⟩, .int .i64 ta, .int .i64 tb, vl] 71))).2.2.1
    cases hv : value with
    | nil =>
      subst hv
      have HV : Hid (Pl.valOk 6 s [] = false) := by
        unfold Hid Pl.valOk Pl.word
        rfl
      go_enter Tryz.func195, Tryz.ntmps195
      go_wp2
      go_ret
      exact ⟨by rw [HV.out]; rfl, HBA.out⟩
    | cons c r =>
      have hne : value.isEmpty = false := by rw [hv]; rfl
      have hn2 : ¬ (⟨value.toArray⟩ : ByteArray) = ⟨#[]⟩ := fun e => by
        have := congrArg (fun x : ByteArray => x.data.toList) e
        rw [hv] at this
        simp at this
      have hn3 : ¬ value = [] := by rw [hv]; simp
      rw [← hv]
      have HV : Hid (Pl.valOk 6 s value = (!value.isEmpty && Pl.stands s value ((s.length : Int) - value.length))) := by
        unfold Hid Pl.valOk
        rw [hne]
        rfl
      have HC : Hid (Calls Tryz.prog 208 _ _ _) := sfx_any s value (w.alloc (.cells #[.int .i64 6, .string ⟨name.toArray⟩, .string ⟨value.toArray⟩, .int .i64 ta, .int .i64 tb, vl] 71)) hs ht
      clear hne hv
      go_enter Tryz.func195, Tryz.ntmps195
      go_wp2_with fail
      refine HC.out.mono ?_
      rintro e w1 ⟨rfl, hb1⟩
      have HB1 : Hid (Below w.heap.size w w1) := by first | (subst hb1; exact HBA.out) | exact below_trans HBA.out hb1
      clear hb1 t0 t2
      go_wp2
      go_ret
      exact ⟨by rw [HV.out]; rfl, HB1.out⟩
  · have t0 := (blk6c (World.alloc_heap_new w (.cells #[.int .i64 7, .string ⟨name.toArray⟩, .string ⟨value.toArray⟩, .int .i64 ta, .int .i64 tb, vl] 71))).1
    have t2 := (blk6c (World.alloc_heap_new w (.cells #[.int .i64 7, .string ⟨name.toArray⟩, .string ⟨value.toArray⟩, .int .i64 ta, .int .i64 tb, vl] 71))).2.2.1
    cases hv : value with
    | nil =>
      subst hv
      have HV : Hid (Pl.valOk 7 s [] = false) := by
        unfold Hid Pl.valOk Pl.word
        rfl
      go_enter Tryz.func195, Tryz.ntmps195
      go_wp2
      go_ret
      exact ⟨by rw [HV.out]; rfl, HBA.out⟩
    | cons c r =>
      have hne : value.isEmpty = false := by rw [hv]; rfl
      have hn2 : ¬ (⟨value.toArray⟩ : ByteArray) = ⟨#[]⟩ := fun e => by
        have := congrArg (fun x : ByteArray => x.data.toList) e
        rw [hv] at this
        simp at this
      have hn3 : ¬ value = [] := by rw [hv]; simp
      rw [← hv]
      have HV : Hid (Pl.valOk 7 s value = (!value.isEmpty && (List.range s.length).any fun i => Pl.stands s value i)) := by
        unfold Hid Pl.valOk
        rw [hne]
        rfl
      have HC : Hid (Calls Tryz.prog 209 _ _ _) := HOC.out s value (w.alloc (.cells #[.int .i64 7, .string ⟨name.toArray⟩, .string ⟨value.toArray⟩, .int .i64 ta, .int .i64 tb, vl] 71)) HG.out hs ht hne
      clear hne hv
      go_enter Tryz.func195, Tryz.ntmps195
      go_wp2_with fail
      refine HC.out.mono ?_
      rintro e w1 ⟨rfl, hb1⟩
      have HB1 : Hid (Below w.heap.size w w1) := by first | (subst hb1; exact HBA.out) | exact below_trans HBA.out hb1
      clear hb1 t0 t2
      go_wp2
      go_ret
      exact ⟨by rw [HV.out]; rfl, HB1.out⟩
  · have t0 := (blk6c (World.alloc_heap_new w (.cells #[.int .i64 8, .string ⟨name.toArray⟩, .string ⟨value.toArray⟩, .int .i64 ta, .int .i64 tb, vl] 71))).1
    have t2 := (blk6c (World.alloc_heap_new w (.cells #[.int .i64 8, .string ⟨name.toArray⟩, .string ⟨value.toArray⟩, .int .i64 ta, .int .i64 tb, vl] 71))).2.2.1
    cases hv : value with
    | nil =>
      subst hv
      have HV : Hid (Pl.valOk 8 s [] = false) := by
        unfold Hid Pl.valOk Pl.word
        rfl
      go_enter Tryz.func195, Tryz.ntmps195
      go_wp2
      go_ret
      exact ⟨by rw [HV.out]; rfl, HBA.out⟩
    | cons c r =>
      have hne : value.isEmpty = false := by rw [hv]; rfl
      have hn2 : ¬ (⟨value.toArray⟩ : ByteArray) = ⟨#[]⟩ := fun e => by
        have := congrArg (fun x : ByteArray => x.data.toList) e
        rw [hv] at this
        simp at this
      have hn3 : ¬ value = [] := by rw [hv]; simp
      rw [← hv]
      have HV : Hid (Pl.valOk 8 s value = (!value.isEmpty && Pl.word s value)) := by
        unfold Hid Pl.valOk
        rw [hne]
        rfl
      have HC : Hid (Calls Tryz.prog 210 _ _ _) := HOW.out s value (w.alloc (.cells #[.int .i64 8, .string ⟨name.toArray⟩, .string ⟨value.toArray⟩, .int .i64 ta, .int .i64 tb, vl] 71)) HG.out hs ht hne
      clear hne hv
      go_enter Tryz.func195, Tryz.ntmps195
      go_wp2_with fail
      refine HC.out.mono ?_
      rintro e w1 ⟨rfl, hb1⟩
      have HB1 : Hid (Below w.heap.size w w1) := by first | (subst hb1; exact HBA.out) | exact below_trans HBA.out hb1
      clear hb1 t0 t2
      go_wp2
      go_ret
      exact ⟨by rw [HV.out]; rfl, HB1.out⟩
end Go.Proofs.YtephhllfodlfbaaGreatDoor
/-
  The question of a test of attributes, by isValue.
-/
namespace Go.Proofs.YtephhllfodlfbaaGreatDoor
open Go.RowKit

theorem enter_145 (args : Array Value) (W : World) : (callFunc 194 args).run Tryz.prog W = .ok (.enter 194 args) W := by simp [callFunc, go_sem, Tryz.func194, Tryz.f194]
/-- whether an attribute is what a test asks for -/
def atOk (kind : Int) (name value : List UInt8) (a : List UInt8 × List UInt8) : Bool := a.1 == name && Pl.valOk kind a.2 value
set_option maxRecDepth 100000 in
set_option maxHeartbeats 4000000 in
theorem ask145 (hC : CON) (hW : WRD) (W : World) (hG : Glob W) (Bq : Nat) (kind : Int) (name value : List UInt8) (ta tb : Int) (vl : Value) (a : List UInt8 × List UInt8) (hq : W.heap[Bq]? = some (.cells #[.int .i64 kind, .string ⟨name.toArray⟩, .string ⟨value.toArray⟩, .int .i64 ta, .int .i64 tb, vl] 71)) (h3 : 3 ≤ kind) (h8 : kind ≤ 8) (hs : a.2.length ≤ 1048576) (ht : value.length ≤ 1048576) :
    Calls Tryz.prog 194 #[.agg #[.string ⟨a.1.toArray⟩, .string ⟨a.2.toArray⟩], .pointer (some ⟨Bq, 0, none⟩)] W fun e W' => e = .returned (.bool (atOk kind name value a)) ∧ Below W.heap.size W W' := by
  obtain ⟨a1, a2⟩ := a
  dsimp only at hs ⊢
  have hba := on_alloc W (.cells #[.string ⟨a1.toArray⟩, .string ⟨a2.toArray⟩] 59)
  obtain ⟨y0, y1⟩ := blk2d (World.alloc_heap_new W (.cells #[.string ⟨a1.toArray⟩, .string ⟨a2.toArray⟩] 59))
  obtain ⟨q0, q1, q2, q3, q4, q5⟩ := blk6c (blkOn hba hq)
  have HBA : Hid (Below W.heap.size W (W.alloc (.cells #[.string ⟨a1.toArray⟩, .string ⟨a2.toArray⟩] 59))) := hba
  have HC : Hid (Calls Tryz.prog 195 _ _ _) := isValue_up hC hW kind name value a2 ta tb vl (W.alloc (.cells #[.string ⟨a1.toArray⟩, .string ⟨a2.toArray⟩] 59)) (hG.on hba) h3 h8 hs ht
  clear hba hq hC hW h3 h8 hG
  cases he : (a1 == name) with
  | true =>
    have HV : Hid (atOk kind name value (a1, a2) = Pl.valOk kind a2 value) := by
      unfold Hid atOk
      rw [he]
      rfl
    have e : a1 = name := by simpa using he
    subst e
    clear he
    go_enter Tryz.func194, Tryz.ntmps194
    go_wp2_with fail
    refine HC.out.mono ?_
    rintro e w1 ⟨rfl, hb1⟩
    have HB1 : Hid (Below W.heap.size W w1) := below_trans HBA.out hb1
    clear hb1 y0 y1 q0 q1 q2 q3 q4 q5
    go_wp2
    go_ret
    exact ⟨by rw [HV.out]; rfl, HB1.out⟩
  | false =>
    have HV : Hid (atOk kind name value (a1, a2) = false) := by
      unfold Hid atOk
      rw [he]
      rfl
    have he2 : ¬ (⟨a1.toArray⟩ : ByteArray) = ⟨name.toArray⟩ := fun e => by
      have := congrArg (fun x : ByteArray => x.data.toList) e
      simp at this
      rw [this] at he
      simp at he
    clear HC
    go_enter Tryz.func194, Tryz.ntmps194
    go_wp2
    go_ret
    exact ⟨by rw [HV.out]; rfl, HBA.out⟩
set_option maxRecDepth 100000 in
set_option maxHeartbeats 4000000 in
theorem indexF (hC : CON) (hW : WRD) (W : World) (hG : Glob W) (Bq : Nat) (kind : Int) (name value : List UInt8) (ta tb : Int) (vl va : Value) (ats : List (List UInt8 × List UInt8)) (hv : AtsAt W va ats) (hl : ats.length ≤ 64) (hq : W.heap[Bq]? = some (.cells #[.int .i64 kind, .string ⟨name.toArray⟩, .string ⟨value.toArray⟩, .int .i64 ta, .int .i64 tb, vl] 71)) (h3 : 3 ≤ kind) (h8 : kind ≤ 8) (hs : ∀ a ∈ ats, a.2.length ≤ 1048576) (ht : value.length ≤ 1048576) :
    Calls Tryz.prog 206 #[va, .func (.func 194) #[] #[.pointer (some ⟨Bq, 0, none⟩)]] W fun e W' => ∃ i : Int, e = .returned (.int .i64 i) ∧ decide (0 ≤ i) = ats.any (atOk kind name value) ∧ Below W.heap.size W W' := by
  obtain ⟨aa, ca, rfl, hc⟩ := hv
  have HC : Hid (∀ i (h : i < ats.length), ∃ b o, aa = some ⟨b, o, none⟩ ∧ ∀ w, Below W.heap.size W w → w.cell? ⟨b, o + i * 2, none⟩ = some (.string ⟨ats[i].1.toArray⟩) ∧ w.cell? ⟨b, o + i * 2 + 1, none⟩ = some (.string ⟨ats[i].2.toArray⟩)) := fun i hi => by
    rcases hc with rfl | ⟨b, o, rfl, hc⟩
    · simp at hi
    · exact ⟨b, o, rfl, fun w hw => ⟨cell_on hw (hc i hi).1, cell_on hw (hc i hi).2⟩⟩
  have HQ : Hid (∀ w a, Below W.heap.size W w → a ∈ ats → Calls Tryz.prog 194 #[.agg #[.string ⟨a.1.toArray⟩, .string ⟨a.2.toArray⟩], .pointer (some ⟨Bq, 0, none⟩)] w fun e W' => e = .returned (.bool (atOk kind name value a)) ∧ Below w.heap.size w W') := fun w a hw ha => ask145 hC hW w (hG.on hw) Bq kind name value ta tb vl a (blkOn hw hq) h3 h8 (hs a ha) ht
  have h145 := enter_145
  clear hc hq h3 h8 hs ht hC hW hG
  generalize atOk kind name value = P at *
  go_enter Tryz.func206, Tryz.ntmps206
  go_wp2_with fail
  go_loopw [8] (fun m wr => ∃ k : Nat, k ≤ ats.length ∧ m = .int .i64 k ∧ Hid (∀ j (h : j < ats.length), j < k → P ats[j] = false) ∧ Hid (Below W.heap.size W wr)) (fun m _ => ats.length - (intOf m).toNat)
  case atStart => exact ⟨0, Nat.zero_le _, rfl, fun j _ hj => by omega, Below.refl _ _⟩
  case round =>
    obtain ⟨k, hk, rfl, HD, HB⟩ := hrel
    by_cases hlt : k < ats.length
    · obtain ⟨b, o, rfl, hcc⟩ := HC.out k hlt
      obtain ⟨d1, d2⟩ := hcc wr HB.out
      have HK : Hid (Calls Tryz.prog 194 _ _ _) := HQ.out wr ats[k] HB.out (List.getElem_mem hlt)
      cases he : P ats[k] with
      | true =>
        have HY : Hid (ats.any P = true) := by
          unfold Hid
          rw [List.any_eq_true]
          exact ⟨ats[k], List.getElem_mem hlt, he⟩
        rw [he] at HK
        clear he hcc
        generalize ats[k] = ak at *
        go_wp2_with fail
        refine HK.out.mono ?_
        rintro e w1 ⟨rfl, hb1⟩
        have HB1 : Hid (Below W.heap.size W w1) := below_trans HB.out hb1
        clear hb1 d1 d2
        go_wp2
        go_ret
        exact ⟨k, rfl, by rw [HY.out]; simp, HB1.out⟩
      | false =>
        have HD2 : Hid (∀ j (h : j < ats.length), j < k + 1 → P ats[j] = false) := by
          intro j h hj
          by_cases e : j = k
          · subst e
            exact he
          · exact HD.out j h (by omega)
        rw [he] at HK
        clear he hcc
        generalize ats[k] = ak at *
        go_wp2_with fail
        refine HK.out.mono ?_
        rintro e w1 ⟨rfl, hb1⟩
        have HB1 : Hid (Below W.heap.size W w1) := below_trans HB.out hb1
        clear hb1 d1 d2
        go_wp2
        go_round
        case rel => exact ⟨k + 1, by omega, by go_num, HD2, HB1⟩
        case measure => simp [intOf]; omega
    · have HN : Hid (ats.any P = false) := by
        unfold Hid
        rw [Bool.eq_false_iff]
        intro e
        rw [List.any_eq_true] at e
        obtain ⟨c, hc, hp⟩ := e
        obtain ⟨j, hj, rfl⟩ := List.getElem_of_mem hc
        rw [HD.out j hj (by omega)] at hp
        cases hp
      go_wp2
      go_ret
      exact ⟨-1, rfl, by rw [HN.out]; rfl, HB.out⟩
end Go.Proofs.YtephhllfodlfbaaGreatDoor
/-
  The question of a test of attributes: an element has one attribute of a name.
-/
namespace Go.Proofs.YtephhllfodlfbaaGreatDoor
open Go.RowKit

theorem less_self : ∀ a : List UInt8, Op.bytesLess a a = false
  | [] => rfl
  | x :: r => by simp [Op.bytesLess, less_self r]
theorem less_trans : ∀ a b c : List UInt8, Op.bytesLess a b = true → Op.bytesLess b c = true → Op.bytesLess a c = true
  | [], b, c, _, h2 => by
    cases c with
    | nil => cases b <;> simp [Op.bytesLess] at h2
    | cons z t => rfl
  | x :: r, [], c, h1, _ => by simp [Op.bytesLess] at h1
  | x :: r, y :: s, [], _, h2 => by simp [Op.bytesLess] at h2
  | x :: r, y :: s, z :: t, h1, h2 => by
    simp only [Op.bytesLess, Bool.or_eq_true, Bool.and_eq_true, decide_eq_true_eq, beq_iff_eq] at *
    rcases h1 with h1 | ⟨rfl, h1⟩
    · rcases h2 with h2 | ⟨rfl, h2⟩
      · exact Or.inl (UInt8.lt_trans h1 h2)
      · exact Or.inl h1
    · rcases h2 with h2 | ⟨rfl, h2⟩
      · exact Or.inl h2
      · exact Or.inr ⟨rfl, less_trans r s t h1 h2⟩
theorem rise_pairs : ∀ {l : List (List UInt8)}, Pl.rise l = true → l.Pairwise (fun a b => Op.bytesLess a b = true)
  | [], _ => List.Pairwise.nil
  | [a], _ => List.pairwise_singleton _ _
  | a :: b :: r, h => by
    simp only [Pl.rise, Bool.and_eq_true] at h
    have ih := rise_pairs h.2
    refine List.pairwise_cons.2 ⟨fun c hc => ?_, ih⟩
    rcases List.mem_cons.1 hc with e | e
    · rw [e]; exact h.1
    · exact less_trans _ _ _ h.1 ((List.pairwise_cons.1 ih).1 c e)
theorem one_attr (kind : Int) (name value : List UInt8) : ∀ (ats : List (List UInt8 × List UInt8)), (ats.map (·.1)).Pairwise (fun a b => Op.bytesLess a b = true) → ats.any (atOk kind name value) = (match attr1 ats name with | some v => Pl.valOk kind v value | none => false)
  | [], _ => rfl
  | a :: r, h => by
    rw [List.map_cons, List.pairwise_cons] at h
    have ih := one_attr kind name value r h.2
    unfold attr1 at ih ⊢
    rw [List.any_cons, List.find?_cons]
    cases he : (a.1 == name) with
    | true =>
      have hz : r.any (atOk kind name value) = false := by
        rw [Bool.eq_false_iff]
        intro e
        rw [List.any_eq_true] at e
        obtain ⟨c, hc, hp⟩ := e
        unfold atOk at hp
        rw [Bool.and_eq_true] at hp
        have e1 : c.1 = name := by simpa using hp.1
        have e2 : a.1 = name := by simpa using he
        have h1 := h.1 c.1 (List.mem_map_of_mem hc)
        rw [e1, e2, less_self] at h1
        cases h1
      rw [hz]
      unfold atOk
      rw [he]
      simp
    | false =>
      rw [ih]
      unfold atOk
      rw [he]
      rfl
set_option maxHeartbeats 1000000 in
theorem containsF (hC : CON) (hW : WRD) (W : World) (hG : Glob W) (Bq : Nat) (kind : Int) (name value : List UInt8) (ta tb : Int) (vl va : Value) (ats : List (List UInt8 × List UInt8)) (hv : AtsAt W va ats) (hl : ats.length ≤ 64) (hq : W.heap[Bq]? = some (.cells #[.int .i64 kind, .string ⟨name.toArray⟩, .string ⟨value.toArray⟩, .int .i64 ta, .int .i64 tb, vl] 71)) (h3 : 3 ≤ kind) (h8 : kind ≤ 8) (hs : ∀ a ∈ ats, a.2.length ≤ 1048576) (ht : value.length ≤ 1048576) :
    Calls Tryz.prog 193 #[va, .func (.func 194) #[] #[.pointer (some ⟨Bq, 0, none⟩)]] W fun e W' => e = .returned (.bool (ats.any (atOk kind name value))) ∧ Below W.heap.size W W' := by
  have HC : Hid (Calls Tryz.prog 206 _ _ _) := indexF hC hW W hG Bq kind name value ta tb vl va ats hv hl hq h3 h8 hs ht
  obtain ⟨a, cap, rfl, -⟩ := hv
  clear hq h3 h8 hs ht hC hW hG
  go_enter Tryz.func193, Tryz.ntmps193
  go_wp2_with fail
  refine HC.out.mono ?_
  rintro e w1 ⟨i, rfl, hi, hb⟩
  have HI : Hid (decide (0 ≤ i) = ats.any (atOk kind name value)) := hi
  have HB : Hid (Below W.heap.size W w1) := hb
  clear hi hb
  go_wp2
  go_ret
  exact ⟨by rw [← HI.out]; rfl, HB.out⟩
set_option maxRecDepth 100000 in
set_option maxHeartbeats 2000000 in
theorem attrs_up (hC : CON) (hW : WRD) : ATR := by
  intro W Bt Bq b o cap bk bn bl ns kind name value ta tb vl n hT ht hq hn h3 h8 hvl
  obtain ⟨x0, x1, x2, x3⟩ := blk4c ht
  have i1 : (0 : Int) ≤ (n : Int) := by omega
  have i2 : (n : Int) < (ns.length : Int) := by omega
  obtain ⟨vc, va, m0, m1, m2, m3, m4, hsc, hsa⟩ := hT.rd.at_ n hn
  have hrt := hT.rd.rt _ (List.getElem_mem hn)
  have h4 := (right_short hrt).2
  have hval : ∀ a ∈ ns[n].ats, a.2.length ≤ 1048576 := fun a ha => by
    unfold Pl.right at hrt
    simp only [Bool.and_eq_true, List.all_eq_true] at hrt
    have := val_len (hrt.2 a ha)
    omega
  have hrise : (ns[n].ats.map (·.1)).Pairwise (fun a b => Op.bytesLess a b = true) := by
    unfold Pl.right Pl.names at hrt
    simp only [Bool.and_eq_true] at hrt
    exact rise_pairs hrt.1.2.2
  rw [(at_parts hn).2.2.2.1]
  suffices hsuf : Calls Tryz.prog 192 #[.int .i64 n, .pointer (some ⟨Bt, 0, none⟩), .pointer (some ⟨Bq, 0, none⟩)] W fun e W' => e = .returned (.bool (ns[n].ats.any (atOk kind name value))) ∧ Below W.heap.size W W' from
    hsuf.mono fun e W' h => ⟨h.1.trans (congrArg (fun b => Ending.returned (.bool b)) (one_attr kind name value _ hrise)), h.2⟩
  obtain ⟨ac, cc, rfl, -⟩ := id hsa
  have HC : Hid (Calls Tryz.prog 193 _ _ _) := containsF hC hW W hT.glob Bq kind name value ta tb vl _ ns[n].ats hsa (by omega) hq h3 h8 hval (by omega)
  have hmf : ∀ (fn : Fn) (first cap : Array Value) (w : World), (Instr.makeFunc fn first cap).run Tryz.prog w = .ok (.func fn first cap) w := fun _ _ _ _ => rfl
  generalize ns[n].ats.length = cn at *
  generalize ns[n].ats.any (atOk kind name value) = bv at *
  clear hT ht hq x1 x2 x3 m0 m1 m2 m3 hsc hsa hrt hval hrise hC hW h3 h8 hvl h4
  go_enter Tryz.func192, Tryz.ntmps192
  go_wp2_with fail
  refine HC.out.mono ?_
  rintro e w1 ⟨rfl, hb1⟩
  have HB1 : Hid (Below W.heap.size W w1) := hb1
  clear hb1 x0 m4
  go_wp2
  go_ret
  exact ⟨rfl, HB1.out⟩
end Go.Proofs.YtephhllfodlfbaaGreatDoor
