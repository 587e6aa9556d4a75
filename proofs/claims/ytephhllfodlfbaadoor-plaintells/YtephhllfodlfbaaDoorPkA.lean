/-
  The iterator over the tests of all steps of a path.
-/
import Derived.RangeFuncNested
import Derived.RangeFuncBound
import Derived.RangeFuncCalls
import Derived.RangeFuncLeaves
import Derived.Shelf.Abstract
import Derived.Shelf.RegionOpen
import Derived.WalkKit
import Derived.OwnWalkIn
import Derived.TacticsInMore
import Derived.LoopNIn
import Derived.LoopIn
import Derived.Test.YtephhllfodlfbaaDoorRcB
namespace Go.Proofs.YtephhllfodlfbaaDoor
open Go.RowKit Go.Shelf

attribute [local go_sem] Oper.semAt_some

/-- a test as it is handed to a round: its value, and what it is -/
abbrev XT {α : Type} (A : MemL α) (w0 : World) (p : Pl.Pth α) := { x : Value × Pl.Tst α // TstV A w0 x.1 x.2 ∧ x.2 ∈ p.tests }
def XT.tst {α : Type} {A : MemL α} {w0 : World} {p : Pl.Pth α} (x : XT A w0 p) : Pl.Tst α := x.1.2
theorem steps_pref {α : Type} {ss : List (Pl.Stp α)} {k j : Nat} (hk : k < ss.length) (hj : j < ss[k].tests.length) : ((ss.take k).flatMap (·.tests) ++ ss[k].tests.take j ++ [ss[k].tests[j]]) <+: ss.flatMap (·.tests) := by
  refine ⟨ss[k].tests.drop (j + 1) ++ (ss.drop (k + 1)).flatMap (·.tests), ?_⟩
  have e1 : ss = ss.take k ++ ss[k] :: ss.drop (k + 1) := by rw [← List.drop_eq_getElem_cons hk, List.take_append_drop]
  have e2 : ss[k].tests = ss[k].tests.take j ++ ss[k].tests[j] :: ss[k].tests.drop (j + 1) := by rw [← List.drop_eq_getElem_cons hj, List.take_append_drop]
  have e3 : ss.flatMap (·.tests) = (ss.take k).flatMap (·.tests) ++ (ss[k].tests ++ (ss.drop (k + 1)).flatMap (·.tests)) := by
    conv => lhs; rw [e1]
    rw [List.flatMap_append, List.flatMap_cons]
  have e4 : ss[k].tests = ss[k].tests.take j ++ [ss[k].tests[j]] ++ ss[k].tests.drop (j + 1) := by
    rw [List.append_assoc, List.singleton_append]
    exact e2
  rw [e3]
  conv => rhs; rw [e4]
  simp only [List.append_assoc]
theorem steps_next {α : Type} {ss : List (Pl.Stp α)} {k : Nat} (hk : k < ss.length) : (ss.take (k + 1)).flatMap (·.tests) = (ss.take k).flatMap (·.tests) ++ ss[k].tests := by
  rw [List.take_succ_eq_append_getElem hk, List.flatMap_append]
  simp
set_option maxRecDepth 100000 in
set_option maxHeartbeats 4000000 in
theorem tests1_in (F : Fence) (n : Nat) (h71 : F.fn 61) (hro : F.round = none) (hn : 1 ≤ n) (l Bs : Nat) {α : Type} {A : MemL α} (hA : IsL A) (w0 : World) (p : Pl.Pth α) (vs : Value) (J Jx : List (XT A w0 p) → World → Prop) (W : World) (hJ : AbidesFrom W.heap.size J)
    (hY : ∀ pre x W1, J pre W1 → pre.length < p.tests.length → YieldAt F (n - 1) Tryd.prog l #[x.1.1] W1 fun e W' =>
      (e = .returned (.bool true) ∧ J (pre ++ [x]) W' ∧ Below w0.heap.size W1 W') ∨ (e = .returned (.bool false) ∧ Jx (pre ++ [x]) W'))
    (hW : Below w0.heap.size w0 W) (hBs : W.cell? ⟨Bs, 0, none⟩ = some vs) (hr : RowAt (StpAt A) 2 w0 vs p.steps) (h0 : J [] W) :
    CallsIn F n Tryd.prog 61 #[.func (.yield l) #[] #[], .pointer (some ⟨Bs, 0, none⟩)] W fun e W' => (∃ v, e = .returned v) ∧
      ((∃ ys, ys.map XT.tst = p.tests ∧ J ys W') ∨ (∃ pre, pre.map XT.tst <+: p.tests ∧ Jx pre W')) := by
  obtain ⟨ax, cx, rfl⟩ := hr.form
  have fs := hr.fit
  unfold maxLen at fs
  have HA : Hid (IsL A) := hA
  have HR : Hid (RowAt (StpAt A) 2 w0 (.slice ax p.steps.length cx) p.steps) := hr
  have HJ : Hid (∀ s W1 o, J s W1 → J s (W1.alloc o)) := fun s W1 o h => hJ s W1 _ none h (World.grownBy_alloc W1 o none) (fun r e => by cases e)
  have HY : Hid (∀ pre x W1, J pre W1 → pre.length < p.tests.length → YieldAt F (n - 1) Tryd.prog l #[x.1.1] W1 fun e W' => (e = .returned (.bool true) ∧ J (pre ++ [x]) W' ∧ Below w0.heap.size W1 W') ∨ (e = .returned (.bool false) ∧ Jx (pre ++ [x]) W')) := hY
  have HW : Hid (Below w0.heap.size w0 W) := hW
  have H0 : Hid (J [] W) := h0
  clear hA hr hJ hY hW h0
  refine callsIn_of_wp Tryd.func61 rfl h71 ?_ hro
  simp only [Tryd.ntmps61, List.size_toArray, List.length_cons, List.length_nil, Nat.reduceAdd, Nat.reduceSub, Array.replicate_succ, Array.replicate_zero, List.push_toArray, List.append_toArray, List.nil_append, List.cons_append]
  gi_wp2
  gi_loopw [10] (fun i wr => ∃ k : Nat, k ≤ p.steps.length ∧ i = .int .i64 k ∧ Hid (∃ pre : List (XT A w0 p), pre.map XT.tst = (p.steps.take k).flatMap (·.tests) ∧ J pre wr) ∧ Hid (Below w0.heap.size w0 wr))
    (fun i _ => p.steps.length - (intOf i).toNat)
  case atStart => exact ⟨0, Nat.zero_le _, rfl, ⟨[], by simp, H0.out⟩, HW⟩
  case round =>
    obtain ⟨k, hk, rfl, HP, HB⟩ := hrel
    by_cases hlt : k < p.steps.length
    · obtain ⟨-, b, o, rfl, hc⟩ := RowAt.at HR.out (by omega)
      obtain ⟨vt, m0, m1, rt⟩ := hc k hlt
      replace m0 := cell_on HB.out m0
      replace m1 := cell_on HB.out m1
      obtain ⟨at_, ct, rfl⟩ := rt.form
      have ft := rt.fit
      unfold maxLen at ft
      have i1 : (0 : Int) ≤ (k : Int) := by omega
      have i2 : (k : Int) < (p.steps.length : Int) := by omega
      have HPRE : Hid (∀ j (hj : j < p.steps[k].tests.length), ((p.steps.take k).flatMap (·.tests) ++ p.steps[k].tests.take j ++ [p.steps[k].tests[j]]) <+: p.tests) := fun j hj => steps_pref hlt hj
      have HNXT : Hid ((p.steps.take (k + 1)).flatMap (·.tests) = (p.steps.take k).flatMap (·.tests) ++ p.steps[k].tests) := steps_next hlt
      have HRT : Hid (RowAt (TstAt A) 6 w0 (.slice at_ p.steps[k].tests.length ct) p.steps[k].tests) := rt
      clear hc rt
      generalize p.steps[k] = st at *
      have hbs := on_alloc wr (.cells #[.string ⟨st.tag.toArray⟩, .slice at_ st.tests.length ct] 41)
      have HB1 : Hid (Below w0.heap.size w0 (wr.alloc (.cells #[.string ⟨st.tag.toArray⟩, .slice at_ st.tests.length ct] 41))) := below_trans HB.out hbs
      have HP1 : Hid (∃ pre : List (XT A w0 p), pre.map XT.tst = (p.steps.take k).flatMap (·.tests) ∧ J pre (wr.alloc (.cells #[.string ⟨st.tag.toArray⟩, .slice at_ st.tests.length ct] 41))) := by
        obtain ⟨pre, h1, h2⟩ := HP.out
        exact ⟨pre, h1, HJ.out _ _ _ h2⟩
      clear hbs HP
      gi_wp2
      gi_loopw [17] (fun i wr => ∃ j : Nat, j ≤ st.tests.length ∧ i = .int .i64 j ∧ Hid (∃ pre : List (XT A w0 p), pre.map XT.tst = (p.steps.take k).flatMap (·.tests) ++ st.tests.take j ∧ J pre wr) ∧ Hid (Below w0.heap.size w0 wr))
        (fun i _ => st.tests.length - (intOf i).toNat)
      case atStart =>
        obtain ⟨pre, h1, h2⟩ := HP1.out
        exact ⟨0, Nat.zero_le _, rfl, ⟨pre, by simpa using h1, h2⟩, HB1⟩
      case round =>
        obtain ⟨j, hj, rfl, HP2, HB2⟩ := hrel
        by_cases hlt2 : j < st.tests.length
        · obtain ⟨-, b3, o3, rfl, hc3⟩ := RowAt.at HRT.out (by omega)
          obtain ⟨vu, q0, q1, q2, q3, q4, q5, rl⟩ := hc3 j hlt2
          replace q0 := cell_on HB2.out q0
          replace q1 := cell_on HB2.out q1
          replace q2 := cell_on HB2.out q2
          replace q3 := cell_on HB2.out q3
          replace q4 := cell_on HB2.out q4
          replace q5 := cell_on HB2.out q5
          obtain ⟨au, cu, rfl, -⟩ := HA.out.form rl
          have j1 : (0 : Int) ≤ (j : Int) := by omega
          have j2 : (j : Int) < (st.tests.length : Int) := by omega
          have HPJ : Hid (((p.steps.take k).flatMap (·.tests) ++ st.tests.take j ++ [st.tests[j]]) <+: p.tests) := HPRE.out j hlt2
          have HNJ : Hid (st.tests.take (j + 1) = st.tests.take j ++ [st.tests[j]]) := List.take_succ_eq_append_getElem hlt2
          have HX : Hid (TstV A w0 (.agg #[.int .i64 st.tests[j].kind, .string ⟨st.tests[j].name.toArray⟩, .string ⟨st.tests[j].value.toArray⟩, .int .i64 st.tests[j].a, .int .i64 st.tests[j].b, .slice au st.tests[j].list.length cu]) st.tests[j]) := ⟨_, rfl, rl⟩
          clear hc3 rl
          generalize st.tests[j] = t at *
          obtain ⟨pre, hp1, hp2⟩ := HP2.out
          have hbt := on_alloc wr (.cells #[.int .i64 t.kind, .string ⟨t.name.toArray⟩, .string ⟨t.value.toArray⟩, .int .i64 t.a, .int .i64 t.b, .slice au t.list.length cu] 45)
          have HB3 : Hid (Below w0.heap.size w0 (wr.alloc (.cells #[.int .i64 t.kind, .string ⟨t.name.toArray⟩, .string ⟨t.value.toArray⟩, .int .i64 t.a, .int .i64 t.b, .slice au t.list.length cu] 45))) := below_trans HB2.out hbt
          obtain ⟨fn, tmps, assign, body, hy, hR⟩ := HY.out pre ⟨(_, t), HX.out, HPJ.out.subset (by simp)⟩ (wr.alloc (.cells #[.int .i64 t.kind, .string ⟨t.name.toArray⟩, .string ⟨t.value.toArray⟩, .int .i64 t.a, .int .i64 t.b, .slice au t.list.length cu] 45)) (HJ.out _ _ _ hp2) (by
            have h1 := HPJ.out.length_le
            have h2 := congrArg List.length hp1
            simp only [List.length_map, List.length_append, List.length_cons, List.length_nil] at h1 h2
            omega)
          dsimp only at hy
          have HP3 : Hid (pre.map XT.tst = (p.steps.take k).flatMap (·.tests) ++ st.tests.take j) := hp1
          have HRR : Hid (RoundIn _ _ _ _ _ _ _ _ _ _) := hR
          clear hbt HP2 hp1 hp2 hR
          gi_wp2
          refine HRR.out.mono ?_
          rintro e W3 (⟨rfl, hJ3, hk3⟩ | ⟨rfl, hJx3⟩)
          · have HP4 : Hid (∃ pre : List (XT A w0 p), pre.map XT.tst = (p.steps.take k).flatMap (·.tests) ++ st.tests.take (j + 1) ∧ J pre W3) := ⟨_, by rw [HNJ.out, List.map_append, HP3.out]; simp [XT.tst], hJ3⟩
            have HB4 : Hid (Below w0.heap.size w0 W3) := HB3.out.trans hk3
            clear hJ3 hk3
            gi_wp2
            go_roundw
            case rel => exact ⟨j + 1, by omega, by simp, HP4, HB4⟩
            case measure => simp [intOf]; omega
          · have HP4 : Hid (∃ pre : List (XT A w0 p), pre.map XT.tst <+: p.tests ∧ Jx pre W3) := ⟨_, by rw [List.map_append, HP3.out]; simpa [XT.tst] using HPJ.out, hJx3⟩
            clear hJx3
            gi_wp2
            refine bodyPost_ret (results_none rfl _ _ _) rfl ?_
            exact ⟨⟨_, rfl⟩, .inr HP4.out⟩
        · have HP3 : Hid (∃ pre : List (XT A w0 p), pre.map XT.tst = (p.steps.take (k + 1)).flatMap (·.tests) ∧ J pre wr) := by
            obtain ⟨pre, h1, h2⟩ := HP2.out
            exact ⟨pre, by rw [HNXT.out, h1, List.take_of_length_le (l := st.tests) (i := j) (by omega)], h2⟩
          gi_wp2
          go_roundw
          case rel => exact ⟨k + 1, by omega, by simp, HP3, HB2⟩
          case measure => simp [intOf]; omega
    · have HD : Hid (∃ ys : List (XT A w0 p), ys.map XT.tst = p.tests ∧ J ys wr) := by
        obtain ⟨pre, h1, h2⟩ := HP.out
        exact ⟨pre, by rw [h1, List.take_of_length_le (by omega)]; rfl, h2⟩
      gi_wp2
      go_end0
      exact ⟨⟨_, rfl⟩, .inl HD.out⟩
set_option maxHeartbeats 1000000 in
/-- the path is boxed; the function value captures the box -/
theorem tests_in (F : Fence) (n : Nat) (h51 : F.fn 45) (hro : F.round = none) (v u : Value) (w : World) :
    CallsIn F n Tryd.prog 45 #[.agg #[v, u]] w fun e w' => e = .returned (.func (.func 61) #[] #[.pointer (some ⟨w.heap.size, 0, none⟩)]) ∧ w' = w.alloc (.cells #[v, u] 38) := by
  refine callsIn_of_wp Tryd.func45 rfl h51 ?_ hro
  simp only [Tryd.ntmps45, List.size_toArray, List.length_cons, List.length_nil, Nat.reduceAdd, Nat.reduceSub, Array.replicate_succ, Array.replicate_zero, List.push_toArray, List.append_toArray, List.nil_append, List.cons_append]
  gi_wp2
  go_ret
  exact ⟨rfl, rfl⟩
/-- all tests come, in their order; or some, where a round has said 'no more' -/
theorem tests_stops (F : Fence) (n : Nat) (h71 : F.fn 61) (hro : F.round = none) (hn : 1 ≤ n) {α : Type} {A : MemL α} (hA : IsL A) (Bs : Nat) (w0 : World) (p : Pl.Pth α) (vs : Value) (w : World) (hw : Below w0.heap.size w0 w) (hBs : Bs < w.heap.size)
    (hc : w.cell? ⟨Bs, 0, none⟩ = some vs) (hr : RowAt (StpAt A) 2 w0 vs p.steps) :
    SeqStopsK F n Tryd.prog 61 #[.pointer (some ⟨Bs, 0, none⟩)] (fun x : XT A w0 p => #[x.1.1]) (Below w0.heap.size) (fun ys => ys.map XT.tst = p.tests) (fun pre => pre.map XT.tst <+: p.tests) p.tests.length w := fun l J Jx W hW hJ _ hY h0 =>
  tests1_in F n h71 hro hn l Bs hA w0 p vs J Jx W hJ hY (hw.trans (hW.mono hw.size)) ((hW.cell (p := ⟨Bs, 0, none⟩) hBs).trans hc) hr h0
end Go.Proofs.YtephhllfodlfbaaDoor
/-
  path's hasKinds.
-/
namespace Go.Proofs.YtephhllfodlfbaaDoor
open Go.RowKit Go.Shelf

attribute [local go_sem] Oper.semAt_some

set_option maxHeartbeats 1000000 in
theorem isLink_any (k : Int) (w : World) : Calls Tryd.prog 47 #[.int .i64 k] w fun e w' => e = .returned (.bool (Pl.isLink k)) ∧ w' = w := by
  by_cases h1 : 1 ≤ k
  · by_cases h2 : k ≤ 4
    · have HI : Hid (Pl.isLink k = true) := by simp [Hid, Pl.isLink, h1, h2]
      go_enter Tryd.func47, Tryd.ntmps47
      go_wp2
      go_ret
      exact ⟨by rw [HI.out]; simp, rfl⟩
    · have HI : Hid (Pl.isLink k = false) := by simp [Hid, Pl.isLink, h2]
      go_enter Tryd.func47, Tryd.ntmps47
      go_wp2
      go_ret
      exact ⟨by rw [HI.out]; simp, rfl⟩
  · have HI : Hid (Pl.isLink k = false) := by simp [Hid, Pl.isLink, h1]
    go_enter Tryd.func47, Tryd.ntmps47
    go_wp2
    go_ret
    exact ⟨by rw [HI.out]; rfl, rfl⟩
set_option maxHeartbeats 1000000 in
theorem isKind_any (k : Int) (w : World) : Calls Tryd.prog 48 #[.int .i64 k] w fun e w' => e = .returned (.bool (Pl.isKind k)) ∧ w' = w := by
  by_cases h1 : 1 ≤ k
  · by_cases h2 : k ≤ 15
    · have HI : Hid (Pl.isKind k = true) := by simp [Hid, Pl.isKind, h1, h2]
      go_enter Tryd.func48, Tryd.ntmps48
      go_wp2
      go_ret
      exact ⟨by rw [HI.out]; simp, rfl⟩
    · have HI : Hid (Pl.isKind k = false) := by simp [Hid, Pl.isKind, h2]
      go_enter Tryd.func48, Tryd.ntmps48
      go_wp2
      go_ret
      exact ⟨by rw [HI.out]; simp, rfl⟩
  · have HI : Hid (Pl.isKind k = false) := by simp [Hid, Pl.isKind, h1]
    go_enter Tryd.func48, Tryd.ntmps48
    go_wp2
    go_ret
    exact ⟨by rw [HI.out]; rfl, rfl⟩
set_option maxRecDepth 100000 in
set_option maxHeartbeats 4000000 in
theorem hasKinds_any {α : Type} {A : MemL α} (hA : IsL A) (v u : Value) (p : Pl.Pth α) (w : World) (hs : RowAt (StpAt A) 2 w v p.steps) (hl : RowAt IntAt 1 w u p.links) :
    Calls Tryd.prog 27 #[.agg #[v, u]] w fun e w' => e = .returned (.bool (Pl.pKinds p)) ∧ Below w.heap.size w w' := by
  obtain ⟨ax, cx, rfl⟩ := hs.form
  obtain ⟨al, cl, rfl⟩ := hl.form
  have fl := hl.fit
  unfold maxLen at fl
  have HS : Hid (RowAt (StpAt A) 2 w (.slice ax p.steps.length cx) p.steps) := hs
  have HL : Hid (RowAt IntAt 1 w (.slice al p.links.length cl) p.links) := hl
  have HA : Hid (IsL A) := hA
  have hB0 : Below w.heap.size w ((w.alloc (.cells #[.slice ax p.steps.length cx, .slice al p.links.length cl] 38)).alloc (.cells #[.bool false] 4)) := ((Below.refl _ w).alloc (Nat.le_refl _) _).alloc (by simp) _
  obtain ⟨b0, b1⟩ := Blk2p.new w (.slice ax p.steps.length cx) (.slice al p.links.length cl)
  have c0 := cell_on (on_alloc _ (.cells #[.bool false] 4)) b0
  have c1 := cell_on (on_alloc _ (.cells #[.bool false] 4)) b1
  have bR := Boxed.new (w.alloc (.cells #[.slice ax p.steps.length cx, .slice al p.links.length cl] 38)) 4 (.bool false)
  simp only [World.size_alloc] at bR
  clear hs hl hA b0 b1
  refine (callsIn_wide (n := 6)).1 ?_
  have h1 : 1 ≤ 6 := by omega
  refine callsIn_of_wp_marks Tryd.func27 rfl trivial ?_ rfl
  simp only [Tryd.ntmps27, List.size_toArray, List.length_cons, List.length_nil, Nat.reduceAdd, Nat.reduceSub, Array.replicate_succ, Array.replicate_zero, List.push_toArray, List.append_toArray, List.nil_append, List.cons_append]
  gi_wp2
  have HBR : Hid (Boxed _ _ _ _) := bR
  have HB0 : Hid (Below _ _ _) := hB0
  clear bR hB0
  generalize (w.alloc (.cells #[.slice ax p.steps.length cx, .slice al p.links.length cl] 38)).alloc (.cells #[.bool false] 4) = W1 at *
  gi_loopw [9] (fun i wr => ∃ k : Nat, k ≤ p.links.length ∧ i = .int .i64 k ∧ Hid ((p.links.take k).all Pl.isLink = true) ∧ wr = W1) (fun i _ => p.links.length - (intOf i).toNat)
  case atStart => exact ⟨0, Nat.zero_le _, rfl, by simp [Hid], rfl⟩
  case round =>
    obtain ⟨k, hk, rfl, HT, rfl⟩ := hrel
    by_cases hlt : k < p.links.length
    · obtain ⟨-, b2, o2, rfl, hc2⟩ := RowAt.at HL.out (by omega)
      have m0 : wr.cell? ⟨b2, o2 + k, none⟩ = some (.int .i64 p.links[k]) := by simpa [IntAt] using cell_on HB0.out (hc2 k hlt)
      have k1 : (0 : Int) ≤ (k : Int) := by omega
      have k2 : (k : Int) < (p.links.length : Int) := by omega
      have HBAD2 : Hid (Pl.isLink p.links[k] = false → Pl.pKinds p = false) := fun h => by unfold Pl.pKinds; rw [all_bad hlt h]; rfl
      have HOK2 : Hid (Pl.isLink p.links[k] = true → (p.links.take (k + 1)).all Pl.isLink = true) := fun h => all_next hlt HT.out h
      clear hc2 HT
      generalize p.links[k] = lk at *
      cases hb : Pl.isLink lk with
      | true =>
        have HK : Hid ((p.links.take (k + 1)).all Pl.isLink = true) := HOK2.out hb
        gi_wp2_with (refine ⟨trivial, ?_⟩; gi_at_call 47; refine (callsIn_wide.2 (isLink_any _ _)).mono ?_; rintro e w' ⟨rfl, rfl⟩; rw [hb])
        go_roundw
        case rel => exact ⟨k + 1, by omega, by simp, HK, by first | rfl | trivial⟩
        case measure => simp [intOf]; omega
      | false =>
        have HK : Hid (Pl.pKinds p = false) := HBAD2.out hb
        have fR := HBR.out.frozen
        have cR := HBR.out.cell
        gi_wp2_with (refine ⟨trivial, ?_⟩; gi_at_call 47; refine (callsIn_wide.2 (isLink_any _ _)).mono ?_; rintro e w' ⟨rfl, rfl⟩; rw [hb])
        have hc5 := (HBR.out.set (.bool false)).cell
        refine ⟨.bool false, ?_, by rw [HK.out], HB0.out.setCell (p := ⟨w.heap.size + 1, 0, none⟩) (by simp) _⟩
        simp [results, Tryd.results27, go_sem, hc5]
    · have HLK : Hid (p.links.all Pl.isLink = true) := all_done hlt HT.out
      have HPK : Hid (Pl.pKinds p = p.tests.all fun t => Pl.isKind t.kind) := by
        unfold Hid Pl.pKinds
        rw [HLK.out, Bool.true_and]
      clear HT HLK
      gi_wp2_with (refine ⟨trivial, ?_⟩; gi_at_call 45; refine (tests_in Fence.wide _ trivial rfl _ _ _).mono ?_; rintro e w' ⟨rfl, rfl⟩)
      have hB2 : Below w.heap.size w (wr.alloc (.cells #[.slice ax p.steps.length cx, .slice al p.links.length cl] 38)) := below_trans HB0.out (on_alloc _ _)
      have d0 := (Blk2p.new wr (.slice ax p.steps.length cx) (.slice al p.links.length cl)).1
      have bR2 := HBR.out.alloc (.cells #[.slice ax p.steps.length cx, .slice al p.links.length cl] 38)
      have hszR := HBR.out.lt
      have hsz2 : (wr.alloc (.cells #[.slice ax p.steps.length cx, .slice al p.links.length cl] 38)).heap.size = wr.heap.size + 1 := by simp
      have hsz0 := HB0.out.size
      generalize hW2 : wr.alloc (.cells #[.slice ax p.steps.length cx, .slice al p.links.length cl] 38) = W2 at *
      refine wpIn_rangeFunc_ownH rfl h1 (gf := 61) (lb := #[.pointer (some ⟨wr.heap.size, 0, none⟩)]) rfl trivial (enters_of Tryd.func61 (by kernel_rfl) rfl)
        (tests_stops Fence.wide (6 - 1) trivial rfl (by omega) HA.out wr.heap.size w p _ W2 hB2 (by omega) d0 HS.out) belowK_t (belowK_b (by omega)) (Below.refl _ _) (fun _ => rfl)
        (fun pre W => (((pre.map XT.tst).all (fun t => Pl.isKind t.kind) = true) ∧ Boxed W (w.heap.size + 1) 4 (.bool false)) ∧ Below w.heap.size w W)
        (fun c pre W => ((c = .ret ∧ (pre.map XT.tst).all (fun t => Pl.isKind t.kind) = false) ∧ Boxed W (w.heap.size + 1) 4 (.bool false)) ∧ Below w.heap.size w W)
        (OwnFrom.and (OwnFrom.and (ownFrom_pure _ _) (Own.from (boxed_own _ _ _) _)) (ownFrom_below (Nat.le_refl _) (by omega)))
        (fun c => OwnFrom.and (OwnFrom.and (ownFrom_pure _ _) (Own.from (boxed_own _ _ _) _)) (ownFrom_below (Nat.le_refl _) (by omega)))
        ⟨⟨by simp, bR2⟩, hB2⟩
        (fun x a' W => ∃ Bx, w.heap.size + 1 < Bx ∧ W.cell? ⟨Bx, 0, none⟩ = some (.int .i64 x.1.2.kind) ∧ a' = { tmps := #[.agg #[.slice ax p.steps.length cx, .slice al p.links.length cl], .pointer (some ⟨w.heap.size, 0, none⟩), .pointer (some ⟨w.heap.size + 1, 0, none⟩), undef, u4, .pointer (some ⟨Bx, 0, none⟩), .pointer (some ⟨w.heap.size, 1, none⟩), .slice al p.links.length cl, .int .i64 p.links.length, .int .i64 k, .bool false, u11, u12, u13, u14, u15, u16, .agg #[.slice ax p.steps.length cx, .slice al p.links.length cl], .func (.func 61) #[] #[.pointer (some ⟨wr.heap.size, 0, none⟩)], x.1.1, undef, undef, undef, undef], defers := [] })
        (fun x a' _ X Y row hs hg hr => by obtain ⟨Bx, h1, h2, h3⟩ := hs; exact ⟨Bx, h1, cell_kept h2 hg (fun r e => (hr r e).2), h3⟩)
        ?assign ?body ?done ?stop
      case assign =>
        rintro l pre x W K ⟨⟨hp, hbx⟩, hB⟩ hK
        obtain ⟨lv, hx, hal⟩ := x.2.1
        obtain ⟨au, cu, rfl, -⟩ := HA.out.form hal
        have HXX : Hid _ := hx
        dsimp only
        rw [hx]
        clear hx hal
        gi_wp2
        exact hK _ _ ((KeepsOthers.alloc _ _).from _) ((Below.refl _ W).alloc hB.size _) ⟨⟨hp, hbx.alloc _⟩, hB.alloc hB.size _⟩ ⟨W.heap.size, hbx.lt, (Blk6p.new W _ _ _ _ _ _).1, by rw [HXX.out]⟩
      case body =>
        rintro l pre x a' W hl hr ⟨⟨hp, hbx⟩, hB⟩ ⟨Bx, hBx, hcx, rfl⟩ hlt
        have fR := hbx.frozen
        have cR := hbx.cell
        obtain ⟨kd, hkd⟩ : ∃ y, x.1.2.kind = y := ⟨_, rfl⟩
        rw [hkd] at hcx
        have HKD : Hid (x.tst.kind = kd) := hkd
        clear hkd
        generalize x.1.1 = xv
        have h1' : 1 ≤ 6 - 1 - 1 := by omega
        cases hb : Pl.isKind kd with
        | true =>
          gi_wp2_with (refine ⟨trivial, ?_⟩; gi_at_call 48; refine (CallsIn.inRound l (callsIn_wide.2 (isKind_any _ _))).mono ?_; rintro e w' ⟨rfl, rfl⟩; rw [hb])
          exact ⟨(KeepsOthers.refl _).from _, Below.refl _ _, ⟨by rw [List.map_append, List.all_append, hp]; simp [HKD.out, hb], hbx⟩, hB⟩
        | false =>
          gi_wp2_with (refine ⟨trivial, ?_⟩; gi_at_call 48; refine (CallsIn.inRound l (callsIn_wide.2 (isKind_any _ _))).mono ?_; rintro e w' ⟨rfl, rfl⟩; rw [hb])
          exact ⟨(KeepsOthers.setCell _ _ _).from _, ⟨⟨rfl, by rw [List.map_append, List.all_append]; simp [HKD.out, hb]⟩, hbx.set _⟩, hB.setCell (p := ⟨w.heap.size + 1, 0, none⟩) (by simp) _⟩
      case done =>
        rintro D ys W hD hys ⟨⟨hp, hbx⟩, hB⟩ hK
        have fR := hbx.frozen
        have cR := hbx.cell
        rw [hys] at hp
        gi_wp2
        have hK' := (KeepsOthers.setCell W ⟨w.heap.size + 1, 0, none⟩ (.bool true)).same D _ hK rfl
        refine ⟨by simp, .inl ⟨_, _, rfl, run_takeDeferred hK', ?_⟩⟩
        have hc5 := cell_kept (hbx.set (.bool true)).cell (grownBy_putObj' _ D (.deferred none)) (fun r e => by cases e; exact ⟨_, hK', rfl⟩)
        refine ⟨.bool true, ?_, by rw [HPK.out, hp], (hB.setCell (p := ⟨w.heap.size + 1, 0, none⟩) (by simp) _).trans (belowK_b (w := w) (Nat.le_refl _) _ D _ _ (by omega) hK' rfl rfl)⟩
        simp [results, Tryd.results27, go_sem, hc5]
      case stop =>
        rintro D c pre W hD hpre ⟨⟨⟨rfl, hp⟩, hbx⟩, hB⟩ hK
        gi_wp2
        refine ⟨by simp, .inl ⟨_, _, rfl, run_takeDeferred hK, ?_⟩⟩
        have hc5 := cell_kept hbx.cell (grownBy_putObj' _ D (.deferred none)) (fun r e => by cases e; exact ⟨_, hK, rfl⟩)
        have hno : (p.tests.all fun t => Pl.isKind t.kind) = false := by
          obtain ⟨rest, hrest⟩ := hpre
          rw [← hrest, List.all_append, hp]
          rfl
        refine ⟨.bool false, ?_, by rw [HPK.out, hno], hB.trans (belowK_b (w := w) (Nat.le_refl _) W D _ _ (by omega) hK rfl rfl)⟩
        simp [results, Tryd.results27, go_sem, hc5]
end Go.Proofs.YtephhllfodlfbaaDoor
