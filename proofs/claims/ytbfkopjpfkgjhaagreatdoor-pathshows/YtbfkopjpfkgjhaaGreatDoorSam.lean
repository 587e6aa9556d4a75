/-
  The document's own 'the same': told of lists that are the same.
-/
import Derived.Test.YtbfkopjpfkgjhaaGreatDoorRcE
import Derived.BigQuiet
import Derived.Deep.QuietTactic
import Derived.Deep.RegionLaw
namespace Go.Proofs.YtbfkopjpfkgjhaaGreatDoor
open Go.RowKit

set_option maxHeartbeats 2000000 in
theorem sameInts_same (v1 v2 : Value) (l : List Int) (w : World) (h1 : RowAt IntAt 1 w v1 l) (h2 : RowAt IntAt 1 w v2 l) : Calls Tryz.prog 58 #[v1, v2] w fun e w' => e = .returned (.bool true) ∧ Below w.heap.size w w' := by
  obtain ⟨a1, c1, rfl⟩ := h1.form
  obtain ⟨a2, c2, rfl⟩ := h2.form
  have fl := h1.fit
  unfold maxLen at fl
  have H1 : Hid (RowAt IntAt 1 w (.slice a1 l.length c1) l) := h1
  have H2 : Hid (RowAt IntAt 1 w (.slice a2 l.length c2) l) := h2
  clear h1 h2
  go_enter Tryz.func58, Tryz.ntmps58
  go_wp2
  go_loopw [5] (fun i wr => ∃ k : Nat, k ≤ l.length ∧ i = .int .i64 k ∧ Hid (Below w.heap.size w wr)) (fun i _ => l.length - (intOf i).toNat)
  case atStart => exact ⟨0, Nat.zero_le _, rfl, Below.refl _ _⟩
  case round =>
    obtain ⟨k, hk, rfl, HB⟩ := hrel
    by_cases hlt : k < l.length
    · obtain ⟨-, b, o, rfl, hc⟩ := RowAt.at H1.out (by omega)
      obtain ⟨-, b2, o2, rfl, hc2⟩ := RowAt.at H2.out (by omega)
      have n0 : wr.cell? ⟨b, o + k, none⟩ = some (.int .i64 l[k]) := by simpa [IntAt] using cell_on HB.out (hc k hlt)
      have n1 : wr.cell? ⟨b2, o2 + k, none⟩ = some (.int .i64 l[k]) := by simpa [IntAt] using cell_on HB.out (hc2 k hlt)
      have i1 : (0 : Int) ≤ (k : Int) := by omega
      have i2 : (k : Int) < (l.length : Int) := by omega
      clear hc hc2
      generalize l[k] = x at *
      go_wp2
      go_quiet (fail)
      have HD := HB.out
      have HB2 : Hid (∀ n, Below w.heap.size w (wr.drewN n)) := fun n => below_drewN HB.out n
      go_wp2
      exact ⟨⟨k + 1, hlt, by go_num, HB2.out _⟩, by simp [intOf]; omega⟩
    · go_wp2
      go_ret
      exact ⟨rfl, HB.out⟩
/-- a level's lists that are the same are told so -/
def SameL {α : Type} (A : MemL α) (ok : List α → Prop) : Prop := ∀ w v1 v2 l, A w v1 l → A w v2 l → ok l → Calls Tryz.prog 13 #[v1, v2] w fun e w' => e = .returned (.bool true) ∧ Below w.heap.size w w'
set_option maxHeartbeats 1000000 in
theorem sameL_z : SameL ZAt (fun l => l = []) := by
  intro w v1 v2 l h1 h2 rfl
  obtain ⟨a1, c1, rfl, -⟩ := h1
  obtain ⟨a2, c2, rfl, -⟩ := h2
  go_enter Tryz.func13, Tryz.ntmps13
  go_wp2
  refine wp_loop_rounds 1 ?_
  rw [rounds_succ]
  go_wp2
  go_ret
  exact ⟨rfl, Below.refl _ _⟩
set_option maxRecDepth 100000 in
set_option maxHeartbeats 2000000 in
theorem sameTests_same {α : Type} {A : MemL α} (hA : IsL A) {ok : List α → Prop} (hs : SameL A ok) (t : Pl.Tst α) (au bu : Option Addr) (cu du : Nat) (w : World) (h1 : A w (.slice au t.list.length cu) t.list) (h2 : A w (.slice bu t.list.length du) t.list) (hok : ok t.list) :
    Calls Tryz.prog 77 #[.agg #[.int .i64 t.kind, .string ⟨t.name.toArray⟩, .string ⟨t.value.toArray⟩, .int .i64 t.a, .int .i64 t.b, .slice au t.list.length cu], .agg #[.int .i64 t.kind, .string ⟨t.name.toArray⟩, .string ⟨t.value.toArray⟩, .int .i64 t.a, .int .i64 t.b, .slice bu t.list.length du]] w fun e w' => e = .returned (.bool true) ∧ Below w.heap.size w w' := by
  have hb := below_trans (on_alloc w (.cells #[.int .i64 t.kind, .string ⟨t.name.toArray⟩, .string ⟨t.value.toArray⟩, .int .i64 t.a, .int .i64 t.b, .slice au t.list.length cu] 61)) (on_alloc _ (.cells #[.int .i64 t.kind, .string ⟨t.name.toArray⟩, .string ⟨t.value.toArray⟩, .int .i64 t.a, .int .i64 t.b, .slice bu t.list.length du] 61))
  have HC : Hid (Calls Tryz.prog 13 _ _ _) := hs _ _ _ _ (hA.on h1 hb) (hA.on h2 hb) hok
  have HB : Hid (Below w.heap.size w _) := hb
  clear hs h1 h2 hok hb hA
  go_enter Tryz.func77, Tryz.ntmps77
  go_wp2_with fail
  refine HC.out.mono ?_
  rintro e w2 ⟨rfl, hb2⟩
  have HB2 : Hid (Below w.heap.size w w2) := below_trans HB.out hb2
  clear hb2 HC
  go_wp2
  go_ret
  exact ⟨rfl, HB2.out⟩
set_option maxRecDepth 100000 in
set_option maxHeartbeats 4000000 in
theorem sameSteps_same {α : Type} {A : MemL α} (hA : IsL A) {ok : List α → Prop} (hs : SameL A ok) (s : Pl.Stp α) (a1 a2 : Option Addr) (c1 c2 : Nat) (w : World) (h1 : RowAt (TstAt A) 6 w (.slice a1 s.tests.length c1) s.tests) (h2 : RowAt (TstAt A) 6 w (.slice a2 s.tests.length c2) s.tests) (hok : ∀ t ∈ s.tests, ok t.list) :
    Calls Tryz.prog 59 #[.agg #[.string ⟨s.tag.toArray⟩, .slice a1 s.tests.length c1], .agg #[.string ⟨s.tag.toArray⟩, .slice a2 s.tests.length c2]] w fun e w' => e = .returned (.bool true) ∧ Below w.heap.size w w' := by
  have fl := h1.fit
  unfold maxLen at fl
  have hb1 := on_alloc w (.cells #[.string ⟨s.tag.toArray⟩, .slice a1 s.tests.length c1] 56)
  have hb2 := on_alloc (w.alloc (.cells #[.string ⟨s.tag.toArray⟩, .slice a1 s.tests.length c1] 56)) (.cells #[.string ⟨s.tag.toArray⟩, .slice a2 s.tests.length c2] 56)
  have x1 := cell_on hb2 (Blk2s.new w (.string ⟨s.tag.toArray⟩) (.slice a1 s.tests.length c1)).2
  have y1 := (Blk2s.new (w.alloc (.cells #[.string ⟨s.tag.toArray⟩, .slice a1 s.tests.length c1] 56)) (.string ⟨s.tag.toArray⟩) (.slice a2 s.tests.length c2)).2
  simp only [World.size_alloc] at y1
  have HB0 : Hid (Below w.heap.size w _) := below_trans hb1 hb2
  have H1 : Hid (RowAt (TstAt A) 6 w (.slice a1 s.tests.length c1) s.tests) := h1
  have H2 : Hid (RowAt (TstAt A) 6 w (.slice a2 s.tests.length c2) s.tests) := h2
  have HA : Hid (IsL A) := hA
  have HS : Hid (SameL A ok) := hs
  have HOK : Hid (∀ t ∈ s.tests, ok t.list) := hok
  clear h1 h2 hA hs hok hb1 hb2
  go_enter Tryz.func59, Tryz.ntmps59
  go_wp2_with fail
  generalize (w.alloc (.cells #[.string ⟨s.tag.toArray⟩, .slice a1 s.tests.length c1] 56)).alloc (.cells #[.string ⟨s.tag.toArray⟩, .slice a2 s.tests.length c2] 56) = W1 at *
  have HX : Hid (∀ W, Below W1.heap.size W1 W → W.cell? ⟨w.heap.size, 1, none⟩ = some (.slice a1 s.tests.length c1) ∧ W.cell? ⟨w.heap.size + 1, 1, none⟩ = some (.slice a2 s.tests.length c2)) := fun W hW => ⟨cell_on hW x1, cell_on hW y1⟩
  clear x1 y1
  go_loopw [5] (fun i wr => ∃ k : Nat, k ≤ s.tests.length ∧ i = .int .i64 k ∧ Hid (Below W1.heap.size W1 wr)) (fun i _ => s.tests.length - (intOf i).toNat)
  case atStart => exact ⟨0, Nat.zero_le _, rfl, Below.refl _ _⟩
  case round =>
    obtain ⟨k, hk, rfl, HB⟩ := hrel
    obtain ⟨x1, y1⟩ := HX.out wr HB.out
    by_cases hlt : k < s.tests.length
    · obtain ⟨-, b, o, rfl, hc⟩ := RowAt.at H1.out (by omega)
      obtain ⟨-, b2, o2, rfl, hc2⟩ := RowAt.at H2.out (by omega)
      have hDd : Below w.heap.size w wr.drew := (below_trans HB0.out HB.out).drew
      obtain ⟨vu, q0, q1, q2, q3, q4, q5, rl⟩ := (hc k hlt).on HA.out hDd
      obtain ⟨vx, r0, r1, r2, r3, r4, r5, rx⟩ := (hc2 k hlt).on HA.out hDd
      obtain ⟨au, cu, rfl, -⟩ := HA.out.form rl
      obtain ⟨bu, du, rfl, -⟩ := HA.out.form rx
      have i1 : (0 : Int) ≤ (k : Int) := by omega
      have i2 : (k : Int) < (s.tests.length : Int) := by omega
      have HCON : Hid (Calls Tryz.prog 77 _ _ _) := sameTests_same HA.out HS.out s.tests[k] au bu cu du wr.drew rl rx (HOK.out _ (List.getElem_mem hlt))
      clear hc hc2 hDd rl rx
      generalize s.tests[k] = t at *
      go_wp2
      go_region_law (go_simp; go_at_call 77; refine HCON.out.mono ?_; rintro e w4 ⟨rfl, hb4⟩)
      all_goals
        have HB4 : Hid (Below W1.heap.size W1 w4) := below_trans HB.out.drew hb4
        go_wp2
        exact ⟨⟨k + 1, hlt, by go_num, HB4⟩, by simp [intOf]; omega⟩
    · go_wp2
      go_ret
      exact ⟨rfl, below_trans HB0.out HB.out⟩
set_option maxRecDepth 100000 in
set_option maxHeartbeats 4000000 in
theorem samePaths_same {α : Type} {A : MemL α} (hA : IsL A) {ok : List α → Prop} (hs : SameL A ok) (s : Pl.Pth α) (a1 a2 e1 e2 : Option Addr) (c1 c2 d1 d2 : Nat) (w : World) (h1 : RowAt (StpAt A) 2 w (.slice a1 s.steps.length c1) s.steps) (h2 : RowAt (StpAt A) 2 w (.slice a2 s.steps.length c2) s.steps) (l1 : RowAt IntAt 1 w (.slice e1 s.links.length d1) s.links) (l2 : RowAt IntAt 1 w (.slice e2 s.links.length d2) s.links) (hok : ∀ x ∈ s.steps, ∀ t ∈ x.tests, ok t.list) :
    Calls Tryz.prog 33 #[.agg #[.slice a1 s.steps.length c1, .slice e1 s.links.length d1], .agg #[.slice a2 s.steps.length c2, .slice e2 s.links.length d2]] w fun e w' => e = .returned (.bool true) ∧ Below w.heap.size w w' := by
  have fl := h1.fit
  unfold maxLen at fl
  have hb1 := on_alloc w (.cells #[.slice a1 s.steps.length c1, .slice e1 s.links.length d1] 38)
  have hb2 := on_alloc (w.alloc (.cells #[.slice a1 s.steps.length c1, .slice e1 s.links.length d1] 38)) (.cells #[.slice a2 s.steps.length c2, .slice e2 s.links.length d2] 38)
  have x0 := cell_on hb2 (Blk2p.new w (.slice a1 s.steps.length c1) (.slice e1 s.links.length d1)).1
  have x1 := cell_on hb2 (Blk2p.new w (.slice a1 s.steps.length c1) (.slice e1 s.links.length d1)).2
  have y0 := (Blk2p.new (w.alloc (.cells #[.slice a1 s.steps.length c1, .slice e1 s.links.length d1] 38)) (.slice a2 s.steps.length c2) (.slice e2 s.links.length d2)).1
  have y1 := (Blk2p.new (w.alloc (.cells #[.slice a1 s.steps.length c1, .slice e1 s.links.length d1] 38)) (.slice a2 s.steps.length c2) (.slice e2 s.links.length d2)).2
  simp only [World.size_alloc] at y0 y1
  have HCI : Hid (Calls Tryz.prog 58 _ _ _) := sameInts_same _ _ _ _ (l1.map fun b o x hx => cell_on (below_trans hb1 hb2) hx) (l2.map fun b o x hx => cell_on (below_trans hb1 hb2) hx)
  have HB0 : Hid (Below w.heap.size w _) := below_trans hb1 hb2
  have H1 : Hid (RowAt (StpAt A) 2 w (.slice a1 s.steps.length c1) s.steps) := h1
  have H2 : Hid (RowAt (StpAt A) 2 w (.slice a2 s.steps.length c2) s.steps) := h2
  have HA : Hid (IsL A) := hA
  have HS : Hid (SameL A ok) := hs
  have HOK : Hid (∀ x ∈ s.steps, ∀ t ∈ x.tests, ok t.list) := hok
  clear h1 h2 hA hs hok hb1 hb2 l1 l2
  go_enter Tryz.func33, Tryz.ntmps33
  go_wp2_with fail
  refine HCI.out.mono ?_
  rintro e W1 ⟨rfl, hb3⟩
  have HB1 : Hid (Below w.heap.size w W1) := below_trans HB0.out hb3
  have HX : Hid (∀ W, Below W1.heap.size W1 W → W.cell? ⟨w.heap.size, 0, none⟩ = some (.slice a1 s.steps.length c1) ∧ W.cell? ⟨w.heap.size + 1, 0, none⟩ = some (.slice a2 s.steps.length c2)) := fun W hW => ⟨cell_on hW (cell_on hb3 x0), cell_on hW (cell_on hb3 y0)⟩
  clear x0 x1 y0 y1 hb3 HCI HB0
  go_wp2_with fail
  go_loopw [5] (fun i wr => ∃ k : Nat, k ≤ s.steps.length ∧ i = .int .i64 k ∧ Hid (Below W1.heap.size W1 wr)) (fun i _ => s.steps.length - (intOf i).toNat)
  case atStart => exact ⟨0, Nat.zero_le _, rfl, Below.refl _ _⟩
  case round =>
    obtain ⟨k, hk, rfl, HB⟩ := hrel
    obtain ⟨x1, y1⟩ := HX.out wr HB.out
    by_cases hlt : k < s.steps.length
    · obtain ⟨-, b, o, rfl, hc⟩ := RowAt.at H1.out (by omega)
      obtain ⟨-, b2, o2, rfl, hc2⟩ := RowAt.at H2.out (by omega)
      have hDd : Below w.heap.size w wr.drew := (below_trans HB1.out HB.out).drew
      obtain ⟨vu, q0, q1, rl⟩ := (hc k hlt).on HA.out hDd
      obtain ⟨vx, r0, r1, rx⟩ := (hc2 k hlt).on HA.out hDd
      obtain ⟨au, cu, rfl⟩ := rl.form
      obtain ⟨bu, du, rfl⟩ := rx.form
      have i1 : (0 : Int) ≤ (k : Int) := by omega
      have i2 : (k : Int) < (s.steps.length : Int) := by omega
      have HCON : Hid (Calls Tryz.prog 59 _ _ _) := sameSteps_same HA.out HS.out s.steps[k] au bu cu du wr.drew rl rx (HOK.out _ (List.getElem_mem hlt))
      clear hc hc2 hDd rl rx
      generalize s.steps[k] = t at *
      go_wp2
      go_region_law (go_simp; go_at_call 59; refine HCON.out.mono ?_; rintro e w4 ⟨rfl, hb4⟩)
      all_goals
        have HB4 : Hid (Below W1.heap.size W1 w4) := below_trans HB.out.drew hb4
        go_wp2
        exact ⟨⟨k + 1, hlt, by go_num, HB4⟩, by simp [intOf]; omega⟩
    · go_wp2
      go_ret
      exact ⟨rfl, below_trans HB1.out HB.out⟩
set_option maxRecDepth 100000 in
set_option maxHeartbeats 4000000 in
theorem sameL_up {α : Type} {A : MemL α} (hA : IsL A) {ok : List α → Prop} (hs : SameL A ok) : SameL (LstAt A) (InnerA ok) := by
  intro w v1 v2 l h1 h2 hok
  obtain ⟨a1, c1, rfl⟩ := RowAt.form h1
  obtain ⟨a2, c2, rfl⟩ := RowAt.form h2
  have fl := RowAt.fit h1
  unfold maxLen at fl
  have H1 : Hid (LstAt A w (.slice a1 l.length c1) l) := h1
  have H2 : Hid (LstAt A w (.slice a2 l.length c2) l) := h2
  have HA : Hid (IsL A) := hA
  have HS : Hid (SameL A ok) := hs
  have HOK : Hid (InnerA ok l) := hok
  clear h1 h2 hA hs hok
  go_enter Tryz.func13, Tryz.ntmps13
  go_wp2_with fail
  go_loopw [5] (fun i wr => ∃ k : Nat, k ≤ l.length ∧ i = .int .i64 k ∧ Hid (Below w.heap.size w wr)) (fun i _ => l.length - (intOf i).toNat)
  case atStart => exact ⟨0, Nat.zero_le _, rfl, Below.refl _ _⟩
  case round =>
    obtain ⟨k, hk, rfl, HB⟩ := hrel
    by_cases hlt : k < l.length
    · obtain ⟨-, b, o, rfl, hc⟩ := RowAt.at H1.out (by omega)
      obtain ⟨-, b2, o2, rfl, hc2⟩ := RowAt.at H2.out (by omega)
      have hDd : Below w.heap.size w wr.drew := HB.out.drew
      obtain ⟨vu, vl, q0, q1, rl, rk⟩ := (hc k hlt).on HA.out hDd
      obtain ⟨vx, vy, r0, r1, rx, ry⟩ := (hc2 k hlt).on HA.out hDd
      obtain ⟨au, cu, rfl⟩ := rl.form
      obtain ⟨bu, du, rfl⟩ := rx.form
      obtain ⟨ak, ck, rfl⟩ := rk.form
      obtain ⟨bk, dk, rfl⟩ := ry.form
      have i1 : (0 : Int) ≤ (k : Int) := by omega
      have i2 : (k : Int) < (l.length : Int) := by omega
      have HCON : Hid (Calls Tryz.prog 33 _ _ _) := samePaths_same HA.out HS.out l[k] au bu ak bk cu du ck dk wr.drew rl rx rk ry (HOK.out _ (List.getElem_mem hlt))
      clear hc hc2 hDd rl rx rk ry
      generalize l[k] = t at *
      go_wp2
      go_region_law (go_simp; go_at_call 33; refine HCON.out.mono ?_; rintro e w4 ⟨rfl, hb4⟩)
      all_goals
        have HB4 : Hid (Below w.heap.size w w4) := below_trans HB.out.drew hb4
        go_wp2
        exact ⟨⟨k + 1, hlt, by go_num, HB4⟩, by simp [intOf]; omega⟩
    · go_wp2
      go_ret
      exact ⟨rfl, HB.out⟩
theorem same_3 : SameL A3 (InnerA okN2) := sameL_up isL_2 (sameL_up isL_1 (sameL_up isL_z sameL_z))
end Go.Proofs.YtbfkopjpfkgjhaaGreatDoor
