/-
  PathWeighs: the law.
-/
import Derived.Test.YtbfkopjpfkgjhaaGreatDoorBgC
namespace Go.Proofs.YtbfkopjpfkgjhaaGreatDoor
open Go.RowKit

set_option maxRecDepth 100000 in
set_option maxHeartbeats 4000000 in
theorem weighs_law (v u : Value) (p : Pl.D3) (w : World) (hs : RowAt (StpAt A2) 2 w v p.steps) (hu : RowAt IntAt 1 w u p.links) (hL : Laid w) :
    Calls Tryz.prog 4 #[.agg #[v, u]] w fun e w' => e = .returned (.bool true) ∧ Below w.heap.size w w' := by
  obtain ⟨ax, cx, rfl⟩ := hs.form
  obtain ⟨al, cl, rfl⟩ := hu.form
  have hb0 := on_alloc w (.cells #[.slice ax p.steps.length cx, .slice al p.links.length cl] 38)
  obtain ⟨x0, x1⟩ := Blk2p.new w (.slice ax p.steps.length cx) (.slice al p.links.length cl)
  have HS : Hid (RowAt (StpAt A2) 2 _ (.slice ax p.steps.length cx) p.steps) := hs.map fun b o x hx => hx.on isL_2 hb0
  have HU : Hid (RowAt IntAt 1 _ (.slice al p.links.length cl) p.links) := hu.map fun b o x hx => cell_on hb0 hx
  have HL : Hid (Laid _) := hL.on hb0
  have HB0 : Hid (Below w.heap.size w _) := hb0
  have hcon := weighCall_any _ _ p _ HS.out HU.out HL.out.forms
  unfold wtV at hcon
  obtain ⟨E, hE⟩ : ∃ E, E = chkList [p] := ⟨_, rfl⟩
  obtain ⟨X, hX⟩ : ∃ X, X = weighOf p := ⟨_, rfl⟩
  rw [← hE, ← hX] at hcon
  have HE : Hid (E = chkList [p]) := hE
  have HX : Hid (X = weighOf p) := hX
  have HC : Hid (Calls Tryz.prog 14 _ _ _) := hcon
  clear hcon hE hX hs hu hL hb0
  go_enter Tryz.func4, Tryz.ntmps4
  go_wp2_with fail
  generalize w.alloc (.cells #[.slice ax p.steps.length cx, .slice al p.links.length cl] 38) = W at *
  refine HC.out.mono ?_
  rintro e w1 ⟨rfl, hb1⟩
  have hba := on_alloc w1 (.cells #[.int .i64 X.ids, .int .i64 X.tests, .int .i64 X.tags] 40)
  have hbc : Below W.heap.size W (w1.alloc (.cells #[.int .i64 X.ids, .int .i64 X.tests, .int .i64 X.tags] 40)) := below_trans hb1 hba
  have bX : Hid (Bx3 (w1.alloc (.cells #[.int .i64 X.ids, .int .i64 X.tests, .int .i64 X.tags] 40)) w1.heap.size X) := Bx3.new w1 X
  have HB1 : Hid (Below W.heap.size W _) := hbc
  replace x0 := cell_on hbc x0
  replace x1 := cell_on hbc x1
  have HZ : Hid ((w1.alloc (.cells #[.int .i64 X.ids, .int .i64 X.tests, .int .i64 X.tags] 40)).heap.size = w1.heap.size + 1) := by unfold Hid; simp
  clear hb1 HC hba hbc
  go_wp2_with fail
  generalize w1.alloc (.cells #[.int .i64 X.ids, .int .i64 X.tests, .int .i64 X.tags] 40) = W1 at *
  have hcon := refList_any _ _ [p] (one_new isL_2 W1 _ _ p (HS.out.map fun b o x hx => hx.on isL_2 HB1.out) (HU.out.map fun b o x hx => cell_on HB1.out hx))
  rw [← HE.out, HZ.out] at hcon
  refine hcon.mono ?_
  rintro e w2 ⟨rfl, hb2⟩
  have hb3 : Below W1.heap.size W1 w2 := below_trans (on_alloc _ _) hb2
  have hba := on_alloc w2 (.cells #[.int .i64 0, .int .i64 0, .int .i64 0] 40)
  have hb4 : Below W1.heap.size W1 (w2.alloc (.cells #[.int .i64 0, .int .i64 0, .int .i64 0] 40)) := below_trans hb3 hba
  have hle2 : w1.heap.size < w2.heap.size := by
    have := hb2.size
    simp only [World.size_alloc] at this
    have := HZ.out
    omega
  have HX2 : Hid (Bx3 _ w1.heap.size X) := bX.out.on hb4
  have HN2 : Hid (Bx3 (w2.alloc (.cells #[.int .i64 0, .int .i64 0, .int .i64 0] 40)) w2.heap.size Pl.Wt.zero) := Bx3.new w2 Pl.Wt.zero
  have HB2 : Hid (Below W.heap.size W _) := below_trans HB1.out hb4
  replace x0 := cell_on hb4 x0
  replace x1 := cell_on hb4 x1
  have hls : W.heap.size ≤ w2.heap.size := by
    have b := HB1.out.size
    have c := hb3.size
    omega
  have HLT : Hid (w1.heap.size < w2.heap.size) := hle2
  obtain ⟨q0, q1, q2⟩ := HN2.out.cells
  obtain ⟨g0, g1, g2⟩ := HN2.out.frozen
  clear hcon hb2 hb3 hba hb4 hle2 HB1 bX HZ
  cases hz : (E == 0) with
  | false =>
    have HW : Hid (X = Pl.Wt.zero) := by
      unfold Hid
      rw [HX.out]
      unfold weighOf
      rw [if_neg (by rw [← HE.out]; simpa using hz)]
    go_wp2_with fail
    refine (begun_any _ (HL.out.on HB2.out)).mono ?_
    rintro e w3 ⟨rfl, hb3⟩
    have HB3 : Hid (Below w.heap.size w w3) := below_trans HB0.out (below_trans HB2.out hb3)
    obtain ⟨y0, y1, y2⟩ := (HX2.out.on hb3).cells
    obtain ⟨z0, z1, z2⟩ := (HN2.out.on hb3).cells
    clear hb3 x0 x1 q0 q1 q2 g0 g1 g2 HX2 HN2 hz
    obtain rfl := HW.out
    go_wp2
    go_ret
    exact ⟨rfl, HB3.out⟩
  | true =>
    have hz0 : E = 0 := by simpa using hz
    have hok : okP ok2 p := (ok3_chk (l := [p]) (by rw [← HE.out]; exact hz0)).2 p (by simp)
    have HW : Hid (X = f3 p) := by
      unfold Hid
      rw [HX.out]
      unfold weighOf
      rw [if_pos (by rw [← HE.out]; exact hz0)]
    have hcon := weightOf_3 _ _ _ p (HS.out.map fun b o x hx => hx.on isL_2 HB2.out) (HU.out.map fun b o x hx => cell_on HB2.out hx) hok
    rw [← HW.out] at hcon
    unfold wtV at hcon
    have HC : Hid (Calls Tryz.prog 15 _ _ _) := hcon
    clear hcon hok hz0
    go_wp2_with fail
    refine HC.out.mono ?_
    rintro e w3 ⟨rfl, hb3⟩
    have HB3 : Hid (Below W.heap.size W w3) := below_trans HB2.out hb3
    have HX3 : Hid (Bx3 w3 w1.heap.size X) := HX2.out.on hb3
    have HN3 : Hid (Bx3 w3 w2.heap.size Pl.Wt.zero) := HN2.out.on hb3
    have hne : w1.heap.size ≠ w2.heap.size := by have := HLT.out; omega
    have HX4 : Hid (Bx3 _ w1.heap.size X) := ((HX3.out.other (k := 0) hne (.int .i64 X.ids)).other (k := 1) hne (.int .i64 X.tests)).other (k := 2) hne (.int .i64 X.tags)
    have HN4 : Hid (Bx3 _ w2.heap.size X) := HN3.out.set X
    have HB4 : Hid (Below W.heap.size W _) := ((HB3.out.setCell (p := ⟨w2.heap.size, 0, none⟩) hls (.int .i64 X.ids)).setCell (p := ⟨w2.heap.size, 1, none⟩) hls (.int .i64 X.tests)).setCell (p := ⟨w2.heap.size, 2, none⟩) hls (.int .i64 X.tags)
    clear hb3 q0 q1 q2 g0 g1 g2 HX2 HN2 hz HC hne
    obtain ⟨q0, q1, q2⟩ := HN3.out.cells
    obtain ⟨g0, g1, g2⟩ := HN3.out.frozen
    go_wp2_with fail
    refine (begun_any _ (HL.out.on HB4.out)).mono ?_
    rintro e w5 ⟨rfl, hb5⟩
    have HB5 : Hid (Below w.heap.size w w5) := below_trans HB0.out (below_trans HB4.out hb5)
    obtain ⟨y0, y1, y2⟩ := (HX4.out.on hb5).cells
    obtain ⟨z0, z1, z2⟩ := (HN4.out.on hb5).cells
    clear hb5 x0 x1 q0 q1 q2 g0 g1 g2 HX3 HN3 HX4 HN4 HB3 HB4 HB2
    go_wp2
    go_ret
    exact ⟨rfl, HB5.out⟩
end Go.Proofs.YtbfkopjpfkgjhaaGreatDoor
