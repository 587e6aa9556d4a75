/-
  The list that the laws begin with.
-/
import Derived.Test.YtbfkopjpfkgjhaaGreatDoorRpC
import Derived.Test.YtbfkopjpfkgjhaaGreatDoorRdN
import Derived.Test.YtbfkopjpfkgjhaaGreatDoorSam
namespace Go.Proofs.YtbfkopjpfkgjhaaGreatDoor
open Go.RowKit

def tt10 : Pl.Tst Pl.D1 := ⟨10, [], [], 0, 1, []⟩
def tt8 : Pl.Tst Pl.D1 := ⟨8, [116, 111], [116, 119, 111], 0, 0, []⟩
def inA : Pl.D2 := ⟨[⟨[], [tt10]⟩], []⟩
def inB : Pl.D2 := ⟨[⟨[], [tt8]⟩], []⟩
def lkA : Pl.D3 := ⟨[⟨[105, 116, 101, 109], [⟨13, [], [], 0, 0, [inA]⟩]⟩, ⟨[], [⟨15, [], [], 0, 0, [inB]⟩]⟩], [3]⟩
def lkB : Pl.D3 := ⟨[⟨[], [⟨2, [116, 111, 112], [], 0, 0, []⟩]⟩], []⟩
def lkL : List Pl.D3 := [lkA, lkB]
theorem row_one {β : Type} {E : World → Nat → Nat → β → Prop} {k : Nat} {W : World} {b : Nat} {x : β} (h : E W b 0 x) : RowAt E k W (.slice (some ⟨b, 0, none⟩) 1 1) [x] := by
  refine ⟨_, _, rfl, by unfold maxLen; simp, Or.inr ⟨b, 0, rfl, fun i hi => ?_⟩⟩
  match i, hi with
  | 0, _ => simpa using h
theorem row_two {β : Type} {E : World → Nat → Nat → β → Prop} {k : Nat} {W : World} {b : Nat} {x y : β} (h : E W b 0 x) (h2 : E W b k y) : RowAt E k W (.slice (some ⟨b, 0, none⟩) 2 2) [x, y] := by
  refine ⟨_, _, rfl, by unfold maxLen; simp, Or.inr ⟨b, 0, rfl, fun i hi => ?_⟩⟩
  match i, hi with
  | 0, _ => simpa using h
  | 1, _ => simpa using h2
set_option maxRecDepth 100000 in
set_option maxHeartbeats 8000000 in
theorem looked_any (w : World) : Calls Tryz.prog 27 #[] w fun e w' => ∃ a, e = .returned (.slice a 2 2) ∧ A3 w' (.slice a 2 2) lkL ∧ Below w.heap.size w w' := by
  go_enter Tryz.func27, Tryz.ntmps27
  go_wp2
  go_ret
  refine ⟨_, rfl, ?_, ?_⟩
  · rw [show lkL = [⟨[⟨[105, 116, 101, 109], [⟨13, [], [], 0, 0, [⟨[⟨[], [⟨10, [], [], 0, 1, []⟩]⟩], []⟩]⟩]⟩, ⟨[], [⟨15, [], [], 0, 0, [⟨[⟨[], [⟨8, [116, 111], [116, 119, 111], 0, 0, []⟩]⟩], []⟩]⟩]⟩], [3]⟩, ⟨[⟨[], [⟨2, [116, 111, 112], [], 0, 0, []⟩]⟩], []⟩] from rfl]
    exact row_two ⟨(.slice (some ⟨w.heap.size + 1 + 1 + 1 + 1 + 1 + 1 + 1 + 1, 0, none⟩) 2 2), (.slice (some ⟨w.heap.size + 1 + 1 + 1 + 1 + 1 + 1 + 1 + 1 + 1, 0, none⟩) 1 1), by simp [go_sem], by simp [go_sem], (row_two ⟨(.slice (some ⟨w.heap.size + 1 + 1 + 1, 0, none⟩) 1 1), by simp [go_sem], by simp [go_sem], (row_one ⟨(.slice (some ⟨w.heap.size + 1 + 1, 0, none⟩) 1 1), by simp [go_sem], by simp [go_sem], by simp [go_sem], by simp [go_sem], by simp [go_sem], by simp [go_sem], (row_one ⟨(.slice (some ⟨w.heap.size + 1, 0, none⟩) 1 1), (.slice none 0 0), by simp [go_sem], by simp [go_sem], (row_one ⟨(.slice (some ⟨w.heap.size, 0, none⟩) 1 1), by simp [go_sem], by simp [go_sem], (row_one ⟨(.slice none 0 0), by simp [go_sem], by simp [go_sem], by simp [go_sem], by simp [go_sem], by simp [go_sem], by simp [go_sem], (isL_1.nil _)⟩)⟩), (RowAt.nil _ _ _)⟩)⟩)⟩ ⟨(.slice (some ⟨w.heap.size + 1 + 1 + 1 + 1 + 1 + 1 + 1, 0, none⟩) 1 1), by simp [go_sem], by simp [go_sem], (row_one ⟨(.slice (some ⟨w.heap.size + 1 + 1 + 1 + 1 + 1 + 1, 0, none⟩) 1 1), by simp [go_sem], by simp [go_sem], by simp [go_sem], by simp [go_sem], by simp [go_sem], by simp [go_sem], (row_one ⟨(.slice (some ⟨w.heap.size + 1 + 1 + 1 + 1 + 1, 0, none⟩) 1 1), (.slice none 0 0), by simp [go_sem], by simp [go_sem], (row_one ⟨(.slice (some ⟨w.heap.size + 1 + 1 + 1 + 1, 0, none⟩) 1 1), by simp [go_sem], by simp [go_sem], (row_one ⟨(.slice none 0 0), by simp [go_sem], by simp [go_sem], by simp [go_sem], by simp [go_sem], by simp [go_sem], by simp [go_sem], (isL_1.nil _)⟩)⟩), (RowAt.nil _ _ _)⟩)⟩)⟩), (row_one (by simp [IntAt, go_sem]))⟩ ⟨(.slice (some ⟨w.heap.size + 1 + 1 + 1 + 1 + 1 + 1 + 1 + 1 + 1 + 1 + 1, 0, none⟩) 1 1), (.slice none 0 0), by simp [go_sem], by simp [go_sem], (row_one ⟨(.slice (some ⟨w.heap.size + 1 + 1 + 1 + 1 + 1 + 1 + 1 + 1 + 1 + 1, 0, none⟩) 1 1), by simp [go_sem], by simp [go_sem], (row_one ⟨(.slice none 0 0), by simp [go_sem], by simp [go_sem], by simp [go_sem], by simp [go_sem], by simp [go_sem], by simp [go_sem], (isL_2.nil _)⟩)⟩), (RowAt.nil _ _ _)⟩
  · repeat (first | exact Below.refl _ _ | refine Below.alloc ?_ (by simp; omega) _ | refine Below.alloc ?_ (by simp) _)
end Go.Proofs.YtbfkopjpfkgjhaaGreatDoor
/-
  What the laws of a path begin with.
-/
namespace Go.Proofs.YtbfkopjpfkgjhaaGreatDoor
open Go.RowKit

def lkT : List UInt8 := [105, 116, 101, 109, 58, 110, 111, 116, 40, 42, 58, 108, 97, 115, 116, 40, 48, 110, 43, 49, 41, 41, 32, 43, 32, 42, 58, 104, 97, 115, 40, 42, 91, 116, 111, 126, 61, 34, 116, 119, 111, 34, 93, 41, 44, 32, 42, 35, 116, 111, 112]
theorem lk_chk : chkList lkL = 0 := by kernel_rfl
theorem nil_chk : chkList [] = 2 := by kernel_rfl
theorem lkA_chk : chkList [lkA] = 0 := by kernel_rfl
theorem lk_sh : Pl.sh3 lkL = lkT := by kernel_rfl
theorem lk_weigh : weighOf lkA = ⟨0, 2, 1⟩ := by kernel_rfl
theorem lk_len : lkT.length ≤ maxLen := by unfold lkT maxLen; simp
theorem lk_all : Pl.rdAll lkT = some lkL := by rw [← lk_sh]; exact all_full lk_chk
theorem lk_ok : InnerA okN2 lkL := okN_chk lk_chk
end Go.Proofs.YtbfkopjpfkgjhaaGreatDoor
/-
  What the laws of a path begin with: told true.
-/
namespace Go.Proofs.YtbfkopjpfkgjhaaGreatDoor
open Go.RowKit

theorem lk_show (W : World) (a : Option Addr) (h : A3 W (.slice a 2 2) lkL) (hL : Laid W) : Calls Tryz.prog 6 #[.slice a 2 2] W fun e w' => e = .returned (.tuple #[.string ⟨lkT.toArray⟩, .int .i64 0]) ∧ Below W.heap.size W w' := by
  have := show_any _ _ W h hL
  unfold showOf at this
  rw [lk_chk, if_pos rfl, lk_sh] at this
  exact this
theorem lk_read (W : World) (hL : Laid W) : Calls Tryz.prog 9 #[.string ⟨lkT.toArray⟩] W fun e w' => ∃ au cu, e = .returned (.tuple #[.slice au 2 cu, .int .i64 0]) ∧ A3 w' (.slice au 2 cu) lkL ∧ Below W.heap.size W w' := by
  refine (read_any lkT W lk_len ⟨hL.forms, hL.links⟩).mono ?_
  rintro e w' ⟨au, cu, he, ha, hb⟩
  rw [(read_yes lk_all).1, (read_yes lk_all).2] at he
  rw [(read_yes lk_all).2] at ha
  exact ⟨au, cu, he, ha, hb⟩
theorem lk_weighs (W : World) (v u : Value) (hs : RowAt (StpAt A2) 2 W v lkA.steps) (hu : RowAt IntAt 1 W u lkA.links) (hL : Laid W) : Calls Tryz.prog 14 #[.agg #[v, u]] W fun e w' => e = .returned (.tuple #[.agg #[.int .i64 0, .int .i64 2, .int .i64 1], .int .i64 0]) ∧ Below W.heap.size W w' := by
  have := weighCall_any v u lkA W hs hu hL.forms
  rw [lk_weigh, lkA_chk] at this
  exact this
theorem lk_check (W : World) (a : Option Addr) (h : A3 W (.slice a 2 2) lkL) (hL : Laid W) : Calls Tryz.prog 12 #[.slice a 2 2] W fun e w' => e = .returned (.int .i64 0) ∧ Below W.heap.size W w' := by
  have := pathCheck_any W _ _ h hL.forms
  rw [lk_chk] at this
  exact this
theorem nil_check (W : World) (hL : Laid W) : Calls Tryz.prog 12 #[.slice none 0 0] W fun e w' => e = .returned (.int .i64 2) ∧ Below W.heap.size W w' := by
  have := pathCheck_any W _ _ (isL_3.nil _) hL.forms
  rw [nil_chk] at this
  exact this
theorem lk_same (W : World) (a au : Option Addr) (cu : Nat) (h1 : A3 W (.slice au 2 cu) lkL) (h2 : A3 W (.slice a 2 2) lkL) : Calls Tryz.prog 13 #[.slice au 2 cu, .slice a 2 2] W fun e w' => e = .returned (.bool true) ∧ Below W.heap.size W w' :=
  same_3 W _ _ lkL h1 h2 lk_ok
theorem lk_first {W : World} {a : Option Addr} (h : A3 W (.slice a 2 2) lkL) : ∃ b o v u, a = some ⟨b, o, none⟩ ∧ W.cell? ⟨b, o, none⟩ = some v ∧ W.cell? ⟨b, o + 1, none⟩ = some u ∧ RowAt (StpAt A2) 2 W v lkA.steps ∧ RowAt IntAt 1 W u lkA.links := by
  obtain ⟨-, b, o, rfl, hc⟩ := RowAt.at h (by decide)
  obtain ⟨v, u, h0, h1, h2, h3⟩ := hc 0 (by decide)
  exact ⟨b, o, v, u, rfl, by simpa using h0, by simpa using h1, h2, h3⟩
set_option maxRecDepth 100000 in
set_option maxHeartbeats 4000000 in
theorem begun_any (w : World) (hL : Laid w) : Calls Tryz.prog 11 #[] w fun e w' => e = .returned (.bool true) ∧ Below w.heap.size w w' := by
  have HL : Hid (Laid w) := hL
  clear hL
  go_enter Tryz.func11, Tryz.ntmps11
  go_wp2_with fail
  refine (looked_any _).mono ?_
  rintro e w1 ⟨a1, rfl, h1, hb1⟩
  have HB1 : Hid (Below w.heap.size w w1) := hb1
  have HA1 : Hid (A3 w1 _ lkL) := h1
  clear h1 hb1
  go_wp2_with fail
  refine (lk_show _ _ HA1.out (HL.out.on HB1.out)).mono ?_
  rintro e w2 ⟨rfl, hb2⟩
  have HB2 : Hid (Below w.heap.size w w2) := below_trans HB1.out hb2
  clear hb2 HB1 HA1
  go_wp2_with fail
  refine (lk_read _ (HL.out.on HB2.out)).mono ?_
  rintro e w3 ⟨au, cu, rfl, ha, hb3⟩
  have HB3 : Hid (Below w.heap.size w w3) := below_trans HB2.out hb3
  have HX3 : Hid (A3 w3 (.slice au 2 cu) lkL) := ha
  clear ha hb3 HB2
  go_wp2_with fail
  refine (looked_any _).mono ?_
  rintro e w4 ⟨a4, rfl, h4, hb4⟩
  have HB4 : Hid (Below w.heap.size w w4) := below_trans HB3.out hb4
  have HX4 : Hid (A3 w4 (.slice au 2 cu) lkL) := isL_3.on HX3.out hb4
  obtain ⟨b, o, v, u, rfl, c0, c1, hs, hu⟩ := lk_first h4
  obtain ⟨sx, sc, rfl⟩ := hs.form
  obtain ⟨lx, lc, rfl⟩ := hu.form
  have HW : Hid (Calls Tryz.prog 14 _ _ _) := lk_weighs _ _ _ hs hu (HL.out.on HB4.out)
  clear h4 hb4 hs hu HB3 HX3
  go_wp2_with fail
  refine HW.out.mono ?_
  rintro e w5 ⟨rfl, hb5⟩
  have HB5 : Hid (Below w.heap.size w w5) := below_trans HB4.out hb5
  have HX5 : Hid (A3 w5 (.slice au 2 cu) lkL) := isL_3.on HX4.out hb5
  clear hb5 HB4 HX4 c0 c1 HW
  have bQ : Hid (Bx3 (w5.alloc (.cells #[.int .i64 0, .int .i64 2, .int .i64 1] 40)) w5.heap.size ⟨0, 2, 1⟩) := Bx3.new w5 ⟨0, 2, 1⟩
  have hba := on_alloc w5 (.cells #[.int .i64 0, .int .i64 2, .int .i64 1] 40)
  have HBW : Hid (Below w.heap.size w _) := below_trans HB5.out hba
  have HXW : Hid (A3 _ (.slice au 2 cu) lkL) := isL_3.on HX5.out hba
  clear hba
  go_wp2_with fail
  generalize w5.alloc (.cells #[.int .i64 0, .int .i64 2, .int .i64 1] 40) = W5 at *
  refine (looked_any _).mono ?_
  rintro e w6 ⟨a6, rfl, h6, hb6⟩
  have HB6 : Hid (Below w.heap.size w w6) := below_trans HBW.out hb6
  have HX6 : Hid (A3 w6 (.slice au 2 cu) lkL) := isL_3.on HXW.out hb6
  have HQ6 : Hid (Bx3 w6 w5.heap.size ⟨0, 2, 1⟩) := bQ.out.on hb6
  have HA6 : Hid (A3 w6 _ lkL) := h6
  clear h6 hb6 HBW HXW bQ HB5 HX5
  go_wp2_with fail
  refine (lk_check _ _ HA6.out (HL.out.on HB6.out)).mono ?_
  rintro e w7 ⟨rfl, hb7⟩
  have HB7 : Hid (Below w.heap.size w w7) := below_trans HB6.out hb7
  have HX7 : Hid (A3 w7 (.slice au 2 cu) lkL) := isL_3.on HX6.out hb7
  have HQ7 : Hid (Bx3 w7 w5.heap.size ⟨0, 2, 1⟩) := HQ6.out.on hb7
  clear hb7 HB6 HX6 HQ6 HA6
  go_wp2_with fail
  refine (nil_check _ (HL.out.on HB7.out)).mono ?_
  rintro e w8 ⟨rfl, hb8⟩
  have HB8 : Hid (Below w.heap.size w w8) := below_trans HB7.out hb8
  have HX8 : Hid (A3 w8 (.slice au 2 cu) lkL) := isL_3.on HX7.out hb8
  have HQ8 : Hid (Bx3 w8 w5.heap.size ⟨0, 2, 1⟩) := HQ7.out.on hb8
  clear hb8 HB7 HX7 HQ7
  go_wp2_with fail
  refine (looked_any _).mono ?_
  rintro e w9 ⟨a9, rfl, h9, hb9⟩
  have HB9 : Hid (Below w.heap.size w w9) := below_trans HB8.out hb9
  have HX9 : Hid (A3 w9 (.slice au 2 cu) lkL) := isL_3.on HX8.out hb9
  have HQ9 : Hid (Bx3 w9 w5.heap.size ⟨0, 2, 1⟩) := HQ8.out.on hb9
  have HA9 : Hid (A3 w9 _ lkL) := h9
  clear h9 hb9 HB8 HX8 HQ8
  go_wp2_with fail
  refine (lk_same _ _ _ _ HX9.out HA9.out).mono ?_
  rintro e w10 ⟨rfl, hb10⟩
  have HB10 : Hid (Below w.heap.size w w10) := below_trans HB9.out hb10
  have HQ10 : Hid (Bx3 w10 w5.heap.size ⟨0, 2, 1⟩) := HQ9.out.on hb10
  clear hb10 HB9 HX9 HQ9 HA9
  obtain ⟨q0, q1, q2⟩ := HQ10.out.cells
  go_wp2
  go_ret
  exact ⟨rfl, HB10.out⟩
end Go.Proofs.YtbfkopjpfkgjhaaGreatDoor
