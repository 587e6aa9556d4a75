/-
  Weights, in plain form: level by level.
-/
import Derived.Test.YtbfkopjpfkgjhaaGreatDoorLvM
import Derived.Test.YtbfkopjpfkgjhaaGreatDoorRcB
import Derived.Deep.RegionHeld3
namespace Go.Proofs.YtbfkopjpfkgjhaaGreatDoor
namespace Pl

structure Wt where
  ids : Nat
  tests : Nat
  tags : Nat
deriving DecidableEq
def Wt.zero : Wt := ⟨0, 0, 0⟩
def Wt.add (a b : Wt) : Wt := ⟨a.ids + b.ids, a.tests + b.tests, a.tags + b.tags⟩
def Wt.less (a b : Wt) : Bool := decide (a.ids < b.ids ∨ (a.ids = b.ids ∧ (a.tests < b.tests ∨ (a.tests = b.tests ∧ a.tags < b.tags))))
/-- no part is more than that -/
def Wt.le (a : Wt) (n : Nat) : Prop := a.ids ≤ n ∧ a.tests ≤ n ∧ a.tags ≤ n
def more (m x : Wt) : Wt := if m.less x = true then x else m
def wSum : List Wt → Wt
  | [] => Wt.zero
  | x :: l => x.add (wSum l)
theorem Wt.add_assoc (a b c : Wt) : (a.add b).add c = a.add (b.add c) := by simp [Wt.add, Nat.add_assoc]
theorem Wt.add_comm (a b : Wt) : a.add b = b.add a := by simp [Wt.add, Nat.add_comm]
theorem Wt.zero_add (a : Wt) : Wt.zero.add a = a := by simp [Wt.add, Wt.zero]
theorem Wt.add_zero (a : Wt) : a.add Wt.zero = a := by simp [Wt.add, Wt.zero]
theorem wSum_append (l m : List Wt) : wSum (l ++ m) = (wSum l).add (wSum m) := by
  induction l with
  | nil => simp [wSum, Wt.zero_add]
  | cons x l ih => simp [wSum, ih, Wt.add_assoc]
theorem wSum_snoc (l : List Wt) (x : Wt) : wSum (l ++ [x]) = (wSum l).add x := by simp [wSum_append, wSum, Wt.add_zero]
theorem wSum_le {l : List Wt} {n : Nat} (h : ∀ x ∈ l, x.le n) : (wSum l).le (l.length * n) := by
  induction l with
  | nil => simp [wSum, Wt.zero, Wt.le]
  | cons x l ih =>
    obtain ⟨a1, a2, a3⟩ := h x (by simp)
    obtain ⟨b1, b2, b3⟩ := ih fun y hy => h y (by simp [hy])
    simp only [wSum, Wt.add, Wt.le, List.length_cons, Nat.succ_mul]
    exact ⟨by omega, by omega, by omega⟩
/-- a test's weight: over the weight of what its list holds -/
def wT {α : Type} (g : List α → Wt) (t : Tst α) : Wt := if t.kind = 2 then ⟨1, 0, 0⟩ else if kList t.kind = true then g t.list else ⟨0, 1, 0⟩
def wTag {α : Type} (s : Stp α) : Wt := ⟨0, 0, if s.tag.isEmpty then 0 else 1⟩
def wTags {α : Type} (l : List (Stp α)) : Nat := l.countP fun s => !s.tag.isEmpty
def wP {α : Type} (g : List α → Wt) (p : Pth α) : Wt := (⟨0, 0, wTags p.steps⟩ : Wt).add (wSum (p.tests.map (wT g)))
def wL {β : Type} (f : β → Wt) (l : List β) : Wt := l.foldl (fun m p => more m (f p)) Wt.zero
theorem wL_snoc {β : Type} (f : β → Wt) (l : List β) (x : β) : wL f (l ++ [x]) = more (wL f l) (f x) := by simp [wL]
/-- as the document counts: step by step -/
def wS {α : Type} (g : List α → Wt) (s : Stp α) : Wt := (wTag s).add (wSum (s.tests.map (wT g)))
theorem wP_steps {α : Type} (g : List α → Wt) (p : Pth α) : wP g p = wSum (p.steps.map (wS g)) := by
  unfold wP Pth.tests
  induction p.steps with
  | nil => simp [wTags, wSum, Wt.zero, Wt.add]
  | cons s l ih =>
    simp only [List.flatMap_cons, List.map_append, wSum_append, List.map_cons, wSum, ← ih]
    unfold wS wTags wTag
    simp only [List.countP_cons, Wt.add]
    cases s.tag.isEmpty <;> simp <;> omega
theorem tags_le {α : Type} (l : List (Stp α)) : wTags l ≤ l.length := List.countP_le_length
theorem tags_next {α : Type} {l : List (Stp α)} {k : Nat} (h : k < l.length) : wTags (l.take (k + 1)) = wTags (l.take k) + if l[k].tag.isEmpty then 0 else 1 := by
  unfold wTags
  rw [List.take_succ_eq_append_getElem h, List.countP_append]
  cases hx : l[k].tag.isEmpty <;> simp [hx]
theorem more_le {m x : Wt} {n : Nat} (h : m.le n) (k : x.le n) : (more m x).le n := by
  unfold more
  split
  · exact k
  · exact h
theorem wL_le {β : Type} {f : β → Wt} {n : Nat} : ∀ {l : List β}, (∀ x ∈ l, (f x).le n) → (wL f l).le n := by
  intro l
  have : ∀ (l : List β) (m : Wt), m.le n → (∀ x ∈ l, (f x).le n) → (l.foldl (fun m p => more m (f p)) m).le n := by
    intro l
    induction l with
    | nil => exact fun m hm _ => hm
    | cons x l ih => exact fun m hm h => ih _ (more_le hm (h x (by simp))) fun y hy => h y (by simp [hy])
  exact fun h => this l Wt.zero (by simp [Wt.le, Wt.zero]) h
theorem wT_le {α : Type} {g : List α → Wt} {n : Nat} (h1 : 1 ≤ n) (t : Tst α) (h : kList t.kind = true → (g t.list).le n) : (wT g t).le n := by
  unfold wT
  split
  · exact ⟨by simpa using h1, by simp, by simp⟩
  · split
    · exact h ‹_›
    · exact ⟨by simp, by simpa using h1, by simp⟩
theorem tests_len {α : Type} {p : Pth α} (h : ∀ s ∈ p.steps, s.tests.length ≤ 6) (h5 : p.steps.length ≤ 5) : p.tests.length ≤ 30 := by
  unfold Pth.tests
  have : ∀ l : List (Stp α), (∀ s ∈ l, s.tests.length ≤ 6) → (l.flatMap (·.tests)).length ≤ l.length * 6 := by
    intro l
    induction l with
    | nil => simp
    | cons s l ih =>
      intro h
      have a := h s (by simp)
      have b := ih fun x hx => h x (by simp [hx])
      simp only [List.flatMap_cons, List.length_append, List.length_cons, Nat.succ_mul]
      omega
  have := this p.steps h
  omega
theorem wP_le {α : Type} {g : List α → Wt} {n : Nat} (h1 : 1 ≤ n) {p : Pth α} (h30 : p.tests.length ≤ 30) (h5 : p.steps.length ≤ 5) (h : ∀ t ∈ p.tests, kList t.kind = true → (g t.list).le n) : (wP g p).le (5 + 30 * n) := by
  have a := wSum_le (l := p.tests.map (wT g)) (n := n) (fun x hx => by
    obtain ⟨t, ht, rfl⟩ := List.mem_map.1 hx
    exact wT_le h1 t (h t ht))
  rw [List.length_map] at a
  have b := tags_le p.steps
  have c : p.tests.length * n ≤ 30 * n := Nat.mul_le_mul_right n h30
  obtain ⟨a1, a2, a3⟩ := a
  unfold wP
  simp only [Wt.add, Wt.le]
  exact ⟨by omega, by omega, by omega⟩
end Pl
end Go.Proofs.YtbfkopjpfkgjhaaGreatDoor
/-
  Weights: which of two is less, and two together; the program's and the document's own.
-/
namespace Go.Proofs.YtbfkopjpfkgjhaaGreatDoor
open Go.RowKit

def cmpI (x y : Int) : Int := if x < y then -1 else if y < x then 1 else 0
def orL (l : List Int) : Int := (l.find? fun x => x != 0).getD 0
/-- a weight as a value -/
def wtV (x : Pl.Wt) : Value := .agg #[.int .i64 x.ids, .int .i64 x.tests, .int .i64 x.tags]
set_option maxHeartbeats 1000000 in
theorem compare_any (x y : Int) (w : World) : Calls Tryz.prog 99 #[.int .i64 x, .int .i64 y] w fun e w' => e = .returned (.int .i64 (cmpI x y)) ∧ w' = w := by
  go_enter Tryz.func99, Tryz.ntmps99
  go_wp2
  all_goals (go_ret; refine ⟨?_, rfl⟩; unfold cmpI; (repeat' split) <;> first | rfl | (exfalso; omega))
theorem or_next {l : List Int} {k : Nat} (h : k < l.length) (ht : ∀ x ∈ l.take k, x = 0) (hx : l[k] = 0) : ∀ x ∈ l.take (k + 1), x = 0 := by
  intro x hm
  rw [List.take_succ_eq_append_getElem h, List.mem_append, List.mem_singleton] at hm
  rcases hm with hm | rfl
  · exact ht x hm
  · exact hx
theorem or_found {l : List Int} {k : Nat} (h : k < l.length) (ht : ∀ x ∈ l.take k, x = 0) (hx : l[k] ≠ 0) : orL l = l[k] := by
  have e : l = l.take k ++ l[k] :: l.drop (k + 1) := by rw [← List.drop_eq_getElem_cons h, List.take_append_drop]
  unfold orL
  conv => lhs; rw [e]
  rw [List.find?_append]
  have : List.find? (fun x => x != 0) (l.take k) = none := by
    rw [List.find?_eq_none]
    intro x hm
    simp [ht x hm]
  rw [this, List.find?_cons_of_pos (by simpa using hx)]
  rfl
theorem or_none {l : List Int} (ht : ∀ x ∈ l, x = 0) : orL l = 0 := by
  unfold orL
  have : List.find? (fun x => x != 0) l = none := by
    rw [List.find?_eq_none]
    intro x hm
    simp [ht x hm]
  rw [this]
  rfl
set_option maxHeartbeats 1000000 in
theorem or_any (v : Value) (l : List Int) (w : World) (h : RowAt IntAt 1 w v l) : Calls Tryz.prog 98 #[v] w fun e w' => e = .returned (.int .i64 (orL l)) ∧ w' = w := by
  obtain ⟨a, c, rfl⟩ := h.form
  have fl := h.fit
  unfold maxLen at fl
  have HR : Hid (RowAt IntAt 1 w (.slice a l.length c) l) := h
  clear h
  go_enter Tryz.func98, Tryz.ntmps98
  go_wp2
  go_loop [8] (fun i => ∃ k : Nat, k ≤ l.length ∧ i = .int .i64 k ∧ Hid (∀ x ∈ l.take k, x = 0)) (fun i => l.length - (intOf i).toNat)
  case atStart => exact ⟨0, Nat.zero_le _, rfl, by simp [Hid]⟩
  case round =>
    obtain ⟨k, hk, rfl, HT⟩ := hrel
    by_cases hlt : k < l.length
    · obtain ⟨-, b, o, rfl, hc⟩ := RowAt.at HR.out (by omega)
      have m0 : w.cell? ⟨b, o + k, none⟩ = some (.int .i64 l[k]) := by simpa [IntAt] using hc k hlt
      have k1 : (0 : Int) ≤ (k : Int) := by omega
      have k2 : (k : Int) < (l.length : Int) := by omega
      have HF : Hid (l[k] ≠ 0 → orL l = l[k]) := fun h => or_found hlt HT.out h
      have HN : Hid (l[k] = 0 → ∀ x ∈ l.take (k + 1), x = 0) := fun h => or_next hlt HT.out h
      clear hc HT
      generalize l[k] = x at *
      cases hx : (x != 0) with
      | true =>
        have HX : Hid (orL l = x) := HF.out (by simpa using hx)
        go_wp2
        go_ret
        exact ⟨by rw [HX.out]; rfl, rfl⟩
      | false =>
        have HX : Hid (∀ x ∈ l.take (k + 1), x = 0) := HN.out (by simpa using hx)
        go_wp2
        go_round
        case rel => exact ⟨k + 1, hlt, by go_num, HX⟩
        case measure => simp [intOf]; omega
    · have HX : Hid (orL l = 0) := or_none (by rw [← List.take_of_length_le (l := l) (i := k) (by omega)]; exact HT.out)
      go_wp2
      go_ret
      exact ⟨by rw [HX.out]; rfl, rfl⟩
theorem Blk3w.new (w : World) (u v x : Value) : (w.alloc (.cells #[u, v, x] 40)).cell? ⟨w.heap.size, 0, none⟩ = some u ∧ (w.alloc (.cells #[u, v, x] 40)).cell? ⟨w.heap.size, 1, none⟩ = some v ∧ (w.alloc (.cells #[u, v, x] 40)).cell? ⟨w.heap.size, 2, none⟩ = some x := by
  refine ⟨?_, ?_, ?_⟩ <;> simp [go_sem]
theorem row3_new (w : World) (a b c : Int) : RowAt IntAt 1 (w.alloc (.cells #[.int .i64 a, .int .i64 b, .int .i64 c] 3)) (.slice (some ⟨w.heap.size, 0, none⟩) 3 3) [a, b, c] := by
  refine ⟨_, _, rfl, by unfold maxLen; simp, Or.inr ⟨_, _, rfl, fun i hi => ?_⟩⟩
  have : i = 0 ∨ i = 1 ∨ i = 2 := by simp at hi; omega
  rcases this with rfl | rfl | rfl <;> simp [IntAt, go_sem]
theorem row3_drew (w : World) (a b c : Int) : RowAt IntAt 1 (w.alloc (.cells #[.int .i64 a, .int .i64 b, .int .i64 c] 3)).drew (.slice (some ⟨w.heap.size, 0, none⟩) 3 3) [a, b, c] := row3_new w a b c
theorem less_eq (x y : Pl.Wt) : decide (orL [cmpI x.ids y.ids, cmpI x.tests y.tests, cmpI x.tags y.tags] < 0) = x.less y := by
  unfold orL cmpI Pl.Wt.less
  rw [Bool.eq_iff_iff]
  simp only [decide_eq_true_eq]
  by_cases h1 : x.ids < y.ids
  · simp [h1]
  · by_cases h2 : y.ids < x.ids
    · have : ¬ x.ids = y.ids := by omega
      simp [h1, h2, this]
    · have e1 : x.ids = y.ids := by omega
      by_cases h3 : x.tests < y.tests
      · simp [e1, h3]
      · by_cases h4 : y.tests < x.tests
        · have : ¬ x.tests = y.tests := by omega
          simp [e1, h3, h4, this]
        · have e2 : x.tests = y.tests := by omega
          by_cases h5 : x.tags < y.tags
          · simp [e1, e2, h5]
          · by_cases h6 : y.tags < x.tags
            · simp [e1, e2, h5, h6]
            · simp [e1, e2, h5, h6]
set_option maxRecDepth 100000 in
set_option maxHeartbeats 2000000 in
theorem isLess_any (x y : Pl.Wt) (w : World) : Calls Tryz.prog 88 #[wtV x, wtV y] w fun e w' => e = .returned (.bool (x.less y)) ∧ Below w.heap.size w w' := by
  obtain ⟨a0, a1, a2⟩ := x
  obtain ⟨b0, b1, b2⟩ := y
  have HL : Hid (decide (orL [cmpI (a0 : Nat) (b0 : Nat), cmpI (a1 : Nat) (b1 : Nat), cmpI (a2 : Nat) (b2 : Nat)] < 0) = Pl.Wt.less ⟨a0, a1, a2⟩ ⟨b0, b1, b2⟩) := less_eq ⟨a0, a1, a2⟩ ⟨b0, b1, b2⟩
  have hB0 : Below w.heap.size w ((w.alloc (.cells #[.int .i64 a0, .int .i64 a1, .int .i64 a2] 40)).alloc (.cells #[.int .i64 b0, .int .i64 b1, .int .i64 b2] 40)) := ((Below.refl _ w).alloc (Nat.le_refl _) _).alloc (by simp) _
  obtain ⟨p0, p1, p2⟩ := Blk3w.new w (.int .i64 a0) (.int .i64 a1) (.int .i64 a2)
  have hb1 := on_alloc (w.alloc (.cells #[.int .i64 a0, .int .i64 a1, .int .i64 a2] 40)) (.cells #[.int .i64 b0, .int .i64 b1, .int .i64 b2] 40)
  replace p0 := cell_on hb1 p0
  replace p1 := cell_on hb1 p1
  replace p2 := cell_on hb1 p2
  obtain ⟨q0, q1, q2⟩ := Blk3w.new (w.alloc (.cells #[.int .i64 a0, .int .i64 a1, .int .i64 a2] 40)) (.int .i64 b0) (.int .i64 b1) (.int .i64 b2)
  simp only [World.size_alloc] at q0 q1 q2
  have HB : Hid (Below _ _ _) := hB0
  clear hB0 hb1
  unfold wtV
  go_enter Tryz.func88, Tryz.ntmps88
  go_wp2_with fail
  generalize hW : (w.alloc (.cells #[.int .i64 a0, .int .i64 a1, .int .i64 a2] 40)).alloc (.cells #[.int .i64 b0, .int .i64 b1, .int .i64 b2] 40) = W at *
  clear hW
  go_region_held3 (fun w' => w'.cell? ⟨w.heap.size, 0, none⟩ = some (.int .i64 a0) ∧ w'.cell? ⟨w.heap.size, 1, none⟩ = some (.int .i64 a1) ∧ w'.cell? ⟨w.heap.size, 2, none⟩ = some (.int .i64 a2) ∧ w'.cell? ⟨w.heap.size + 1, 0, none⟩ = some (.int .i64 b0) ∧ w'.cell? ⟨w.heap.size + 1, 1, none⟩ = some (.int .i64 b1) ∧ w'.cell? ⟨w.heap.size + 1, 2, none⟩ = some (.int .i64 b2))
    (go_keep) (first | (go_at_call 99; refine (compare_any _ _ _).mono ?_; rintro e w' ⟨rfl, rfl⟩) | (go_at_call 98; refine (or_any _ _ _ (row3_drew _ _ _ _)).mono ?_; rintro e w' ⟨rfl, rfl⟩))
  go_wp2
  go_ret
  exact ⟨by rw [← HL.out]; simp, (HB.out.alloc HB.out.size _).drew⟩
set_option maxRecDepth 100000 in
set_option maxHeartbeats 2000000 in
theorem together_any (x y : Pl.Wt) (w : World) (hx : x.le 1000000) (hy : y.le 1000000) : Calls Tryz.prog 60 #[wtV x, wtV y] w fun e w' => e = .returned (wtV (x.add y)) ∧ Below w.heap.size w w' := by
  obtain ⟨a0, a1, a2⟩ := x
  obtain ⟨b0, b1, b2⟩ := y
  obtain ⟨x0, x1, x2⟩ := hx
  obtain ⟨y0, y1, y2⟩ := hy
  dsimp only at x0 x1 x2 y0 y1 y2
  have HB := fun o o2 o3 => (((Below.refl w.heap.size w).alloc (Nat.le_refl _) o).alloc (by simp) o2).alloc (by simp; omega) o3
  unfold wtV Pl.Wt.add
  dsimp only
  go_enter Tryz.func60, Tryz.ntmps60
  go_wp2
  refine bodyPost_ret (v := .agg #[.int .i64 ((a0 : Int) + b0), .int .i64 ((a1 : Int) + b1), .int .i64 ((a2 : Int) + b2)]) (by simp [results, Tryz.results60, go_sem]) rfl ⟨by simp, ?_⟩
  exact HB _ _ _
set_option maxRecDepth 100000 in
set_option maxHeartbeats 2000000 in
theorem heavier_any (x y : Pl.Wt) (w : World) : Calls Tryz.prog 35 #[wtV x, wtV y] w fun e w' => e = .returned (.bool (y.less x)) ∧ Below w.heap.size w w' := by
  obtain ⟨a0, a1, a2⟩ := x
  obtain ⟨b0, b1, b2⟩ := y
  have HB : Hid (Below w.heap.size w ((w.alloc (.cells #[.int .i64 a0, .int .i64 a1, .int .i64 a2] 40)).alloc (.cells #[.int .i64 b0, .int .i64 b1, .int .i64 b2] 40))) := ((Below.refl _ w).alloc (Nat.le_refl _) _).alloc (by simp) _
  unfold wtV
  cases h1 : ((a0 : Int) != b0) with
  | true =>
    have n1 : a0 ≠ b0 := by simp at h1; omega
    have HL : Hid (Pl.Wt.less ⟨b0, b1, b2⟩ ⟨a0, a1, a2⟩ = decide (b0 < a0)) := by
      simp [Hid, Pl.Wt.less]
      omega
    clear n1
    go_enter Tryz.func35, Tryz.ntmps35
    go_wp2
    go_ret
    exact ⟨by rw [HL.out]; rfl, HB.out⟩
  | false =>
    have n1 : a0 = b0 := by simp at h1; omega
    cases h2 : ((a1 : Int) != b1) with
    | true =>
      have n2 : a1 ≠ b1 := by simp at h2; omega
      have HL : Hid (Pl.Wt.less ⟨b0, b1, b2⟩ ⟨a0, a1, a2⟩ = decide (b1 < a1)) := by
        simp [Hid, Pl.Wt.less, n1]
        omega
      clear n1 n2
      go_enter Tryz.func35, Tryz.ntmps35
      go_wp2
      go_ret
      exact ⟨by rw [HL.out]; rfl, HB.out⟩
    | false =>
      have n2 : a1 = b1 := by simp at h2; omega
      have HL : Hid (Pl.Wt.less ⟨b0, b1, b2⟩ ⟨a0, a1, a2⟩ = decide (b2 < a2)) := by
        simp [Hid, Pl.Wt.less, n1, n2]
      clear n1 n2
      go_enter Tryz.func35, Tryz.ntmps35
      go_wp2
      go_ret
      exact ⟨by rw [HL.out]; rfl, HB.out⟩
end Go.Proofs.YtbfkopjpfkgjhaaGreatDoor
