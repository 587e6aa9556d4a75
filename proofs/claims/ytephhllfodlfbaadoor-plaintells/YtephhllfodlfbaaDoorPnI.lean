/-
  plain.add: an Is that stays, for the two do not go together.
-/
import Derived.Test.YtephhllfodlfbaaDoorPnE
import Derived.BigQuiet
import Derived.Deep.RegionHeld3
import Derived.Deep.QuietTactic
namespace Go.Proofs.YtephhllfodlfbaaDoor
open Go.RowKit

section
variable {α : Type} {A : MemL α} (hA : IsL A) (hS : IsSub A) (L : Pl.Lev α) (hO : OnlyC A L) (B M : Nat) (to : Pl.Stp α) (t : Pl.Tst α) (au al : Option Addr) (cu dl : Nat) (n : Nat) (w : World)
  (hm : Made A B M w to (.slice au to.tests.length cu)) (hv : A (mask (Off (frm B) (.slice au to.tests.length cu)) w) (.slice al t.list.length dl) t.list) (hw : L.W t.list) (h6 : to.tests.length + 1 + n ≤ 6)
include hA hS hO hm hv hw h6
omit hA in
set_option maxRecDepth 100000 in
set_option maxHeartbeats 8000000 in
theorem add_is0 (s : Pl.Stp α) (hso : L.only t.list = some s) (k14 : t.kind = 14) (htg : Pl.together to.tag s.tag = false) : Calls Tryd.prog 67 #[.pointer (some ⟨M, 0, none⟩), .agg #[.int .i64 t.kind, .string ⟨t.name.toArray⟩, .string ⟨t.value.toArray⟩, .int .i64 t.a, .int .i64 t.b, .slice al t.list.length dl], .int .i64 n] w (AddSays A B M w (Pl.addT L.only to t n)) := by
  have h64 : to.tests.length + 1 ≤ 64 := by omega
  have HL64 : Hid _ := h64
  have HAW : Hid (AddW A B M w (w.alloc (.cells #[.int .i64 t.kind, .string ⟨t.name.toArray⟩, .string ⟨t.value.toArray⟩, .int .i64 t.a, .int .i64 t.b, .slice al t.list.length dl] 45)) to t au al cu dl) := AddW.start hS hm hv
  have HCO : Hid (Calls Tryd.prog 71 _ _ _) := hO (w.alloc (.cells #[.int .i64 t.kind, .string ⟨t.name.toArray⟩, .string ⟨t.value.toArray⟩, .int .i64 t.a, .int .i64 t.b, .slice al t.list.length dl] 45)) (Off (frm B) (.slice au to.tests.length cu)) (.slice al t.list.length dl) t.list HAW.out.new hw
  have HAT : Hid (Pl.addT L.only to t n = ⟨to.tag, to.tests ++ [t]⟩) := by
    unfold Hid Pl.addT
    rw [hso]
    dsimp only
    rw [if_neg (by rw [k14]; decide)]
    dsimp only
    rw [if_neg (fun h => by rw [htg] at h; exact absurd h.2.1 (by decide))]
  have r13 : (t.kind == 13) = false := by rw [k14]; rfl
  have r14 : (t.kind == 14) = true := by simpa using k14
  clear k14
  clear hv hw h6 hm h64
  go_enter Tryd.func67, Tryd.ntmps67
  go_wp2_with fail
  generalize w.alloc (.cells #[.int .i64 t.kind, .string ⟨t.name.toArray⟩, .string ⟨t.value.toArray⟩, .int .i64 t.a, .int .i64 t.b, .slice al t.list.length dl] 45) = w1 at *
  refine HCO.out.mono ?_
  rintro e w2 ⟨⟨hs, -⟩ | ⟨s', as_, cs, hs, rfl, hrow⟩, hb2⟩
  case inl => rw [hso] at hs; cases hs
  obtain rfl : s = s' := Option.some.inj (hso.symm.trans hs)
  have hb3 := on_alloc w2 (.cells #[.string ⟨s.tag.toArray⟩, .slice as_ s.tests.length cs] 41)
  have HAW3 : Hid (AddW A B M w (w2.alloc (.cells #[.string ⟨s.tag.toArray⟩, .slice as_ s.tests.length cs] 41)) to t au al cu dl) := (HAW.out.on hS hb2).on hS hb3
  have HR3 : Hid (RowAt (TstAt A) 6 (mask (Off (frm B) (.slice au to.tests.length cu)) (w2.alloc (.cells #[.string ⟨s.tag.toArray⟩, .slice as_ s.tests.length cs] 41))) (.slice as_ s.tests.length cs) s.tests) := hrow.map fun _ _ _ hq => (hq.sub hS (mask_on hb2)).sub hS (mask_on hb3)
  have H6 : Hid ((w2.alloc (.cells #[.string ⟨s.tag.toArray⟩, .slice as_ s.tests.length cs] 41)).heap[w2.heap.size]? = some (.cells #[.string ⟨s.tag.toArray⟩, .slice as_ s.tests.length cs] 41)) := heap_alloc_new w2 _
  obtain ⟨⟨b0, b1, b2, b3⟩, q0, q1, q2, q3, q4, q5⟩ := HAW3.out.facts
  obtain ⟨v0, v1⟩ := AddW.step6 H6.out
  clear hb2 hb3 hs hrow hso
  go_wp2
  generalize w2.alloc (.cells #[.string ⟨s.tag.toArray⟩, .slice as_ s.tests.length cs] 41) = W2 at *
  have HTG : Hid (∀ W, Calls Tryd.prog 73 #[.agg #[.string ⟨to.tag.toArray⟩, .slice au to.tests.length cu], .agg #[.string ⟨s.tag.toArray⟩, .slice as_ s.tests.length cs]] W fun e w' => e = .returned (.bool false) ∧ Below W.heap.size W w') := fun W => by
    have := together_any to.tag s.tag au as_ to.tests.length cu s.tests.length cs W
    rw [htg] at this
    exact this
  have S0 : W2.drew.cell? ⟨w.heap.size, 0, none⟩ = some (.int .i64 t.kind) ∧ W2.drew.cell? ⟨M, 0, none⟩ = some (.string ⟨to.tag.toArray⟩) ∧ W2.drew.cell? ⟨M, 1, none⟩ = some (.slice au to.tests.length cu) ∧ W2.drew.cell? ⟨w2.heap.size, 0, none⟩ = some (.string ⟨s.tag.toArray⟩) ∧ W2.drew.cell? ⟨w2.heap.size, 1, none⟩ = some (.slice as_ s.tests.length cs) ∧ Below W2.heap.size W2 W2.drew := ⟨q0, b0, b1, v0, v1, (Below.refl _ _).drew⟩
  clear b0 b1 b2 b3 q0 q1 q2 q3 q4 q5 v0 v1
  refine wp_region_held_drew (S := (fun w' => w'.cell? ⟨w.heap.size, 0, none⟩ = some (.int .i64 t.kind) ∧ w'.cell? ⟨M, 0, none⟩ = some (.string ⟨to.tag.toArray⟩) ∧ w'.cell? ⟨M, 1, none⟩ = some (.slice au to.tests.length cu) ∧ w'.cell? ⟨w2.heap.size, 0, none⟩ = some (.string ⟨s.tag.toArray⟩) ∧ w'.cell? ⟨w2.heap.size, 1, none⟩ = some (.slice as_ s.tests.length cs) ∧ Below W2.heap.size W2 w')) (by kernel_rfl) S0 (fun hHeld => ?_)
  refine wpAnyH_take (i := 0) (oi := ({ dst := some 51, op := Op.fieldAddr 45 (Operand.tmp 4) 0, type := 0, pos := "once.go:43", after := #[], guard := none } : Oper)) (v := ?_) rfl (by kernel_rfl) (by kernel_rfl) (by kernel_rfl) (fun _ _ _ h => h) (Or.inl ⟨by rfl, ?_⟩) (by assumption) ?_
  rotate_left
  · intro w9 hSw
    (try dsimp only at hSw)
    go_simp
    all_goals (with_reducible rfl)
  try simp only [Act.put, List.setIfInBounds_toArray, List.set_cons_zero, List.set_cons_succ]
  refine wpAnyH_take (i := 1) (oi := ({ dst := some 52, op := Op.load 3 (Operand.tmp 51), type := 3, pos := "once.go:43", after := #[{ on := 0, ground := Ground.data }], guard := none } : Oper)) (v := ?_) rfl (by kernel_rfl) (by kernel_rfl) (by kernel_rfl) (fun _ _ _ h => h) (Or.inl ⟨by rfl, ?_⟩) (by assumption) ?_
  rotate_left
  · intro w9 hSw
    (try dsimp only at hSw)
    go_simp
    all_goals (with_reducible rfl)
  try simp only [Act.put, List.setIfInBounds_toArray, List.set_cons_zero, List.set_cons_succ]
  refine wpAnyH_take (i := 2) (oi := ({ dst := some 53, op := Op.binOp BinOp.eql 3 (Operand.tmp 52) (Operand.const (Value.int IntKind.i64 14)) 3, type := 4, pos := "once.go:43", after := #[{ on := 1, ground := Ground.data }], guard := none } : Oper)) (v := ?_) rfl (by kernel_rfl) (by kernel_rfl) (by kernel_rfl) (fun _ _ _ h => h) (Or.inl ⟨by rfl, ?_⟩) (by assumption) ?_
  rotate_left
  · intro w9 hSw
    (try dsimp only at hSw)
    go_simp
    all_goals (with_reducible rfl)
  try simp only [Act.put, List.setIfInBounds_toArray, List.set_cons_zero, List.set_cons_succ]
  refine wpAnyH_take (i := 3) (oi := ({ dst := some 54, op := Op.move (Operand.tmp 53), type := 4, pos := "once.go:43", after := #[{ on := 2, ground := Ground.data }], guard := none } : Oper)) (v := ?_) rfl (by kernel_rfl) (by kernel_rfl) (by kernel_rfl) (fun _ _ _ h => h) (Or.inl ⟨by rfl, ?_⟩) (by assumption) ?_
  rotate_left
  · intro w9 hSw
    (try dsimp only at hSw)
    go_simp
    all_goals (with_reducible rfl)
  try simp only [Act.put, List.setIfInBounds_toArray, List.set_cons_zero, List.set_cons_succ]
  refine wpAnyH_take (i := 4) (oi := ({ dst := some 55, op := Op.move (Operand.tmp 7), type := 4, pos := "once.go:43", after := #[{ on := 3, ground := Ground.guard }], guard := some (3, true) } : Oper)) (v := ?_) rfl (by kernel_rfl) (by kernel_rfl) (by kernel_rfl) (fun _ _ _ h => h) (Or.inl ⟨by rfl, ?_⟩) (by assumption) ?_
  rotate_left
  · intro w9 hSw
    (try dsimp only at hSw)
    go_simp
    all_goals (with_reducible rfl)
  try simp only [Act.put, List.setIfInBounds_toArray, List.set_cons_zero, List.set_cons_succ]
  refine wpAnyH_take (i := 5) (oi := ({ dst := some 56, op := Op.pick (Operand.tmp 54) (Operand.tmp 55) (Operand.const (Value.bool false)), type := 4, pos := "once.go:43", after := #[{ on := 3, ground := Ground.data }, { on := 4, ground := Ground.data }], guard := none } : Oper)) (v := ?_) rfl (by kernel_rfl) (by kernel_rfl) (by kernel_rfl) (fun _ _ _ h => h) (Or.inl ⟨by rfl, ?_⟩) (by assumption) ?_
  rotate_left
  · intro w9 hSw
    (try dsimp only at hSw)
    go_simp
    all_goals (with_reducible rfl)
  try simp only [Act.put, List.setIfInBounds_toArray, List.set_cons_zero, List.set_cons_succ]
  refine wpAnyH_take (i := 6) (oi := ({ dst := some 57, op := Op.move (Operand.tmp 56), type := 4, pos := "once.go:43", after := #[{ on := 5, ground := Ground.data }, { on := 3, ground := Ground.chain }], guard := none } : Oper)) (v := ?_) rfl (by kernel_rfl) (by kernel_rfl) (by kernel_rfl) (fun _ _ _ h => h) (Or.inl ⟨by rfl, ?_⟩) (by assumption) ?_
  rotate_left
  · intro w9 hSw
    (try dsimp only at hSw)
    go_simp
    all_goals (with_reducible rfl)
  try simp only [Act.put, List.setIfInBounds_toArray, List.set_cons_zero, List.set_cons_succ]
  refine wpAnyH_take (i := 7) (oi := ({ dst := some 58, op := Op.move (Operand.tmp 0), type := 80, pos := "once.go:43", after := #[{ on := 6, ground := Ground.guard }], guard := some (6, true) } : Oper)) (v := ?_) rfl (by kernel_rfl) (by kernel_rfl) (by kernel_rfl) (fun _ _ _ h => h) (Or.inl ⟨by rfl, ?_⟩) (by assumption) ?_
  rotate_left
  · intro w9 hSw
    (try dsimp only at hSw)
    go_simp
    all_goals (with_reducible rfl)
  try simp only [Act.put, List.setIfInBounds_toArray, List.set_cons_zero, List.set_cons_succ]
  refine wpAnyH_take (i := 8) (oi := ({ dst := some 59, op := Op.nilCheck (Operand.tmp 58), type := 0, pos := "once.go:43", after := #[{ on := 7, ground := Ground.data }, { on := 6, ground := Ground.guard }], guard := some (6, true) } : Oper)) (v := ?_) rfl (by kernel_rfl) (by kernel_rfl) (by kernel_rfl) (fun _ _ _ h => h) (Or.inl ⟨by rfl, ?_⟩) (by assumption) ?_
  rotate_left
  · intro w9 hSw
    (try dsimp only at hSw)
    go_simp
    all_goals (with_reducible rfl)
  try simp only [Act.put, List.setIfInBounds_toArray, List.set_cons_zero, List.set_cons_succ]
  refine wpAnyH_take (i := 9) (oi := ({ dst := some 60, op := Op.load 41 (Operand.tmp 59), type := 41, pos := "once.go:43", after := #[{ on := 8, ground := Ground.data }, { on := 6, ground := Ground.guard }], guard := some (6, true) } : Oper)) (v := ?_) rfl (by kernel_rfl) (by kernel_rfl) (by kernel_rfl) (fun _ _ _ h => h) (Or.inl ⟨by rfl, ?_⟩) (by assumption) ?_
  rotate_left
  · intro w9 hSw
    (try dsimp only at hSw)
    go_simp
    all_goals (with_reducible rfl)
  try simp only [Act.put, List.setIfInBounds_toArray, List.set_cons_zero, List.set_cons_succ]
  refine wpAnyH_take (i := 10) (oi := ({ dst := some 61, op := Op.load 41 (Operand.tmp 6), type := 41, pos := "once.go:43", after := #[{ on := 6, ground := Ground.guard }], guard := some (6, true) } : Oper)) (v := ?_) rfl (by kernel_rfl) (by kernel_rfl) (by kernel_rfl) (fun _ _ _ h => h) (Or.inl ⟨by rfl, ?_⟩) (by assumption) ?_
  rotate_left
  · intro w9 hSw
    (try dsimp only at hSw)
    go_simp
    all_goals (with_reducible rfl)
  try simp only [Act.put, List.setIfInBounds_toArray, List.set_cons_zero, List.set_cons_succ]
  refine wpAnyH_ready (rs := [11]) (by kernel_rfl) (by simp) ?_
  refine AllReadyH.cons (o := ({ dst := some 62, op := Op.call { callee := Callee.value (Operand.func 73), args := #[Operand.tmp 60, Operand.tmp 61], argTypes := #[41, 41] }, type := 4, pos := "once.go:43", after := #[{ on := 9, ground := Ground.data }, { on := 10, ground := Ground.data }, { on := 6, ground := Ground.chain }, { on := 6, ground := Ground.guard }], guard := some (6, true) } : Oper)) rfl (fun K hK => ?_) AllReadyH.nil
  go_simp
  go_at_call 73
  refine (HTG.out _).mono ?_
  rintro e w' ⟨rfl, hw⟩
  refine hK.out _ _ (cinq_on (by with_reducible assumption) (by with_reducible assumption)) (fun hHeld2 => ?_)
  clear hK K hHeld
  try simp only [Act.put, List.setIfInBounds_toArray, List.set_cons_zero, List.set_cons_succ]
  refine wpAnyH_take (i := 12) (oi := ({ dst := some 63, op := Op.pick (Operand.tmp 57) (Operand.tmp 62) (Operand.const (Value.bool false)), type := 4, pos := "once.go:43", after := #[{ on := 6, ground := Ground.data }, { on := 11, ground := Ground.data }], guard := none } : Oper)) (v := ?_) rfl (by kernel_rfl) (by kernel_rfl) (by kernel_rfl) (fun _ _ _ h => h) (Or.inl ⟨by rfl, ?_⟩) (by assumption) ?_
  rotate_left
  · intro w9 hSw
    (try dsimp only at hSw)
    go_simp
    all_goals (with_reducible rfl)
  try simp only [Act.put, List.setIfInBounds_toArray, List.set_cons_zero, List.set_cons_succ]
  refine wpAnyH_take (i := 13) (oi := ({ dst := some 64, op := Op.move (Operand.tmp 63), type := 4, pos := "once.go:43", after := #[{ on := 12, ground := Ground.data }, { on := 11, ground := Ground.chain }], guard := none } : Oper)) (v := ?_) rfl (by kernel_rfl) (by kernel_rfl) (by kernel_rfl) (fun _ _ _ h => h) (Or.inl ⟨by rfl, ?_⟩) (by assumption) ?_
  rotate_left
  · intro w9 hSw
    (try dsimp only at hSw)
    go_simp
    all_goals (with_reducible rfl)
  try simp only [Act.put, List.setIfInBounds_toArray, List.set_cons_zero, List.set_cons_succ]
  refine wpAnyH_take (i := 14) (oi := ({ dst := some 65, op := Op.move (Operand.tmp 0), type := 80, pos := "once.go:43", after := #[{ on := 13, ground := Ground.guard }], guard := some (13, true) } : Oper)) (v := undef) rfl (by kernel_rfl) (by kernel_rfl) (by kernel_rfl) (fun _ _ _ h => h) (Or.inr ⟨by rfl, rfl⟩) (by assumption) ?_
  try simp only [Act.put, List.setIfInBounds_toArray, List.set_cons_zero, List.set_cons_succ]
  refine wpAnyH_take (i := 15) (oi := ({ dst := some 66, op := Op.nilCheck (Operand.tmp 65), type := 0, pos := "once.go:43", after := #[{ on := 14, ground := Ground.data }, { on := 13, ground := Ground.guard }], guard := some (13, true) } : Oper)) (v := undef) rfl (by kernel_rfl) (by kernel_rfl) (by kernel_rfl) (fun _ _ _ h => h) (Or.inr ⟨by rfl, rfl⟩) (by assumption) ?_
  try simp only [Act.put, List.setIfInBounds_toArray, List.set_cons_zero, List.set_cons_succ]
  refine wpAnyH_take (i := 16) (oi := ({ dst := some 67, op := Op.fieldAddr 41 (Operand.tmp 66) 1, type := 0, pos := "once.go:43", after := #[{ on := 15, ground := Ground.data }, { on := 13, ground := Ground.guard }], guard := some (13, true) } : Oper)) (v := undef) rfl (by kernel_rfl) (by kernel_rfl) (by kernel_rfl) (fun _ _ _ h => h) (Or.inr ⟨by rfl, rfl⟩) (by assumption) ?_
  try simp only [Act.put, List.setIfInBounds_toArray, List.set_cons_zero, List.set_cons_succ]
  refine wpAnyH_take (i := 17) (oi := ({ dst := some 68, op := Op.load 39 (Operand.tmp 67), type := 39, pos := "once.go:43", after := #[{ on := 16, ground := Ground.data }, { on := 13, ground := Ground.guard }], guard := some (13, true) } : Oper)) (v := undef) rfl (by kernel_rfl) (by kernel_rfl) (by kernel_rfl) (fun _ _ _ h => h) (Or.inr ⟨by rfl, rfl⟩) (by assumption) ?_
  try simp only [Act.put, List.setIfInBounds_toArray, List.set_cons_zero, List.set_cons_succ]
  refine wpAnyH_take (i := 18) (oi := ({ dst := some 69, op := Op.call { callee := Callee.builtin Builtin.len, args := #[Operand.tmp 68], argTypes := #[39] }, type := 3, pos := "once.go:43", after := #[{ on := 17, ground := Ground.data }, { on := 13, ground := Ground.guard }], guard := some (13, true) } : Oper)) (v := undef) rfl (by kernel_rfl) (by kernel_rfl) (by kernel_rfl) (fun _ _ _ h => h) (Or.inr ⟨by rfl, rfl⟩) (by assumption) ?_
  try simp only [Act.put, List.setIfInBounds_toArray, List.set_cons_zero, List.set_cons_succ]
  refine wpAnyH_take (i := 19) (oi := ({ dst := some 70, op := Op.fieldAddr 41 (Operand.tmp 6) 1, type := 0, pos := "once.go:43", after := #[{ on := 13, ground := Ground.guard }], guard := some (13, true) } : Oper)) (v := undef) rfl (by kernel_rfl) (by kernel_rfl) (by kernel_rfl) (fun _ _ _ h => h) (Or.inr ⟨by rfl, rfl⟩) (by assumption) ?_
  try simp only [Act.put, List.setIfInBounds_toArray, List.set_cons_zero, List.set_cons_succ]
  refine wpAnyH_take (i := 20) (oi := ({ dst := some 71, op := Op.load 39 (Operand.tmp 70), type := 39, pos := "once.go:43", after := #[{ on := 19, ground := Ground.data }, { on := 13, ground := Ground.guard }], guard := some (13, true) } : Oper)) (v := undef) rfl (by kernel_rfl) (by kernel_rfl) (by kernel_rfl) (fun _ _ _ h => h) (Or.inr ⟨by rfl, rfl⟩) (by assumption) ?_
  try simp only [Act.put, List.setIfInBounds_toArray, List.set_cons_zero, List.set_cons_succ]
  refine wpAnyH_take (i := 21) (oi := ({ dst := some 72, op := Op.call { callee := Callee.builtin Builtin.len, args := #[Operand.tmp 71], argTypes := #[39] }, type := 3, pos := "once.go:43", after := #[{ on := 20, ground := Ground.data }, { on := 13, ground := Ground.guard }], guard := some (13, true) } : Oper)) (v := undef) rfl (by kernel_rfl) (by kernel_rfl) (by kernel_rfl) (fun _ _ _ h => h) (Or.inr ⟨by rfl, rfl⟩) (by assumption) ?_
  try simp only [Act.put, List.setIfInBounds_toArray, List.set_cons_zero, List.set_cons_succ]
  refine wpAnyH_take (i := 22) (oi := ({ dst := some 73, op := Op.binOp BinOp.add 3 (Operand.tmp 69) (Operand.tmp 72) 3, type := 3, pos := "once.go:43", after := #[{ on := 18, ground := Ground.data }, { on := 21, ground := Ground.data }, { on := 13, ground := Ground.guard }], guard := some (13, true) } : Oper)) (v := undef) rfl (by kernel_rfl) (by kernel_rfl) (by kernel_rfl) (fun _ _ _ h => h) (Or.inr ⟨by rfl, rfl⟩) (by assumption) ?_
  try simp only [Act.put, List.setIfInBounds_toArray, List.set_cons_zero, List.set_cons_succ]
  refine wpAnyH_take (i := 23) (oi := ({ dst := some 74, op := Op.move (Operand.tmp 2), type := 3, pos := "once.go:43", after := #[{ on := 13, ground := Ground.guard }], guard := some (13, true) } : Oper)) (v := undef) rfl (by kernel_rfl) (by kernel_rfl) (by kernel_rfl) (fun _ _ _ h => h) (Or.inr ⟨by rfl, rfl⟩) (by assumption) ?_
  try simp only [Act.put, List.setIfInBounds_toArray, List.set_cons_zero, List.set_cons_succ]
  refine wpAnyH_take (i := 24) (oi := ({ dst := some 75, op := Op.binOp BinOp.add 3 (Operand.tmp 73) (Operand.tmp 74) 3, type := 3, pos := "once.go:43", after := #[{ on := 22, ground := Ground.data }, { on := 23, ground := Ground.data }, { on := 13, ground := Ground.guard }], guard := some (13, true) } : Oper)) (v := undef) rfl (by kernel_rfl) (by kernel_rfl) (by kernel_rfl) (fun _ _ _ h => h) (Or.inr ⟨by rfl, rfl⟩) (by assumption) ?_
  try simp only [Act.put, List.setIfInBounds_toArray, List.set_cons_zero, List.set_cons_succ]
  refine wpAnyH_take (i := 25) (oi := ({ dst := some 76, op := Op.binOp BinOp.leq 3 (Operand.tmp 75) (Operand.const (Value.int IntKind.i64 6)) 3, type := 4, pos := "once.go:43", after := #[{ on := 24, ground := Ground.data }, { on := 13, ground := Ground.guard }], guard := some (13, true) } : Oper)) (v := undef) rfl (by kernel_rfl) (by kernel_rfl) (by kernel_rfl) (fun _ _ _ h => h) (Or.inr ⟨by rfl, rfl⟩) (by assumption) ?_
  try simp only [Act.put, List.setIfInBounds_toArray, List.set_cons_zero, List.set_cons_succ]
  refine wpAnyH_take (i := 26) (oi := ({ dst := some 77, op := Op.pick (Operand.tmp 64) (Operand.tmp 76) (Operand.const (Value.bool false)), type := 4, pos := "once.go:43", after := #[{ on := 13, ground := Ground.data }, { on := 25, ground := Ground.data }], guard := none } : Oper)) (v := ?_) rfl (by kernel_rfl) (by kernel_rfl) (by kernel_rfl) (fun _ _ _ h => h) (Or.inl ⟨by rfl, ?_⟩) (by assumption) ?_
  rotate_left
  · intro w9 hSw
    (try dsimp only at hSw)
    go_simp
    all_goals (with_reducible rfl)
  try simp only [Act.put, List.setIfInBounds_toArray, List.set_cons_zero, List.set_cons_succ]
  refine wpAnyH_take (i := 27) (oi := ({ dst := some 50, op := Op.assign (Operand.tmp 77), type := 4, pos := "once.go:43", after := #[{ on := 26, ground := Ground.data }, { on := 13, ground := Ground.chain }], guard := none } : Oper)) (v := ?_) rfl (by kernel_rfl) (by kernel_rfl) (by kernel_rfl) (fun _ _ _ h => h) (Or.inl ⟨by rfl, ?_⟩) (by assumption) ?_
  rotate_left
  · intro w9 hSw
    (try dsimp only at hSw)
    go_simp
    all_goals (with_reducible rfl)
  try simp only [Act.put, List.setIfInBounds_toArray, List.set_cons_zero, List.set_cons_succ]
  refine wpAnyH_done (by kernel_rfl) ?_ _
  have HS5 := cinq_id (by with_reducible assumption)
  obtain ⟨-, -, -, -, -, hB5⟩ := HS5
  have HAW3' := HAW3.out.on hS hB5
  clear HAW3 hB5 S0 HR3 H6 HTG
  generalize w' = W3 at *
  have HAW3 : Hid (AddW A B M w W3 to t au al cu dl) := HAW3'
  clear HAW3'
  have HAD := HAW3.out.drew hS
  obtain ⟨⟨b0, b1, b2, b3⟩, q0, q1, q2, q3, q4, q5⟩ := HAD.facts
  have b1a := cell_on (on_alloc W3 (.cells #[.int .i64 t.kind, .string ⟨t.name.toArray⟩, .string ⟨t.value.toArray⟩, .int .i64 t.a, .int .i64 t.b, .slice al t.list.length dl] 45)) HAW3.out.facts.1.2.1
  have HADH : Hid (AddW _ _ _ _ _ _ _ _ _ _ _) := HAD
  have hBz : B ≤ W3.drew.heap.size := HAD.made.sz
  have HBZ : Hid _ := hBz
  have HPH : Hid (frm B (W3.drew.heap.size + 1) = true) := by unfold Hid; simp only [frm, decide_eq_true_eq]; omega
  have HONE : Hid (∀ u ∈ [.int .i64 t.kind, .string ⟨t.name.toArray⟩, .string ⟨t.value.toArray⟩, .int .i64 t.a, .int .i64 t.b, .slice al t.list.length dl], Value.oneCell' u = true) := by
    intro u hu
    simp only [List.mem_cons, List.not_mem_nil, or_false] at hu
    rcases hu with rfl | rfl | rfl | rfl | rfl | rfl <;> rfl
  have HNW : Hid (VT A (mask (Off (frm B) (.slice au to.tests.length cu)) W3.drew) [.int .i64 t.kind, .string ⟨t.name.toArray⟩, .string ⟨t.value.toArray⟩, .int .i64 t.a, .int .i64 t.b, .slice al t.list.length dl] t) := ⟨_, rfl, HAD.new⟩
  clear HAD hBz
  go_wp2_with fail
  go_region_law (refine step_grow (P := frm B) (B := B) (isV_t hS) Tryd.underlying39 infT rfl (by decide) (by decide) (w2 := W3.drew) (v := .slice au to.tests.length cu) (l := to.tests) (x := t) (news := [.int .i64 t.kind, .string ⟨t.name.toArray⟩, .string ⟨t.value.toArray⟩, .int .i64 t.a, .int .i64 t.b, .slice al t.list.length dl]) rfl (.tmp 18) (.tmp 20) rfl rfl rfl HADH.out.made.row HNW.out HONE.out HL64.out HBZ.out HPH.out ?_; intro g cap w7 hrow' hgr _; have HPUT := HADH.out.put hS (on_alloc W3.drew _) hgr hrow'; have z7 := HPUT.2.2.1; have zf7 := HPUT.2.2.2)
  all_goals
    have HMD : Hid (Made A B M _ _ _) := HPUT.1
    have HFR : Hid (FrA B M w _) := HPUT.2.1
    clear HPUT hrow' hgr z7 zf7
    go_wp2
    go_end0
    exact ⟨rfl, _, by rw [HAT.out]; exact HMD.out, HFR.out⟩
end
end Go.Proofs.YtephhllfodlfbaaDoor
