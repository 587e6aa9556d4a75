/-
  The law NthTrue's walk: where a count holds it holds a step further too, and of B it holds; what is shown is read as it was, and nothing else is.
-/
import Derived.Test.YthlpcmgeelkncaaDoorBegun
namespace Go.Proofs.YthlpcmgeelkncaaDoor
open Go.RowKit

/-- the count's box stands at w's end, all else of w is as it was -/
def At (w wi : World) (a b : Int) : Prop :=
  wi.cell? ⟨w.heap.size, 0, none⟩ = some (.int .i64 a) ∧ wi.cell? ⟨w.heap.size, 1, none⟩ = some (.int .i64 b) ∧ w.heap.size + 1 ≤ wi.heap.size ∧ Below w.heap.size w wi
theorem At.step {w wi wj : World} {a b : Int} (h : At w wi a b) (hb : Below wi.heap.size wi wj) : At w wj a b := by
  obtain ⟨c0, c1, hz, hB⟩ := h
  refine ⟨?_, ?_, Nat.le_trans hz hb.size, hB.trans (hb.mono (by omega))⟩
  · rw [hb.cell (p := ⟨w.heap.size, 0, none⟩) (by show w.heap.size < _; omega)]; exact c0
  · rw [hb.cell (p := ⟨w.heap.size, 1, none⟩) (by show w.heap.size < _; omega)]; exact c1
theorem At.new (w : World) (a b : Int) : At w (w.alloc (.cells #[.int .i64 a, .int .i64 b] 23)) a b := by
  refine ⟨by simp [go_sem], by simp [go_sem], by simp, (Below.refl _ _).alloc (Nat.le_refl _) _⟩
theorem At.alloc {w wi : World} {a b : Int} (h : At w wi a b) (o : Obj) : At w (wi.alloc o) a b :=
  h.step ((Below.refl _ _).alloc (Nat.le_refl _) _)

theorem At.below {w wi : World} {a b : Int} (h : At w wi a b) : Below w.heap.size w wi := h.2.2.2
namespace Pl
theorem holds_of_b {a b : Int} (ha : inBB a = true) (hb : inBB b = true) (h : 1 ≤ b) : holds a b b = true := by
  rw [holds_iff]; rw [inBB_iff] at ha hb
  have := hb.2
  exact ⟨ha, hb, h, by omega, 0, by omega, by simp⟩
theorem holds_further {a b k : Int} (h : holds a b k = true) (h1 : 1 ≤ k + a) (h2 : k ≤ 2097152) : holds a b (k + a) = true := by
  rw [holds_iff] at h ⊢
  obtain ⟨ha, hb, h3, h4, q, hq, e⟩ := h
  have := ha.2
  refine ⟨ha, hb, h1, by omega, q + 1, by omega, ?_⟩
  rw [Int.mul_add]; omega
theorem holds_back {a b k : Int} (h : holds a b (k + a) = true) (hn : holds a b k = false) (h1 : 1 ≤ k) (h2 : k ≤ 2097152) : k + a = b := by
  rw [holds_iff] at h
  obtain ⟨ha, hb, h3, h4, q, hq, e⟩ := h
  by_cases h0 : q = 0
  · subst h0; simp at e; omega
  · have hk : holds a b k = true := by
      rw [holds_iff]
      refine ⟨ha, hb, h1, by omega, q - 1, by omega, ?_⟩
      rw [Int.mul_sub]; omega
    rw [hk] at hn; cases hn
end Pl

set_option maxHeartbeats 1000000 in
theorem true_wrong (a b i : Int) (l : List UInt8) (w : World) (hl : l.length ≤ maxLen) (hT : Lib.TabIs Tryd.prog w "internal/strconv.uint64pow10" .u64 Lib.pow10Tab) (h : (Pl.inBB a && Pl.inBB b) = false) :
    Calls Tryd.prog 4 #[.agg #[.int .i64 a, .int .i64 b], .int .i64 i, .string ⟨l.toArray⟩] w fun e w' => e = .returned (.bool true) ∧ Below w.heap.size w w' := by
  have HT : Hid (∀ w', Below w.heap.size w w' → Lib.TabIs Tryd.prog w' "internal/strconv.uint64pow10" .u64 Lib.pow10Tab) := tab_later hT
  clear hT
  go_enter Tryd.func4, Tryd.ntmps4
  go_wp2_with fail
  refine (check_no a b _ h).mono ?_
  rintro e w1 ⟨rfl, h1⟩
  have A1 := (At.new w a b).step h1
  obtain ⟨c0, c1, hz, hB⟩ := A1
  clear h1
  go_wp2_with fail
  cases hr : Pl.read l with
  | none =>
    refine (read_none l _ hl hr).mono ?_
    rintro e w2 ⟨rfl, h2⟩
    have hB2 := hB.trans (h2.mono hB.size)
    clear h2 hB c0 c1 hz
    go_wp2_with fail
    refine (begun_any _ (HT.out _ (hB2.alloc hB2.size _))).mono ?_
    rintro e w3 ⟨rfl, h3⟩
    have hB3 := (hB2.alloc hB2.size _).trans (h3.mono (by simp; exact Nat.le_succ_of_le hB2.size))
    clear h3
    go_wp2
    go_ret
    exact ⟨rfl, hB3⟩
  | some p =>
    obtain ⟨x, y⟩ := p
    refine (read_some l x y _ hl hr).mono ?_
    rintro e w2 ⟨rfl, h2⟩
    obtain ⟨hx, hy, hs⟩ := (Pl.read_iff _ _ _).1 hr
    have hB2 := hB.trans (h2.mono hB.size)
    clear h2 hB c0 c1 hz hr
    go_wp2_with fail
    refine (show_ok x y _ ((Pl.inBB_iff x).2 hx) ((Pl.inBB_iff y).2 hy) (HT.out _ (hB2.alloc hB2.size _))).mono ?_
    rintro e w3 ⟨rfl, h3⟩
    have hB3 := (hB2.alloc hB2.size _).trans (h3.mono (by simp; exact Nat.le_succ_of_le hB2.size))
    rw [← hs]
    clear h3 hs
    go_wp2_with fail
    refine (begun_any _ (HT.out _ hB3)).mono ?_
    rintro e w4 ⟨rfl, h4⟩
    have hB4 := hB3.trans (h4.mono hB3.size)
    clear h4
    go_wp2
    go_ret
    exact ⟨by simp, hB4⟩

theorem shown_len {a b : Int} (ha : Pl.inB a) (hb : Pl.inB b) : (Pl.shown a b).length ≤ maxLen := by
  have la := Lib.itoa_length_le a (by have := ha.1; omega) (by have := ha.2; omega)
  have lb := Lib.itoa_length_le b (by have := hb.1; omega) (by have := hb.2; omega)
  unfold maxLen Pl.shown
  simp only [List.length_append, List.length_cons, List.length_nil]
  have : (if 0 ≤ b then [43] else [] : List UInt8).length ≤ 1 := by split <;> simp
  omega

set_option maxHeartbeats 1000000 in
theorem true_right (a b i : Int) (l : List UInt8) (w : World) (hl : l.length ≤ maxLen) (hi1 : -9223372036854775808 ≤ i) (hi2 : i ≤ 9223372036854775807)
    (hT : Lib.TabIs Tryd.prog w "internal/strconv.uint64pow10" .u64 Lib.pow10Tab) (ha : Pl.inBB a = true) (hb : Pl.inBB b = true) :
    Calls Tryd.prog 4 #[.agg #[.int .i64 a, .int .i64 b], .int .i64 i, .string ⟨l.toArray⟩] w fun e w' => e = .returned (.bool true) ∧ Below w.heap.size w w' := by
  have HT : Hid (∀ w', Below w.heap.size w w' → Lib.TabIs Tryd.prog w' "internal/strconv.uint64pow10" .u64 Lib.pow10Tab) := tab_later hT
  clear hT
  have hBa := (Pl.inBB_iff a).1 ha
  have hBb := (Pl.inBB_iff b).1 hb
  have a1 := hBa.1
  have a2 := hBa.2
  go_enter Tryd.func4, Tryd.ntmps4
  go_wp2_with fail
  refine (check_ok a b _ ha hb).mono ?_
  rintro e w1 ⟨rfl, h1⟩
  have A1 := (At.new w a b).step h1
  obtain ⟨c0, c1, hz, hB⟩ := id A1
  clear h1
  have HB : Hid (1 ≤ b → Pl.holds a b b = true) := Pl.holds_of_b ha hb
  by_cases hb1 : 1 ≤ b
  all_goals
    try have hbc := HB.out hb1
    go_wp2_with (go_at_call 12; refine (holds_any _ _ _ _).mono ?_; rintro e w' ⟨rfl, hbw⟩; have A2 := At.step (by assumption) hbw; obtain ⟨d0, d1, dz, dB⟩ := id A2; clear hbw)
    refine (choose_any i _ hi1 hi2).mono ?_
    rintro e w' ⟨c, hc0, hc1, rfl, rfl⟩
    have hcase : (Pl.holds a b (1 + c) = true ∧ 1 ≤ 1 + c + a ∧ Pl.holds a b (1 + c + a) = true) ∨ (Pl.holds a b (1 + c) = true ∧ ¬ 1 ≤ 1 + c + a) ∨
        (Pl.holds a b (1 + c) = false ∧ Pl.holds a b (1 + c + a) = true ∧ (1 + c + a != b) = false) ∨ (Pl.holds a b (1 + c) = false ∧ Pl.holds a b (1 + c + a) = false) := by
      cases hk : Pl.holds a b (1 + c) with
      | true =>
        by_cases hg : 1 ≤ 1 + c + a
        · exact Or.inl ⟨rfl, hg, Pl.holds_further hk hg (by omega)⟩
        · exact Or.inr (Or.inl ⟨rfl, hg⟩)
      | false =>
        cases hk2 : Pl.holds a b (1 + c + a) with
        | true =>
          have := Pl.holds_back hk2 hk (by omega) (by omega)
          exact Or.inr (Or.inr (Or.inl ⟨rfl, rfl, by simp [this]⟩))
        | false => exact Or.inr (Or.inr (Or.inr ⟨rfl, rfl⟩))
    rcases hcase with ⟨hk, hg, hk2⟩ | ⟨hk, hg⟩ | ⟨hk, hk2, he⟩ | ⟨hk, hk2⟩
    all_goals
      go_wp2_with (go_at_call 12; refine (holds_any _ _ _ _).mono ?_; rintro e w' ⟨rfl, hbw⟩; have A2 := At.step (by assumption) hbw; obtain ⟨d0, d1, dz, dB⟩ := id A2; clear hbw)
      refine (show_ok a b _ ha hb (HT.out _ (At.below (by assumption)))).mono ?_
      rintro e w3 ⟨rfl, h3⟩
      have A3 := At.step (by assumption) h3
      clear h3
      go_wp2_with fail
      refine (read_some (Pl.shown a b) a b _ (shown_len hBa hBb) ((Pl.read_iff _ _ _).2 ⟨hBa, hBb, rfl⟩)).mono ?_
      rintro e w4 ⟨rfl, h4⟩
      have A4 := At.step A3 h4
      clear h4 A3
      obtain ⟨e0, e1, ez, eB⟩ := id A4
      have ez' : w.heap.size < w4.heap.size := ez
      go_wp2_with fail
      cases hr : Pl.read l with
      | none =>
        refine (read_none l _ hl hr).mono ?_
        rintro e w5 ⟨rfl, h5⟩
        have eB1 : Below w.heap.size w w5 := (eB.alloc eB.size _).trans (h5.mono (by simp; omega))
        clear h5 e0 e1 ez ez' eB hr
        go_wp2_with fail
        refine (begun_any _ (HT.out _ (eB1.alloc eB1.size _))).mono ?_
        rintro e w6 ⟨rfl, h6⟩
        have eB2 := (eB1.alloc eB1.size _).trans (h6.mono (by simp; exact Nat.le_succ_of_le eB1.size))
        clear h6
        go_wp2
        go_ret
        exact ⟨rfl, eB2⟩
      | some p =>
        obtain ⟨x, y⟩ := p
        refine (read_some l x y _ hl hr).mono ?_
        rintro e w5 ⟨rfl, h5⟩
        obtain ⟨hx, hy, hs⟩ := (Pl.read_iff _ _ _).1 hr
        have eB1 : Below w.heap.size w w5 := (eB.alloc eB.size _).trans (h5.mono (by simp; omega))
        clear h5 e0 e1 ez ez' eB hr
        go_wp2_with fail
        refine (show_ok x y _ ((Pl.inBB_iff x).2 hx) ((Pl.inBB_iff y).2 hy) (HT.out _ (eB1.alloc eB1.size _))).mono ?_
        rintro e w6 ⟨rfl, h6⟩
        have eB2 := (eB1.alloc eB1.size _).trans (h6.mono (by simp; exact Nat.le_succ_of_le eB1.size))
        rw [← hs]
        clear h6 hs
        go_wp2_with fail
        refine (begun_any _ (HT.out _ eB2)).mono ?_
        rintro e w7 ⟨rfl, h7⟩
        have eB3 := eB2.trans (h7.mono eB2.size)
        clear h7
        go_wp2
        go_ret
        exact ⟨by simp, eB3⟩
end Go.Proofs.YthlpcmgeelkncaaDoor
