/-
  The strict reader of paths: a test, at any level.
-/
import Derived.Test.YtbfkopjpfkgjhaaGreatDoorRdE
import Derived.Test.YtbfkopjpfkgjhaaGreatDoorShD
import Derived.Test.YtbfkopjpfkgjhaaGreatDoorWgE
import Derived.Deep.RegionLaw
namespace Go.Proofs.YtbfkopjpfkgjhaaGreatDoor
open Go.RowKit

/-- from there on -/
def frm (n : Nat) : Nat → Bool := fun j => decide (n ≤ j)
/-- what is left is no longer than what was -/
def Shrinks {β : Type} (f : List UInt8 → Option (β × List UInt8)) : Prop := ∀ l x r, f l = some (x, r) → r.length ≤ l.length
theorem shr_name : Shrinks Pl.rdName := fun _ _ _ h => name_rest h
theorem shr_value : Shrinks Pl.rdValue := fun _ _ _ h => value_rest h
theorem shr_link : ∀ k, Shrinks (Pl.rdLinkFrom k)
  | 0 => fun l x r h => by simp [Pl.rdLinkFrom] at h
  | k + 1 => fun l x r h => by
    unfold Pl.rdLinkFrom at h
    split at h
    · rename_i h2
      injection h with h
      injection h with h3 h4
      subst h4
      exact Pl.tk_len h2
    · exact shr_link k l x r h
theorem shr_begin : ∀ k, Shrinks (Pl.rdBeginFrom k)
  | 0 => fun l x r h => by simp [Pl.rdBeginFrom] at h
  | k + 1 => fun l x r h => by
    unfold Pl.rdBeginFrom at h
    split at h
    · rename_i h2
      injection h with h
      injection h with h3 h4
      subst h4
      exact Pl.tk_len h2
    · exact shr_begin k l x r h
theorem shr_sign (k0 : Nat) : ∀ k, Shrinks (Pl.rdSignFrom k0 k)
  | 0 => fun l x r h => by simp [Pl.rdSignFrom] at h
  | k + 1 => fun l x r h => by
    unfold Pl.rdSignFrom at h
    split at h
    · split at h
      · rename_i h2
        injection h with h
        injection h with h3 h4
        subst h4
        exact Pl.tk_len h2
      · exact shr_sign k0 k l x r h
    · cases h
theorem shr_nth : Shrinks Pl.rdNth := fun l x r h => by
  unfold Pl.rdNth at h
  split at h
  · cases h
  · split at h
    · injection h with h
      injection h with h3 h4
      subst h4
      exact drop_len l
    · cases h
theorem shr_test {α : Type} {rl : List UInt8 → Option (List α × List UInt8)} (hr : Shrinks rl) (k : Nat) : Shrinks (Pl.rdTest rl k) := fun l x r h => by
  unfold Pl.rdTest at h
  split at h
  · cases h
  rename_i name l1 e1
  split at h
  · cases h
  rename_i m l2 e2
  split at h
  · cases h
  rename_i value l3 e3
  split at h
  · cases h
  rename_i y l4 e4
  split at h
  · cases h
  rename_i list l5 e5
  split at h
  · cases h
  rename_i l6 e6
  injection h with h
  injection h with _ h
  subst h
  have a1 : l1.length ≤ l.length := by
    unfold Pl.rdT1 at e1
    split at e1
    · exact shr_name _ _ _ e1
    · injection e1 with e1; injection e1 with _ e1; subst e1; exact Nat.le_refl _
  have a2 : l2.length ≤ l1.length := shr_sign _ _ _ _ _ e2
  have a3 : l3.length ≤ l2.length := by
    unfold Pl.rdT2 at e3
    split at e3
    · exact shr_value _ _ _ e3
    · injection e3 with e3; injection e3 with _ e3; subst e3; exact Nat.le_refl _
  have a4 : l4.length ≤ l3.length := by
    unfold Pl.rdT3 at e4
    split at e4
    · exact shr_nth _ _ _ e4
    · injection e4 with e4; injection e4 with _ e4; subst e4; exact Nat.le_refl _
  have a5 : l5.length ≤ l4.length := by
    unfold Pl.rdT4 at e5
    split at e5
    · exact hr _ _ _ e5
    · injection e5 with e5; injection e5 with _ e5; subst e5; exact Nat.le_refl _
  have a6 := Pl.tk_len e6
  omega
/-- what readList tells of a level's lists -/
def ListSays {α : Type} (A : MemL α) (rl : List UInt8 → Option (List α × List UInt8)) (b : Nat) (l : List UInt8) (w : World) (e : Ending) (w' : World) : Prop :=
  (rl l = none ∧ e = .panicked Left ∧ w.grownBy w' (some b)) ∨
  (∃ x r au cu, rl l = some (x, r) ∧ e = .returned (.slice au x.length cu) ∧ A (mask (frm w.heap.size) w') (.slice au x.length cu) x ∧ RdAt b r w' ∧ w.grownBy w' (some b))
def Reads {α : Type} (A : MemL α) (rl : List UInt8 → Option (List α × List UInt8)) (d : Int) : Prop := ∀ b l w, RdAt b l w → l.length ≤ maxLen → Lf w → 2 ≤ b → Calls Tryz.prog 25 #[.pointer (some ⟨b, 0, none⟩), .int .i64 d] w (ListSays A rl b l w)
def TestSays {α : Type} (A : MemL α) (rl : List UInt8 → Option (List α × List UInt8)) (b k : Nat) (l : List UInt8) (w : World) (e : Ending) (w' : World) : Prop :=
  (Pl.rdTest rl k l = none ∧ e = .panicked Left ∧ w.grownBy w' (some b)) ∨
  (∃ (t : Pl.Tst α) (r : List UInt8) (au : Option Addr) (cu : Nat), Pl.rdTest rl k l = some (t, r) ∧ e = .returned (.agg #[.int .i64 t.kind, .string ⟨t.name.toArray⟩, .string ⟨t.value.toArray⟩, .int .i64 t.a, .int .i64 t.b, .slice au t.list.length cu]) ∧ A (mask (frm w.heap.size) w') (.slice au t.list.length cu) t.list ∧ RdAt b r w' ∧ w.grownBy w' (some b))
/-- the reader, and the box in which the test is made -/
structure TB (b : Nat) (l : List UInt8) (w W : World) (c0 c1 c2 c3 c4 c5 : Value) : Prop where
  rd : RdAt b l W
  bx : W.heap[w.heap.size + 1]? = some (.cells #[c0, c1, c2, c3, c4, c5] 61)
  rs : W.heap[w.heap.size]? = some (.cells #[.int .i64 0, .string ⟨#[]⟩, .string ⟨#[]⟩, .int .i64 0, .int .i64 0, .slice none 0 0] 61)
  gb : w.grownBy W (some b)
theorem TB.step {b : Nat} {l l' : List UInt8} {w W W' : World} {c0 c1 c2 c3 c4 c5 : Value} (h : TB b l w W c0 c1 c2 c3 c4 c5) (hb : b < w.heap.size) (hg : W.grownBy W' (some b)) (hr : RdAt b l' W') : TB b l' w W' c0 c1 c2 c3 c4 c5 :=
  ⟨hr, gb_block h.bx hg (by omega), gb_block h.rs hg (by omega), gb_chain h.gb hg⟩
theorem TB.on {b : Nat} {l : List UInt8} {w W W' : World} {c0 c1 c2 c3 c4 c5 : Value} (h : TB b l w W c0 c1 c2 c3 c4 c5) (hb : Below W.heap.size W W') : TB b l w W' c0 c1 c2 c3 c4 c5 :=
  ⟨h.rd.on hb, (hb.block _ (Array.getElem?_eq_some_iff.1 h.bx).1).trans h.bx, (hb.block _ (Array.getElem?_eq_some_iff.1 h.rs).1).trans h.rs, gb_on h.gb hb⟩
theorem TB.cells {b : Nat} {l : List UInt8} {w W : World} {c0 c1 c2 c3 c4 c5 : Value} (h : TB b l w W c0 c1 c2 c3 c4 c5) : W.cell? ⟨w.heap.size + 1, 0, none⟩ = some c0 ∧ W.cell? ⟨w.heap.size + 1, 1, none⟩ = some c1 ∧ W.cell? ⟨w.heap.size + 1, 2, none⟩ = some c2 ∧ W.cell? ⟨w.heap.size + 1, 3, none⟩ = some c3 ∧ W.cell? ⟨w.heap.size + 1, 4, none⟩ = some c4 ∧ W.cell? ⟨w.heap.size + 1, 5, none⟩ = some c5 := blk6_cells h.bx
theorem TB.frozen {b : Nat} {l : List UInt8} {w W : World} {c0 c1 c2 c3 c4 c5 : Value} (h : TB b l w W c0 c1 c2 c3 c4 c5) (i : Nat) : W.frozen? ⟨w.heap.size + 1, i, none⟩ = false := by simp [World.frozen?, h.bx]
theorem TB.put {b : Nat} {l : List UInt8} {w W : World} {c0 c1 c2 c3 c4 c5 : Value} (h : TB b l w W c0 c1 c2 c3 c4 c5) (hb : b < w.heap.size) (i : Nat) (v : Value) {d0 d1 d2 d3 d4 d5 : Value} (hd : (W.setCell ⟨w.heap.size + 1, i, none⟩ v).heap[w.heap.size + 1]? = some (.cells #[d0, d1, d2, d3, d4, d5] 61)) : TB b l w (W.setCell ⟨w.heap.size + 1, i, none⟩ v) d0 d1 d2 d3 d4 d5 :=
  ⟨rd_apart h.rd (by omega) v, hd, by rw [Below.heap_setCell _ _ _ _ (by show w.heap.size ≠ w.heap.size + 1; omega)]; exact h.rs, gb_set h.gb (by omega) i v⟩
section
variable {W : World} {N : Nat} {c0 c1 c2 c3 c4 c5 : Value} (h : W.heap[N]? = some (.cells #[c0, c1, c2, c3, c4, c5] 61)) (v : Value)
include h
theorem set6_0 : (W.setCell ⟨N, 0, none⟩ v).heap[N]? = some (.cells #[v, c1, c2, c3, c4, c5] 61) := by simp [World.setCell, Array.getElem?_modify, h]
theorem set6_1 : (W.setCell ⟨N, 1, none⟩ v).heap[N]? = some (.cells #[c0, v, c2, c3, c4, c5] 61) := by simp [World.setCell, Array.getElem?_modify, h]
theorem set6_2 : (W.setCell ⟨N, 2, none⟩ v).heap[N]? = some (.cells #[c0, c1, v, c3, c4, c5] 61) := by simp [World.setCell, Array.getElem?_modify, h]
theorem set6_3 : (W.setCell ⟨N, 3, none⟩ v).heap[N]? = some (.cells #[c0, c1, c2, v, c4, c5] 61) := by simp [World.setCell, Array.getElem?_modify, h]
theorem set6_4 : (W.setCell ⟨N, 4, none⟩ v).heap[N]? = some (.cells #[c0, c1, c2, c3, v, c5] 61) := by simp [World.setCell, Array.getElem?_modify, h]
theorem set6_5 : (W.setCell ⟨N, 5, none⟩ v).heap[N]? = some (.cells #[c0, c1, c2, c3, c4, v] 61) := by simp [World.setCell, Array.getElem?_modify, h]
end
end Go.Proofs.YtbfkopjpfkgjhaaGreatDoor
/-
  The strict reader of paths: a test is read.
-/
namespace Go.Proofs.YtbfkopjpfkgjhaaGreatDoor
open Go.RowKit

theorem nth_end {m : Nat} (h : Pl.kNth m = true) : fEnd m = [41] := by
  simp [Pl.kNth] at h
  have : m = 9 ∨ m = 10 := by omega
  rcases this with rfl | rfl <;> rfl
theorem results_t {fn : Func} {p : Tmp} (h : fn.results = #[.cell p 61]) (tmps : Array Value) (W : World) (B : Nat) {c0 c1 c2 c3 c4 c5 : Value} (hp : tmps[p]?.getD undef = .pointer (some ⟨B, 0, none⟩)) (hb : W.heap[B]? = some (.cells #[c0, c1, c2, c3, c4, c5] 61)) : (results fn tmps).run Tryz.prog W = .ok (.agg #[c0, c1, c2, c3, c4, c5]) W := by
  obtain ⟨h0, h1, h2, h3, h4, h5⟩ := blk6_cells hb
  simp [results, h, hp, go_sem, h0, h1, h2, h3, h4, h5]
theorem blk_set_other {W : World} {N M i : Nat} {o : Obj} (v : Value) (h : W.heap[N]? = some o) (hne : N ≠ M) : (W.setCell ⟨M, i, none⟩ v).heap[N]? = some o := by
  rw [Below.heap_setCell _ _ _ _ (by exact hne)]
  exact h
set_option maxRecDepth 100000 in
set_option maxHeartbeats 8000000 in
theorem readTest_any {α : Type} {A : MemL α} (hA : IsL A) (hS : IsSub A) {rl : List UInt8 → Option (List α × List UInt8)} {d : Int} (hd : 1 ≤ d ∧ d ≤ 3) (hr : Reads A rl (d + 1)) (hrs : Shrinks rl) (b k : Nat) (hk : 1 ≤ k ∧ k ≤ 15) (l : List UInt8) (w : World) (h : RdAt b l w) (hl : l.length ≤ maxLen) (hL : Lf w) (hb : 2 ≤ b) :
    Calls Tryz.prog 83 #[.pointer (some ⟨b, 0, none⟩), .int .i64 k, .int .i64 d] w (TestSays A rl b k l w) := by
  have hbw := h.facts.2.2
  have hba := on_alloc w (.cells #[.int .i64 0, .string ⟨#[]⟩, .string ⟨#[]⟩, .int .i64 0, .int .i64 0, .slice none 0 0] 61)
  have hbb := on_alloc (w.alloc (.cells #[.int .i64 0, .string ⟨#[]⟩, .string ⟨#[]⟩, .int .i64 0, .int .i64 0, .slice none 0 0] 61)) (.cells #[.int .i64 0, .string ⟨#[]⟩, .string ⟨#[]⟩, .int .i64 0, .int .i64 0, .slice none 0 0] 61)
  have HT1 : Hid (TB b l w ((w.alloc (.cells #[.int .i64 0, .string ⟨#[]⟩, .string ⟨#[]⟩, .int .i64 0, .int .i64 0, .slice none 0 0] 61)).alloc (.cells #[.int .i64 0, .string ⟨#[]⟩, .string ⟨#[]⟩, .int .i64 0, .int .i64 0, .slice none 0 0] 61)) (.int .i64 0) (.string ⟨#[]⟩) (.string ⟨#[]⟩) (.int .i64 0) (.int .i64 0) (.slice none 0 0)) := by
    refine ⟨(h.on hba).on hbb, ?_, ?_, gb_on (gb_on (World.grownBy.refl w _) hba) hbb⟩
    · have := World.alloc_heap_new (w.alloc (.cells #[.int .i64 0, .string ⟨#[]⟩, .string ⟨#[]⟩, .int .i64 0, .int .i64 0, .slice none 0 0] 61)) (.cells #[.int .i64 0, .string ⟨#[]⟩, .string ⟨#[]⟩, .int .i64 0, .int .i64 0, .slice none 0 0] 61)
      simp only [World.size_alloc] at this
      exact this
    · exact (hbb.block _ (by simp)).trans (World.alloc_heap_new w _)
  have HL : Hid (Lf w) := hL
  have HR : Hid (Reads A rl (d + 1)) := hr
  have HRS : Hid (Shrinks rl) := hrs
  have HA : Hid (IsL A) := hA
  have HSUB : Hid (IsSub A) := hS
  have hl2 := hl
  unfold maxLen at hl2
  have hwr : wrap64 (d + 1) = d + 1 := IntWalk.wrap64_in _ ⟨by omega, by omega⟩
  have l1 : (0 : Int) ≤ (k : Int) := by omega
  have l2 : (k : Int) < 16 := by omega
  obtain ⟨p0, -⟩ := (hL.gb HT1.out.gb hb).forms k hk.2
  clear h hba hbb hL hr hrs hA hS
  cases hkn : Pl.kName (k : Int)
  case' false =>
    rw [hkn] at p0
    have HE1 : Hid (Pl.rdT1 k l = some ([], l)) := by
      unfold Hid Pl.rdT1
      rw [hkn]
      rfl
    go_enter Tryz.func83, Tryz.ntmps83
    go_wp2_with fail
    generalize (w.alloc (.cells #[.int .i64 0, .string ⟨#[]⟩, .string ⟨#[]⟩, .int .i64 0, .int .i64 0, .slice none 0 0] 61)).alloc (.cells #[.int .i64 0, .string ⟨#[]⟩, .string ⟨#[]⟩, .int .i64 0, .int .i64 0, .slice none 0 0] 61) = W2 at *
    have hall : ∃ name k1, Hid (Pl.rdT1 k l = some (name, k1)) ∧ k1.length ≤ l.length ∧ Hid (TB b k1 w W2 (.int .i64 0) (.string ⟨name.toArray⟩) (.string ⟨#[]⟩) (.int .i64 0) (.int .i64 0) (.slice none 0 0)) := ⟨[], l, HE1, Nat.le_refl _, HT1⟩
    clear HE1 HT1 p0
  case' true =>
    rw [hkn] at p0
    have HE1 : Hid (Pl.rdT1 k l = Pl.rdName l) := by
      unfold Hid Pl.rdT1
      rw [hkn]
      rfl
    go_enter Tryz.func83, Tryz.ntmps83
    go_wp2_with fail
    generalize (w.alloc (.cells #[.int .i64 0, .string ⟨#[]⟩, .string ⟨#[]⟩, .int .i64 0, .int .i64 0, .slice none 0 0] 61)).alloc (.cells #[.int .i64 0, .string ⟨#[]⟩, .string ⟨#[]⟩, .int .i64 0, .int .i64 0, .slice none 0 0] 61) = W1 at *
    refine (name_any b l _ HT1.out.rd hl).mono ?_
    rintro e Wa (⟨hn, rfl, g2⟩ | ⟨name, k1, hn, rfl, r2, g2⟩)
    · have G2 : Hid (w.grownBy Wa (some b)) := gb_chain HT1.out.gb g2
      have HN : Hid (Pl.rdTest rl k l = none) := by
        unfold Hid Pl.rdTest
        rw [HE1.out, hn]
      go_wp2
      exact ⟨rfl, Or.inl ⟨HN.out, rfl, G2.out⟩⟩
    have HT2 : Hid (TB b k1 w Wa _ _ _ _ _ _) := HT1.out.step hbw g2 r2
    obtain ⟨-, c1, -⟩ := HT2.out.cells
    have f1 := HT2.out.frozen 1
    have HT3 : Hid (TB b k1 w (Wa.setCell ⟨w.heap.size + 1, 1, none⟩ (.string ⟨name.toArray⟩)) (.int .i64 0) (.string ⟨name.toArray⟩) (.string ⟨#[]⟩) (.int .i64 0) (.int .i64 0) (.slice none 0 0)) := HT2.out.put hbw 1 _ (set6_1 HT2.out.bx _)
    have HE2 : Hid (Pl.rdT1 k l = some (name, k1)) := HE1.out.trans hn
    have hlk := name_rest hn
    clear HT1 HT2 g2 r2 hn HE1 p0
    go_wp2_with fail
    clear c1 f1
    generalize Wa.setCell ⟨w.heap.size + 1, 1, none⟩ (.string ⟨name.toArray⟩) = W2 at *
    have hall : ∃ name k1, Hid (Pl.rdT1 k l = some (name, k1)) ∧ k1.length ≤ l.length ∧ Hid (TB b k1 w W2 (.int .i64 0) (.string ⟨name.toArray⟩) (.string ⟨#[]⟩) (.int .i64 0) (.int .i64 0) (.slice none 0 0)) := ⟨name, k1, HE2, hlk, HT3⟩
    clear HE2 HT3 hlk
  all_goals
    obtain ⟨nm, l1', HE1, hle1, HT⟩ := hall
    refine (readSign_any b k hk l1' _ HT.out.rd (HL.out.gb HT.out.gb hb) hb).mono ?_
    rintro e W4 (⟨hn, rfl, g4⟩ | ⟨m, l2', hn, hm1, hm15, rfl, r4, g4⟩)
    · have G4 : Hid (w.grownBy W4 (some b)) := gb_chain HT.out.gb g4
      have HN : Hid (Pl.rdTest rl k l = none) := by
        unfold Hid Pl.rdTest
        rw [HE1.out]
        dsimp only
        rw [hn]
      go_wp2
      exact ⟨rfl, Or.inl ⟨HN.out, rfl, G4.out⟩⟩
    have HT4 : Hid (TB b l2' w W4 _ _ _ _ _ _) := HT.out.step hbw g4 r4
    obtain ⟨c0, -⟩ := HT4.out.cells
    have f0 := HT4.out.frozen 0
    have HT5 : Hid (TB b l2' w (W4.setCell ⟨w.heap.size + 1, 0, none⟩ (.int .i64 m)) (.int .i64 m) (.string ⟨nm.toArray⟩) (.string ⟨#[]⟩) (.int .i64 0) (.int .i64 0) (.slice none 0 0)) := HT4.out.put hbw 0 _ (set6_0 HT4.out.bx _)
    have HES : Hid (Pl.rdSign k l1' = some (m, l2')) := hn
    have hle2 : l2'.length ≤ l1'.length := shr_sign _ _ _ _ _ hn
    have m1 : (0 : Int) ≤ (m : Int) := by omega
    have m2 : (m : Int) < 16 := by omega
    obtain ⟨p0, p1, p2, p3, p4, p5, p6⟩ := (HL.out.gb HT5.out.gb hb).forms m hm15
    obtain ⟨bv, hbv⟩ : ∃ y, Pl.kValue (m : Int) = y := ⟨_, rfl⟩
    obtain ⟨bn, hbn⟩ : ∃ y, Pl.kNth (m : Int) = y := ⟨_, rfl⟩
    obtain ⟨bl, hbl⟩ : ∃ y, Pl.kList (m : Int) = y := ⟨_, rfl⟩
    rw [hbv] at p1
    rw [hbn] at p2
    rw [hbl] at p3
    have hba := on_alloc (W4.setCell ⟨w.heap.size + 1, 0, none⟩ (.int .i64 m)) (.cells #[.bool (Pl.kName m), .bool bv, .bool bn, .bool bl, .string ⟨(fBegin m).toArray⟩, .string ⟨(fSign m).toArray⟩, .string ⟨(fEnd m).toArray⟩] 96)
    have HT6 : Hid (TB b l2' w ((W4.setCell ⟨w.heap.size + 1, 0, none⟩ (.int .i64 m)).alloc (.cells #[.bool (Pl.kName m), .bool bv, .bool bn, .bool bl, .string ⟨(fBegin m).toArray⟩, .string ⟨(fSign m).toArray⟩, .string ⟨(fEnd m).toArray⟩] 96)) (.int .i64 m) (.string ⟨nm.toArray⟩) (.string ⟨#[]⟩) (.int .i64 0) (.int .i64 0) (.slice none 0 0)) := HT5.out.on hba
    have X8 := World.alloc_heap_new (W4.setCell ⟨w.heap.size + 1, 0, none⟩ (.int .i64 m)) (.cells #[.bool (Pl.kName m), .bool bv, .bool bn, .bool bl, .string ⟨(fBegin m).toArray⟩, .string ⟨(fSign m).toArray⟩, .string ⟨(fEnd m).toArray⟩] 96)
    have hz4 : (W4.setCell ⟨w.heap.size + 1, 0, none⟩ (.int .i64 m)).heap.size = W4.heap.size := by simp [World.setCell]
    rw [hz4] at X8
    have HX8 : Hid (_ = _) := X8
    have hs4 : w.heap.size + 2 ≤ W4.heap.size := by
      have := (Array.getElem?_eq_some_iff.1 HT4.out.bx).1
      omega
    have HPRE : Hid (Pl.rdTest rl k l = match Pl.rdT2 m l2' with
      | none => none
      | some (value, l3) => match Pl.rdT3 m l3 with
        | none => none
        | some (x, l4) => match Pl.rdT4 rl m l4 with
          | none => none
          | some (list, l5) => match Pl.tk (fEnd m) l5 with
            | none => none
            | some l6 => some (⟨m, nm, value, x.1, x.2, list⟩, l6)) := by
      unfold Hid
      conv => lhs; unfold Pl.rdTest
      rw [HE1.out]
      dsimp only
      rw [HES.out]
      rfl
    clear HT HT4 HT5 g4 r4 hn HE1 HES hba X8 hz4
    have hcase : (bv = false ∧ bn = false ∧ bl = false) ∨ (bv = true ∧ bn = false ∧ bl = false) ∨ (bv = false ∧ bn = true ∧ bl = false) ∨ (bv = false ∧ bn = false ∧ bl = true) := by
      subst hbv hbn hbl
      by_cases q1 : 4 ≤ (m : Int) ∧ (m : Int) ≤ 8
      · exact Or.inr (Or.inl ⟨by simp [Pl.kValue]; omega, by simp [Pl.kNth]; omega, by simp [Pl.kList]; omega⟩)
      · by_cases q2 : (m : Int) = 9 ∨ (m : Int) = 10
        · exact Or.inr (Or.inr (Or.inl ⟨by simp [Pl.kValue]; omega, by simp [Pl.kNth]; omega, by simp [Pl.kList]; omega⟩))
        · by_cases q3 : 13 ≤ (m : Int) ∧ (m : Int) ≤ 15
          · exact Or.inr (Or.inr (Or.inr ⟨by simp [Pl.kValue]; omega, by simp [Pl.kNth]; omega, by simp [Pl.kList]; omega⟩))
          · exact Or.inl ⟨by simp [Pl.kValue]; omega, by simp [Pl.kNth]; omega, by simp [Pl.kList]; omega⟩
    rcases hcase with ⟨rfl, rfl, rfl⟩ | ⟨rfl, rfl, rfl⟩ | ⟨rfl, rfl, rfl⟩ | ⟨rfl, rfl, rfl⟩
    have E2 : Hid (Pl.rdT2 m l2' = some ([], l2')) := by
      unfold Hid Pl.rdT2
      rw [hbv]
      rfl
    have E3 : Hid (∀ q, Pl.rdT3 m q = some ((0, 0), q)) := by
      intro q
      unfold Pl.rdT3
      rw [hbn]
      rfl
    have E4 : Hid (∀ q, Pl.rdT4 rl m q = some ([], q)) := by
      intro q
      unfold Pl.rdT4
      rw [hbl]
      rfl
    go_wp2_with fail
    generalize (W4.setCell ⟨w.heap.size + 1, 0, none⟩ (.int .i64 m)).alloc (.cells #[.bool (Pl.kName m), .bool false, .bool false, .bool false, .string ⟨(fBegin m).toArray⟩, .string ⟨(fSign m).toArray⟩, .string ⟨(fEnd m).toArray⟩] 96) = W7 at *
    have hall : ∃ (value : List UInt8) (x0 x1 : Int) (list : List α) (l5 : List UInt8) (au : Option Addr) (cu : Nat), Hid (Pl.rdTest rl k l = match Pl.tk (fEnd m) l5 with
        | none => none
        | some l6 => some (⟨m, nm, value, x0, x1, list⟩, l6)) ∧ l5.length ≤ l.length ∧ Hid (TB b l5 w W7 (.int .i64 m) (.string ⟨nm.toArray⟩) (.string ⟨value.toArray⟩) (.int .i64 x0) (.int .i64 x1) (.slice au list.length cu)) ∧ Hid (W7.heap[W4.heap.size]? = some (.cells #[.bool (Pl.kName m), .bool false, .bool false, .bool false, .string ⟨(fBegin m).toArray⟩, .string ⟨(fSign m).toArray⟩, .string ⟨(fEnd m).toArray⟩] 96)) ∧ Hid (A (mask (frm (w.heap.size + 2)) W7) (.slice au list.length cu) list) := by
      refine ⟨[], 0, 0, [], l2', none, 0, ?_, by omega, HT6, HX8, HA.out.nil _⟩
      unfold Hid
      rw [HPRE.out, E2.out]
      dsimp only
      rw [E3.out]
      dsimp only
      rw [E4.out]
    clear HT6 HX8 HPRE E2 E3 E4 c0 f0 p0 p1 p2 p3 p4 p5 p6
    rotate_left
    have E2 : Hid (Pl.rdT2 m l2' = Pl.rdValue l2') := by
      unfold Hid Pl.rdT2
      rw [hbv]
      rfl
    have E3 : Hid (∀ q, Pl.rdT3 m q = some ((0, 0), q)) := by
      intro q
      unfold Pl.rdT3
      rw [hbn]
      rfl
    have E4 : Hid (∀ q, Pl.rdT4 rl m q = some ([], q)) := by
      intro q
      unfold Pl.rdT4
      rw [hbl]
      rfl
    go_wp2_with fail
    generalize (W4.setCell ⟨w.heap.size + 1, 0, none⟩ (.int .i64 m)).alloc (.cells #[.bool (Pl.kName m), .bool true, .bool false, .bool false, .string ⟨(fBegin m).toArray⟩, .string ⟨(fSign m).toArray⟩, .string ⟨(fEnd m).toArray⟩] 96) = W5 at *
    refine (value_any b l2' _ HT6.out.rd (Nat.le_trans (by omega) hl)).mono ?_
    rintro e W6 (⟨hn, rfl, g6⟩ | ⟨value, l3', hn, rfl, r6, g6⟩)
    · have G6 : Hid (w.grownBy W6 (some b)) := gb_chain HT6.out.gb g6
      have HN : Hid (Pl.rdTest rl k l = none) := by
        unfold Hid
        rw [HPRE.out, E2.out, hn]
      go_wp2
      exact ⟨rfl, Or.inl ⟨HN.out, rfl, G6.out⟩⟩
    have HT7 : Hid (TB b l3' w W6 _ _ _ _ _ _) := HT6.out.step hbw g6 r6
    have HX7 : Hid (W6.heap[W4.heap.size]? = _) := gb_block HX8.out g6 (by omega)
    have hle3 := value_rest hn
    obtain ⟨-, -, c2, -⟩ := HT7.out.cells
    have f2 := HT7.out.frozen 2
    have HT8 : Hid (TB b l3' w (W6.setCell ⟨w.heap.size + 1, 2, none⟩ (.string ⟨value.toArray⟩)) (.int .i64 m) (.string ⟨nm.toArray⟩) (.string ⟨value.toArray⟩) (.int .i64 0) (.int .i64 0) (.slice none 0 0)) := HT7.out.put hbw 2 _ (set6_2 HT7.out.bx _)
    have HX9 : Hid ((W6.setCell ⟨w.heap.size + 1, 2, none⟩ (.string ⟨value.toArray⟩)).heap[W4.heap.size]? = _) := blk_set_other _ HX7.out (by omega)
    have HV : Hid (Pl.rdValue l2' = some (value, l3')) := hn
    obtain ⟨-, -, d2, d3, -, -, d6⟩ := blk7_cells HX7.out
    obtain ⟨-, -, e2, e3, -, -, e6⟩ := blk7_cells HX9.out
    clear HT6 HX8 HT7 HX7 g6 r6 hn c0 f0 p0 p1 p2 p3 p4 p5 p6
    go_wp2_with fail
    clear d2 d3 d6 e2 e3 e6 c2 f2
    generalize W6.setCell ⟨w.heap.size + 1, 2, none⟩ (.string ⟨value.toArray⟩) = W7 at *
    have hall : ∃ (value : List UInt8) (x0 x1 : Int) (list : List α) (l5 : List UInt8) (au : Option Addr) (cu : Nat), Hid (Pl.rdTest rl k l = match Pl.tk (fEnd m) l5 with
        | none => none
        | some l6 => some (⟨m, nm, value, x0, x1, list⟩, l6)) ∧ l5.length ≤ l.length ∧ Hid (TB b l5 w W7 (.int .i64 m) (.string ⟨nm.toArray⟩) (.string ⟨value.toArray⟩) (.int .i64 x0) (.int .i64 x1) (.slice au list.length cu)) ∧ Hid (W7.heap[W4.heap.size]? = some (.cells #[.bool (Pl.kName m), .bool true, .bool false, .bool false, .string ⟨(fBegin m).toArray⟩, .string ⟨(fSign m).toArray⟩, .string ⟨(fEnd m).toArray⟩] 96)) ∧ Hid (A (mask (frm (w.heap.size + 2)) W7) (.slice au list.length cu) list) := by
      refine ⟨value, 0, 0, [], l3', none, 0, ?_, by omega, HT8, HX9, HA.out.nil _⟩
      unfold Hid
      rw [HPRE.out, E2.out, HV.out]
      dsimp only
      rw [E3.out]
      dsimp only
      rw [E4.out]
    clear HT8 HX9 HPRE E2 E3 E4 HV
    rotate_left
    have E2 : Hid (Pl.rdT2 m l2' = some ([], l2')) := by
      unfold Hid Pl.rdT2
      rw [hbv]
      rfl
    have E3 : Hid (∀ q, Pl.rdT3 m q = Pl.rdNth q) := by
      intro q
      unfold Pl.rdT3
      rw [hbn]
      rfl
    have E4 : Hid (∀ q, Pl.rdT4 rl m q = some ([], q)) := by
      intro q
      unfold Pl.rdT4
      rw [hbl]
      rfl
    have hfe : fEnd m = [41] := nth_end hbn
    go_wp2_with fail
    generalize (W4.setCell ⟨w.heap.size + 1, 0, none⟩ (.int .i64 m)).alloc (.cells #[.bool (Pl.kName m), .bool false, .bool true, .bool false, .string ⟨(fBegin m).toArray⟩, .string ⟨(fSign m).toArray⟩, .string ⟨(fEnd m).toArray⟩] 96) = W5 at *
    have hcon := readNth_any b l2' W5 HT6.out.rd (Nat.le_trans (by omega) hl)
    rw [show (⟨#[41]⟩ : ByteArray) = ⟨(fEnd m).toArray⟩ by rw [hfe]] at hcon
    refine hcon.mono ?_
    clear hcon hfe
    rintro e W6 (⟨hn, rfl, g6⟩ | ⟨⟨x0, x1⟩, l3', hn, rfl, r6, g6⟩)
    · have G6 : Hid (w.grownBy W6 (some b)) := gb_chain HT6.out.gb g6
      have HN : Hid (Pl.rdTest rl k l = none) := by
        unfold Hid
        rw [HPRE.out, E2.out]
        dsimp only
        rw [E3.out, hn]
      go_wp2
      exact ⟨rfl, Or.inl ⟨HN.out, rfl, G6.out⟩⟩
    dsimp only
    have HT7 : Hid (TB b l3' w W6 _ _ _ _ _ _) := HT6.out.step hbw g6 r6
    have HX7 : Hid (W6.heap[W4.heap.size]? = _) := gb_block HX8.out g6 (by omega)
    have hle3 := shr_nth _ _ _ hn
    obtain ⟨-, -, -, c3, c4, -⟩ := HT7.out.cells
    have f3 := HT7.out.frozen 3
    have f4 := HT7.out.frozen 4
    have HT7a : Hid (TB b l3' w (W6.setCell ⟨w.heap.size + 1, 3, none⟩ (.int .i64 x0)) _ _ _ (.int .i64 x0) _ _) := HT7.out.put hbw 3 _ (set6_3 HT7.out.bx _)
    have HT8 : Hid (TB b l3' w ((W6.setCell ⟨w.heap.size + 1, 3, none⟩ (.int .i64 x0)).setCell ⟨w.heap.size + 1, 4, none⟩ (.int .i64 x1)) (.int .i64 m) (.string ⟨nm.toArray⟩) (.string ⟨#[]⟩) (.int .i64 x0) (.int .i64 x1) (.slice none 0 0)) := HT7a.out.put hbw 4 _ (set6_4 HT7a.out.bx _)
    have HX9 : Hid (((W6.setCell ⟨w.heap.size + 1, 3, none⟩ (.int .i64 x0)).setCell ⟨w.heap.size + 1, 4, none⟩ (.int .i64 x1)).heap[W4.heap.size]? = _) := blk_set_other _ (blk_set_other _ HX7.out (by omega)) (by omega)
    have HV : Hid (Pl.rdNth l2' = some ((x0, x1), l3')) := hn
    obtain ⟨-, -, d2, d3, -, -, d6⟩ := blk7_cells HX7.out
    obtain ⟨-, -, e2, e3, -, -, e6⟩ := blk7_cells HX9.out
    clear HT6 HX8 HT7 HT7a HX7 g6 r6 hn c0 f0 p0 p1 p2 p3 p4 p5 p6
    go_wp2_with fail
    clear d2 d3 d6 e2 e3 e6 c3 c4 f3 f4
    generalize (W6.setCell ⟨w.heap.size + 1, 3, none⟩ (.int .i64 x0)).setCell ⟨w.heap.size + 1, 4, none⟩ (.int .i64 x1) = W7 at *
    have hall : ∃ (value : List UInt8) (x0 x1 : Int) (list : List α) (l5 : List UInt8) (au : Option Addr) (cu : Nat), Hid (Pl.rdTest rl k l = match Pl.tk (fEnd m) l5 with
        | none => none
        | some l6 => some (⟨m, nm, value, x0, x1, list⟩, l6)) ∧ l5.length ≤ l.length ∧ Hid (TB b l5 w W7 (.int .i64 m) (.string ⟨nm.toArray⟩) (.string ⟨value.toArray⟩) (.int .i64 x0) (.int .i64 x1) (.slice au list.length cu)) ∧ Hid (W7.heap[W4.heap.size]? = some (.cells #[.bool (Pl.kName m), .bool false, .bool true, .bool false, .string ⟨(fBegin m).toArray⟩, .string ⟨(fSign m).toArray⟩, .string ⟨(fEnd m).toArray⟩] 96)) ∧ Hid (A (mask (frm (w.heap.size + 2)) W7) (.slice au list.length cu) list) := by
      refine ⟨[], x0, x1, [], l3', none, 0, ?_, by omega, HT8, HX9, HA.out.nil _⟩
      unfold Hid
      rw [HPRE.out, E2.out]
      dsimp only
      rw [E3.out, HV.out]
      dsimp only
      rw [E4.out]
    clear HT8 HX9 HPRE E2 E3 E4 HV
    rotate_left
    have E2 : Hid (Pl.rdT2 m l2' = some ([], l2')) := by
      unfold Hid Pl.rdT2
      rw [hbv]
      rfl
    have E3 : Hid (∀ q, Pl.rdT3 m q = some ((0, 0), q)) := by
      intro q
      unfold Pl.rdT3
      rw [hbn]
      rfl
    have E4 : Hid (∀ q, Pl.rdT4 rl m q = rl q) := by
      intro q
      unfold Pl.rdT4
      rw [hbl]
      rfl
    go_wp2_with fail
    have hz5 : w.heap.size + 2 ≤ ((W4.setCell ⟨w.heap.size + 1, 0, none⟩ (.int .i64 m)).alloc (.cells #[.bool (Pl.kName m), .bool false, .bool false, .bool true, .string ⟨(fBegin m).toArray⟩, .string ⟨(fSign m).toArray⟩, .string ⟨(fEnd m).toArray⟩] 96)).heap.size := by simp [World.setCell]; omega
    generalize (W4.setCell ⟨w.heap.size + 1, 0, none⟩ (.int .i64 m)).alloc (.cells #[.bool (Pl.kName m), .bool false, .bool false, .bool true, .string ⟨(fBegin m).toArray⟩, .string ⟨(fSign m).toArray⟩, .string ⟨(fEnd m).toArray⟩] 96) = W5 at *
    refine (HR.out b l2' W5 HT6.out.rd (Nat.le_trans (by omega) hl) (HL.out.gb HT6.out.gb hb) hb).mono ?_
    rintro e W6 (⟨hn, rfl, g6⟩ | ⟨list, l3', au, cu, hn, rfl, ha6, r6, g6⟩)
    · have G6 : Hid (w.grownBy W6 (some b)) := gb_chain HT6.out.gb g6
      have HN : Hid (Pl.rdTest rl k l = none) := by
        unfold Hid
        rw [HPRE.out, E2.out]
        dsimp only
        rw [E3.out]
        dsimp only
        rw [E4.out, hn]
      go_wp2
      exact ⟨rfl, Or.inl ⟨HN.out, rfl, G6.out⟩⟩
    have HT7 : Hid (TB b l3' w W6 _ _ _ _ _ _) := HT6.out.step hbw g6 r6
    have HX7 : Hid (W6.heap[W4.heap.size]? = _) := gb_block HX8.out g6 (by omega)
    have hle3 := HRS.out _ _ _ hn
    obtain ⟨-, -, -, -, -, c5⟩ := HT7.out.cells
    have f5 := HT7.out.frozen 5
    have HT8 : Hid (TB b l3' w (W6.setCell ⟨w.heap.size + 1, 5, none⟩ (.slice au list.length cu)) (.int .i64 m) (.string ⟨nm.toArray⟩) (.string ⟨#[]⟩) (.int .i64 0) (.int .i64 0) (.slice au list.length cu)) := HT7.out.put hbw 5 _ (set6_5 HT7.out.bx _)
    have HX9 : Hid ((W6.setCell ⟨w.heap.size + 1, 5, none⟩ (.slice au list.length cu)).heap[W4.heap.size]? = _) := blk_set_other _ HX7.out (by omega)
    have HA9 : Hid (A (mask (frm (w.heap.size + 2)) (W6.setCell ⟨w.heap.size + 1, 5, none⟩ (.slice au list.length cu))) (.slice au list.length cu) list) := HSUB.out.sub ha6 (incl_mask fun j o x hj hx => by
      simp only [frm, decide_eq_true_eq] at hj ⊢
      exact ⟨by omega, cell_apart hx (by omega)⟩)
    have HV : Hid (rl l2' = some (list, l3')) := hn
    obtain ⟨-, -, -, d3, -, -, d6⟩ := blk7_cells HX7.out
    obtain ⟨-, -, -, e3, -, -, e6⟩ := blk7_cells HX9.out
    clear HT6 HX8 HT7 HX7 g6 r6 hn ha6 hz5 c0 f0 p0 p1 p2 p3 p4 p5 p6
    go_wp2_with fail
    clear d3 d6 e3 e6 c5 f5
    generalize W6.setCell ⟨w.heap.size + 1, 5, none⟩ (.slice au list.length cu) = W7 at *
    have hall : ∃ (value : List UInt8) (x0 x1 : Int) (list : List α) (l5 : List UInt8) (au : Option Addr) (cu : Nat), Hid (Pl.rdTest rl k l = match Pl.tk (fEnd m) l5 with
        | none => none
        | some l6 => some (⟨m, nm, value, x0, x1, list⟩, l6)) ∧ l5.length ≤ l.length ∧ Hid (TB b l5 w W7 (.int .i64 m) (.string ⟨nm.toArray⟩) (.string ⟨value.toArray⟩) (.int .i64 x0) (.int .i64 x1) (.slice au list.length cu)) ∧ Hid (W7.heap[W4.heap.size]? = some (.cells #[.bool (Pl.kName m), .bool false, .bool false, .bool true, .string ⟨(fBegin m).toArray⟩, .string ⟨(fSign m).toArray⟩, .string ⟨(fEnd m).toArray⟩] 96)) ∧ Hid (A (mask (frm (w.heap.size + 2)) W7) (.slice au list.length cu) list) := by
      refine ⟨[], 0, 0, list, l3', au, cu, ?_, by omega, HT8, HX9, HA9⟩
      unfold Hid
      rw [HPRE.out, E2.out]
      dsimp only
      rw [E3.out]
      dsimp only
      rw [E4.out, HV.out]
    clear HT8 HX9 HA9 HPRE E2 E3 E4 HV
    rotate_left
    all_goals
      obtain ⟨value, x0, x1, list, l5, au, cu, HEQ, hle5, HT, HX, HAA⟩ := hall
      cases ht : Pl.tk (fEnd m) l5 with
      | none =>
        have HN : Hid (Pl.rdTest rl k l = none) := by
          unfold Hid
          rw [HEQ.out, ht]
        refine (needS_no b _ l5 _ HT.out.rd ht).mono ?_
        rintro e W8 ⟨rfl, g8⟩
        have G8 : Hid (w.grownBy W8 (some b)) := gb_chain HT.out.gb g8
        go_wp2
        exact ⟨rfl, Or.inl ⟨HN.out, rfl, G8.out⟩⟩
      | some l6 =>
        have HN : Hid (Pl.rdTest rl k l = some (⟨m, nm, value, x0, x1, list⟩, l6)) := by
          unfold Hid
          rw [HEQ.out, ht]
        refine (needS_yes b _ l5 l6 _ HT.out.rd ht).mono ?_
        rintro e W8 ⟨rfl, r8, g8⟩
        have HT8 : Hid (TB b l6 w W8 _ _ _ _ _ _) := HT.out.step hbw g8 r8
        have HA8 : Hid (A (mask (frm (w.heap.size + 2)) W8) (.slice au list.length cu) list) := HSUB.out.sub HAA.out (incl_mask fun j o x hj hx => by
          refine ⟨hj, cell_gb g8 hx ?_⟩
          simp only [frm, decide_eq_true_eq] at hj
          omega)
        obtain ⟨c0, c1, c2, c3, c4, c5⟩ := HT8.out.cells
        obtain ⟨q0, q1, q2, q3, q4, q5⟩ := blk6_cells HT8.out.rs
        have hfz : ∀ i, W8.frozen? ⟨w.heap.size, i, none⟩ = false := fun i => by simp [World.frozen?, HT8.out.rs]
        have f0 := hfz 0
        have f1 := hfz 1
        have f2 := hfz 2
        have f3 := hfz 3
        have f4 := hfz 4
        have f5 := hfz 5
        have S0 := set6_0 HT8.out.rs (.int .i64 m)
        have S1 := set6_1 S0 (.string ⟨nm.toArray⟩)
        have S2 := set6_2 S1 (.string ⟨value.toArray⟩)
        have S3 := set6_3 S2 (.int .i64 x0)
        have S4 := set6_4 S3 (.int .i64 x1)
        have S5 := set6_5 S4 (.slice au list.length cu)
        have HS5 : Hid (_ = _) := S5
        have HG8 : Hid (w.grownBy _ (some b)) := gb_set (M := w.heap.size) (gb_set (M := w.heap.size) (gb_set (M := w.heap.size) (gb_set (M := w.heap.size) (gb_set (M := w.heap.size) (gb_set (M := w.heap.size) HT8.out.gb (Nat.le_refl _) 0 (.int .i64 m)) (Nat.le_refl _) 1 (.string ⟨nm.toArray⟩)) (Nat.le_refl _) 2 (.string ⟨value.toArray⟩)) (Nat.le_refl _) 3 (.int .i64 x0)) (Nat.le_refl _) 4 (.int .i64 x1)) (Nat.le_refl _) 5 (.slice au list.length cu)
        have HR8 : Hid (RdAt b l6 _) := rd_apart (M := w.heap.size) (j := 5) (rd_apart (M := w.heap.size) (j := 4) (rd_apart (M := w.heap.size) (j := 3) (rd_apart (M := w.heap.size) (j := 2) (rd_apart (M := w.heap.size) (j := 1) (rd_apart (M := w.heap.size) (j := 0) HT8.out.rd (by omega) (.int .i64 m)) (by omega) (.string ⟨nm.toArray⟩)) (by omega) (.string ⟨value.toArray⟩)) (by omega) (.int .i64 x0)) (by omega) (.int .i64 x1)) (by omega) (.slice au list.length cu)
        have HAF : Hid (A (mask (frm w.heap.size) ((((((W8.setCell ⟨w.heap.size, 0, none⟩ (.int .i64 m)).setCell ⟨w.heap.size, 1, none⟩ (.string ⟨nm.toArray⟩)).setCell ⟨w.heap.size, 2, none⟩ (.string ⟨value.toArray⟩)).setCell ⟨w.heap.size, 3, none⟩ (.int .i64 x0)).setCell ⟨w.heap.size, 4, none⟩ (.int .i64 x1)).setCell ⟨w.heap.size, 5, none⟩ (.slice au list.length cu))) (.slice au list.length cu) list) := HSUB.out.sub HA8.out (incl_mask fun j o x hj hx => by
          simp only [frm, decide_eq_true_eq] at hj ⊢
          exact ⟨by omega, cell_apart (cell_apart (cell_apart (cell_apart (cell_apart (cell_apart hx (by omega)) (by omega)) (by omega)) (by omega)) (by omega)) (by omega)⟩)
        clear hfz S0 S1 S2 S3 S4 S5 HEQ HX HAA HT HT8 HA8 g8 r8
        go_wp2_with fail
        exact bodyPost_ret (results_t rfl _ _ w.heap.size rfl HS5.out) rfl (Or.inr ⟨⟨m, nm, value, x0, x1, list⟩, l6, au, cu, HN.out, rfl, HAF.out, HR8.out, HG8.out⟩)
end Go.Proofs.YtbfkopjpfkgjhaaGreatDoor
/-
  Rows that grow: the step that appends, and what a round of reading leaves.
-/
namespace Go.Proofs.YtbfkopjpfkgjhaaGreatDoor
open Go.RowKit

theorem inf61 : (Tryz.prog.info? 61).map (fun i => (i.zero, i.size, i.bytes)) = some (some (.agg #[.int .i64 0, .string ⟨#[]⟩, .string ⟨#[]⟩, .int .i64 0, .int .i64 0, .slice none 0 0]), 6, 80) := by kernel_rfl
theorem inf56 : (Tryz.prog.info? 56).map (fun i => (i.zero, i.size, i.bytes)) = some (some (.agg #[.string ⟨#[]⟩, .slice none 0 0]), 2, 40) := by kernel_rfl
theorem inf38 : (Tryz.prog.info? 38).map (fun i => (i.zero, i.size, i.bytes)) = some (some (.agg #[.slice none 0 0, .slice none 0 0]), 2, 48) := by kernel_rfl
theorem inf3 : (Tryz.prog.info? 3).map (fun i => (i.zero, i.size, i.bytes)) = some (some (.int .i64 0), 1, 8) := by kernel_rfl
section
variable {β : Type} {P : Nat → Bool} {B : Nat} {e : TypeId} {k : Nat} {V : World → List Value → β → Prop} {E : World → Nat → Nat → β → Prop}
/-- one more, out of the law that appends -/
theorem grow_next (hV : IsV k V E) {w2 w' : World} {v : Value} {l : List β} {x : β} {xs news : List Value} {g cap : Nat} (hown : w2.ownsRow B e k v l.length xs) (hPo : ∀ g, v.ownBlock = some g → P g = true) (hold : ∀ i (h : i < l.length), V (mask (Off P v) w2) ((xs.drop (i * k)).take k) l[i]) (hnew : V (mask (Off P v) w2) news x) (hPH : P (w2.heap.size + 1) = true)
    (hrow : w'.ownsRow B e k (.slice (some ⟨g, 0, none⟩) (l.length + 1) cap) (l.length + 1) (xs ++ news)) (hg : (w2.alloc (.cells news.toArray e)).grownBy w' v.ownBlock) (hat : v.ownBlock = some g ∨ g = w2.heap.size + 1) : Grow P B e k V w' (.slice (some ⟨g, 0, none⟩) (l.length + 1) cap) (l ++ [x]) := by
  have hb := on_alloc w2 (.cells news.toArray e)
  refine Grow.push hV (w := w2) (w1 := w2.alloc (.cells news.toArray e)) (H := w2.heap.size + 1) hPo hPH hown hold (fun j hj => hb.block j hj) (by omega) hrow hg hat ?_
  refine hV.sub hnew (incl_mask fun j o y hj hy => ?_)
  have hjw : j < w2.heap.size := cell_lt hy
  refine ⟨?_, cell_on hb hy⟩
  rw [hj]
  simp
  omega
theorem step_grow (hV : IsV k V E) {T : TypeId} {z : Value} {bytes : Nat} (hT : Tryz.prog.underlying T = some (.slice e)) (hinf : (Tryz.prog.info? e).map (fun i => (i.zero, i.size, i.bytes)) = some (some z, k, bytes)) (hz : z.cells.size = k) (hk : 0 < k) (hby : 64 * bytes ≤ 140737488355328)
    {ops : Array Oper} {o : Oper} {a : Act} {K : Act → World → Prop} {Q : Exit → Act → World → Prop} {R : Prop} {w2 : World} {v : Value} {l : List β} {x : β} {news : List Value} (hgd : o.guard = none) (s t : Operand)
    (ho : o.op = .call { callee := .builtin .append, args := #[s, t], argTypes := #[T, T] }) (hs : a.eval s = v) (hx : a.eval t = .slice (some ⟨w2.heap.size, 0, none⟩) 1 1)
    (hold : Grow P B e k V w2 v l) (hnew : V (mask (Off P v) w2) news x) (hone : ∀ u ∈ news, u.oneCell' = true) (hlen : l.length + 1 ≤ 64) (hB : B ≤ w2.heap.size) (hPH : P (w2.heap.size + 1) = true)
    (h : ∀ g cap w', Grow P B e k V w' (.slice (some ⟨g, 0, none⟩) (l.length + 1) cap) (l ++ [x]) → (w2.alloc (.cells news.toArray e)).grownBy w' v.ownBlock → (v.ownBlock = some g ∨ g = w2.heap.size + 1) → K (a.put o.dst (.slice (some ⟨g, 0, none⟩) (l.length + 1) cap)) w') :
    if Region.wanted o (yielded ops a.tmps) = true then Oper.wp Tryz.prog o a (w2.alloc (.cells news.toArray e)) K Q else R := by
  obtain ⟨xs, hown, hPo, hvs⟩ := hold
  obtain ⟨i0, hi, hz0, hz1, hz2⟩ := info_parts hinf
  have hb := on_alloc w2 (.cells news.toArray e)
  have hown1 : (w2.alloc (.cells news.toArray e)).ownsRow B e k v l.length xs := by
    refine ⟨hown.1, ?_⟩
    rcases hown.2 with h1 | ⟨g, cap, cur, e1, e2, e3, e4⟩
    · exact Or.inl h1
    · exact Or.inr ⟨g, cap, cur, e1, e2, (hb.block g (Array.getElem?_eq_some_iff.1 e3).1).trans e3, e4⟩
  have hbytes : (l.length + 1) * bytes ≤ 140737488355328 := Nat.le_trans (Nat.mul_le_mul_right bytes hlen) hby
  refine step_append_lies _ hgd s t T ho B e i0 z k bytes hT hi hz0 hz1 hz2 hz hk v l.length xs hs hown1 ⟨w2.heap.size, 0, none⟩ 1 1 news hx (by rw [hV.len hnew]; omega) (World.news_of_block (World.alloc_heap_new w2 _)) hone (by omega) (by unfold maxLen; omega) hbytes (by simp; omega) (w2.heap.size + 1) (by simp) ?_
  intro g cap w' h1 h2 h3 _
  exact h g cap w' (grow_next hV hown hPo hvs hnew hPH h1 h2 h3) h2 h3
theorem wpList_grow (hV : IsV k V E) {T : TypeId} {z : Value} {bytes : Nat} (hT : Tryz.prog.underlying T = some (.slice e)) (hinf : (Tryz.prog.info? e).map (fun i => (i.zero, i.size, i.bytes)) = some (some z, k, bytes)) (hz : z.cells.size = k) (hk : 0 < k) (hby : 64 * bytes ≤ 140737488355328)
    {ops : Array Oper} {rest : List Oper} {o : Oper} {a : Act} {Q : Exit → Act → World → Prop} {w2 : World} {v : Value} {l : List β} {x : β} {news : List Value} (hgd : o.guard = none) (s t : Operand)
    (ho : o.op = .call { callee := .builtin .append, args := #[s, t], argTypes := #[T, T] }) (hs : a.eval s = v) (hx : a.eval t = .slice (some ⟨w2.heap.size, 0, none⟩) 1 1)
    (hold : Grow P B e k V w2 v l) (hnew : V (mask (Off P v) w2) news x) (hone : ∀ u ∈ news, u.oneCell' = true) (hlen : l.length + 1 ≤ 64) (hB : B ≤ w2.heap.size) (hPH : P (w2.heap.size + 1) = true)
    (h : ∀ g cap w', Grow P B e k V w' (.slice (some ⟨g, 0, none⟩) (l.length + 1) cap) (l ++ [x]) → (w2.alloc (.cells news.toArray e)).grownBy w' v.ownBlock → (v.ownBlock = some g ∨ g = w2.heap.size + 1) → wpList Tryz.prog ops Q rest (a.put o.dst (.slice (some ⟨g, 0, none⟩) (l.length + 1) cap)) w') :
    wpList Tryz.prog ops Q (o :: rest) a (w2.alloc (.cells news.toArray e)) := by
  obtain ⟨xs, hown, hPo, hvs⟩ := hold
  obtain ⟨i0, hi, hz0, hz1, hz2⟩ := info_parts hinf
  have hb := on_alloc w2 (.cells news.toArray e)
  have hown1 : (w2.alloc (.cells news.toArray e)).ownsRow B e k v l.length xs := by
    refine ⟨hown.1, ?_⟩
    rcases hown.2 with h1 | ⟨g, cap, cur, e1, e2, e3, e4⟩
    · exact Or.inl h1
    · exact Or.inr ⟨g, cap, cur, e1, e2, (hb.block g (Array.getElem?_eq_some_iff.1 e3).1).trans e3, e4⟩
  have hbytes : (l.length + 1) * bytes ≤ 140737488355328 := Nat.le_trans (Nat.mul_le_mul_right bytes hlen) hby
  refine wpList_append_lies _ hgd s t T ho B e i0 z k bytes hT hi hz0 hz1 hz2 hz hk v l.length xs hs hown1 ⟨w2.heap.size, 0, none⟩ 1 1 news hx (by rw [hV.len hnew]; omega) (World.news_of_block (World.alloc_heap_new w2 _)) hone (by omega) (by unfold maxLen; omega) hbytes (by simp; omega) (w2.heap.size + 1) (by simp) ?_
  intro g cap w' h1 h2 h3 _
  exact h g cap w' (grow_next hV hown hPo hvs hnew hPH h1 h2 h3) h2 h3
/-- its own block is one of those -/
theorem Grow.own {w : World} {v : Value} {l : List β} (h : Grow P B e k V w v l) : ∀ g, v.ownBlock = some g → P g = true ∧ B ≤ g := by
  obtain ⟨xs, hown, hPo, _⟩ := h
  intro g hg
  refine ⟨hPo g hg, ?_⟩
  rcases hown.2 with ⟨rfl, _⟩ | ⟨g', cap, cur, rfl, e2, _⟩
  · simp [Value.ownBlock] at hg
  · simp [Value.ownBlock] at hg
    omega
/-- a row of one element, made -/
theorem Grow.one (hV : IsV k V E) {w : World} {news : List Value} {x : β} (hB : B ≤ w.heap.size) (hPH : P w.heap.size = true) (hnew : V (mask P w) news x) : Grow P B e k V (w.alloc (.cells news.toArray e)) (.slice (some ⟨w.heap.size, 0, none⟩) 1 1) [x] := by
  have hl := hV.len hnew
  refine ⟨news, ⟨by simp [hl], Or.inr ⟨w.heap.size, 1, news.toArray, rfl, hB, World.alloc_heap_new w _, Nat.le_refl _, by unfold maxLen; omega, by simp [hl], by simp; exact List.take_of_length_le (by omega)⟩⟩, fun g hg => ?_, fun i hi => ?_⟩
  · simp [Value.ownBlock] at hg
    subst hg
    exact hPH
  · have hi0 : i = 0 := by simp at hi; exact hi
    subst hi0
    have e1 : ((news.drop (0 * k)).take k) = news := by simp; exact List.take_of_length_le (by omega)
    rw [e1]
    refine hV.sub hnew (incl_mask fun j o y hj hy => ⟨?_, cell_on (on_alloc w _) hy⟩)
    have hjw : j < w.heap.size := cell_lt hy
    unfold Off
    rw [hj]
    simp [Value.ownBlock]
    omega
end
/-- what is in the row that a call appends to is the call's own -/
theorem gb_new {w W w' : World} {b : Nat} {g : Option Nat} (h : w.grownBy W (some b)) (hg : W.grownBy w' g) (hn : ∀ k, g = some k → w.heap.size ≤ k) : w.grownBy w' (some b) :=
  ⟨hg.os.trans h.os, hg.tape.trans h.tape, hg.output.trans h.output, Nat.le_trans h.size hg.size, fun k hk hne => (hg.block k (Nat.lt_of_lt_of_le hk h.size) (fun e => by have := hn k e.symm; omega)).trans (h.block k hk hne)⟩
theorem rd_grown {b : Nat} {l : List UInt8} {w w' : World} {g : Option Nat} (h : RdAt b l w) (hg : w.grownBy w' g) (hne : some b ≠ g) : RdAt b l w' := (hg.block b h.facts.2.2 hne).trans h
theorem blk_grown {w w' : World} {N : Nat} {o : Obj} {g : Option Nat} (h : w.heap[N]? = some o) (hg : w.grownBy w' g) (hne : some N ≠ g) : w'.heap[N]? = some o := (hg.block N (Array.getElem?_eq_some_iff.1 h).1 hne).trans h
/-- how many a list in a cell has -/
def lenAt (w : World) (a : Addr) : Nat := match w.cell? a with | some (.slice _ n _) => n | _ => 0
theorem lenAt_eq {w : World} {a : Addr} {p : Option Addr} {n c : Nat} (h : w.cell? a = some (.slice p n c)) : lenAt w a = n := by unfold lenAt; rw [h]
theorem gb_drew {w W : World} {b : Nat} (h : w.grownBy W (some b)) : w.grownBy W.drew (some b) := ⟨h.os, h.tape, h.output, h.size, h.block⟩
theorem drew_gb {W w' : World} {g : Option Nat} (h : W.drew.grownBy w' g) : W.grownBy w' g := ⟨h.os, h.tape, h.output, h.size, h.block⟩
end Go.Proofs.YtbfkopjpfkgjhaaGreatDoor
