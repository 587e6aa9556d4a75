/-
  Counts: of which numbers one holds, as the program tells it and as the document does.
-/
import Derived.Test.YtephhllfodlfbaaGreatDoorMem
import Derived.WalkKit
import Derived.WalkSpells
import Derived.WalkLawsBesides
import Derived.Test.YtephhllfodlfbaaGreatDoorRmD
import Derived.Test.YtephhllfodlfbaaGreatDoorLvM
import Derived.Deep.RegionHeld3
import Derived.Test.YtephhllfodlfbaaGreatDoorAsk
namespace Go.Proofs.YtephhllfodlfbaaGreatDoor.Nt
open Go.RowKit

namespace Pl
def inB (n : Int) : Prop := -1048576 ≤ n ∧ n ≤ 1048576
def inBB (n : Int) : Bool := decide (-1048576 ≤ n) && decide (n ≤ 1048576)
theorem inBB_iff (n : Int) : inBB n = true ↔ inB n := by simp [inBB, inB]
/-- what one holds of, as it is reckoned -/
def holds (a b i : Int) : Bool :=
  inBB a && inBB b && decide (1 ≤ i) && decide (i ≤ 1073741824) && (if a = 0 then (i - b == 0) else ((i - b).tmod a == 0 && decide (0 ≤ (i - b).tdiv a)))
end Pl
set_option maxHeartbeats 400000 in
theorem inBounds_any (n : Int) (w : World) :
    Calls Tryz.prog 167 #[.int .i64 n] w fun e w' => e = .returned (.bool (Pl.inBB n)) ∧ w' = w := by
  by_cases h1 : -1048576 ≤ n
  · by_cases h2 : n ≤ 1048576
    · have hh : Pl.inBB n = true := by simp [Pl.inBB]; omega
      go_enter Tryz.func167, Tryz.ntmps167
      go_wp2
      go_ret
      exact ⟨by first | rfl | (rw [hh]; rfl), rfl⟩
    · have hh : Pl.inBB n = false := by simp [Pl.inBB]; omega
      go_enter Tryz.func167, Tryz.ntmps167
      go_wp2
      go_ret
      exact ⟨by first | rfl | (rw [hh]; rfl), rfl⟩
  · have hh : Pl.inBB n = false := by simp [Pl.inBB]; omega
    go_enter Tryz.func167, Tryz.ntmps167
    go_wp2
    go_ret
    exact ⟨by first | rfl | (rw [hh]; rfl), rfl⟩

set_option maxHeartbeats 400000 in
theorem check_ok (a b : Int) (w : World) (ha : Pl.inBB a = true) (hb : Pl.inBB b = true) :
    Calls Tryz.prog 132 #[.agg #[.int .i64 a, .int .i64 b]] w fun e w' => e = .returned (.int .i64 0) ∧ Below w.heap.size w w' := by
  go_enter Tryz.func132, Tryz.ntmps132
  go_wp2_with (go_at_call 167; refine (inBounds_any _ _).mono ?_; rintro e w' ⟨rfl, rfl⟩)
  go_ret
  exact ⟨rfl, (Below.refl _ _).alloc (Nat.le_refl _) _⟩
set_option maxHeartbeats 400000 in
theorem check_no (a b : Int) (w : World) (h : (Pl.inBB a && Pl.inBB b) = false) :
    Calls Tryz.prog 132 #[.agg #[.int .i64 a, .int .i64 b]] w fun e w' => e = .returned (.int .i64 3) ∧ Below w.heap.size w w' := by
  cases ha : Pl.inBB a with
  | false =>
    clear h
    go_enter Tryz.func132, Tryz.ntmps132
    go_wp2_with (go_at_call 167; refine (inBounds_any _ _).mono ?_; rintro e w' ⟨rfl, rfl⟩)
    go_ret
    exact ⟨rfl, (Below.refl _ _).alloc (Nat.le_refl _) _⟩
  | true =>
    have hb : Pl.inBB b = false := by rw [ha] at h; simpa using h
    clear h
    go_enter Tryz.func132, Tryz.ntmps132
    go_wp2_with (go_at_call 167; refine (inBounds_any _ _).mono ?_; rintro e w' ⟨rfl, rfl⟩)
    go_ret
    exact ⟨rfl, (Below.refl _ _).alloc (Nat.le_refl _) _⟩

theorem box_cells (w w1 : World) (a b : Int) (hb : Below (w.heap.size + 1) (w.alloc (.cells #[.int .i64 a, .int .i64 b] 69)) w1) :
    (w1.cell? ⟨w.heap.size, 0, none⟩ = some (.int .i64 a) ∧ w1.cell? ⟨w.heap.size, 1, none⟩ = some (.int .i64 b)) ∧ Below w.heap.size w w1 ∧ w.heap.size + 1 ≤ w1.heap.size := by
  refine ⟨⟨?_, ?_⟩, ?_, ?_⟩
  · rw [hb.cell (p := ⟨w.heap.size, 0, none⟩) (by simp)]; simp [go_sem]
  · rw [hb.cell (p := ⟨w.heap.size, 1, none⟩) (by simp)]; simp [go_sem]
  · exact ((Below.refl _ _).alloc (Nat.le_refl _) _).trans (hb.mono (by omega))
  · have := hb.size; simpa using this
theorem quo_wrap (x a : Int) (h1 : -4611686018427387904 ≤ x) (h2 : x ≤ 4611686018427387904) : wrap64 (x.tdiv a) = x.tdiv a := by
  have e : (x.tdiv a).natAbs = x.natAbs / a.natAbs := Int.natAbs_tdiv x a
  have l : x.natAbs / a.natAbs ≤ x.natAbs := Nat.div_le_self _ _
  exact IntWalk.wrap64_in _ ⟨by omega, by omega⟩
set_option maxHeartbeats 400000 in
theorem holds_wrong (a b i : Int) (w : World) (h : (Pl.inBB a && Pl.inBB b) = false) :
    Calls Tryz.prog 184 #[.agg #[.int .i64 a, .int .i64 b], .int .i64 i] w fun e w' => e = .returned (.bool false) ∧ Below w.heap.size w w' := by
  go_enter Tryz.func184, Tryz.ntmps184
  go_wp2_with fail
  refine (check_no a b _ h).mono ?_
  rintro e w1 ⟨rfl, hb⟩
  obtain ⟨⟨c0, c1⟩, hB, _⟩ := box_cells w w1 a b (by simpa using hb)
  clear hb
  go_wp2
  go_ret
  exact ⟨rfl, hB⟩
set_option maxHeartbeats 400000 in
theorem holds_out (a b i : Int) (w : World) (ha : Pl.inBB a = true) (hb : Pl.inBB b = true) (h : i < 1 ∨ 1073741824 < i) :
    Calls Tryz.prog 184 #[.agg #[.int .i64 a, .int .i64 b], .int .i64 i] w fun e w' => e = .returned (.bool false) ∧ Below w.heap.size w w' := by
  rcases h with h | h
  · go_enter Tryz.func184, Tryz.ntmps184
    go_wp2_with fail
    refine (check_ok a b _ ha hb).mono ?_
    rintro e w1 ⟨rfl, hb⟩
    obtain ⟨⟨c0, c1⟩, hB, _⟩ := box_cells w w1 a b (by simpa using hb)
    clear hb
    go_wp2
    go_ret
    exact ⟨rfl, hB⟩
  · have h1 : ¬ i < 1 := by omega
    go_enter Tryz.func184, Tryz.ntmps184
    go_wp2_with fail
    refine (check_ok a b _ ha hb).mono ?_
    rintro e w1 ⟨rfl, hb⟩
    obtain ⟨⟨c0, c1⟩, hB, _⟩ := box_cells w w1 a b (by simpa using hb)
    clear hb
    go_wp2
    go_ret
    exact ⟨rfl, hB⟩
set_option maxHeartbeats 400000 in
theorem holds_in (a b i : Int) (w : World) (ha : Pl.inBB a = true) (hb : Pl.inBB b = true) (h1 : 1 ≤ i) (h2 : i ≤ 1073741824) :
    Calls Tryz.prog 184 #[.agg #[.int .i64 a, .int .i64 b], .int .i64 i] w fun e w' => e = .returned (.bool (Pl.holds a b i)) ∧ Below w.heap.size w w' := by
  obtain ⟨a1, a2⟩ := (Pl.inBB_iff a).1 ha
  obtain ⟨b1, b2⟩ := (Pl.inBB_iff b).1 hb
  have hh : Pl.holds a b i = (if a = 0 then (i - b == 0) else ((i - b).tmod a == 0 && decide (0 ≤ (i - b).tdiv a))) := by
    simp [Pl.holds, ha, hb, h1, h2]
  have HH : Hid _ := hh
  clear hh
  by_cases h0 : a = 0
  · subst h0
    have HZ : Hid (Pl.holds 0 b i = (i - b == 0)) := by rw [Hid, HH.out]; simp
    clear HH
    go_enter Tryz.func184, Tryz.ntmps184
    go_wp2_with fail
    refine (check_ok 0 b _ ha hb).mono ?_
    rintro e w1 ⟨rfl, hb⟩
    obtain ⟨⟨c0, c1⟩, hB, _⟩ := box_cells w w1 0 b (by simpa using hb)
    clear hb
    go_wp2
    go_ret
    exact ⟨by rw [HZ.out]; rfl, hB⟩
  · have HZ : Hid (Pl.holds a b i = ((i - b).tmod a == 0 && decide (0 ≤ (i - b).tdiv a))) := by rw [Hid, HH.out, if_neg h0]
    clear HH
    have hn : (a == 0) = false := by simp [h0]
    go_enter Tryz.func184, Tryz.ntmps184
    go_wp2_with fail
    refine (check_ok a b _ ha hb).mono ?_
    rintro e w1 ⟨rfl, hb⟩
    obtain ⟨⟨c0, c1⟩, hB, _⟩ := box_cells w w1 a b (by simpa using hb)
    clear hb
    go_wp2
    · rename_i hm
      go_ret
      refine ⟨?_, hB⟩
      rw [HZ.out]
      have hf : ((i - b).tmod a == 0) = true := by simpa using hm
      rw [hf, quo_wrap (i - b) a (by omega) (by omega)]; rfl
    · rename_i hm
      go_ret
      refine ⟨?_, hB⟩
      rw [HZ.out]
      have hf : ((i - b).tmod a == 0) = false := by simpa using hm
      rw [hf]; rfl

theorem holds_any (a b i : Int) (w : World) :
    Calls Tryz.prog 184 #[.agg #[.int .i64 a, .int .i64 b], .int .i64 i] w fun e w' => e = .returned (.bool (Pl.holds a b i)) ∧ Below w.heap.size w w' := by
  cases h : (Pl.inBB a && Pl.inBB b) with
  | false =>
    have hh : Pl.holds a b i = false := by simp only [Pl.holds, h, Bool.false_and]
    rw [hh]; exact holds_wrong a b i w h
  | true =>
    rw [Bool.and_eq_true] at h
    by_cases hi : 1 ≤ i ∧ i ≤ 1073741824
    · exact holds_in a b i w h.1 h.2 hi.1 hi.2
    · have hh : Pl.holds a b i = false := by
        have : (decide (1 ≤ i) && decide (i ≤ 1073741824)) = false := by simp; omega
        simp only [Pl.holds, h.1, h.2, Bool.true_and, this, Bool.false_and]
      rw [hh]; exact holds_out a b i w h.1 h.2 (by omega)

namespace Pl
end Pl

end Go.Proofs.YtephhllfodlfbaaGreatDoor.Nt
/-
  Matching in plain lists: tests, steps, links, paths, lists. No program is walked in this text.
-/
namespace Go.Proofs.YtephhllfodlfbaaGreatDoor

def tagAt (ns : List Pl.Nd) (n : Nat) : List UInt8 := match ns[n]? with | some x => x.tag | none => []
def idAt (ns : List Pl.Nd) (n : Nat) : List UInt8 := match ns[n]? with | some x => x.id | none => []
def clsAt (ns : List Pl.Nd) (n : Nat) : List (List UInt8) := match ns[n]? with | some x => x.cls | none => []
def atsAt (ns : List Pl.Nd) (n : Nat) : List (List UInt8 × List UInt8) := match ns[n]? with | some x => x.ats | none => []
/-- the kids of the one above; itself, if none is above -/
def famOf (ns : List Pl.Nd) (n : Nat) : List Int := if n = 0 then [0] else (Pl.kidsOf ns (Pl.upOf ns n)).map fun (k : Nat) => (k : Int)
section
variable {α : Type}
/-- a test, over what its list matches -/
def tstM (ns : List Pl.Nd) (g : List α → Nat → Bool) (t : Pl.Tst α) (n : Nat) : Bool :=
  if t.kind = 1 then (clsAt ns n).any (· == t.name)
  else if t.kind = 2 then idAt ns n == t.name
  else if 3 ≤ t.kind ∧ t.kind ≤ 8 then (match attr1 (atsAt ns n) t.name with | some v => Pl.valOk t.kind v t.value | none => false)
  else if t.kind = 9 then Nt.Pl.holds t.a t.b (plc (famOf ns n) n + 1)
  else if t.kind = 10 then Nt.Pl.holds t.a t.b ((famOf ns n).length - plc (famOf ns n) n)
  else if t.kind = 11 then (Pl.kidsOf ns n).length == 0
  else if t.kind = 12 then n == 0
  else if t.kind = 13 then !g t.list n
  else if t.kind = 14 then g t.list n
  else (List.range ns.length).any fun m => aboveB ns n m && g t.list m
def stpM (ns : List Pl.Nd) (g : List α → Nat → Bool) (s : Pl.Stp α) (n : Nat) : Bool := (s.tag.isEmpty || s.tag == tagAt ns n) && s.tests.all fun t => tstM ns g t n
/-- a link leads from m to n -/
def reach (ns : List Pl.Nd) (k : Int) (m n : Nat) : Bool :=
  if k = 1 then aboveB ns m n
  else if k = 2 then Pl.upOf ns n == (m : Int)
  else if k = 3 then decide (0 ≤ plc (famOf ns n) m) && (plc (famOf ns n) m + 1 == plc (famOf ns n) n)
  else decide (0 ≤ plc (famOf ns n) m) && decide (plc (famOf ns n) m < plc (famOf ns n) n)
def stpAt (p : Pl.Pth α) (k : Nat) : Pl.Stp α := (p.steps[k]?).getD ⟨[], []⟩
def lnkAt (p : Pl.Pth α) (k : Nat) : Int := (p.links[k]?).getD 0
/-- the path up to a step -/
def pthM (ns : List Pl.Nd) (g : List α → Nat → Bool) (p : Pl.Pth α) : Nat → Nat → Bool
  | 0, n => stpM ns g (stpAt p 0) n
  | k + 1, n => stpM ns g (stpAt p (k + 1)) n && (List.range n).any fun m => reach ns (lnkAt p k) m n && pthM ns g p k m
def lstM (ns : List Pl.Nd) (g : List α → Nat → Bool) (l : List (Pl.Pth α)) (n : Nat) : Bool := l.any fun p => pthM ns g p (p.steps.length - 1) n
end
def m0 (_ : List Pl.Nd) : List Unit → Nat → Bool := fun _ _ => false
def m1 (ns : List Pl.Nd) : List Pl.D1 → Nat → Bool := lstM ns (m0 ns)
def m2 (ns : List Pl.Nd) : List Pl.D2 → Nat → Bool := lstM ns (m1 ns)
def m3 (ns : List Pl.Nd) : List Pl.D3 → Nat → Bool := lstM ns (m2 ns)
end Go.Proofs.YtephhllfodlfbaaGreatDoor
/-
  What the document says of families and links.
-/
namespace Go.Proofs.YtephhllfodlfbaaGreatDoor
open Go.RowKit

/-- a right document in memory -/
structure RD (w : World) (b o : Nat) (ns : List Pl.Nd) : Prop where
  at_ : ∀ i (h : i < ns.length), NdAt w b (o + i * 5) ns[i]
  n64 : ns.length ≤ 64
  low : Pl.Low ns ns.length
  rt : ∀ x ∈ ns, Pl.right x = true
theorem RD.on {w w' : World} {b o : Nat} {ns : List Pl.Nd} (h : RD w b o ns) (hb : Below w.heap.size w w') : RD w' b o ns := ⟨fun i hi => (h.at_ i hi).on hb, h.n64, h.low, h.rt⟩
theorem famOf_len (ns : List Pl.Nd) (n : Nat) (h : ns.length ≤ 64) : (famOf ns n).length ≤ 64 := by
  unfold famOf
  split
  · simp
  · have := Pl.kidsTo_len ns (Pl.upOf ns n) ns.length
    simp only [List.length_map]
    exact Nat.le_trans this h
theorem plc_low (ks : List Int) (n : Int) : -1 ≤ plc ks n ∧ plc ks n < ks.length := by
  unfold plc
  split
  · rename_i i h
    rw [List.find?_range_eq_some] at h
    have := h.2.1
    simp at this
    omega
  · omega
end Go.Proofs.YtephhllfodlfbaaGreatDoor
/-
  The document's own check of a list of paths: what is too much.
-/
namespace Go.Proofs.YtephhllfodlfbaaGreatDoor
open Go.RowKit

theorem all_next {β : Type} {l : List β} {p : β → Bool} {i : Nat} (h : i < l.length) (ht : (l.take i).all p = true) (hp : p l[i] = true) : (l.take (i + 1)).all p = true := by
  rw [List.take_succ_eq_append_getElem h, List.all_append, ht]
  simp [hp]
theorem all_done {β : Type} {l : List β} {p : β → Bool} {i : Nat} (h : ¬ i < l.length) (ht : (l.take i).all p = true) : l.all p = true := by
  rwa [List.take_of_length_le (by omega)] at ht
theorem all_bad {β : Type} {l : List β} {p : β → Bool} {i : Nat} (h : i < l.length) (hp : p l[i] = false) : l.all p = false := by
  rw [List.all_eq_false]
  exact ⟨l[i], List.getElem_mem h, by simp [hp]⟩
theorem Blk2p.new (w : World) (u v : Value) : (w.alloc (.cells #[u, v] 64)).cell? ⟨w.heap.size, 0, none⟩ = some u ∧ (w.alloc (.cells #[u, v] 64)).cell? ⟨w.heap.size, 1, none⟩ = some v := by
  constructor <;> simp [go_sem]
theorem Blk6p.new (w : World) (u0 u1 u2 u3 u4 u5 : Value) : (w.alloc (.cells #[u0, u1, u2, u3, u4, u5] 71)).cell? ⟨w.heap.size, 0, none⟩ = some u0 ∧ (w.alloc (.cells #[u0, u1, u2, u3, u4, u5] 71)).cell? ⟨w.heap.size, 5, none⟩ = some u5 := by
  constructor <;> simp [go_sem]
/-- what fits, in the order in which it is asked -/
def fitT {α : Type} (f : List α → Bool) (t : Pl.Tst α) : Bool := !Pl.kList t.kind || f t.list
def fitS {α : Type} (f : List α → Bool) (s : Pl.Stp α) : Bool := decide (s.tests.length ≤ 6) && s.tests.all (fitT f)
def fitP {α : Type} (f : List α → Bool) (p : Pl.Pth α) : Bool := decide (1 ≤ p.steps.length ∧ p.steps.length ≤ 5 ∧ p.links.length + 1 = p.steps.length) && p.steps.all (fitS f)
theorem fit_eq {α : Type} (f : List α → Bool) (l : List (Pl.Pth α)) : Pl.fitUp f l = (decide (1 ≤ l.length ∧ l.length ≤ 5) && l.all (fitP f)) := by
  have e : (fun p => Pl.pFits p && Pl.inner f p) = fitP f := by
    funext p
    unfold Pl.pFits Pl.inner fitP Pl.Pth.tests
    rw [List.all_flatMap, Bool.and_assoc]
    congr 1
    rw [Bool.eq_iff_iff]
    simp only [Bool.and_eq_true, List.all_eq_true]
    constructor
    · rintro ⟨h1, h2⟩ s hs
      unfold fitS
      rw [h1 s hs, Bool.true_and, List.all_eq_true]
      exact h2 s hs
    · intro h
      refine ⟨fun s hs => ?_, fun s hs t ht => ?_⟩
      · have := h s hs
        unfold fitS at this
        rw [Bool.and_eq_true] at this
        exact this.1
      · have := h s hs
        unfold fitS at this
        rw [Bool.and_eq_true, List.all_eq_true] at this
        exact this.2 t ht
  unfold Pl.fitUp
  rw [e]
end Go.Proofs.YtephhllfodlfbaaGreatDoor
/-
  The document's own check of a list of paths: its kinds.
-/
namespace Go.Proofs.YtephhllfodlfbaaGreatDoor
open Go.RowKit

/-- f of all tests, step by step -/
theorem tests_all {α : Type} (p : Pl.Pth α) (f : Pl.Tst α → Bool) : p.tests.all f = p.steps.all fun s => s.tests.all f := by
  unfold Pl.Pth.tests
  rw [List.all_flatMap]
theorem all_and {β : Type} (l : List β) (f g : β → Bool) : (l.all f && l.all g) = l.all fun x => f x && g x := by
  rw [Bool.eq_iff_iff]
  simp only [Bool.and_eq_true, List.all_eq_true]
  exact ⟨fun h x hx => ⟨h.1 x hx, h.2 x hx⟩, fun h => ⟨fun x hx => (h x hx).1, fun x hx => (h x hx).2⟩⟩
/-- of every list within -/
def Inner {α : Type} (ok : List α → Prop) (l : List (Pl.Pth α)) : Prop := ∀ p ∈ l, ∀ s ∈ p.steps, ∀ t ∈ s.tests, Pl.kList t.kind = true → ok t.list
end Go.Proofs.YtephhllfodlfbaaGreatDoor
