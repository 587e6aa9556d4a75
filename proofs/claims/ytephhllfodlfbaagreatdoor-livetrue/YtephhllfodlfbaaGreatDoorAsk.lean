/-
  The keys of an element, as the document's own answer tells them.
-/
import Derived.Test.YtephhllfodlfbaaGreatDoorFor
import Derived.Deep.AppendLies
import Derived.Test.YtephhllfodlfbaaGreatDoorIsR
import Derived.Test.YtephhllfodlfbaaGreatDoorMem
import Derived.Test.YtephhllfodlfbaaGreatDoorRem
namespace Go.Proofs.YtephhllfodlfbaaGreatDoor
open Go.RowKit

theorem blk_grown {w w' : World} {N : Nat} {g : Option Nat} {c0 c1 c2 c3 c4 : Value} (h : Blk w N c0 c1 c2 c3 c4) (hg : w.grownBy w' g) (hne : some N ≠ g) : Blk w' N c0 c1 c2 c3 c4 := (hg.block N h.lt hne).trans h
theorem Tryz.info61 : (Tryz.prog.info? 61).map (fun i => (i.zero, i.size, i.bytes)) = some (some (.agg #[.int .i64 0, .string ⟨#[]⟩, .slice none 0 0]), 3, 48) := by kernel_rfl
theorem own_form {w : World} {B : Nat} {e : TypeId} {size : Nat} {v : Value} {n : Nat} {xs : List Value} (h : w.ownsRow B e size v n xs) : ∃ a c, v = .slice a n c := by
  rcases h.2 with ⟨rfl, h0⟩ | ⟨g, cap, cur, rfl, _⟩
  · exact ⟨none, 0, by rw [h0]⟩
  · exact ⟨_, cap, rfl⟩
theorem below_grow {w W w' : World} {g : Option Nat} (h : Below w.heap.size w W) (hg : W.grownBy w' g) (hn : ∀ k, g = some k → w.heap.size ≤ k) : Below w.heap.size w w' :=
  h.trans ⟨hg.os, hg.tape, hg.output, hg.size, fun k hk => hg.block k (Nat.lt_of_lt_of_le hk h.size) (fun e => by have := hn k e.symm; omega)⟩
/-- keys as entries without a place -/
def enCells (ks : List Pl.Key) : List Value := ks.flatMap fun k => [.int .i64 k.1, .string ⟨k.2.toArray⟩, .slice none 0 0]
/-- one key more -/
theorem wpList_eadd {ops : Array Oper} {rest : List Oper} {o : Oper} {a : Act} {Q : Exit → Act → World → Prop} {B : Nat} {w2 : World} {v : Value} {ks : List Pl.Key} {k : Pl.Key} (hgd : o.guard = none) (s t : Operand)
    (ho : o.op = .call { callee := .builtin .append, args := #[s, t], argTypes := #[30, 30] }) (hs : a.eval s = v) (hx : a.eval t = .slice (some ⟨w2.heap.size, 0, none⟩) 1 1)
    (hown : w2.ownsRow B 61 3 v ks.length (enCells ks)) (hlen : ks.length + 1 ≤ 64) (hB : B ≤ w2.heap.size)
    (h : ∀ g cap w', w'.ownsRow B 61 3 (.slice (some ⟨g, 0, none⟩) (ks.length + 1) cap) (ks.length + 1) (enCells (ks ++ [k])) → (w2.alloc (.cells #[.int .i64 k.1, .string ⟨k.2.toArray⟩, .slice none 0 0] 61)).grownBy w' v.ownBlock → wpList Tryz.prog ops Q rest (a.put o.dst (.slice (some ⟨g, 0, none⟩) (ks.length + 1) cap)) w') :
    wpList Tryz.prog ops Q (o :: rest) a (w2.alloc (.cells #[.int .i64 k.1, .string ⟨k.2.toArray⟩, .slice none 0 0] 61)) := by
  obtain ⟨i0, hi, hz0, hz1, hz2⟩ := info_parts Tryz.info61
  refine wpList_append_lies _ hgd s t 30 ho B 61 i0 _ 3 48 Tryz.underlying30 hi hz0 hz1 hz2 rfl (by decide) v ks.length (enCells ks) hs (own_on hown (on_alloc _ _)) ⟨w2.heap.size, 0, none⟩ 1 1 [.int .i64 k.1, .string ⟨k.2.toArray⟩, .slice none 0 0] hx rfl ?_ ?_ (by decide) (by unfold maxLen; omega) (by omega) (by simp; omega) _ rfl ?_
  · exact World.news_of_block (heap_alloc_new w2 _)
  · intro u hu
    simp only [List.mem_cons, List.not_mem_nil, or_false] at hu
    rcases hu with rfl | rfl | rfl <;> rfl
  · intro g cap w' h1 h2 _ _
    exact h g cap w' (by rw [show enCells (ks ++ [k]) = enCells ks ++ [.int .i64 k.1, .string ⟨k.2.toArray⟩, .slice none 0 0] by simp [enCells]]; exact h1) h2
namespace Pl
def keysTo (x : Nd) (j : Nat) : List Key := (1, x.tag) :: ((if x.id = [] then [] else [(2, x.id)]) ++ (x.cls.take j).map fun c => (3, c))
theorem keysTo_all (x : Nd) : keysTo x x.cls.length = keysOf x := by simp [keysTo, keysOf]
theorem keysTo_succ (x : Nd) (j : Nat) (h : j < x.cls.length) : keysTo x (j + 1) = keysTo x j ++ [(3, x.cls[j])] := by
  unfold keysTo
  rw [List.take_succ_eq_append_getElem h, List.map_append]
  simp only [List.map_cons, List.map_nil, List.cons_append, List.append_assoc]
theorem keysTo_len (x : Nd) (j : Nat) : (keysTo x j).length ≤ 2 + j := by
  unfold keysTo
  split <;> simp <;> omega
end Pl
set_option maxRecDepth 100000 in
set_option maxHeartbeats 2000000 in
theorem keys_any (v : Value) (x : Pl.Nd) (w : World) (hv : NdV w v x) (h6 : x.cls.length ≤ 6) :
    Calls Tryz.prog 62 #[v] w fun e w' => ∃ u, e = .returned u ∧ w'.ownsRow (w.heap.size + 1) 61 3 u (Pl.keysOf x).length (enCells (Pl.keysOf x)) ∧ Below w.heap.size w w' := by
  obtain ⟨vc, va, rfl, hvc, hva⟩ := hv
  obtain ⟨ac, cc, rfl, _⟩ := id hvc
  obtain ⟨aa, ca, rfl, _⟩ := id hva
  have HVC : Hid (StrsAt _ _ _) := hvc
  have hB := boxes w (.cells #[.int .i64 x.up, .string ⟨x.tag.toArray⟩, .string ⟨x.id.toArray⟩, .slice ac x.cls.length cc, .slice aa x.ats.length ca] 28) (.cells #[.int .i64 1, .string ⟨x.tag.toArray⟩, .slice none 0 0] 61)
  have bX : Blk (w.alloc (.cells #[.int .i64 x.up, .string ⟨x.tag.toArray⟩, .string ⟨x.id.toArray⟩, .slice ac x.cls.length cc, .slice aa x.ats.length ca] 28)) w.heap.size (.int .i64 x.up) (.string ⟨x.tag.toArray⟩) (.string ⟨x.id.toArray⟩) (.slice ac x.cls.length cc) (.slice aa x.ats.length ca) := heap_alloc_new w _
  have bY := bX.on (on_alloc _ (.cells #[.int .i64 1, .string ⟨x.tag.toArray⟩, .slice none 0 0] 61))
  have hz : (w.alloc (.cells #[.int .i64 x.up, .string ⟨x.tag.toArray⟩, .string ⟨x.id.toArray⟩, .slice ac x.cls.length cc, .slice aa x.ats.length ca] 28)).heap.size = w.heap.size + 1 := by simp
  have O1 : Hid _ := World.ownsRow_lit (base := w.heap.size + 1) (e := 61) (size := 3) (w.alloc (.cells #[.int .i64 x.up, .string ⟨x.tag.toArray⟩, .string ⟨x.id.toArray⟩, .slice ac x.cls.length cc, .slice aa x.ats.length ca] 28)) #[.int .i64 1, .string ⟨x.tag.toArray⟩, .slice none 0 0] 1 (by rw [hz]; exact Nat.le_refl _) (by unfold maxLen; omega) rfl
  have hsz : ((w.alloc (.cells #[.int .i64 x.up, .string ⟨x.tag.toArray⟩, .string ⟨x.id.toArray⟩, .slice ac x.cls.length cc, .slice aa x.ats.length ca] 28)).alloc (.cells #[.int .i64 1, .string ⟨x.tag.toArray⟩, .slice none 0 0] 61)).heap.size = w.heap.size + 2 := by simp
  have HBY : Hid _ := bY
  obtain ⟨⟨_, x1, _, _, _⟩, _⟩ := bX.facts
  obtain ⟨⟨_, _, y2, y3, _⟩, _⟩ := bY.facts
  clear hvc hva bX bY
  have hcase : x.id.isEmpty = true ∨ x.id.isEmpty = false := by cases x.id.isEmpty <;> simp
  go_enter Tryz.func62, Tryz.ntmps62
  rcases hcase with hi | hi
  case' inl =>
    have hk0 : Pl.keysTo x 0 = [(1, x.tag)] := by unfold Pl.keysTo; rw [if_pos (List.isEmpty_iff.1 hi)]; simp
    have HO : Hid (((w.alloc (.cells #[.int .i64 x.up, .string ⟨x.tag.toArray⟩, .string ⟨x.id.toArray⟩, .slice ac x.cls.length cc, .slice aa x.ats.length ca] 28)).alloc (.cells #[.int .i64 1, .string ⟨x.tag.toArray⟩, .slice none 0 0] 61)).ownsRow (w.heap.size + 1) 61 3 (.slice (some ⟨w.heap.size + 1, 0, none⟩) 1 1) (Pl.keysTo x 0).length (enCells (Pl.keysTo x 0))) := by
      unfold Hid; rw [hk0]; have := O1.out; rw [hz] at this; exact this
    clear hk0 O1
    go_wp2_with fail
    generalize (w.alloc (.cells #[.int .i64 x.up, .string ⟨x.tag.toArray⟩, .string ⟨x.id.toArray⟩, .slice ac x.cls.length cc, .slice aa x.ats.length ca] 28)).alloc (.cells #[.int .i64 1, .string ⟨x.tag.toArray⟩, .slice none 0 0] 61) = wl at *
    have HBl : Hid (Blk wl w.heap.size (.int .i64 x.up) (.string ⟨x.tag.toArray⟩) (.string ⟨x.id.toArray⟩) (.slice ac x.cls.length cc) (.slice aa x.ats.length ca)) := HBY.out
    have HBe : Hid (Below w.heap.size w wl) := hB
    have hsl : w.heap.size + 2 ≤ wl.heap.size := by omega
    clear HBY hB x1 y2 y3
  case' inr =>
    have hk0 : Pl.keysTo x 0 = [(1, x.tag)] ++ [(2, x.id)] := by unfold Pl.keysTo; rw [if_neg (by intro e; rw [e] at hi; simp at hi)]; simp
    have HK0 : Hid _ := hk0
    have HO1 : Hid (((w.alloc (.cells #[.int .i64 x.up, .string ⟨x.tag.toArray⟩, .string ⟨x.id.toArray⟩, .slice ac x.cls.length cc, .slice aa x.ats.length ca] 28)).alloc (.cells #[.int .i64 1, .string ⟨x.tag.toArray⟩, .slice none 0 0] 61)).ownsRow (w.heap.size + 1) 61 3 (.slice (some ⟨w.heap.size + 1, 0, none⟩) 1 1) [((1 : Int), x.tag)].length (enCells [(1, x.tag)])) := by
      unfold Hid; have := O1.out; rw [hz] at this; exact this
    clear hk0 O1
    go_wp2_with (at_builtin; refine Hid.out ?_)
    generalize (w.alloc (.cells #[.int .i64 x.up, .string ⟨x.tag.toArray⟩, .string ⟨x.id.toArray⟩, .slice ac x.cls.length cc, .slice aa x.ats.length ca] 28)).alloc (.cells #[.int .i64 1, .string ⟨x.tag.toArray⟩, .slice none 0 0] 61) = w1 at *
    unfold Hid
    refine wpList_eadd (B := w.heap.size + 1) (w2 := w1) (v := .slice (some ⟨w.heap.size + 1, 0, none⟩) 1 1) (ks := [(1, x.tag)]) (k := (2, x.id)) ?_ (.tmp 12) (.tmp 16) ?_ ?_ ?_ HO1.out (by simp) (by omega) ?_
    · rfl
    · rfl
    · rfl
    · first | rfl | (simp [Act.eval, hsz]; done)
    intro g cap wl hrow hgr
    have HO : Hid (wl.ownsRow (w.heap.size + 1) 61 3 (.slice (some ⟨g, 0, none⟩) 2 cap) (Pl.keysTo x 0).length (enCells (Pl.keysTo x 0))) := by
      unfold Hid; rw [HK0.out]; exact hrow
    have HBl : Hid (Blk wl w.heap.size (.int .i64 x.up) (.string ⟨x.tag.toArray⟩) (.string ⟨x.id.toArray⟩) (.slice ac x.cls.length cc) (.slice aa x.ats.length ca)) := blk_grown ((show Blk w1 _ _ _ _ _ _ from HBY.out).on (on_alloc _ _)) hgr (by simp [Value.ownBlock])
    have HBe : Hid (Below w.heap.size w wl) := below_grow (below_trans hB (on_alloc _ _)) hgr (fun k hk => by simp [Value.ownBlock] at hk; omega)
    have hsl : w.heap.size + 2 ≤ wl.heap.size := by
      have h1 := hgr.size
      have h2 : ∀ ob : Obj, (w1.alloc ob).heap.size = w1.heap.size + 1 := fun ob => by simp
      rw [h2] at h1
      omega
    clear HBY hB x1 y2 y3 hrow hgr HO1 HK0
    go_wp2_with fail
  all_goals
    go_loopw [3, 4] (fun s i wr => ∃ j : Nat, j ≤ x.cls.length ∧ i = .int .i64 j ∧ Hid (wr.ownsRow (w.heap.size + 1) 61 3 s (Pl.keysTo x j).length (enCells (Pl.keysTo x j))) ∧ Hid (Blk wr w.heap.size (.int .i64 x.up) (.string ⟨x.tag.toArray⟩) (.string ⟨x.id.toArray⟩) (.slice ac x.cls.length cc) (.slice aa x.ats.length ca)) ∧ Hid (Below w.heap.size w wr) ∧ w.heap.size + 2 ≤ wr.heap.size) (fun _ i _ => x.cls.length - (intOf i).toNat)
    case atStart => exact ⟨0, Nat.zero_le _, rfl, HO, HBl, HBe, hsl⟩
    case round =>
      obtain ⟨j, hj, rfl, hr, hb, hbe, hs⟩ := hrel
      obtain ⟨av, cv, rfl⟩ := own_form hr.out
      have y3 := hb.out.facts.1.2.2.2.1
      by_cases hlt : j < x.cls.length
      · obtain ⟨a9, c9, e9, h9⟩ := StrsAt.on HVC.out hbe.out
        obtain ⟨rfl, rfl⟩ : a9 = ac ∧ c9 = cc := by injection e9 with q1 q2 q3; exact ⟨q1.symm, q3.symm⟩
        obtain ⟨b9, o9, rfl, hc9⟩ := h9.resolve_left (by intro h; rw [h] at hlt; simp at hlt)
        have q9 := hc9 j hlt
        have hkl := Pl.keysTo_len x j
        have HKS : Hid _ := Pl.keysTo_succ x j hlt
        have hOwn := World.ownsRow.lt hr.out
        clear hc9 e9
        generalize Pl.keysTo x j = ks at *
        go_wp2_with (at_builtin; refine Hid.out ?_)
        unfold Hid
        refine wpList_eadd (B := w.heap.size + 1) (w2 := wr) (v := .slice av ks.length cv) (ks := ks) (k := (3, x.cls[j])) ?_ (.tmp 25) (.tmp 32) ?_ ?_ ?_ hr.out (by omega) (by omega) ?_
        · rfl
        · rfl
        · rfl
        · rfl
        intro g cap' w5 hrow hgr
        have HO5 : Hid (w5.ownsRow (w.heap.size + 1) 61 3 (.slice (some ⟨g, 0, none⟩) (ks.length + 1) cap') (Pl.keysTo x (j + 1)).length (enCells (Pl.keysTo x (j + 1)))) := by
          unfold Hid; rw [HKS.out, List.length_append]; exact hrow
        have HBl5 : Hid (Blk w5 w.heap.size (.int .i64 x.up) (.string ⟨x.tag.toArray⟩) (.string ⟨x.id.toArray⟩) (.slice (some ⟨b9, o9, none⟩) x.cls.length c9) (.slice aa x.ats.length ca)) := blk_grown (hb.out.on (on_alloc _ _)) hgr (fun e => by have := (hOwn _ e.symm).1; omega)
        have HBe5 : Hid (Below w.heap.size w w5) := below_grow (below_trans hbe.out (on_alloc _ _)) hgr (fun k hk => by have := (hOwn k hk).1; omega)
        have hs5 : w.heap.size + 2 ≤ w5.heap.size := by
          have h1 := hgr.size
          have h2 : ∀ ob : Obj, (wr.alloc ob).heap.size = wr.heap.size + 1 := fun ob => by simp
          rw [h2] at h1
          omega
        clear hrow hgr
        go_wp2
        exact ⟨⟨j + 1, hlt, by go_num, HO5, HBl5, HBe5, hs5⟩, by simp [intOf]; omega⟩
      · obtain rfl : j = x.cls.length := by omega
        have hr2 := hr.out
        rw [Pl.keysTo_all] at hr2
        have HR2 : Hid _ := hr2
        clear hr hr2
        go_wp2
        go_ret
        exact ⟨_, rfl, by first | exact HR2.out | (rw [Pl.keysTo_all]; exact HR2.out), hbe.out⟩
end Go.Proofs.YtephhllfodlfbaaGreatDoor
/-
  What the document says of attribute tests: texts that stand in texts, words. Plain, and walked.
-/
namespace Go.Proofs.YtephhllfodlfbaaGreatDoor
open Go.RowKit

namespace Pl
/-- a text stands in another one, at a place -/
def stands (s t : List UInt8) (i : Int) : Bool := decide (0 ≤ i) && (decide (i + t.length ≤ s.length) && ((s.drop i.toNat).take t.length == t))
/-- what word asks at a place -/
def wordAt (s t : List UInt8) (i : Nat) : Bool := stands s t i && ((decide (i = 0) || s[i - 1]? == some 32) && (decide (i + t.length = s.length) || s[i + t.length]? == some 32))
def word (s t : List UInt8) : Bool := !t.isEmpty && (t.all (fun c => !(c == 32)) && (List.range (s.length + 1)).any (wordAt s t))
def valOk (kind : Int) (s t : List UInt8) : Bool :=
  if kind = 3 then true
  else if kind = 4 then s == t
  else if kind = 8 then word s t
  else if t.isEmpty = true then false
  else if kind = 5 then stands s t 0
  else if kind = 6 then stands s t ((s.length : Int) - t.length)
  else (List.range s.length).any fun i => stands s t i
end Pl
theorem ex_mid (l : List UInt8) (a b : Nat) : (⟨l.toArray⟩ : ByteArray).extract a b = ⟨((l.drop a).take (b - a)).toArray⟩ := by
  rw [Lib.extract_eq]
end Go.Proofs.YtephhllfodlfbaaGreatDoor
/-
  What the document says of words in a value.
-/
namespace Go.Proofs.YtephhllfodlfbaaGreatDoor
open Go.RowKit

theorem any_none {n : Nat} {p : Nat → Bool} (h : ∀ j, j < n → p j = false) : (List.range n).any p = false := by
  rw [Bool.eq_false_iff]
  intro e
  rw [List.any_eq_true] at e
  obtain ⟨x, hx, hp⟩ := e
  rw [h x (by simpa using hx)] at hp
  cases hp
end Go.Proofs.YtephhllfodlfbaaGreatDoor
/-
  Names and values, as the document's own answer tells them.
-/
namespace Go.Proofs.YtephhllfodlfbaaGreatDoor
open Go.RowKit

def within (n lo hi : Int) : Bool := decide (lo ≤ n) && decide (n ≤ hi)
end Go.Proofs.YtephhllfodlfbaaGreatDoor
/-
  Names, as the document's own answer tells them.
-/
namespace Go.Proofs.YtephhllfodlfbaaGreatDoor
open Go.RowKit

end Go.Proofs.YtephhllfodlfbaaGreatDoor
/-
  insert: elements laid in among others.
-/
namespace Go.Proofs.YtephhllfodlfbaaGreatDoor
open Go.RowKit

/-- the elements with others laid in ahead of place, below up -/
def insRow (ns : List Pl.Nd) (up : Int) (place : Nat) (es : List Pl.Nd) : List Pl.Nd :=
  (ns.take place).map (Pl.mvd id) ++ es.map (Pl.mvd (Pl.mvIn up place)) ++ (ns.drop place).map (Pl.mvd (Pl.mvOut place es.length))
theorem two_cells (w : World) (o1 o2 o3 : Obj) : Below w.heap.size w (((w.alloc o1).alloc o2).alloc o3) := ((Below.refl w.heap.size w).alloc (Nat.le_refl _) o1).alloc (by simp) o2 |>.alloc (by simp; omega) o3

end Go.Proofs.YtephhllfodlfbaaGreatDoor
/-
  Insert: a document laid in below an element.
-/
namespace Go.Proofs.YtephhllfodlfbaaGreatDoor
open Go.RowKit

/-- the number that the first of what is laid in gets -/
def placeOf (ns : List Pl.Nd) (up at_ : Int) : Nat := if at_ < ((Pl.kidsOf ns up).length : Int) then (Pl.kidsOf ns up).getD at_.toNat 0 else Pl.behind ns up.toNat
def insErr (ns : List Pl.Nd) (up at_ : Int) (es : List Pl.Nd) : Int :=
  if Pl.checkDoc ns = 0 then if Pl.checkDoc es = 0 then if hasB ns.length up = true then if at_ < 0 ∨ ((Pl.kidsOf ns up).length : Int) < at_ then 3 else if 64 < ns.length + es.length then 2 else 0 else 5 else Pl.checkDoc es else Pl.checkDoc ns
def insOf (ns : List Pl.Nd) (up at_ : Int) (es : List Pl.Nd) : List Pl.Nd := if insErr ns up at_ es = 0 then insRow ns up (placeOf ns up at_) es else []
theorem kids_lt {ns : List Pl.Nd} {n : Int} {i : Nat} (h : i ∈ Pl.kidsOf ns n) : i < ns.length := by
  unfold Pl.kidsOf Pl.kidsTo at h
  have := (List.mem_filter.1 h).1
  simpa using this
theorem insRow_len (ns : List Pl.Nd) (up : Int) (place : Nat) (es : List Pl.Nd) : (insRow ns up place es).length = ns.length + es.length := by
  unfold insRow
  simp
  omega
theorem insRow_short {ns es : List Pl.Nd} (h1 : ∀ x ∈ ns, x.cls.length ≤ 6 ∧ x.ats.length ≤ 4) (h2 : ∀ x ∈ es, x.cls.length ≤ 6 ∧ x.ats.length ≤ 4) (up : Int) (place : Nat) : ∀ x ∈ insRow ns up place es, x.cls.length ≤ 6 ∧ x.ats.length ≤ 4 := by
  intro x hx
  unfold insRow at hx
  rcases List.mem_append.1 hx with hx | hx
  · rcases List.mem_append.1 hx with hx | hx
    · exact mvd_short (fun x hx => h1 x (List.mem_of_mem_take hx)) x hx
    · exact mvd_short h2 x hx
  · exact mvd_short (fun x hx => h1 x (List.mem_of_mem_drop hx)) x hx

end Go.Proofs.YtephhllfodlfbaaGreatDoor
/-
  Kids and Under.
-/
namespace Go.Proofs.YtephhllfodlfbaaGreatDoor
open Go.RowKit

def kidsAns (ns : List Pl.Nd) (n : Int) : List Nat := if checkAtOf ns n = 0 then Pl.kidsOf ns n else []
end Go.Proofs.YtephhllfodlfbaaGreatDoor
