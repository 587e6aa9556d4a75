/-
  Which entry comes behind which, as the document's own answer tells it.
-/
import Derived.Test.YtagobgjlhdbhmaaGreatDoorIdxP
import Derived.Test.YtagobgjlhdbhmaaGreatDoorDocO
import Derived.Test.YtagobgjlhdbhmaaGreatDoorDocA
import Derived.Deep.AppendLies
import Derived.Test.YtagobgjlhdbhmaaGreatDoorIsR
import Derived.Test.YtagobgjlhdbhmaaGreatDoorMem
import Derived.Test.YtagobgjlhdbhmaaGreatDoorRem
import Derived.BigQuiet
import Derived.Deep.QuietTactic
import Derived.Test.YtagobgjlhdbhmaaGreatDoorKids
import Derived.RangeFuncBox
namespace Go.Proofs.YtagobgjlhdbhmaaGreatDoor
open Go.RowKit

theorem Pl.bl_gtr (a b : List UInt8) : (!(Op.bytesLess a b || a == b)) = Op.bytesLess b a := by
  rcases Pl.bl_total a b with h | h | h
  · have h2 : Op.bytesLess b a = false := by
      cases h3 : Op.bytesLess b a with
      | false => rfl
      | true => have := Pl.bl_trans _ _ _ h h3; rw [Pl.bl_irrefl] at this; cases this
    rw [h, h2]; rfl
  · subst h; simp [Pl.bl_irrefl]
  · have h2 : Op.bytesLess a b = false := by
      cases h3 : Op.bytesLess a b with
      | false => rfl
      | true => have := Pl.bl_trans _ _ _ h h3; rw [Pl.bl_irrefl] at this; cases this
    have h4 : (a == b) = false := by
      cases h5 : a == b with
      | false => rfl
      | true =>
        have := eq_of_beq h5
        subst this
        rw [Pl.bl_irrefl] at h
        cases h
    rw [h, h2, h4]; rfl
theorem Pl.bl_gtr2 (a b : List UInt8) : (!Op.bytesLess a b && !a == b) = Op.bytesLess b a := by
  have h := Pl.bl_gtr a b
  rw [Bool.not_or] at h
  exact h
end Go.Proofs.YtagobgjlhdbhmaaGreatDoor
/-
  Trees in plain lists (as forests), and how they lie in memory.
-/
namespace Go.Proofs.YtagobgjlhdbhmaaGreatDoor
open Go.RowKit

namespace Pl
/-- trees side by side: the first one's element, its kids, and the trees behind it -/
inductive F where
  | nil : F
  | cons (x : Nd) (k r : F) : F
namespace F
def len : F → Nat
  | .nil => 0
  | .cons _ _ r => r.len + 1
def size : F → Nat
  | .nil => 0
  | .cons _ k r => k.size + r.size + 1
def drop : F → Nat → F
  | f, 0 => f
  | .nil, _ + 1 => .nil
  | .cons _ _ r, n + 1 => r.drop n
theorem drop_zero (f : F) : f.drop 0 = f := by cases f <;> rfl
end F
end Pl

/-- a block of P that may be written -/
def Own (P : Nat → Prop) (w : World) (b : Nat) : Prop := P b ∧ ∀ i, w.frozen? ⟨b, i, none⟩ = false
end Go.Proofs.YtagobgjlhdbhmaaGreatDoor
/-
  The keys of an element, as the document's own answer tells them.
-/
namespace Go.Proofs.YtagobgjlhdbhmaaGreatDoor
open Go.RowKit

theorem blk_grown {w w' : World} {N : Nat} {g : Option Nat} {c0 c1 c2 c3 c4 : Value} (h : Blk w N c0 c1 c2 c3 c4) (hg : w.grownBy w' g) (hne : some N ≠ g) : Blk w' N c0 c1 c2 c3 c4 := (hg.block N h.lt hne).trans h
theorem Tryz.info55 : (Tryz.prog.info? 55).map (fun i => (i.zero, i.size, i.bytes)) = some (some (.agg #[.int .i64 0, .string ⟨#[]⟩, .slice none 0 0]), 3, 48) := by kernel_rfl
theorem own_form {w : World} {B : Nat} {e : TypeId} {size : Nat} {v : Value} {n : Nat} {xs : List Value} (h : w.ownsRow B e size v n xs) : ∃ a c, v = .slice a n c := by
  rcases h.2 with ⟨rfl, h0⟩ | ⟨g, cap, cur, rfl, _⟩
  · exact ⟨none, 0, by rw [h0]⟩
  · exact ⟨_, cap, rfl⟩
theorem below_grow {w W w' : World} {g : Option Nat} (h : Below w.heap.size w W) (hg : W.grownBy w' g) (hn : ∀ k, g = some k → w.heap.size ≤ k) : Below w.heap.size w w' :=
  h.trans ⟨hg.os, hg.tape, hg.output, hg.size, fun k hk => hg.block k (Nat.lt_of_lt_of_le hk h.size) (fun e => by have := hn k e.symm; omega)⟩
namespace Pl
def keysTo (x : Nd) (j : Nat) : List Key := (1, x.tag) :: ((if x.id = [] then [] else [(2, x.id)]) ++ (x.cls.take j).map fun c => (3, c))
theorem keysTo_all (x : Nd) : keysTo x x.cls.length = keysOf x := by simp [keysTo, keysOf]
theorem keysTo_succ (x : Nd) (j : Nat) (h : j < x.cls.length) : keysTo x (j + 1) = keysTo x j ++ [(3, x.cls[j])] := by
  unfold keysTo
  rw [List.take_succ_eq_append_getElem h, List.map_append]
  simp only [List.map_cons, List.map_nil, List.cons_append, List.append_assoc]
theorem keysTo_len (x : Nd) (j : Nat) : (keysTo x j).length ≤ 2 + j := by
  unfold keysTo
  split <;> simp <;> omega
end Pl
end Go.Proofs.YtagobgjlhdbhmaaGreatDoor
/-
  What the document says of attribute tests: texts that stand in texts, words. Plain, and walked.
-/
namespace Go.Proofs.YtagobgjlhdbhmaaGreatDoor
open Go.RowKit

namespace Pl
/-- a text stands in another one, at a place -/
def stands (s t : List UInt8) (i : Int) : Bool := decide (0 ≤ i) && (decide (i + t.length ≤ s.length) && ((s.drop i.toNat).take t.length == t))
/-- what word asks at a place -/
def wordAt (s t : List UInt8) (i : Nat) : Bool := stands s t i && ((decide (i = 0) || s[i - 1]? == some 32) && (decide (i + t.length = s.length) || s[i + t.length]? == some 32))
def word (s t : List UInt8) : Bool := !t.isEmpty && (t.all (fun c => !(c == 32)) && (List.range (s.length + 1)).any (wordAt s t))
def valOk (kind : Int) (s t : List UInt8) : Bool :=
  if kind = 3 then true
  else if kind = 4 then s == t
  else if kind = 8 then word s t
  else if t.isEmpty = true then false
  else if kind = 5 then stands s t 0
  else if kind = 6 then stands s t ((s.length : Int) - t.length)
  else (List.range s.length).any fun i => stands s t i
end Pl
theorem ex_mid (l : List UInt8) (a b : Nat) : (⟨l.toArray⟩ : ByteArray).extract a b = ⟨((l.drop a).take (b - a)).toArray⟩ := by
  rw [Lib.extract_eq]
end Go.Proofs.YtagobgjlhdbhmaaGreatDoor
/-
  What the document says of words in a value.
-/
namespace Go.Proofs.YtagobgjlhdbhmaaGreatDoor
open Go.RowKit

theorem any_none {n : Nat} {p : Nat → Bool} (h : ∀ j, j < n → p j = false) : (List.range n).any p = false := by
  rw [Bool.eq_false_iff]
  intro e
  rw [List.any_eq_true] at e
  obtain ⟨x, hx, hp⟩ := e
  rw [h x (by simpa using hx)] at hp
  cases hp
end Go.Proofs.YtagobgjlhdbhmaaGreatDoor
/-
  Names and values, as the document's own answer tells them.
-/
namespace Go.Proofs.YtagobgjlhdbhmaaGreatDoor
open Go.RowKit

def within (n lo hi : Int) : Bool := decide (lo ≤ n) && decide (n ≤ hi)
end Go.Proofs.YtagobgjlhdbhmaaGreatDoor
/-
  Names, as the document's own answer tells them.
-/
namespace Go.Proofs.YtagobgjlhdbhmaaGreatDoor
open Go.RowKit

end Go.Proofs.YtagobgjlhdbhmaaGreatDoor
/-
  insert: elements laid in among others.
-/
namespace Go.Proofs.YtagobgjlhdbhmaaGreatDoor
open Go.RowKit

theorem two_cells (w : World) (o1 o2 o3 : Obj) : Below w.heap.size w (((w.alloc o1).alloc o2).alloc o3) := ((Below.refl w.heap.size w).alloc (Nat.le_refl _) o1).alloc (by simp) o2 |>.alloc (by simp; omega) o3

end Go.Proofs.YtagobgjlhdbhmaaGreatDoor
/-
  Insert: a document laid in below an element.
-/
namespace Go.Proofs.YtagobgjlhdbhmaaGreatDoor
open Go.RowKit

end Go.Proofs.YtagobgjlhdbhmaaGreatDoor
/-
  Kids and Under.
-/
namespace Go.Proofs.YtagobgjlhdbhmaaGreatDoor
open Go.RowKit

end Go.Proofs.YtagobgjlhdbhmaaGreatDoor
/-
  Right documents in plain lists: no two links cross. No program is walked in this text.
-/
namespace Go.Proofs.YtagobgjlhdbhmaaGreatDoor.Pl

/-- the first N elements hang as they must: links do not cross -/
def GoodTo (ns : List Nd) (N : Nat) : Prop :=
  ∀ n : Nat, n < N → (n = 0 → upOf ns n = -1) ∧ (0 < n → 0 ≤ upOf ns n ∧ upOf ns n < n ∧ ∀ m : Nat, upOf ns n < m → m < n → upOf ns n ≤ upOf ns m)
theorem chase_iff {ns : List Nd} {n : Nat} (hg : GoodTo ns n) : ∀ (f : Nat) (k t : Int), k < n → -1 ≤ k → k + 1 < f → (chase ns f k t = true ↔ 0 ≤ t ∧ t ≤ k ∧ ∀ m : Nat, t < m → (m : Int) ≤ k → t ≤ upOf ns m) := by
  intro f
  induction f with
  | zero => intro k t _ h1 h2; omega
  | succ f ih =>
    intro k t hk h1 h2
    unfold chase
    by_cases h0 : k < 0
    · rw [if_pos h0]
      constructor
      · intro h; cases h
      · rintro ⟨a, b, _⟩; omega
    · rw [if_neg h0]
      by_cases he : (k == t) = true
      · rw [if_pos he]
        have he' : k = t := by simpa using he
        constructor
        · intro _; exact ⟨by omega, by omega, fun m _ _ => by omega⟩
        · intro _; rfl
      · rw [if_neg he]
        have he' : k ≠ t := by simpa using he
        obtain ⟨k', rfl⟩ : ∃ k' : Nat, k = k' := ⟨k.toNat, by omega⟩
        obtain ⟨g0, g1⟩ := hg k' (by omega)
        have hup : -1 ≤ upOf ns k' ∧ upOf ns k' < k' := by
          rcases Nat.eq_zero_or_pos k' with h | h
          · rw [g0 h]; omega
          · have := g1 h; omega
        rw [show ((k' : Int)).toNat = k' by omega, ih _ _ (by omega) hup.1 (by omega)]
        constructor
        · rintro ⟨a, b, c⟩
          refine ⟨a, by omega, fun m hm hmk => ?_⟩
          by_cases hmu : (m : Int) ≤ upOf ns k'
          · exact c m hm hmu
          · by_cases hmk' : m = k'
            · subst hmk'; exact b
            · have hpos : 0 < k' := by omega
              have := (g1 hpos).2.2 m (by omega) (by omega)
              omega
        · rintro ⟨a, b, c⟩
          exact ⟨a, c k' (by omega) (by omega), fun m hm hmk => c m hm (by omega)⟩
theorem hangs_iff {ns : List Nd} {n : Nat} (hg : GoodTo ns n) : hangs ns n = true ↔ (n = 0 → upOf ns n = -1) ∧ (0 < n → 0 ≤ upOf ns n ∧ upOf ns n < n ∧ ∀ m : Nat, upOf ns n < m → m < n → upOf ns n ≤ upOf ns m) := by
  unfold hangs
  by_cases h0 : n = 0
  · subst h0
    simp
  · rw [if_neg h0, chase_iff hg _ _ _ (by omega) (by omega) (by omega)]
    constructor
    · rintro ⟨a, b, c⟩
      exact ⟨fun h => absurd h h0, fun _ => ⟨a, by omega, fun m h1 h2 => c m h1 (by omega)⟩⟩
    · rintro ⟨_, h⟩
      obtain ⟨a, b, c⟩ := h (by omega)
      exact ⟨a, by omega, fun m h1 h2 => c m h1 (by omega)⟩
theorem GoodTo.succ {ns : List Nd} {n : Nat} (hg : GoodTo ns n) (h : (n = 0 → upOf ns n = -1) ∧ (0 < n → 0 ≤ upOf ns n ∧ upOf ns n < n ∧ ∀ m : Nat, upOf ns n < m → m < n → upOf ns n ≤ upOf ns m)) : GoodTo ns (n + 1) := by
  intro k hk
  by_cases h1 : k = n
  · subst h1; exact h
  · exact hg k (by omega)
def Rights (ns : List Nd) : Prop := ∀ x ∈ ns, right x = true
theorem okTo_good {ns : List Nd} : ∀ N, N ≤ ns.length → okTo ns N = true → GoodTo ns N ∧ ∀ k (h : k < ns.length), k < N → right ns[k] = true
  | 0, _, _ => ⟨fun n h => by omega, fun k _ h => by omega⟩
  | N + 1, hN, h => by
    rw [okTo_succ, Bool.and_eq_true, Bool.and_eq_true, List.getElem?_eq_getElem (by omega : N < ns.length)] at h
    obtain ⟨g, r⟩ := okTo_good N (by omega) h.1
    refine ⟨g.succ ((hangs_iff g).1 h.2.2), fun k hk hkN => ?_⟩
    by_cases h1 : k = N
    · subst h1; exact h.2.1
    · exact r k hk (by omega)
theorem good_okTo {ns : List Nd} (hr : Rights ns) : ∀ N, N ≤ ns.length → GoodTo ns N → okTo ns N = true
  | 0, _, _ => rfl
  | N + 1, hN, h => by
    have hlt : N < ns.length := by omega
    have g : GoodTo ns N := fun n hn => h n (by omega)
    rw [okTo_succ, List.getElem?_eq_getElem hlt, good_okTo hr N (by omega) g, (hangs_iff g).2 (h N (by omega))]
    simp [hr _ (List.getElem_mem hlt)]
/-- what a right document is -/
theorem check_iff (ns : List Nd) : checkDoc ns = 0 ↔ 1 ≤ ns.length ∧ ns.length ≤ 64 ∧ Rights ns ∧ GoodTo ns ns.length := by
  unfold checkDoc
  by_cases h : ns.length < 1 ∨ 64 < ns.length
  · rw [if_pos h]
    constructor
    · intro h; omega
    · intro h2; omega
  · rw [if_neg h]
    constructor
    · intro h2
      have hk : okTo ns ns.length = true := by
        cases hh : okTo ns ns.length with
        | true => rfl
        | false => rw [hh] at h2; simp at h2
      obtain ⟨g, r⟩ := okTo_good _ (Nat.le_refl _) hk
      refine ⟨by omega, by omega, fun x hx => ?_, g⟩
      obtain ⟨i, hi, rfl⟩ := List.getElem_of_mem hx
      exact r i hi hi
    · rintro ⟨_, _, r, g⟩
      rw [if_pos (good_okTo r _ (Nat.le_refl _) g)]

end Go.Proofs.YtagobgjlhdbhmaaGreatDoor.Pl
/-
  Kids and those under one, as the document's own answer tells them.
-/
namespace Go.Proofs.YtagobgjlhdbhmaaGreatDoor
open Go.RowKit

/-- a list of numbers in blocks from B on -/
def IntsF (B : Nat) (w : World) (v : Value) (ks : List Nat) : Prop :=
  ∃ a cap, v = .slice a ks.length cap ∧ (ks = [] ∨ ∃ b o, a = some ⟨b, o, none⟩ ∧ B ≤ b ∧ ∀ i (h : i < ks.length), w.cell? ⟨b, o + i, none⟩ = some (.int .i64 (ks[i] : Nat)))
theorem intsF_of_row {w : World} {B : Nat} {v : Value} {l : List Nat} (h : w.ownsRow B 3 1 v l.length (natCells l)) : IntsF B w v l := by
  have hh := h
  obtain ⟨_, h0 | ⟨g, cap, cur, rfl, hb, _⟩⟩ := h
  · obtain ⟨rfl, hl⟩ := h0
    have : l = [] := by simpa using hl
    subst this
    exact ⟨none, 0, rfl, Or.inl rfl⟩
  · refine ⟨_, cap, rfl, Or.inr ⟨g, 0, rfl, hb, fun i hi => ?_⟩⟩
    have := World.ownsRow.cells hh rfl i (.int .i64 (l[i] : Int)) (by simp [natCells, List.getElem?_eq_getElem hi])
    rw [Addr.add_lit] at this
    simpa using this
theorem IntsF.ints {B : Nat} {w : World} {v : Value} {l : List Nat} (h : IntsF B w v l) : IntsAt w v (l.map fun (k : Nat) => (k : Int)) := by
  obtain ⟨a, cap, rfl, h⟩ := h
  refine ⟨a, cap, by simp, ?_⟩
  rcases h with h | ⟨b, o, ha, _, hc⟩
  · exact Or.inl (by simp [h])
  · exact Or.inr ⟨b, o, ha, fun i hi => by simpa using hc i (by simpa using hi)⟩
theorem IntsF.mono {B B' : Nat} {w : World} {v : Value} {l : List Nat} (h : IntsF B w v l) (hB : B' ≤ B) : IntsF B' w v l := by
  obtain ⟨a, cap, rfl, h⟩ := h
  refine ⟨a, cap, rfl, ?_⟩
  rcases h with h | ⟨b, o, ha, hb, hc⟩
  · exact Or.inl h
  · exact Or.inr ⟨b, o, ha, by omega, hc⟩
/-- the one above, that above it, and so on -/
def aboveB (ns : List Pl.Nd) (a n : Nat) : Bool := way ns (Pl.upOf ns n) a
end Go.Proofs.YtagobgjlhdbhmaaGreatDoor
/-
  What the document says of attributes, of places in lists, of those above.
-/
namespace Go.Proofs.YtagobgjlhdbhmaaGreatDoor
open Go.RowKit

/-- the value of the first attribute of a name -/
def attr1 (ats : List (List UInt8 × List UInt8)) (name : List UInt8) : Option (List UInt8) := (ats.find? fun a => a.1 == name).map (·.2)
theorem blk5_cells {W : World} {N : Nat} {T : TypeId} {u0 u1 u2 u3 u4 : Value} (h : W.heap[N]? = some (.cells #[u0, u1, u2, u3, u4] T)) : W.cell? ⟨N, 0, none⟩ = some u0 ∧ W.cell? ⟨N, 1, none⟩ = some u1 ∧ W.cell? ⟨N, 2, none⟩ = some u2 ∧ W.cell? ⟨N, 3, none⟩ = some u3 ∧ W.cell? ⟨N, 4, none⟩ = some u4 := by
  refine ⟨?_, ?_, ?_, ?_, ?_⟩ <;> simp [World.cell?, h]
/-- the first place of a number in a list -/
def plc (ks : List Int) (n : Int) : Int := match (List.range ks.length).find? fun i => ks[i]? == some n with
  | some i => i
  | none => -1
theorem plc_hit {ks : List Int} {n : Int} {k : Nat} (hk : k < ks.length) (h : ∀ j, j < k → ¬ ks[j]? = some n) (he : ks[k]? = some n) : plc ks n = k := by
  unfold plc
  have : (List.range ks.length).find? (fun i => ks[i]? == some n) = some k := by
    rw [List.find?_range_eq_some]
    exact ⟨by simpa using he, by simpa using hk, fun j hj => by simpa using h j hj⟩
  rw [this]
theorem plc_miss {ks : List Int} {n : Int} (h : ∀ j, j < ks.length → ¬ ks[j]? = some n) : plc ks n = -1 := by
  unfold plc
  have : (List.range ks.length).find? (fun i => ks[i]? == some n) = none := by
    rw [List.find?_eq_none]
    intro x hx
    simpa using h x (by simpa using hx)
  rw [this]
end Go.Proofs.YtagobgjlhdbhmaaGreatDoor
