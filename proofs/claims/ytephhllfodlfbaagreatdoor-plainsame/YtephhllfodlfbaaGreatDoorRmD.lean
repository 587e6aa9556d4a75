/-
  Kids, and what stands behind an element, as the program tells them.
-/
import Derived.Test.YtephhllfodlfbaaGreatDoorCheck
import Derived.Deep.AppendLies
import Derived.Test.YtephhllfodlfbaaGreatDoorIsR
import Derived.Test.YtephhllfodlfbaaGreatDoorRefN
import Derived.BigQuiet
import Derived.Deep.QuietTactic
import Derived.RangeFuncBox
namespace Go.Proofs.YtephhllfodlfbaaGreatDoor
open Go.RowKit

namespace Pl
/-- the kids of n among the first k -/
def kidsTo (ns : List Nd) (n : Int) (k : Nat) : List Nat := (List.range k).filter fun i => upOf ns i == n
def kidsOf (ns : List Nd) (n : Int) : List Nat := kidsTo ns n ns.length
theorem kidsTo_hit (ns : List Nd) (n : Int) (k : Nat) (h : (upOf ns k == n) = true) : kidsTo ns n (k + 1) = kidsTo ns n k ++ [k] := by
  unfold kidsTo; rw [List.range_succ, List.filter_append]; simp [h]
theorem kidsTo_miss (ns : List Nd) (n : Int) (k : Nat) (h : (upOf ns k == n) = false) : kidsTo ns n (k + 1) = kidsTo ns n k := by
  unfold kidsTo; rw [List.range_succ, List.filter_append]; simp [h]
theorem kidsTo_len (ns : List Nd) (n : Int) (k : Nat) : (kidsTo ns n k).length ≤ k := by
  unfold kidsTo; exact Nat.le_trans (List.length_filter_le _ _) (by simp)
/-- the end of those from e on whose Up is n at least -/
def behindFrom (ns : List Nd) (n : Nat) : Nat → Nat → Nat
  | 0, e => e
  | f + 1, e => if e < ns.length ∧ (n : Int) ≤ upOf ns e then behindFrom ns n f (e + 1) else e
def behind (ns : List Nd) (n : Nat) : Nat := behindFrom ns n (ns.length - n) (n + 1)
end Pl
/-- numbers as cells -/
def natCells (l : List Nat) : List Value := l.map fun (k : Nat) => Value.int .i64 (k : Int)

theorem Tryz.info3 : (Tryz.prog.info? 3).map (fun i => (i.zero, i.size, i.bytes)) = some (some (.int .i64 0), 1, 8) := by kernel_rfl

end Go.Proofs.YtephhllfodlfbaaGreatDoor
/-
  An element copied into memory of its own.
-/
namespace Go.Proofs.YtephhllfodlfbaaGreatDoor
open Go.RowKit

theorem cell_set {w : World} {b o M j : Nat} {v u : Value} (h : w.cell? ⟨b, o, none⟩ = some v) (hne : M ≠ b) : (w.setCell ⟨M, j, none⟩ u).cell? ⟨b, o, none⟩ = some v := by
  rw [World.cell?_setCell_other _ _ _ _ (by intro e; injection e; omega)]; exact h
end Go.Proofs.YtephhllfodlfbaaGreatDoor
/-
  Where Up goes: the five rules that elements are copied by.
-/
namespace Go.Proofs.YtephhllfodlfbaaGreatDoor
open Go.RowKit

namespace Pl
def wr (u : Int) : Int := RowKit.wrap64 u
end Pl

end Go.Proofs.YtephhllfodlfbaaGreatDoor
/-
  A document as an argument or an answer; facts of right documents that the calls lean on.
-/
namespace Go.Proofs.YtephhllfodlfbaaGreatDoor
open Go.RowKit

/-- a slice with its room -/
def Capd (v : Value) : Prop := ∃ a l c, v = .slice a l c ∧ l ≤ c ∧ c ≤ maxLen
/-- a document's elements -/
def DocAt (w : World) (v : Value) (ns : List Pl.Nd) : Prop := NdsAt w v ns ∧ Capd v ∧ FitsAll ns
theorem DocAt.on {w w' : World} {v : Value} {ns : List Pl.Nd} (h : DocAt w v ns) (hb : Below w.heap.size w w') : DocAt w' v ns := ⟨h.1.on hb, h.2⟩
theorem DocAt.nil (w : World) : DocAt w (.slice none 0 0) [] := ⟨⟨none, 0, rfl, Or.inl rfl⟩, ⟨_, _, _, rfl, Nat.le_refl _, by unfold maxLen; omega⟩, by simp, fun i h => by simp at h⟩

theorem cell_set_str {w : World} {b o M j : Nat} {s : ByteArray} {u old : Value} (h : w.cell? ⟨b, o, none⟩ = some (.string s)) (h2 : w.cell? ⟨M, j, none⟩ = some old) (hs : ∀ s, old ≠ .string s) : (w.setCell ⟨M, j, none⟩ u).cell? ⟨b, o, none⟩ = some (.string s) := by
  rw [World.cell?_setCell_other _ _ _ _ (by intro e; rw [e, h] at h2; injection h2 with h2; exact hs s h2.symm)]; exact h
/-- what a right document has -/
theorem check_zero {ns : List Pl.Nd} (h : Pl.checkDoc ns = 0) : 1 ≤ ns.length ∧ ns.length ≤ 64 ∧ Pl.okTo ns ns.length = true := by
  unfold Pl.checkDoc at h
  split at h
  · omega
  · split at h
    · exact ⟨by omega, by omega, by assumption⟩
    · omega
theorem okTo_right {ns : List Pl.Nd} {n k : Nat} (h : Pl.okTo ns n = true) (hk : k < n) (hn : k < ns.length) : Pl.right ns[k] = true ∧ Pl.hangs ns k = true := by
  have := Pl.okTo_le h (n := k + 1) (by omega)
  rw [Pl.okTo_succ, List.getElem?_eq_getElem hn] at this
  simp only [Bool.and_eq_true] at this
  exact this.2
theorem right_short {x : Pl.Nd} (h : Pl.right x = true) : x.cls.length ≤ 6 ∧ x.ats.length ≤ 4 := by
  unfold Pl.right Pl.names at h
  simp only [Bool.and_eq_true, decide_eq_true_eq, List.length_map] at h
  exact ⟨h.1.1.2.1.1, h.1.2.1.1⟩
/-- a stretch of a document's elements -/
theorem NdsAt.part {w : World} {b o : Nat} {ns : List Pl.Nd} (h : ∀ i (h : i < ns.length), NdAt w b (o + i * 5) ns[i]) (lo m cap' : Nat) (hm : lo + m ≤ ns.length) : NdsAt w (.slice (some ⟨b, o + lo * 5, none⟩) m cap') ((ns.drop lo).take m) := by
  have hl : ((ns.drop lo).take m).length = m := by simp; omega
  refine ⟨_, _, by rw [hl], Or.inr ⟨b, _, rfl, fun i hi => ?_⟩⟩
  have := h (lo + i) (by omega)
  rw [show o + lo * 5 + i * 5 = o + (lo + i) * 5 by omega]
  simpa using this
end Go.Proofs.YtephhllfodlfbaaGreatDoor
/-
  Part: the elements under one, copied.
-/
namespace Go.Proofs.YtephhllfodlfbaaGreatDoor
open Go.RowKit

end Go.Proofs.YtephhllfodlfbaaGreatDoor
/-
  Remove: what is under an element left out.
-/
namespace Go.Proofs.YtephhllfodlfbaaGreatDoor
open Go.RowKit

theorem NdsAt.tail {w : World} {b o : Nat} {ns : List Pl.Nd} (h : ∀ i (h : i < ns.length), NdAt w b (o + i * 5) ns[i]) (lo cap' : Nat) (hm : lo ≤ ns.length) : NdsAt w (.slice (some ⟨b, o + lo * 5, none⟩) (ns.length - lo) cap') (ns.drop lo) := by
  have := NdsAt.part h lo (ns.length - lo) cap' (by omega)
  rwa [List.take_of_length_le (by simp)] at this

end Go.Proofs.YtephhllfodlfbaaGreatDoor
/-
  Right documents in plain lists: no two links cross. No program is walked in this text.
-/
namespace Go.Proofs.YtephhllfodlfbaaGreatDoor.Pl

/-- the first N elements hang as they must: links do not cross -/
def GoodTo (ns : List Nd) (N : Nat) : Prop :=
  ∀ n : Nat, n < N → (n = 0 → upOf ns n = -1) ∧ (0 < n → 0 ≤ upOf ns n ∧ upOf ns n < n ∧ ∀ m : Nat, upOf ns n < m → m < n → upOf ns n ≤ upOf ns m)
theorem chase_iff {ns : List Nd} {n : Nat} (hg : GoodTo ns n) : ∀ (f : Nat) (k t : Int), k < n → -1 ≤ k → k + 1 < f → (chase ns f k t = true ↔ 0 ≤ t ∧ t ≤ k ∧ ∀ m : Nat, t < m → (m : Int) ≤ k → t ≤ upOf ns m) := by
  intro f
  induction f with
  | zero => intro k t _ h1 h2; omega
  | succ f ih =>
    intro k t hk h1 h2
    unfold chase
    by_cases h0 : k < 0
    · rw [if_pos h0]
      constructor
      · intro h; cases h
      · rintro ⟨a, b, _⟩; omega
    · rw [if_neg h0]
      by_cases he : (k == t) = true
      · rw [if_pos he]
        have he' : k = t := by simpa using he
        constructor
        · intro _; exact ⟨by omega, by omega, fun m _ _ => by omega⟩
        · intro _; rfl
      · rw [if_neg he]
        have he' : k ≠ t := by simpa using he
        obtain ⟨k', rfl⟩ : ∃ k' : Nat, k = k' := ⟨k.toNat, by omega⟩
        obtain ⟨g0, g1⟩ := hg k' (by omega)
        have hup : -1 ≤ upOf ns k' ∧ upOf ns k' < k' := by
          rcases Nat.eq_zero_or_pos k' with h | h
          · rw [g0 h]; omega
          · have := g1 h; omega
        rw [show ((k' : Int)).toNat = k' by omega, ih _ _ (by omega) hup.1 (by omega)]
        constructor
        · rintro ⟨a, b, c⟩
          refine ⟨a, by omega, fun m hm hmk => ?_⟩
          by_cases hmu : (m : Int) ≤ upOf ns k'
          · exact c m hm hmu
          · by_cases hmk' : m = k'
            · subst hmk'; exact b
            · have hpos : 0 < k' := by omega
              have := (g1 hpos).2.2 m (by omega) (by omega)
              omega
        · rintro ⟨a, b, c⟩
          exact ⟨a, c k' (by omega) (by omega), fun m hm hmk => c m hm (by omega)⟩
theorem hangs_iff {ns : List Nd} {n : Nat} (hg : GoodTo ns n) : hangs ns n = true ↔ (n = 0 → upOf ns n = -1) ∧ (0 < n → 0 ≤ upOf ns n ∧ upOf ns n < n ∧ ∀ m : Nat, upOf ns n < m → m < n → upOf ns n ≤ upOf ns m) := by
  unfold hangs
  by_cases h0 : n = 0
  · subst h0
    simp
  · rw [if_neg h0, chase_iff hg _ _ _ (by omega) (by omega) (by omega)]
    constructor
    · rintro ⟨a, b, c⟩
      exact ⟨fun h => absurd h h0, fun _ => ⟨a, by omega, fun m h1 h2 => c m h1 (by omega)⟩⟩
    · rintro ⟨_, h⟩
      obtain ⟨a, b, c⟩ := h (by omega)
      exact ⟨a, by omega, fun m h1 h2 => c m h1 (by omega)⟩
theorem GoodTo.succ {ns : List Nd} {n : Nat} (hg : GoodTo ns n) (h : (n = 0 → upOf ns n = -1) ∧ (0 < n → 0 ≤ upOf ns n ∧ upOf ns n < n ∧ ∀ m : Nat, upOf ns n < m → m < n → upOf ns n ≤ upOf ns m)) : GoodTo ns (n + 1) := by
  intro k hk
  by_cases h1 : k = n
  · subst h1; exact h
  · exact hg k (by omega)
def Rights (ns : List Nd) : Prop := ∀ x ∈ ns, right x = true
theorem okTo_good {ns : List Nd} : ∀ N, N ≤ ns.length → okTo ns N = true → GoodTo ns N ∧ ∀ k (h : k < ns.length), k < N → right ns[k] = true
  | 0, _, _ => ⟨fun n h => by omega, fun k _ h => by omega⟩
  | N + 1, hN, h => by
    rw [okTo_succ, Bool.and_eq_true, Bool.and_eq_true, List.getElem?_eq_getElem (by omega : N < ns.length)] at h
    obtain ⟨g, r⟩ := okTo_good N (by omega) h.1
    refine ⟨g.succ ((hangs_iff g).1 h.2.2), fun k hk hkN => ?_⟩
    by_cases h1 : k = N
    · subst h1; exact h.2.1
    · exact r k hk (by omega)
theorem good_okTo {ns : List Nd} (hr : Rights ns) : ∀ N, N ≤ ns.length → GoodTo ns N → okTo ns N = true
  | 0, _, _ => rfl
  | N + 1, hN, h => by
    have hlt : N < ns.length := by omega
    have g : GoodTo ns N := fun n hn => h n (by omega)
    rw [okTo_succ, List.getElem?_eq_getElem hlt, good_okTo hr N (by omega) g, (hangs_iff g).2 (h N (by omega))]
    simp [hr _ (List.getElem_mem hlt)]
/-- what a right document is -/
theorem check_iff (ns : List Nd) : checkDoc ns = 0 ↔ 1 ≤ ns.length ∧ ns.length ≤ 64 ∧ Rights ns ∧ GoodTo ns ns.length := by
  unfold checkDoc
  by_cases h : ns.length < 1 ∨ 64 < ns.length
  · rw [if_pos h]
    constructor
    · intro h; omega
    · intro h2; omega
  · rw [if_neg h]
    constructor
    · intro h2
      have hk : okTo ns ns.length = true := by
        cases hh : okTo ns ns.length with
        | true => rfl
        | false => rw [hh] at h2; simp at h2
      obtain ⟨g, r⟩ := okTo_good _ (Nat.le_refl _) hk
      refine ⟨by omega, by omega, fun x hx => ?_, g⟩
      obtain ⟨i, hi, rfl⟩ := List.getElem_of_mem hx
      exact r i hi hi
    · rintro ⟨_, _, r, g⟩
      rw [if_pos (good_okTo r _ (Nat.le_refl _) g)]

end Go.Proofs.YtephhllfodlfbaaGreatDoor.Pl
/-
  Kids and those under one, as the document's own answer tells them.
-/
namespace Go.Proofs.YtephhllfodlfbaaGreatDoor
open Go.RowKit

/-- a list of numbers in blocks from B on -/
def IntsF (B : Nat) (w : World) (v : Value) (ks : List Nat) : Prop :=
  ∃ a cap, v = .slice a ks.length cap ∧ (ks = [] ∨ ∃ b o, a = some ⟨b, o, none⟩ ∧ B ≤ b ∧ ∀ i (h : i < ks.length), w.cell? ⟨b, o + i, none⟩ = some (.int .i64 (ks[i] : Nat)))
theorem intsF_of_row {w : World} {B : Nat} {v : Value} {l : List Nat} (h : w.ownsRow B 3 1 v l.length (natCells l)) : IntsF B w v l := by
  have hh := h
  obtain ⟨_, h0 | ⟨g, cap, cur, rfl, hb, _⟩⟩ := h
  · obtain ⟨rfl, hl⟩ := h0
    have : l = [] := by simpa using hl
    subst this
    exact ⟨none, 0, rfl, Or.inl rfl⟩
  · refine ⟨_, cap, rfl, Or.inr ⟨g, 0, rfl, hb, fun i hi => ?_⟩⟩
    have := World.ownsRow.cells hh rfl i (.int .i64 (l[i] : Int)) (by simp [natCells, List.getElem?_eq_getElem hi])
    rw [Addr.add_lit] at this
    simpa using this
theorem IntsF.ints {B : Nat} {w : World} {v : Value} {l : List Nat} (h : IntsF B w v l) : IntsAt w v (l.map fun (k : Nat) => (k : Int)) := by
  obtain ⟨a, cap, rfl, h⟩ := h
  refine ⟨a, cap, by simp, ?_⟩
  rcases h with h | ⟨b, o, ha, _, hc⟩
  · exact Or.inl (by simp [h])
  · exact Or.inr ⟨b, o, ha, fun i hi => by simpa using hc i (by simpa using hi)⟩
theorem IntsF.mono {B B' : Nat} {w : World} {v : Value} {l : List Nat} (h : IntsF B w v l) (hB : B' ≤ B) : IntsF B' w v l := by
  obtain ⟨a, cap, rfl, h⟩ := h
  refine ⟨a, cap, rfl, ?_⟩
  rcases h with h | ⟨b, o, ha, hb, hc⟩
  · exact Or.inl h
  · exact Or.inr ⟨b, o, ha, by omega, hc⟩
/-- the one above, that above it, and so on -/
def aboveB (ns : List Pl.Nd) (a n : Nat) : Bool := way ns (Pl.upOf ns n) a
end Go.Proofs.YtephhllfodlfbaaGreatDoor
/-
  What the document says of attributes, of places in lists, of those above.
-/
namespace Go.Proofs.YtephhllfodlfbaaGreatDoor
open Go.RowKit

/-- the value of the first attribute of a name -/
def attr1 (ats : List (List UInt8 × List UInt8)) (name : List UInt8) : Option (List UInt8) := (ats.find? fun a => a.1 == name).map (·.2)
theorem blk5_cells {W : World} {N : Nat} {T : TypeId} {u0 u1 u2 u3 u4 : Value} (h : W.heap[N]? = some (.cells #[u0, u1, u2, u3, u4] T)) : W.cell? ⟨N, 0, none⟩ = some u0 ∧ W.cell? ⟨N, 1, none⟩ = some u1 ∧ W.cell? ⟨N, 2, none⟩ = some u2 ∧ W.cell? ⟨N, 3, none⟩ = some u3 ∧ W.cell? ⟨N, 4, none⟩ = some u4 := by
  refine ⟨?_, ?_, ?_, ?_, ?_⟩ <;> simp [World.cell?, h]
/-- the first place of a number in a list -/
def plc (ks : List Int) (n : Int) : Int := match (List.range ks.length).find? fun i => ks[i]? == some n with
  | some i => i
  | none => -1
theorem plc_hit {ks : List Int} {n : Int} {k : Nat} (hk : k < ks.length) (h : ∀ j, j < k → ¬ ks[j]? = some n) (he : ks[k]? = some n) : plc ks n = k := by
  unfold plc
  have : (List.range ks.length).find? (fun i => ks[i]? == some n) = some k := by
    rw [List.find?_range_eq_some]
    exact ⟨by simpa using he, by simpa using hk, fun j hj => by simpa using h j hj⟩
  rw [this]
theorem plc_miss {ks : List Int} {n : Int} (h : ∀ j, j < ks.length → ¬ ks[j]? = some n) : plc ks n = -1 := by
  unfold plc
  have : (List.range ks.length).find? (fun i => ks[i]? == some n) = none := by
    rw [List.find?_eq_none]
    intro x hx
    simpa using h x (by simpa using hx)
  rw [this]
end Go.Proofs.YtephhllfodlfbaaGreatDoor
