/-
  Kids and those under one, as the document's own answer tells them.
-/
import Derived.Test.YtagobgjlhdbhmaaDoorRefC
import Derived.Test.YtagobgjlhdbhmaaDoorTree
namespace Go.Proofs.YtagobgjlhdbhmaaDoor
open Go.RowKit

/-- a list of numbers in blocks from B on -/
def IntsF (B : Nat) (w : World) (v : Value) (ks : List Nat) : Prop :=
  ∃ a cap, v = .slice a ks.length cap ∧ (ks = [] ∨ ∃ b o, a = some ⟨b, o, none⟩ ∧ B ≤ b ∧ ∀ i (h : i < ks.length), w.cell? ⟨b, o + i, none⟩ = some (.int .i64 (ks[i] : Nat)))
theorem intsF_of_row {w : World} {B : Nat} {v : Value} {l : List Nat} (h : w.ownsRow B 3 1 v l.length (natCells l)) : IntsF B w v l := by
  have hh := h
  obtain ⟨_, h0 | ⟨g, cap, cur, rfl, hb, _⟩⟩ := h
  · obtain ⟨rfl, hl⟩ := h0
    have : l = [] := by simpa using hl
    subst this
    exact ⟨none, 0, rfl, Or.inl rfl⟩
  · refine ⟨_, cap, rfl, Or.inr ⟨g, 0, rfl, hb, fun i hi => ?_⟩⟩
    have := World.ownsRow.cells hh rfl i (.int .i64 (l[i] : Int)) (by simp [natCells, List.getElem?_eq_getElem hi])
    rw [Addr.add_lit] at this
    simpa using this
theorem IntsF.ints {B : Nat} {w : World} {v : Value} {l : List Nat} (h : IntsF B w v l) : IntsAt w v (l.map fun (k : Nat) => (k : Int)) := by
  obtain ⟨a, cap, rfl, h⟩ := h
  refine ⟨a, cap, by simp, ?_⟩
  rcases h with h | ⟨b, o, ha, _, hc⟩
  · exact Or.inl (by simp [h])
  · exact Or.inr ⟨b, o, ha, fun i hi => by simpa using hc i (by simpa using hi)⟩
theorem IntsF.mono {B B' : Nat} {w : World} {v : Value} {l : List Nat} (h : IntsF B w v l) (hB : B' ≤ B) : IntsF B' w v l := by
  obtain ⟨a, cap, rfl, h⟩ := h
  refine ⟨a, cap, rfl, ?_⟩
  rcases h with h | ⟨b, o, ha, hb, hc⟩
  · exact Or.inl h
  · exact Or.inr ⟨b, o, ha, by omega, hc⟩
/-- the one above, that above it, and so on -/
def aboveB (ns : List Pl.Nd) (a n : Nat) : Bool := way ns (Pl.upOf ns n) a
/-- how many of the first k are under n -/
def underTo (ns : List Pl.Nd) (n k : Nat) : Nat := ((List.range k).filter fun i => aboveB ns n i).length
theorem underTo_succ (ns : List Pl.Nd) (n k : Nat) : underTo ns n (k + 1) = underTo ns n k + (if aboveB ns n k = true then 1 else 0) := by
  unfold underTo
  rw [List.range_succ, List.filter_append, List.length_append]
  by_cases h : aboveB ns n k = true <;> simp [h]
theorem underTo_le (ns : List Pl.Nd) (n k : Nat) : underTo ns n k ≤ k := by
  unfold underTo; exact Nat.le_trans (List.length_filter_le _ _) (by simp)
theorem above_iff {ns : List Pl.Nd} (hg : Pl.GoodTo ns ns.length) {n i : Nat} (hn : n < ns.length) (hi : i < ns.length) : aboveB ns n i = true ↔ n < i ∧ i < Pl.behind ns n := by
  obtain ⟨b1, b2, b3, b4⟩ := Pl.behind_spec hn
  have hlow : -1 ≤ Pl.upOf ns i ∧ Pl.upOf ns i < i := by
    rcases Nat.eq_zero_or_pos i with h | h
    · rw [(hg i hi).1 h]; omega
    · have := (hg i hi).2 h; omega
  unfold aboveB way
  rw [Pl.chase_iff hg _ _ _ (by omega) hlow.1 (by omega)]
  constructor
  · rintro ⟨h1, h2, h3⟩
    refine ⟨by omega, ?_⟩
    rcases Nat.lt_or_ge i (Pl.behind ns n) with h | h
    · exact h
    · exfalso
      have h5 := b4 (by omega)
      rcases Pl.behind_out hg hn i h hi with h6 | h6
      · omega
      · have := h3 (Pl.behind ns n) (by omega) (by omega)
        omega
  · rintro ⟨h1, h2⟩
    have h5 := b3 i h1 h2
    exact ⟨by omega, h5, fun m h6 h7 => b3 m (by omega) (by omega)⟩
theorem under_all {ns : List Pl.Nd} (hg : Pl.GoodTo ns ns.length) {n : Nat} (hn : n < ns.length) : ∀ k, k ≤ ns.length → underTo ns n k = min k (Pl.behind ns n) - (n + 1)
  | 0, _ => by simp [underTo]
  | k + 1, hk => by
    have ih := under_all hg hn k (by omega)
    have hh := above_iff hg hn (i := k) (by omega)
    obtain ⟨b1, b2, _, _⟩ := Pl.behind_spec hn
    rw [underTo_succ, ih]
    by_cases h : n < k ∧ k < Pl.behind ns n
    · rw [if_pos (hh.2 h)]; omega
    · rw [if_neg (fun h2 => h (hh.1 h2))]; omega
end Go.Proofs.YtagobgjlhdbhmaaDoor
