/-
  Kids and those under one, as the document's own answer tells them.
-/
import Derived.Test.YtagobgjlhdbhmaaGreatDoorRefC
import Derived.Test.YtagobgjlhdbhmaaGreatDoorTree
namespace Go.Proofs.YtagobgjlhdbhmaaGreatDoor
open Go.RowKit

/-- a list of numbers in blocks from B on -/
def IntsF (B : Nat) (w : World) (v : Value) (ks : List Nat) : Prop :=
  ∃ a cap, v = .slice a ks.length cap ∧ (ks = [] ∨ ∃ b o, a = some ⟨b, o, none⟩ ∧ B ≤ b ∧ ∀ i (h : i < ks.length), w.cell? ⟨b, o + i, none⟩ = some (.int .i64 (ks[i] : Nat)))
theorem intsF_of_row {w : World} {B : Nat} {v : Value} {l : List Nat} (h : w.ownsRow B 3 1 v l.length (natCells l)) : IntsF B w v l := by
  have hh := h
  obtain ⟨_, h0 | ⟨g, cap, cur, rfl, hb, _⟩⟩ := h
  · obtain ⟨rfl, hl⟩ := h0
    have : l = [] := by simpa using hl
    subst this
    exact ⟨none, 0, rfl, Or.inl rfl⟩
  · refine ⟨_, cap, rfl, Or.inr ⟨g, 0, rfl, hb, fun i hi => ?_⟩⟩
    have := World.ownsRow.cells hh rfl i (.int .i64 (l[i] : Int)) (by simp [natCells, List.getElem?_eq_getElem hi])
    rw [Addr.add_lit] at this
    simpa using this
theorem IntsF.ints {B : Nat} {w : World} {v : Value} {l : List Nat} (h : IntsF B w v l) : IntsAt w v (l.map fun (k : Nat) => (k : Int)) := by
  obtain ⟨a, cap, rfl, h⟩ := h
  refine ⟨a, cap, by simp, ?_⟩
  rcases h with h | ⟨b, o, ha, _, hc⟩
  · exact Or.inl (by simp [h])
  · exact Or.inr ⟨b, o, ha, fun i hi => by simpa using hc i (by simpa using hi)⟩
theorem IntsF.mono {B B' : Nat} {w : World} {v : Value} {l : List Nat} (h : IntsF B w v l) (hB : B' ≤ B) : IntsF B' w v l := by
  obtain ⟨a, cap, rfl, h⟩ := h
  refine ⟨a, cap, rfl, ?_⟩
  rcases h with h | ⟨b, o, ha, hb, hc⟩
  · exact Or.inl h
  · exact Or.inr ⟨b, o, ha, by omega, hc⟩
set_option maxHeartbeats 1600000 in
theorem refKids_some (b o cap : Nat) (ns : List Pl.Nd) (n : Int) (w : World) (h64 : ns.length ≤ 64) (hc : ∀ i (h : i < ns.length), NdAt w b (o + i * 5) ns[i]) :
    Calls Tryz.prog 38 #[.agg #[.slice (some ⟨b, o, none⟩) ns.length cap], .int .i64 n] w fun e w' =>
      ∃ v, e = .returned v ∧ IntsF w.heap.size w' v (Pl.kidsOf ns n) ∧ Below w.heap.size w w' := by
  have HC : Hid (∀ k, k < ns.length → w.cell? ⟨b, o + k * 5, none⟩ = some (.int .i64 (Pl.upOf ns k))) := fun k h => up_cell hc k h
  clear hc
  obtain ⟨i0, hi, hz0, hz1, hz2⟩ := info_parts Tryz.info3
  go_enter Tryz.func38, Tryz.ntmps38
  go_wp2
  go_loopw [5, 6] (fun v i wr => ∃ k : Nat, k ≤ ns.length ∧ i = .int .i64 k ∧ wr.ownsRow (w.heap.size + 1) 3 1 v (Pl.kidsTo ns n k).length (natCells (Pl.kidsTo ns n k)) ∧ Below w.heap.size w wr ∧ w.heap.size + 1 ≤ wr.heap.size ∧ wr.cell? ⟨w.heap.size, 0, none⟩ = some (.slice (some ⟨b, o, none⟩) ns.length cap)) (fun _ i _ => ns.length - (intOf i).toNat)
  case atStart => exact ⟨0, Nat.zero_le _, rfl, World.ownsRow_nil _ _ _ _, on_alloc _ _, by simp, by simp [go_sem]⟩
  case round =>
    obtain ⟨k, hk, rfl, hown, hB, hsz, hbox⟩ := hrel
    by_cases hlt : k < ns.length
    · have n0 := cell_on hB (HC.out k hlt)
      generalize hU : Pl.upOf ns k = u at n0
      have HU2 : Hid _ := hU
      clear hU
      cases he : (u == n) with
      | true =>
        have HK : Hid (Pl.kidsTo ns n (k + 1) = Pl.kidsTo ns n k ++ [k]) := Pl.kidsTo_hit ns n k (by rw [HU2.out]; exact he)
        have hkl := Pl.kidsTo_len ns n k
        have hne : some w.heap.size ≠ u5.ownBlock := fun e => by have := (World.ownsRow.lt hown _ e.symm).1; omega
        go_wp2_with (at_builtin; refine wpList_append_own _ rfl _ _ 38 rfl (w.heap.size + 1) 3 i0 (.int .i64 0) 1 8 Tryz.underlying38 hi hz0 hz1 hz2 rfl (by decide) _ _ _ rfl (hown.alloc _) ⟨wr.heap.size, 0, none⟩ 1 1 [.int .i64 k] rfl rfl ?c1 ?c2 ?c3 ?c4 ?c5 ?_)
        case c1 =>
          intro j u hj
          match j, hj with
          | 0, hj => simp at hj; subst hj; simp [Addr.add, go_sem]
        case c2 => intro u hu; simp at hu; subst hu; rfl
        case c3 => unfold maxLen; omega
        case c4 => omega
        case c5 => simp; omega
        intro v' w1 hown' hgrow _
        have hB1 : Below w.heap.size w w1 := (hB.alloc hB.size _).grown hgrow (by have := hB.size; simp; omega) (fun g hg => by have := (World.ownsRow.lt hown g hg).1; omega)
        have hbox1 := grown_cell (b := w.heap.size) hgrow hne (cell_on (on_alloc _ _) hbox)
        have hsz1 : w.heap.size + 1 ≤ w1.heap.size := by have := hgrow.size; simp at this; omega
        clear hgrow hown hbox
        go_wp2
        refine ⟨⟨k + 1, hlt, by go_num, ?_, hB1, hsz1, hbox1⟩, by simp [intOf]; omega⟩
        rw [HK.out]
        simpa [natCells] using hown'
      | false =>
        have HK : Hid (Pl.kidsTo ns n (k + 1) = Pl.kidsTo ns n k) := Pl.kidsTo_miss ns n k (by rw [HU2.out]; exact he)
        go_wp2
        refine ⟨⟨k + 1, hlt, by go_num, ?_, hB, hsz, hbox⟩, by simp [intOf]; omega⟩
        rw [HK.out]
        exact hown
    · have hkl : k = ns.length := by omega
      subst hkl
      go_wp2
      go_ret
      exact ⟨_, rfl, (intsF_of_row hown).mono (by omega), hB⟩
/-- the one above, that above it, and so on -/
def aboveB (ns : List Pl.Nd) (a n : Nat) : Bool := way ns (Pl.upOf ns n) a
/-- how many of the first k are under n -/
def underTo (ns : List Pl.Nd) (n k : Nat) : Nat := ((List.range k).filter fun i => aboveB ns n i).length
theorem underTo_succ (ns : List Pl.Nd) (n k : Nat) : underTo ns n (k + 1) = underTo ns n k + (if aboveB ns n k = true then 1 else 0) := by
  unfold underTo
  rw [List.range_succ, List.filter_append, List.length_append]
  by_cases h : aboveB ns n k = true <;> simp [h]
theorem underTo_le (ns : List Pl.Nd) (n k : Nat) : underTo ns n k ≤ k := by
  unfold underTo; exact Nat.le_trans (List.length_filter_le _ _) (by simp)
theorem above_iff {ns : List Pl.Nd} (hg : Pl.GoodTo ns ns.length) {n i : Nat} (hn : n < ns.length) (hi : i < ns.length) : aboveB ns n i = true ↔ n < i ∧ i < Pl.behind ns n := by
  obtain ⟨b1, b2, b3, b4⟩ := Pl.behind_spec hn
  have hlow : -1 ≤ Pl.upOf ns i ∧ Pl.upOf ns i < i := by
    rcases Nat.eq_zero_or_pos i with h | h
    · rw [(hg i hi).1 h]; omega
    · have := (hg i hi).2 h; omega
  unfold aboveB way
  rw [Pl.chase_iff hg _ _ _ (by omega) hlow.1 (by omega)]
  constructor
  · rintro ⟨h1, h2, h3⟩
    refine ⟨by omega, ?_⟩
    rcases Nat.lt_or_ge i (Pl.behind ns n) with h | h
    · exact h
    · exfalso
      have h5 := b4 (by omega)
      rcases Pl.behind_out hg hn i h hi with h6 | h6
      · omega
      · have := h3 (Pl.behind ns n) (by omega) (by omega)
        omega
  · rintro ⟨h1, h2⟩
    have h5 := b3 i h1 h2
    exact ⟨by omega, h5, fun m h6 h7 => b3 m (by omega) (by omega)⟩
theorem under_all {ns : List Pl.Nd} (hg : Pl.GoodTo ns ns.length) {n : Nat} (hn : n < ns.length) : ∀ k, k ≤ ns.length → underTo ns n k = min k (Pl.behind ns n) - (n + 1)
  | 0, _ => by simp [underTo]
  | k + 1, hk => by
    have ih := under_all hg hn k (by omega)
    have hh := above_iff hg hn (i := k) (by omega)
    obtain ⟨b1, b2, _, _⟩ := Pl.behind_spec hn
    rw [underTo_succ, ih]
    by_cases h : n < k ∧ k < Pl.behind ns n
    · rw [if_pos (hh.2 h)]; omega
    · rw [if_neg (fun h2 => h (hh.1 h2))]; omega
end Go.Proofs.YtagobgjlhdbhmaaGreatDoor
