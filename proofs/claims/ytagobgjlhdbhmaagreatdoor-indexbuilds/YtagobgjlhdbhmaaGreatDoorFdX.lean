/-
  A page among the arguments of a law; an element too.
-/
import Derived.Test.YtagobgjlhdbhmaaGreatDoorFdP
import Derived.Test.YtagobgjlhdbhmaaGreatDoorFor
import Derived.SizedLaws
namespace Go.Proofs.YtagobgjlhdbhmaaGreatDoor
open Go.RowKit

theorem cl55 : Tryz.prog.cellsOf 38 = 1 := by kernel_rfl
theorem cl81 : Tryz.prog.cellsOf 55 = 3 := by kernel_rfl
theorem list3 {α : Type} {l : List α} (h : l.length = 3) : ∃ a b c, l = [a, b, c] := by
  rcases l with _ | ⟨a, _ | ⟨b, _ | ⟨c, _ | ⟨d, r⟩⟩⟩⟩
  all_goals first | exact ⟨_, _, _, rfl⟩ | (simp at h; done) | (simp at h; omega)
section
variable {H : Type} {enc : TypeId × Value → H} {W : World} {held : Bool} {fuel : Nat} {cs : List Value} {x : DataW H × List MemPlace}
theorem ints_open (h : DataW.trod enc Tryz.prog W 0 (fun _ => true) held fuel 38 cs = some x) : ∃ v ks, cs = [v] ∧ IntsAt W v ks ∧ ks.length ≤ maxLen := by
  rcases ChangeShapes.open_ints Tryz.underlying38 Tryz.underlying3 cl3 h with ⟨rfl, _⟩ | ⟨a, len, cap, ss, rfl, _, hl, hm, hlen, _, hc, _⟩
  · exact ⟨_, [], rfl, ⟨none, 0, rfl, Or.inl rfl⟩, by simp⟩
  · simp at hlen
    have hL : (ss.take len).length = len := by simp; omega
    refine ⟨_, ss.take len, rfl, ⟨some a, cap, by rw [hL], ?_⟩, by omega⟩
    rcases Nat.eq_zero_or_pos len with h0 | h0
    · left; subst h0; simp
    · right
      have ha := addr_of (by have := hc 0 (by omega); rwa [add_zero] at this)
      refine ⟨a.block, a.off, by rw [← ha], fun i hi => ?_⟩
      rw [hL] at hi
      have := hc i (by omega)
      rw [ha, Addr.add_lit] at this
      rw [this]
      simp [List.getD, List.getElem?_eq_getElem (show i < ss.length by omega)]
instance : Inhabited Pl.Er := ⟨((0, []), [])⟩
end
end Go.Proofs.YtagobgjlhdbhmaaGreatDoor
namespace Go.Proofs.YtagobgjlhdbhmaaGreatDoor
open Go.ChangeShapes Go.WideShapes Go.ChangeAt Go.RowKit Go.Joins

end Go.Proofs.YtagobgjlhdbhmaaGreatDoor
/-
  A list of entries among the arguments of a law, with the bound on its sizes.
-/
namespace Go.Proofs.YtagobgjlhdbhmaaGreatDoor
open Go.RowKit

section
variable {H : Type} {enc : TypeId × Value → H} {W : World} {held : Bool} {fuel : Nat} {cs : List Value} {x : DataW H × List MemPlace}
theorem weights_all {P : Program} {e : TypeId} {d : DataW H} {n : Nat} (hn : n ∈ d.weights P e) : ∀ {l : List (DataW H)}, d ∈ l → n ∈ DataW.weightsAll P e l
  | y :: r, h => by
    simp only [DataW.weightsAll, List.mem_append]
    rcases List.mem_cons.1 h with rfl | h
    · exact Or.inl hn
    · exact Or.inr (weights_all hn h)
theorem ints_sized (h : DataW.trod enc Tryz.prog W 0 (fun _ => true) held fuel 38 cs = some x) (hw : ∀ n ∈ x.1.weights Tryz.prog 38, n ≤ reachBytes) : ∃ v ks, cs = [v] ∧ IntsAt W v ks ∧ ks.length * 8 ≤ reachBytes := by
  obtain ⟨v, ks, rfl, hi, _⟩ := ints_open h
  refine ⟨v, ks, rfl, hi, ?_⟩
  obtain ⟨a, c, rfl, -⟩ := id hi
  rcases DataW.trod_slice Tryz.underlying38 h with ⟨e4, _⟩ | ⟨_, len, cap, elems, rest, _, _, e4, e5, _, _, _, hlen, _, _, _⟩
  · injection e4 with e6 _
    injection e6 with _ e7 _
    omega
  · injection e4 with e6 _
    injection e6 with _ e7 _
    subst e5
    have h1 := hw ((elems.length + rest.length) * Tryz.prog.bytesOf 3) (by simp [DataW.weights, Tryz.underlying38])
    rw [show Tryz.prog.bytesOf 3 = 8 by kernel_rfl] at h1
    omega
theorem entry_sized {b o n : Nat} {cs' : List Value} {y : DataW H × List MemPlace} (hb : ∀ i, i < 3 → W.cell? ⟨b, o + i, none⟩ = cs'[i]?) (h : DataW.trod enc Tryz.prog W 0 (fun _ => true) held n 55 cs' = some y) (hw : ∀ n ∈ y.1.weights Tryz.prog 55, n ≤ reachBytes) : ∃ e : Pl.Er, EnAt W b o e ∧ e.2.length * 8 ≤ reachBytes := by
  obtain ⟨xs, m, _, hy, hl, hlen, hf⟩ := DataW.trod_struct Tryz.underlying55 h
  rw [cl81] at hl
  obtain ⟨v0, v1, v2, rfl⟩ := list3 hl
  obtain ⟨y0, y1, y2, rfl⟩ := list3 hlen
  have f0 : DataW.trod enc Tryz.prog W 0 (fun _ => true) held m 3 (([v0, v1, v2].drop 0).take (Tryz.prog.cellsOf 3)) = some y0 := hf 0 _ rfl
  rw [cl3] at f0
  replace f0 : DataW.trod enc Tryz.prog W 0 (fun _ => true) held m 3 [v0] = some y0 := f0
  have f1 : DataW.trod enc Tryz.prog W 0 (fun _ => true) held m 9 (([v0, v1, v2].drop 1).take (Tryz.prog.cellsOf 9)) = some y1 := hf 1 _ rfl
  rw [cl9] at f1
  replace f1 : DataW.trod enc Tryz.prog W 0 (fun _ => true) held m 9 [v1] = some y1 := f1
  have f2 : DataW.trod enc Tryz.prog W 0 (fun _ => true) held m 38 (([v0, v1, v2].drop 2).take (Tryz.prog.cellsOf 38)) = some y2 := hf 2 _ rfl
  rw [cl55] at f2
  replace f2 : DataW.trod enc Tryz.prog W 0 (fun _ => true) held m 38 [v2] = some y2 := f2
  have hw2 : ∀ n ∈ y2.1.weights Tryz.prog 38, n ≤ reachBytes := fun n hn => hw n (by
    subst hy
    simp only [DataW.weights, Tryz.underlying55]
    exact DataW.weights_mem_each (j := 2) (t := 38) (d := y2.1) rfl rfl n hn)
  obtain ⟨k, e0, _, _⟩ := DataW.trod_int Tryz.underlying3 f0
  obtain ⟨s1, e1, _, _⟩ := DataW.trod_string Tryz.underlying9 f1
  obtain ⟨w2, ks, e2, hs, ls⟩ := ints_sized f2 hw2
  injection e0 with e0 _
  injection e1 with e1 _
  injection e2 with e2 _
  subst e0 e1 e2
  exact ⟨((k, s1.data.toList), ks), ⟨v2, hb 0 (by omega), hb 1 (by omega), hb 2 (by omega), hs⟩, ls⟩
theorem ens_sized (h : DataW.trod enc Tryz.prog W 0 (fun _ => true) held fuel 48 cs = some x) (hw : ∀ n ∈ x.1.weights Tryz.prog 48, n ≤ reachBytes) : ∃ v l, cs = [v] ∧ EnsAt W v l ∧ ∀ e ∈ l, e.2.length * 8 ≤ 140737488351232 := by
  rcases Deep.open_slice Tryz.underlying48 h with ⟨rfl, _⟩ | ⟨a, len, cap, m, n, D, PL, rfl, _, hl, hm, hmm, hx, hc⟩
  · exact ⟨_, [], rfl, EnsAt.nil W, by simp⟩
  · simp at hmm
    rcases Nat.eq_zero_or_pos len with h0 | h0
    · subst h0
      exact ⟨_, [], rfl, ⟨some a, cap, rfl, Or.inl rfl⟩, by simp⟩
    have hcell : ∀ i, i < len → ∃ cs' : List Value, (∀ j, j < 3 → W.cell? ((a.add (i * 3)).add j) = cs'[j]?) ∧ DataW.trod enc Tryz.prog W 0 (fun _ => true) held n 55 cs' = some (D i, PL i) := by
      intro i hi
      obtain ⟨cs', h1, h2⟩ := hc i (by omega)
      rw [cl81] at h1
      obtain ⟨_, h4, h3⟩ := World.cells?_some h1
      exact ⟨cs', fun j hj => h3 j hj, h2⟩
    have ha : a = ⟨a.block, a.off, none⟩ := by
      obtain ⟨cs', h1, h2⟩ := hcell 0 h0
      obtain ⟨_, _, _, _, hl5, _⟩ := DataW.trod_struct Tryz.underlying55 h2
      rw [cl81] at hl5
      have h3 := h1 0 (by omega)
      rw [Nat.zero_mul, add_zero, add_zero, List.getElem?_eq_getElem (by omega)] at h3
      exact addr_of h3
    have hwi : ∀ i, i < len → ∀ k ∈ (D i).weights Tryz.prog 55, k ≤ reachBytes := by
      intro i hi k hk
      refine hw k ?_
      rw [hx]
      simp only [DataW.weights, Tryz.underlying48, List.mem_cons, List.mem_append]
      exact Or.inr (Or.inl (weights_all hk (List.mem_map.2 ⟨i, List.mem_range.2 hi, rfl⟩)))
    have hex : ∀ i, i < len → ∃ e : Pl.Er, EnAt W a.block (a.off + i * 3) e ∧ e.2.length * 8 ≤ reachBytes := by
      intro i hi
      obtain ⟨cs', h1, h2⟩ := hcell i hi
      refine entry_sized (fun j hj => ?_) h2 (hwi i hi)
      have := h1 j hj
      rw [ha, Addr.add_lit, Addr.add_lit] at this
      exact this
    obtain ⟨f, hf⟩ := Deep.choose_lt hex
    have hL : ((List.range len).map f).length = len := by simp
    refine ⟨_, (List.range len).map f, rfl, ⟨some a, cap, by rw [hL], Or.inr ⟨a.block, a.off, by rw [← ha], fun i hi => ?_⟩⟩, fun e he => ?_⟩
    · rw [hL] at hi
      simp only [List.getElem_map, List.getElem_range]
      exact (hf i hi).1
    · obtain ⟨i, hi, rfl⟩ := List.mem_map.1 he
      have := (hf i (List.mem_range.1 hi)).2
      unfold reachBytes at this
      omega
end
end Go.Proofs.YtagobgjlhdbhmaaGreatDoor
