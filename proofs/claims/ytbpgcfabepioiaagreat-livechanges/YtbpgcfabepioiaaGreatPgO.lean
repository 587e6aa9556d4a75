/-
  A page among the arguments of a law; an element too.
-/
import Derived.Test.YtbpgcfabepioiaaGreatLLw
import Derived.Test.YtbpgcfabepioiaaGreatDocO
namespace Go.Proofs.YtbpgcfabepioiaaGreat
open Go.RowKit

theorem cl55 : Tryz.prog.cellsOf 55 = 1 := by kernel_rfl
theorem cl25 : Tryz.prog.cellsOf 25 = 1 := by kernel_rfl
theorem cl24 : Tryz.prog.cellsOf 24 = 1 := by kernel_rfl
theorem cl27 : Tryz.prog.cellsOf 27 = 2 := by kernel_rfl
theorem cl81 : Tryz.prog.cellsOf 81 = 3 := by kernel_rfl
theorem list3 {α : Type} {l : List α} (h : l.length = 3) : ∃ a b c, l = [a, b, c] := by
  rcases l with _ | ⟨a, _ | ⟨b, _ | ⟨c, _ | ⟨d, r⟩⟩⟩⟩
  all_goals first | exact ⟨_, _, _, rfl⟩ | (simp at h; done) | (simp at h; omega)
theorem list2 {α : Type} {l : List α} (h : l.length = 2) : ∃ a b, l = [a, b] := by
  rcases l with _ | ⟨a, _ | ⟨b, _ | ⟨c, r⟩⟩⟩
  all_goals first | exact ⟨_, _, rfl⟩ | (simp at h; done) | (simp at h; omega)
section
variable {H : Type} {enc : TypeId × Value → H} {W : World} {held : Bool} {fuel : Nat} {cs : List Value} {x : DataW H × List MemPlace}
theorem ints_open (h : DataW.trod enc Tryz.prog W 0 (fun _ => true) held fuel 55 cs = some x) : ∃ v ks, cs = [v] ∧ IntsAt W v ks ∧ ks.length ≤ maxLen := by
  rcases ChangeShapes.open_ints Tryz.underlying55 Tryz.underlying3 cl3 h with ⟨rfl, _⟩ | ⟨a, len, cap, ss, rfl, _, hl, hm, hlen, _, hc, _⟩
  · exact ⟨_, [], rfl, ⟨none, 0, rfl, Or.inl rfl⟩, by simp⟩
  · simp at hlen
    have hL : (ss.take len).length = len := by simp; omega
    refine ⟨_, ss.take len, rfl, ⟨some a, cap, by rw [hL], ?_⟩, by omega⟩
    rcases Nat.eq_zero_or_pos len with h0 | h0
    · left; subst h0; simp
    · right
      have ha := addr_of (by have := hc 0 (by omega); rwa [add_zero] at this)
      refine ⟨a.block, a.off, by rw [← ha], fun i hi => ?_⟩
      rw [hL] at hi
      have := hc i (by omega)
      rw [ha, Addr.add_lit] at this
      rw [this]
      simp [List.getD, List.getElem?_eq_getElem (show i < ss.length by omega)]
theorem entry_open {b o n : Nat} {cs' : List Value} {y : DataW H × List MemPlace} (hb : ∀ i, i < 3 → W.cell? ⟨b, o + i, none⟩ = cs'[i]?) (h : DataW.trod enc Tryz.prog W 0 (fun _ => true) held n 81 cs' = some y) : ∃ e : Pl.Er, EnAt W b o e ∧ e.2.length ≤ maxLen := by
  obtain ⟨xs, m, _, _, hl, hlen, hf⟩ := DataW.trod_struct Tryz.underlying81 h
  rw [cl81] at hl
  obtain ⟨v0, v1, v2, rfl⟩ := list3 hl
  obtain ⟨y0, y1, y2, rfl⟩ := list3 hlen
  have f0 : DataW.trod enc Tryz.prog W 0 (fun _ => true) held m 3 (([v0, v1, v2].drop 0).take (Tryz.prog.cellsOf 3)) = some y0 := hf 0 _ rfl
  rw [cl3] at f0
  replace f0 : DataW.trod enc Tryz.prog W 0 (fun _ => true) held m 3 [v0] = some y0 := f0
  have f1 : DataW.trod enc Tryz.prog W 0 (fun _ => true) held m 9 (([v0, v1, v2].drop 1).take (Tryz.prog.cellsOf 9)) = some y1 := hf 1 _ rfl
  rw [cl9] at f1
  replace f1 : DataW.trod enc Tryz.prog W 0 (fun _ => true) held m 9 [v1] = some y1 := f1
  have f2 : DataW.trod enc Tryz.prog W 0 (fun _ => true) held m 55 (([v0, v1, v2].drop 2).take (Tryz.prog.cellsOf 55)) = some y2 := hf 2 _ rfl
  rw [cl55] at f2
  replace f2 : DataW.trod enc Tryz.prog W 0 (fun _ => true) held m 55 [v2] = some y2 := f2
  obtain ⟨k, e0, _, _⟩ := DataW.trod_int Tryz.underlying3 f0
  obtain ⟨s1, e1, _, _⟩ := DataW.trod_string Tryz.underlying9 f1
  obtain ⟨w2, ks, e2, hs, ls⟩ := ints_open f2
  injection e0 with e0 _
  injection e1 with e1 _
  injection e2 with e2 _
  subst e0 e1 e2
  exact ⟨((k, s1.data.toList), ks), ⟨v2, hb 0 (by omega), hb 1 (by omega), hb 2 (by omega), hs⟩, ls⟩
instance : Inhabited Pl.Er := ⟨((0, []), [])⟩
theorem ens_open (h : DataW.trod enc Tryz.prog W 0 (fun _ => true) held fuel 25 cs = some x) : ∃ v l, cs = [v] ∧ EnsAt W v l ∧ IxFit l := by
  rcases Deep.open_slice Tryz.underlying25 h with ⟨rfl, _⟩ | ⟨a, len, cap, m, n, D, PL, rfl, _, hl, hm, hmm, _, hc⟩
  · exact ⟨_, [], rfl, EnsAt.nil W, by simp, by simp⟩
  · simp at hmm
    rcases Nat.eq_zero_or_pos len with h0 | h0
    · subst h0
      exact ⟨_, [], rfl, ⟨some a, cap, rfl, Or.inl rfl⟩, by simp, by simp⟩
    have hcell : ∀ i, i < len → ∃ cs' : List Value, (∀ j, j < 3 → W.cell? ((a.add (i * 3)).add j) = cs'[j]?) ∧ ∃ y, DataW.trod enc Tryz.prog W 0 (fun _ => true) held n 81 cs' = some y := by
      intro i hi
      obtain ⟨cs', h1, h2⟩ := hc i (by omega)
      rw [cl81] at h1
      obtain ⟨_, h4, h3⟩ := World.cells?_some h1
      exact ⟨cs', fun j hj => h3 j hj, _, h2⟩
    have ha : a = ⟨a.block, a.off, none⟩ := by
      obtain ⟨cs', h1, y, h2⟩ := hcell 0 h0
      obtain ⟨_, _, _, _, hl5, _⟩ := DataW.trod_struct Tryz.underlying81 h2
      rw [cl81] at hl5
      have h3 := h1 0 (by omega)
      rw [Nat.zero_mul, add_zero, add_zero, List.getElem?_eq_getElem (by omega)] at h3
      exact addr_of h3
    have hex : ∀ i, i < len → ∃ e : Pl.Er, EnAt W a.block (a.off + i * 3) e ∧ e.2.length ≤ maxLen := by
      intro i hi
      obtain ⟨cs', h1, y, h2⟩ := hcell i hi
      refine entry_open (fun j hj => ?_) h2
      have := h1 j hj
      rw [ha, Addr.add_lit, Addr.add_lit] at this
      exact this
    obtain ⟨f, hf⟩ := Deep.choose_lt hex
    have hL : ((List.range len).map f).length = len := by simp
    refine ⟨_, (List.range len).map f, rfl, ⟨some a, cap, by rw [hL], Or.inr ⟨a.block, a.off, by rw [← ha], fun i hi => ?_⟩⟩, by omega, fun e he => ?_⟩
    · rw [hL] at hi
      simp only [List.getElem_map, List.getElem_range]
      exact (hf i hi).1
    · obtain ⟨i, hi, rfl⟩ := List.mem_map.1 he
      exact (hf i (List.mem_range.1 hi)).2
end
end Go.Proofs.YtbpgcfabepioiaaGreat
namespace Go.Proofs.YtbpgcfabepioiaaGreat
open Go.ChangeShapes Go.WideShapes Go.ChangeAt Go.RowKit Go.Joins

set_option maxRecDepth 100000 in
/-- a page among the arguments -/
theorem page_open {H : Type} {enc : TypeId × Value → H} {W : World} {r : Reach} {b0 : Nat} {v : Value} {d : DataW H} {p : List MemPlace} (hv : Value.okWide Tryz.prog W r b0 27 v) (h : DataW.Trod enc Tryz.prog W 0 (fun _ => true) true 27 v d p) : ∃ ns l, PgAt W v ns l ∧ IxFit l := by
  obtain ⟨cs, rfl, _⟩ := okWide_struct Tryz.underlying27 hv
  obtain ⟨fuel, hf0⟩ := h
  have hf1 : DataW.trod enc Tryz.prog W 0 (fun _ => true) true fuel 27 cs.toList = some (d, p) := hf0
  obtain ⟨l⟩ := cs
  obtain ⟨xs, m, _, _, hl, hlen, hf⟩ := DataW.trod_struct Tryz.underlying27 hf1
  rw [cl27] at hl
  obtain ⟨v0, v1, rfl⟩ := list2 hl
  obtain ⟨y0, y1, rfl⟩ := list2 hlen
  have f0 : DataW.trod enc Tryz.prog W 0 (fun _ => true) true m 24 (([v0, v1].drop 0).take (Tryz.prog.cellsOf 24)) = some y0 := hf 0 _ rfl
  rw [cl24] at f0
  replace f0 : DataW.trod enc Tryz.prog W 0 (fun _ => true) true m 24 [v0] = some y0 := f0
  have f1 : DataW.trod enc Tryz.prog W 0 (fun _ => true) true m 25 (([v0, v1].drop 1).take (Tryz.prog.cellsOf 25)) = some y1 := hf 1 _ rfl
  rw [cl25] at f1
  replace f1 : DataW.trod enc Tryz.prog W 0 (fun _ => true) true m 25 [v1] = some y1 := f1
  obtain ⟨y2, n2, _, _, h2⟩ := trod_struct1 Tryz.underlying24 f0
  have h3 : DataW.trod enc Tryz.prog W 0 (fun _ => true) true n2 22 (([v0].drop 0).take (Tryz.prog.cellsOf 22)) = some y2 := h2
  rw [cl22] at h3
  obtain ⟨u0, ns, e0, hd⟩ := nds_open h3
  obtain ⟨u1, l, e1, he, hx⟩ := ens_open f1
  injection e0 with e0 _
  injection e1 with e1 _
  subst e0 e1
  obtain ⟨a, c, rfl⟩ := hd.form
  obtain ⟨a2, c2, rfl⟩ := he.form
  exact ⟨ns, l, ⟨a, c, a2, c2, rfl, hd, he⟩, hx⟩
set_option maxRecDepth 100000 in
/-- an element among the arguments -/
theorem nd_open {H : Type} {enc : TypeId × Value → H} {W : World} {r : Reach} {b0 : Nat} {v : Value} {d : DataW H} {p : List MemPlace} (hv : Value.okWide Tryz.prog W r b0 31 v) (h : DataW.Trod enc Tryz.prog W 0 (fun _ => true) true 31 v d p) : ∃ x, NdV W v x ∧ Fits x := by
  obtain ⟨cs, rfl, _⟩ := okWide_struct Tryz.underlying31 hv
  obtain ⟨fuel, hf0⟩ := h
  have hf1 : DataW.trod enc Tryz.prog W 0 (fun _ => true) true fuel 31 cs.toList = some (d, p) := hf0
  obtain ⟨l⟩ := cs
  obtain ⟨xs, m, _, _, hl, hlen, hf⟩ := DataW.trod_struct Tryz.underlying31 hf1
  rw [cl47] at hl
  obtain ⟨v0, v1, v2, v3, v4, rfl⟩ := list5 hl
  obtain ⟨y0, y1, y2, y3, y4, rfl⟩ := list5 hlen
  have f0 : DataW.trod enc Tryz.prog W 0 (fun _ => true) true m 3 (([v0, v1, v2, v3, v4].drop 0).take (Tryz.prog.cellsOf 3)) = some y0 := hf 0 _ rfl
  rw [cl3] at f0
  replace f0 : DataW.trod enc Tryz.prog W 0 (fun _ => true) true m 3 [v0] = some y0 := f0
  have f1 : DataW.trod enc Tryz.prog W 0 (fun _ => true) true m 9 (([v0, v1, v2, v3, v4].drop 1).take (Tryz.prog.cellsOf 9)) = some y1 := hf 1 _ rfl
  rw [cl9] at f1
  replace f1 : DataW.trod enc Tryz.prog W 0 (fun _ => true) true m 9 [v1] = some y1 := f1
  have f2 : DataW.trod enc Tryz.prog W 0 (fun _ => true) true m 9 (([v0, v1, v2, v3, v4].drop 2).take (Tryz.prog.cellsOf 9)) = some y2 := hf 2 _ rfl
  rw [cl9] at f2
  replace f2 : DataW.trod enc Tryz.prog W 0 (fun _ => true) true m 9 [v2] = some y2 := f2
  have f3 : DataW.trod enc Tryz.prog W 0 (fun _ => true) true m 28 (([v0, v1, v2, v3, v4].drop 3).take (Tryz.prog.cellsOf 28)) = some y3 := hf 3 _ rfl
  rw [cl44] at f3
  replace f3 : DataW.trod enc Tryz.prog W 0 (fun _ => true) true m 28 [v3] = some y3 := f3
  have f4 : DataW.trod enc Tryz.prog W 0 (fun _ => true) true m 29 (([v0, v1, v2, v3, v4].drop 4).take (Tryz.prog.cellsOf 29)) = some y4 := hf 4 _ rfl
  rw [cl45] at f4
  replace f4 : DataW.trod enc Tryz.prog W 0 (fun _ => true) true m 29 [v4] = some y4 := f4
  obtain ⟨k, e0, _, _⟩ := DataW.trod_int Tryz.underlying3 f0
  obtain ⟨s1, e1, _, _⟩ := DataW.trod_string Tryz.underlying9 f1
  obtain ⟨s2, e2, _, _⟩ := DataW.trod_string Tryz.underlying9 f2
  obtain ⟨w3, ss, e3, hs, ls⟩ := strs_open f3
  obtain ⟨w4, ts, e4, ha, la⟩ := ats_open f4
  injection e0 with e0 _
  injection e1 with e1 _
  injection e2 with e2 _
  injection e3 with e3 _
  injection e4 with e4 _
  subst e0 e1 e2 e3 e4
  exact ⟨⟨k, s1.data.toList, s2.data.toList, ss, ts⟩, ⟨v3, v4, rfl, hs, ha⟩, ls, la⟩

end Go.Proofs.YtbpgcfabepioiaaGreat
