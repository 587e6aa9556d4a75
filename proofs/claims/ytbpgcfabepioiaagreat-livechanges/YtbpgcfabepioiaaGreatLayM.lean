/-
  A tree laid down is the stretch of the document that it came from. No program is walked in this text.
-/
import Derived.Test.YtbpgcfabepioiaaGreatTreO
namespace Go.Proofs.YtbpgcfabepioiaaGreat.Pl

def seg (ns : List Nd) (lo hi : Nat) (mv : Int → Int) : List Nd := ((ns.drop lo).take (hi - lo)).map (mvd mv)
theorem seg_len {ns : List Nd} {lo hi : Nat} {mv : Int → Int} (h : hi ≤ ns.length) : (seg ns lo hi mv).length = hi - lo := by simp [seg]; omega
theorem seg_get {ns : List Nd} {lo hi : Nat} {mv : Int → Int} (h : hi ≤ ns.length) (i : Nat) (hi2 : i < (seg ns lo hi mv).length) : (seg ns lo hi mv)[i] = mvd mv (ns[lo + i]'(by rw [seg_len h] at hi2; omega)) := by
  unfold seg
  simp
theorem seg_ext {ns : List Nd} {lo hi : Nat} {mv : Int → Int} (h : hi ≤ ns.length) {l : List Nd} (hl : l.length = hi - lo) (he : ∀ i (h1 : i < l.length) (h2 : lo + i < ns.length), l[i] = { ns[lo + i] with up := mv (upOf ns (lo + i)) }) : l = seg ns lo hi mv := by
  refine List.ext_getElem (by rw [hl, seg_len h]) fun i h1 h2 => ?_
  rw [seg_get h i h2, he i h1 (by omega), upOf_at ns (lo + i) (by omega)]
  rfl
theorem seg_append {ns : List Nd} {lo mid hi : Nat} {mv : Int → Int} (h1 : lo ≤ mid) (h2 : mid ≤ hi) (h : hi ≤ ns.length) : seg ns lo mid mv ++ seg ns mid hi mv = seg ns lo hi mv := by
  refine List.ext_getElem (by rw [List.length_append, seg_len (by omega), seg_len h, seg_len h]; omega) fun i a1 a2 => ?_
  rw [List.getElem_append]
  by_cases hi2 : i < (seg ns lo mid mv).length
  · rw [dif_pos hi2, seg_get (by omega) i hi2, seg_get h i a2]
  · have hl := seg_len (ns := ns) (lo := lo) (mv := mv) (hi := mid) (by omega)
    rw [dif_neg hi2, seg_get h _ _, seg_get h i a2]
    congr 2
    omega
theorem seg_congr {ns : List Nd} {lo hi : Nat} {f g : Int → Int} (h : hi ≤ ns.length) (he : ∀ m, lo ≤ m → m < hi → f (upOf ns m) = g (upOf ns m)) : seg ns lo hi f = seg ns lo hi g := by
  refine List.ext_getElem (by rw [seg_len h, seg_len h]) fun i a1 a2 => ?_
  have hl := seg_len (ns := ns) (lo := lo) (mv := f) h
  rw [seg_get h i a1, seg_get h i a2]
  have := he (lo + i) (by omega) (by omega)
  rw [upOf_at ns (lo + i) (by omega)] at this
  unfold mvd
  rw [this]
theorem seg_cons {ns : List Nd} {lo hi : Nat} {mv : Int → Int} (h1 : lo < hi) (h : hi ≤ ns.length) : seg ns lo hi mv = { ndAt ns lo with up := mv (upOf ns lo) } :: seg ns (lo + 1) hi mv := by
  rw [← seg_append (mid := lo + 1) (by omega) (by omega) h]
  have : seg ns lo (lo + 1) mv = [{ ndAt ns lo with up := mv (upOf ns lo) }] := by
    unfold seg
    rw [show lo + 1 - lo = 1 by omega, List.drop_eq_getElem_cons (by omega), ndAt_eq ns lo (by omega), upOf_at ns lo (by omega)]
    rfl
  rw [this]; rfl
/-- the kids of n from lo on -/
def kidsFrom (ns : List Nd) (n : Int) (lo : Nat) : List Nat := (List.range' lo (ns.length - lo)).filter fun i => upOf ns i == n
theorem kids_from {ns : List Nd} {n lo : Nat} (hlo : lo ≤ ns.length) (h : ∀ i, i < lo → upOf ns i ≠ n) : kidsOf ns n = kidsFrom ns n lo := by
  unfold kidsOf kidsTo kidsFrom
  rw [List.range_eq_range', show ns.length = lo + (ns.length - lo) by omega, ← List.range'_append_1, List.filter_append]
  have : (List.range' 0 lo).filter (fun i => upOf ns i == (n : Int)) = [] := by
    rw [List.filter_eq_nil_iff]
    intro i hi
    have := h i (by simpa using hi)
    simpa using this
  rw [this]
  simp
theorem from_cons {ns : List Nd} {n : Int} {lo lo' : Nat} (h1 : lo < lo') (h2 : lo' ≤ ns.length) (h : upOf ns lo = n) (hn : ∀ i, lo < i → i < lo' → upOf ns i ≠ n) : kidsFrom ns n lo = lo :: kidsFrom ns n lo' := by
  unfold kidsFrom
  rw [show ns.length - lo = (lo' - lo) + (ns.length - lo') by omega, ← List.range'_append_1, List.filter_append, show lo + (lo' - lo) = lo' by omega]
  have : (List.range' lo (lo' - lo)).filter (fun i => upOf ns i == n) = [lo] := by
    rw [show lo' - lo = (lo' - lo - 1) + 1 by omega, List.range'_succ, List.filter_cons]
    have e : (List.range' (lo + 1) (lo' - lo - 1)).filter (fun i => upOf ns i == n) = [] := by
      rw [List.filter_eq_nil_iff]
      intro i hi
      rw [List.mem_range'_1] at hi
      have := hn i (by omega) (by omega)
      simpa using this
    rw [e]
    simp [h]
  rw [this]; rfl
theorem from_nil {ns : List Nd} {n : Int} {lo : Nat} (h : ∀ i, lo ≤ i → i < ns.length → upOf ns i ≠ n) : kidsFrom ns n lo = [] := by
  unfold kidsFrom
  rw [List.filter_eq_nil_iff]
  intro i hi
  rw [List.mem_range'_1] at hi
  have := h i (by omega) (by omega)
  simpa using this
/-- what stands behind a kid: the next one, or the end -/
theorem next_kid {ns : List Nd} (hg : GoodTo ns ns.length) {n lo : Nat} (hn : n < ns.length) (h1 : n < lo) (h2 : lo < behind ns n) (hu : upOf ns lo = n) :
    lo < behind ns lo ∧ behind ns lo ≤ behind ns n ∧ (behind ns lo < behind ns n → upOf ns (behind ns lo) = n) ∧ ∀ i, lo < i → i < behind ns lo → upOf ns i ≠ n := by
  obtain ⟨a1, a2, a3, a4⟩ := behind_spec hn
  have hlo : lo < ns.length := by omega
  obtain ⟨b1, b2, b3, b4⟩ := behind_spec hlo
  have hle : behind ns lo ≤ behind ns n := by
    rcases Nat.lt_or_ge (behind ns n) (behind ns lo) with h | h
    · have := a4 (by omega)
      have := b3 (behind ns n) h2 h
      omega
    · exact h
  refine ⟨by omega, hle, fun h => ?_, fun i h3 h4 => by have := b3 i h3 h4; omega⟩
  have c1 := b4 (by omega)
  have c2 := a3 (behind ns lo) (by omega) h
  have c3 := ((hg (behind ns lo) (by omega)).2 (by omega)).2.2 lo c1 (by omega)
  omega
theorem lay_tree {ns : List Nd} (hg : GoodTo ns ns.length) : ∀ (f n pos : Nat) (up : Int), n < ns.length → ns.length ≤ n + f →
    layT (ndAt ns n) (forestOf ns f (kidsOf ns n)) pos up = seg ns n (behind ns n) (fun u => if u < n then up else u - n + pos) := by
  intro f
  induction f with
  | zero => intro n pos up h1 h2; omega
  | succ f ih =>
    intro n pos up hn hf
    obtain ⟨a1, a2, a3, a4⟩ := behind_spec hn
    have hlow : ∀ m, m < ns.length → upOf ns m < m := fun m hm => by
      rcases Nat.eq_zero_or_pos m with h | h
      · rw [(hg m hm).1 h]; omega
      · exact ((hg m hm).2 h).2.1
    have key : ∀ (d lo : Nat), behind ns n - lo = d → n < lo → lo ≤ behind ns n → (lo < behind ns n → upOf ns lo = n) →
        layF (trees (fun m => forestOf ns f (kidsOf ns m)) ns (kidsFrom ns n lo)) (pos + (lo - n)) pos = seg ns lo (behind ns n) (fun u => u - n + pos) := by
      intro d
      induction d using Nat.strongRecOn with
      | ind d ihd =>
        intro lo hd h1 h2 h3
        rcases Nat.lt_or_ge lo (behind ns n) with h4 | h4
        · have hu := h3 h4
          obtain ⟨b1, b2, b3, b4⟩ := next_kid hg hn h1 h4 hu
          rw [from_cons b1 (by omega) hu b4]
          have hT := ih lo (pos + (lo - n)) pos (by omega) (by omega)
          have hsz : (forestOf ns f (kidsOf ns lo)).size + 1 = behind ns lo - lo := by
            have := congrArg List.length hT
            rwa [layT_len, seg_len (by omega)] at this
          have hR := ihd (behind ns n - behind ns lo) (by omega) (behind ns lo) rfl (by omega) b2 b3
          show layF (.cons (ndAt ns lo) (forestOf ns f (kidsOf ns lo)) (trees (fun m => forestOf ns f (kidsOf ns m)) ns (kidsFrom ns n (behind ns lo)))) (pos + (lo - n)) pos = _
          rw [layF, show pos + (lo - n) + 1 + (forestOf ns f (kidsOf ns lo)).size = pos + (behind ns lo - n) by omega, hR]
          rw [show ({ ndAt ns lo with up := (pos : Int) } :: layF (forestOf ns f (kidsOf ns lo)) (pos + (lo - n) + 1) (pos + (lo - n) : Nat)) = layT (ndAt ns lo) (forestOf ns f (kidsOf ns lo)) (pos + (lo - n)) pos from rfl, hT]
          rw [← seg_append (lo := lo) (mid := behind ns lo) (hi := behind ns n) (by omega) b2 a2]
          congr 1
          refine seg_congr (by omega) fun m h5 h6 => ?_
          by_cases hm : m = lo
          · subst hm
            have := hlow m (by omega)
            rw [if_pos this, hu]
            omega
          · have h7 := (behind_spec (ns := ns) (n := lo) (by omega)).2.2.1 m (by omega) h6
            rw [if_neg (by omega)]
            omega
        · have : lo = behind ns n := by omega
          subst this
          rw [from_nil]
          · unfold seg; simp [trees, layF]
          · intro i h5 h6
            have := behind_out hg hn i h5 h6
            omega
    have hk : kidsOf ns n = kidsFrom ns n (n + 1) := kids_from (by omega) fun i hi => by have := hlow i (by omega); omega
    have h1 := key _ (n + 1) rfl (by omega) a1 (fun h => by
      have := a3 (n + 1) (by omega) h
      have := hlow (n + 1) (by omega)
      omega)
    rw [seg_cons (by omega) a2]
    unfold layT
    show _ :: layF (trees (fun m => forestOf ns f (kidsOf ns m)) ns (kidsOf ns n)) (pos + 1) pos = _
    rw [hk, show pos + 1 = pos + (n + 1 - n) by omega, h1]
    congr 1
    · rw [if_pos (hlow n hn)]
    · refine seg_congr a2 fun m h5 h6 => ?_
      have := a3 m (by omega) h6
      rw [if_neg (by omega)]
end Go.Proofs.YtbpgcfabepioiaaGreat.Pl
