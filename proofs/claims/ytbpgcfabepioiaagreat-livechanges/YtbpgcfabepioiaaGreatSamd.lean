/-
  What is the same is told the same.
-/
import Derived.Test.YtbpgcfabepioiaaGreatAsk
namespace Go.Proofs.YtbpgcfabepioiaaGreat
open Go.RowKit

set_option maxHeartbeats 2000000 in
theorem sameInts_eq (v1 v2 : Value) (ks : List Int) (w : World) (hl : ks.length ≤ 64) (h1 : IntsAt w v1 ks) (h2 : IntsAt w v2 ks) :
    Calls Tryz.prog 59 #[v1, v2] w fun e w' => e = .returned (.bool true) ∧ Below w.heap.size w w' := by
  obtain ⟨a1, c1, rfl, h1⟩ := h1
  obtain ⟨a2, c2, rfl, h2⟩ := h2
  have H1 : Hid _ := h1
  have H2 : Hid _ := h2
  clear h1 h2
  go_enter Tryz.func59, Tryz.ntmps59
  go_wp2
  go_loopw [5] (fun i wr => ∃ k : Nat, k ≤ ks.length ∧ i = .int .i64 k ∧ Below w.heap.size w wr) (fun i _ => ks.length - (intOf i).toNat)
  case atStart => exact ⟨0, Nat.zero_le _, rfl, Below.refl _ _⟩
  case round =>
    obtain ⟨k, hk, rfl, hB⟩ := hrel
    by_cases hlt : k < ks.length
    · rcases H1.out with h0 | ⟨b, o, rfl, hc⟩
      · subst h0; simp at hlt
      rcases H2.out with h0 | ⟨b2, o2, rfl, hc2⟩
      · subst h0; simp at hlt
      have n0 : wr.cell? ⟨b, o + k, none⟩ = some (.int .i64 ks[k]) := cell_on hB (hc k hlt)
      have n1 : wr.cell? ⟨b2, o2 + k, none⟩ = some (.int .i64 ks[k]) := cell_on hB (hc2 k hlt)
      have i1 : (0 : Int) ≤ (k : Int) := by omega
      have i2 : (k : Int) < (ks.length : Int) := by omega
      clear hc hc2
      generalize ks[k] = u at *
      go_wp2
      go_quiet (fail)
      go_wp2
      exact ⟨⟨k + 1, hlt, by go_num, below_drewN hB _⟩, by simp [intOf]; omega⟩
    · have hkl : k = ks.length := by omega
      subst hkl
      go_wp2
      go_ret
      exact ⟨rfl, hB⟩
set_option maxHeartbeats 2000000 in
theorem sameTexts_eq (v1 v2 : Value) (ks : List (List UInt8)) (w : World) (hl : ks.length ≤ maxLen) (h1 : StrsAt w v1 ks) (h2 : StrsAt w v2 ks) :
    Calls Tryz.prog 74 #[v1, v2] w fun e w' => e = .returned (.bool true) ∧ Below w.heap.size w w' := by
  obtain ⟨a1, c1, rfl, h1⟩ := h1
  obtain ⟨a2, c2, rfl, h2⟩ := h2
  have H1 : Hid _ := h1
  have H2 : Hid _ := h2
  clear h1 h2
  unfold maxLen at hl
  go_enter Tryz.func74, Tryz.ntmps74
  go_wp2
  go_loopw [5] (fun i wr => ∃ k : Nat, k ≤ ks.length ∧ i = .int .i64 k ∧ Below w.heap.size w wr) (fun i _ => ks.length - (intOf i).toNat)
  case atStart => exact ⟨0, Nat.zero_le _, rfl, Below.refl _ _⟩
  case round =>
    obtain ⟨k, hk, rfl, hB⟩ := hrel
    by_cases hlt : k < ks.length
    · rcases H1.out with h0 | ⟨b, o, rfl, hc⟩
      · subst h0; simp at hlt
      rcases H2.out with h0 | ⟨b2, o2, rfl, hc2⟩
      · subst h0; simp at hlt
      have n0 : wr.cell? ⟨b, o + k, none⟩ = some (.string ⟨ks[k].toArray⟩) := cell_on hB (hc k hlt)
      have n1 : wr.cell? ⟨b2, o2 + k, none⟩ = some (.string ⟨ks[k].toArray⟩) := cell_on hB (hc2 k hlt)
      have i1 : (0 : Int) ≤ (k : Int) := by omega
      have i2 : (k : Int) < (ks.length : Int) := by omega
      clear hc hc2
      generalize ks[k] = u at *
      go_wp2
      go_quiet (fail)
      go_wp2
      exact ⟨⟨k + 1, hlt, by go_num, below_drewN hB _⟩, by simp [intOf]; omega⟩
    · have hkl : k = ks.length := by omega
      subst hkl
      go_wp2
      go_ret
      exact ⟨rfl, hB⟩
set_option maxRecDepth 100000 in
set_option maxHeartbeats 4000000 in
theorem sameNodes_eq (v1 v2 : Value) (x : Pl.Nd) (w : World) (hf : Fits x) (h1 : NdV w v1 x) (h2 : NdV w v2 x) :
    Calls Tryz.prog 61 #[v1, v2] w fun e w' => e = .returned (.bool true) ∧ Below w.heap.size w w' := by
  obtain ⟨vc, va, rfl, hc, ha⟩ := h1
  obtain ⟨vc2, va2, rfl, hc2, ha2⟩ := h2
  obtain ⟨ac, cc, rfl, _⟩ := id hc
  obtain ⟨ac2, cc2, rfl, _⟩ := id hc2
  obtain ⟨aa, ca, rfl, ha⟩ := ha
  obtain ⟨aa2, ca2, rfl, ha2⟩ := ha2
  have HC : Hid (StrsAt w (.slice ac x.cls.length cc) x.cls) := hc
  have HC2 : Hid (StrsAt w (.slice ac2 x.cls.length cc2) x.cls) := hc2
  have HA : Hid _ := ha
  have HA2 : Hid _ := ha2
  obtain ⟨m1, m2⟩ := hf
  obtain ⟨up, tag, idn, cls, ats⟩ := x
  dsimp only at *
  clear hc hc2 ha ha2
  have M1 : Hid _ := m1
  unfold maxLen at m1 m2
  have hB0 : Below w.heap.size w ((w.alloc (.cells #[.int .i64 up, .string ⟨tag.toArray⟩, .string ⟨idn.toArray⟩, .slice ac cls.length cc, .slice aa ats.length ca] 31)).alloc (.cells #[.int .i64 up, .string ⟨tag.toArray⟩, .string ⟨idn.toArray⟩, .slice ac2 cls.length cc2, .slice aa2 ats.length ca2] 31)) := ((Below.refl _ _).alloc (Nat.le_refl _) _).alloc (by simp) _
  go_enter Tryz.func61, Tryz.ntmps61
  go_wp2_with fail
  refine (sameTexts_eq _ _ cls _ M1.out (StrsAt.on HC.out hB0) (StrsAt.on HC2.out hB0)).mono ?_
  rintro e w1 ⟨rfl, h1⟩
  have c4 := cell_on (p := ⟨w.heap.size, 4, none⟩) (v := .slice aa ats.length ca) h1 (by simp [go_sem])
  have d4 := cell_on (p := ⟨w.heap.size + 1, 4, none⟩) (v := .slice aa2 ats.length ca2) h1 (by simp [go_sem])
  have hB := below_trans hB0 h1
  clear hB0 h1
  go_wp2
  go_loopw [5] (fun i wr => ∃ k : Nat, k ≤ ats.length ∧ i = .int .i64 k ∧ Below w.heap.size w wr ∧ wr.cell? ⟨w.heap.size, 4, none⟩ = some (.slice aa ats.length ca) ∧ wr.cell? ⟨w.heap.size + 1, 4, none⟩ = some (.slice aa2 ats.length ca2)) (fun i _ => ats.length - (intOf i).toNat)
  case atStart => exact ⟨0, Nat.zero_le _, rfl, hB, c4, d4⟩
  case round =>
    clear hB c4 d4
    obtain ⟨k, hk, rfl, hB, c4, d4⟩ := hrel
    by_cases hlt : k < ats.length
    · rcases HA.out with h0 | ⟨b, o, rfl, hc⟩
      · subst h0; simp at hlt
      rcases HA2.out with h0 | ⟨b2, o2, rfl, hc2⟩
      · subst h0; simp at hlt
      have n0 : wr.cell? ⟨b, o + k * 2, none⟩ = some (.string ⟨ats[k].1.toArray⟩) := cell_on hB (hc k hlt).1
      have n1 : wr.cell? ⟨b, o + k * 2 + 1, none⟩ = some (.string ⟨ats[k].2.toArray⟩) := cell_on hB (hc k hlt).2
      have n2 : wr.cell? ⟨b2, o2 + k * 2, none⟩ = some (.string ⟨ats[k].1.toArray⟩) := cell_on hB (hc2 k hlt).1
      have n3 : wr.cell? ⟨b2, o2 + k * 2 + 1, none⟩ = some (.string ⟨ats[k].2.toArray⟩) := cell_on hB (hc2 k hlt).2
      have i1 : (0 : Int) ≤ (k : Int) := by omega
      have i2 : (k : Int) < (ats.length : Int) := by omega
      clear hc hc2
      generalize ats[k].1 = u at *
      generalize ats[k].2 = u2 at *
      go_wp2
      go_quiet (fail)
      go_wp2
      exact ⟨⟨k + 1, hlt, by go_num, below_drewN hB _, c4, d4⟩, by simp [intOf]; omega⟩
    · have hkl : k = ats.length := by omega
      subst hkl
      go_wp2
      go_ret
      exact ⟨rfl, hB⟩
end Go.Proofs.YtbpgcfabepioiaaGreat
/-
  The same documents are told the same.
-/
namespace Go.Proofs.YtbpgcfabepioiaaGreat
open Go.RowKit

theorem dozen_on {w W w' : World} {p0 p1 p2 p3 p4 p5 p6 p7 p8 p9 p10 p11 : Addr} {v0 v1 v2 v3 v4 v5 v6 v7 v8 v9 v10 v11 : Value} (h : W.cell? p0 = some v0 ∧ W.cell? p1 = some v1 ∧ W.cell? p2 = some v2 ∧ W.cell? p3 = some v3 ∧ W.cell? p4 = some v4 ∧ W.cell? p5 = some v5 ∧ W.cell? p6 = some v6 ∧ W.cell? p7 = some v7 ∧ W.cell? p8 = some v8 ∧ W.cell? p9 = some v9 ∧ W.cell? p10 = some v10 ∧ W.cell? p11 = some v11 ∧ Below w.heap.size w W) (hb : Below W.heap.size W w') : w'.cell? p0 = some v0 ∧ w'.cell? p1 = some v1 ∧ w'.cell? p2 = some v2 ∧ w'.cell? p3 = some v3 ∧ w'.cell? p4 = some v4 ∧ w'.cell? p5 = some v5 ∧ w'.cell? p6 = some v6 ∧ w'.cell? p7 = some v7 ∧ w'.cell? p8 = some v8 ∧ w'.cell? p9 = some v9 ∧ w'.cell? p10 = some v10 ∧ w'.cell? p11 = some v11 ∧ Below w.heap.size w w' :=
  ⟨cell_on hb h.1, cell_on hb h.2.1, cell_on hb h.2.2.1, cell_on hb h.2.2.2.1, cell_on hb h.2.2.2.2.1, cell_on hb h.2.2.2.2.2.1, cell_on hb h.2.2.2.2.2.2.1, cell_on hb h.2.2.2.2.2.2.2.1, cell_on hb h.2.2.2.2.2.2.2.2.1, cell_on hb h.2.2.2.2.2.2.2.2.2.1, cell_on hb h.2.2.2.2.2.2.2.2.2.2.1, cell_on hb h.2.2.2.2.2.2.2.2.2.2.2.1, below_trans h.2.2.2.2.2.2.2.2.2.2.2.2 hb⟩
theorem dozen_last {w W : World} {p0 p1 p2 p3 p4 p5 p6 p7 p8 p9 p10 p11 : Addr} {v0 v1 v2 v3 v4 v5 v6 v7 v8 v9 v10 v11 : Value} (h : W.cell? p0 = some v0 ∧ W.cell? p1 = some v1 ∧ W.cell? p2 = some v2 ∧ W.cell? p3 = some v3 ∧ W.cell? p4 = some v4 ∧ W.cell? p5 = some v5 ∧ W.cell? p6 = some v6 ∧ W.cell? p7 = some v7 ∧ W.cell? p8 = some v8 ∧ W.cell? p9 = some v9 ∧ W.cell? p10 = some v10 ∧ W.cell? p11 = some v11 ∧ Below w.heap.size w W) : W.cell? p0 = some v0 ∧ W.cell? p1 = some v1 ∧ Below w.heap.size w W := ⟨h.1, h.2.1, h.2.2.2.2.2.2.2.2.2.2.2.2⟩

set_option maxRecDepth 100000 in
set_option maxHeartbeats 4000000 in
theorem sameDocs_eq (v1 v2 : Value) (ns : List Pl.Nd) (w : World) (h1 : DocAt w v1 ns) (h2 : DocAt w v2 ns) :
    Calls Tryz.prog 40 #[.agg #[v1], .agg #[v2]] w fun e w' => e = .returned (.bool true) ∧ Below w.heap.size w w' := by
  have HF : Hid _ := h1.2.2
  have hm := h1.2.2.1
  obtain ⟨a, cap, rfl, hc⟩ := h1.1
  obtain ⟨a2, cap2, rfl, hc2⟩ := h2.1
  have HC : Hid _ := hc
  have HC2 : Hid _ := hc2
  clear hc hc2 h1 h2
  unfold maxLen at hm
  have hB0 : Below w.heap.size w ((w.alloc (.cells #[.slice a ns.length cap] 24)).alloc (.cells #[.slice a2 ns.length cap2] 24)) := ((Below.refl _ _).alloc (Nat.le_refl _) _).alloc (by simp) _
  go_enter Tryz.func40, Tryz.ntmps40
  go_wp2
  go_loopw [5] (fun i wr => ∃ k : Nat, k ≤ ns.length ∧ i = .int .i64 k ∧ Below w.heap.size w wr ∧ wr.cell? ⟨w.heap.size, 0, none⟩ = some (.slice a ns.length cap) ∧ wr.cell? ⟨w.heap.size + 1, 0, none⟩ = some (.slice a2 ns.length cap2)) (fun i _ => ns.length - (intOf i).toNat)
  case atStart => exact ⟨0, Nat.zero_le _, rfl, hB0, by simp [go_sem], by simp [go_sem]⟩
  case round =>
    clear hB0
    obtain ⟨k, hk, rfl, hB, c4, d4⟩ := hrel
    by_cases hlt : k < ns.length
    · rcases HC.out with h0 | ⟨b, o, rfl, hc⟩
      · subst h0; simp at hlt
      rcases HC2.out with h0 | ⟨b2, o2, rfl, hc2⟩
      · subst h0; simp at hlt
      have N1 := (hc k hlt).on hB.drew
      have N2 := (hc2 k hlt).on hB.drew
      have F1 := HF.out.2 k hlt
      clear hc hc2
      generalize ns[k] = X at *
      obtain ⟨up, tag, idn, cls, ats⟩ := X
      obtain ⟨vc, va, n0, n1, n2, n3, n4, nc, na⟩ := N1
      obtain ⟨vc2, va2, m0, m1, m2, m3, m4, mc, ma⟩ := N2
      dsimp only at n0 n1 n2 m0 m1 m2 nc na mc ma
      obtain ⟨ac, cc, rfl, _⟩ := id nc
      obtain ⟨aa, ca, rfl, _⟩ := id na
      obtain ⟨ac2, cc2, rfl, _⟩ := id mc
      obtain ⟨aa2, ca2, rfl, _⟩ := id ma
      have V1 : Hid (NdV wr.drew (.agg #[.int .i64 up, .string ⟨tag.toArray⟩, .string ⟨idn.toArray⟩, .slice ac cls.length cc, .slice aa ats.length ca]) ⟨up, tag, idn, cls, ats⟩) := ⟨_, _, rfl, nc, na⟩
      have V2 : Hid (NdV wr.drew (.agg #[.int .i64 up, .string ⟨tag.toArray⟩, .string ⟨idn.toArray⟩, .slice ac2 cls.length cc2, .slice aa2 ats.length ca2]) ⟨up, tag, idn, cls, ats⟩) := ⟨_, _, rfl, mc, ma⟩
      have FF : Hid _ := F1
      clear nc na mc ma F1
      have i1 : (0 : Int) ≤ (k : Int) := by omega
      have i2 : (k : Int) < (ns.length : Int) := by omega
      have S0 : wr.drew.cell? ⟨w.heap.size, 0, none⟩ = some (.slice (some ⟨b, o, none⟩) ns.length cap) ∧ wr.drew.cell? ⟨w.heap.size + 1, 0, none⟩ = some (.slice (some ⟨b2, o2, none⟩) ns.length cap2) ∧ wr.drew.cell? ⟨b, o + k * 5, none⟩ = some (.int .i64 up) ∧ wr.drew.cell? ⟨b, o + k * 5 + 1, none⟩ = some (.string ⟨tag.toArray⟩) ∧ wr.drew.cell? ⟨b, o + k * 5 + 2, none⟩ = some (.string ⟨idn.toArray⟩) ∧ wr.drew.cell? ⟨b, o + k * 5 + 3, none⟩ = some (.slice ac cls.length cc) ∧ wr.drew.cell? ⟨b, o + k * 5 + 4, none⟩ = some (.slice aa ats.length ca) ∧ wr.drew.cell? ⟨b2, o2 + k * 5, none⟩ = some (.int .i64 up) ∧ wr.drew.cell? ⟨b2, o2 + k * 5 + 1, none⟩ = some (.string ⟨tag.toArray⟩) ∧ wr.drew.cell? ⟨b2, o2 + k * 5 + 2, none⟩ = some (.string ⟨idn.toArray⟩) ∧ wr.drew.cell? ⟨b2, o2 + k * 5 + 3, none⟩ = some (.slice ac2 cls.length cc2) ∧ wr.drew.cell? ⟨b2, o2 + k * 5 + 4, none⟩ = some (.slice aa2 ats.length ca2) ∧ Below w.heap.size w wr.drew := ⟨c4, d4, n0, n1, n2, n3, n4, m0, m1, m2, m3, m4, hB.drew⟩
      go_wp2
      clear n0 n1 n2 n3 n4 m0 m1 m2 m3 m4 c4 d4
      go_region_held3 (fun w' => w'.cell? ⟨w.heap.size, 0, none⟩ = some (.slice (some ⟨b, o, none⟩) ns.length cap) ∧ w'.cell? ⟨w.heap.size + 1, 0, none⟩ = some (.slice (some ⟨b2, o2, none⟩) ns.length cap2) ∧ w'.cell? ⟨b, o + k * 5, none⟩ = some (.int .i64 up) ∧ w'.cell? ⟨b, o + k * 5 + 1, none⟩ = some (.string ⟨tag.toArray⟩) ∧ w'.cell? ⟨b, o + k * 5 + 2, none⟩ = some (.string ⟨idn.toArray⟩) ∧ w'.cell? ⟨b, o + k * 5 + 3, none⟩ = some (.slice ac cls.length cc) ∧ w'.cell? ⟨b, o + k * 5 + 4, none⟩ = some (.slice aa ats.length ca) ∧ w'.cell? ⟨b2, o2 + k * 5, none⟩ = some (.int .i64 up) ∧ w'.cell? ⟨b2, o2 + k * 5 + 1, none⟩ = some (.string ⟨tag.toArray⟩) ∧ w'.cell? ⟨b2, o2 + k * 5 + 2, none⟩ = some (.string ⟨idn.toArray⟩) ∧ w'.cell? ⟨b2, o2 + k * 5 + 3, none⟩ = some (.slice ac2 cls.length cc2) ∧ w'.cell? ⟨b2, o2 + k * 5 + 4, none⟩ = some (.slice aa2 ats.length ca2) ∧ Below w.heap.size w w')
        (first | assumption | exact dozen_on (by assumption) (by assumption))
        (first | (go_at_call 61; refine (sameNodes_eq _ _ ⟨up, tag, idn, cls, ats⟩ _ FF.out V1.out V2.out).mono ?_; rintro e w' ⟨rfl, hw⟩))
      obtain ⟨c4, d4, hB3⟩ := dozen_last (by assumption)
      go_wp2
      exact ⟨⟨k + 1, hlt, by go_num, hB3, c4, d4⟩, by simp [intOf]; omega⟩
    · have hkl : k = ns.length := by omega
      subst hkl
      go_wp2
      go_ret
      exact ⟨rfl, hB⟩
end Go.Proofs.YtbpgcfabepioiaaGreat
