/-
  A right document, as the program tells it.
-/
import Derived.Test.YthlpcmgeelkncaaHang
namespace Go.Proofs.Ythlpcmgeelkncaa
open Go.RowKit

/-- its elements' lists are no longer than lists can be -/
def FitsAll (ns : List Pl.Nd) : Prop := ns.length ≤ maxLen ∧ ∀ i (h : i < ns.length), Fits ns[i]

set_option maxHeartbeats 400000 in
theorem check_many (a : Option Addr) (n cap : Nat) (w : World) (h : n < 1 ∨ 64 < n) (hm : n ≤ maxLen) :
    Calls Try.prog 17 #[.agg #[.slice a n cap]] w fun e w' => e = .returned (.int .i64 2) ∧ Below w.heap.size w w' := by
  unfold maxLen at hm
  rcases h with h | h
  · go_enter Try.func17, Try.ntmps17
    go_wp2
    go_ret
    exact ⟨rfl, on_alloc _ _⟩
  · have h1 : ¬ n < 1 := by omega
    go_enter Try.func17, Try.ntmps17
    go_wp2
    go_ret
    exact ⟨rfl, on_alloc _ _⟩

theorem okTo_false {ns : List Pl.Nd} {k : Nat} (hk : k < ns.length) (h : (Pl.right ns[k] && Pl.hangs ns k) = false) : Pl.okTo ns ns.length = false := by
  cases hh : Pl.okTo ns ns.length with
  | false => rfl
  | true =>
    have := Pl.okTo_le hh (n := k + 1) (by omega)
    rw [Pl.okTo_succ, List.getElem?_eq_getElem hk] at this
    simp only [h, Bool.and_false] at this
    cases this
theorem okTo_next {ns : List Pl.Nd} {k : Nat} (hk : k < ns.length) (h0 : Pl.okTo ns k = true) (h1 : Pl.right ns[k] = true) (h2 : Pl.hangs ns k = true) : Pl.okTo ns (k + 1) = true := by
  rw [Pl.okTo_succ, List.getElem?_eq_getElem hk, h0, h2]
  simp [h1]

theorem checkDoc_one {ns : List Pl.Nd} (h1 : 1 ≤ ns.length) (h64 : ns.length ≤ 64) (h : Pl.okTo ns ns.length = false) : Pl.checkDoc ns = 1 := by
  unfold Pl.checkDoc; rw [if_neg (by omega), h]; rfl
theorem checkDoc_zero {ns : List Pl.Nd} (h1 : 1 ≤ ns.length) (h64 : ns.length ≤ 64) (h : Pl.okTo ns ns.length = true) : Pl.checkDoc ns = 0 := by
  unfold Pl.checkDoc; rw [if_neg (by omega), h]; rfl
theorem NdV.on {w w' : World} {v : Value} {x : Pl.Nd} (h : NdV w v x) (hb : Below w.heap.size w w') : NdV w' v x := by
  obtain ⟨vc, va, rfl, hc, ha⟩ := h
  exact ⟨vc, va, rfl, hc.on hb, ha.on hb⟩
set_option maxHeartbeats 2000000 in
theorem check_some (b o cap : Nat) (ns : List Pl.Nd) (w : World) (h1 : 1 ≤ ns.length) (h64 : ns.length ≤ 64) (hf : FitsAll ns) (hc : ∀ i (h : i < ns.length), NdAt w b (o + i * 5) ns[i]) :
    Calls Try.prog 17 #[.agg #[.slice (some ⟨b, o, none⟩) ns.length cap]] w fun e w' => e = .returned (.int .i64 (Pl.checkDoc ns)) ∧ Below w.heap.size w w' := by
  have HC : Hid (∀ i (h : i < ns.length), NdAt w b (o + i * 5) ns[i]) := hc
  have HFit : Hid (FitsAll ns) := hf
  clear hc hf
  have l1 : ¬ ns.length < 1 := by omega
  go_enter Try.func17, Try.ntmps17
  go_wp2
  go_loopw [18] (fun i wr => ∃ k : Nat, k ≤ ns.length ∧ i = .int .i64 k ∧ Hid (Pl.okTo ns k = true) ∧ Below w.heap.size w wr ∧ wr.cell? ⟨w.heap.size, 0, none⟩ = some (.slice (some ⟨b, o, none⟩) ns.length cap)) (fun i _ => ns.length - (intOf i).toNat)
  case atStart => exact ⟨0, Nat.zero_le _, rfl, rfl, on_alloc _ _, by simp [go_sem]⟩
  case round =>
    obtain ⟨k, hk, rfl, hd, hB, hbox⟩ := hrel
    by_cases hlt : k < ns.length
    · obtain ⟨vc, va, n0, n1, n2, n3, n4, nc, na⟩ := (HC.out k hlt).on hB
      obtain ⟨ac, cc, rfl, _⟩ := id nc
      obtain ⟨aa, ca, rfl, _⟩ := id na
      have HV : Hid (NdV wr (.agg #[.int .i64 ns[k].up, .string ⟨ns[k].tag.toArray⟩, .string ⟨ns[k].id.toArray⟩, .slice ac ns[k].cls.length cc, .slice aa ns[k].ats.length ca]) ns[k]) := ⟨_, _, rfl, nc, na⟩
      clear nc na
      cases hr : Pl.right ns[k] with
      | false =>
        have HF : Hid (Pl.checkDoc ns = 1) := checkDoc_one h1 h64 (okTo_false hlt (by rw [hr]; rfl))
        go_wp2_with fail
        refine (isRight_any _ ns[k] _ (HFit.out.2 k hlt) (HV.out.on (on_alloc _ _))).mono ?_
        rintro e w1 ⟨rfl, hw1⟩
        have hB1 := below_trans (below_trans hB (on_alloc _ _)) hw1
        go_wp2
        go_ret
        exact ⟨by rw [HF.out]; rfl, hB1⟩
      | true =>
        go_wp2_with fail
        refine (isRight_any _ ns[k] _ (HFit.out.2 k hlt) (HV.out.on (on_alloc _ _))).mono ?_
        rintro e w1 ⟨rfl, hw1⟩
        have hb1 := below_trans (on_alloc _ _) hw1
        have hB1 := below_trans hB hb1
        have hbox1 := cell_on hb1 hbox
        have HC1 : Hid (∀ i (h : i < ns.length), NdAt w1 b (o + i * 5) ns[i]) := fun i h => (HC.out i h).on hB1
        clear hw1 hbox hb1 n0 n1 n2 n3 n4
        cases hh : Pl.hangs ns k with
        | false =>
          have HF : Hid (Pl.checkDoc ns = 1) := checkDoc_one h1 h64 (okTo_false hlt (by rw [hh]; simp))
          go_wp2_with fail
          refine (hangs_any b o cap ns k _ hlt h64 (Pl.okTo_low k hd.out) HC1.out).mono ?_
          rintro e w2 ⟨rfl, rfl⟩
          go_wp2
          go_ret
          exact ⟨by rw [HF.out]; rfl, hB1⟩
        | true =>
          have HN : Hid (Pl.okTo ns (k + 1) = true) := okTo_next hlt hd.out hr hh
          go_wp2_with fail
          refine (hangs_any b o cap ns k _ hlt h64 (Pl.okTo_low k hd.out) HC1.out).mono ?_
          rintro e w2 ⟨rfl, rfl⟩
          go_wp2
          exact ⟨⟨k + 1, hlt, by go_num, HN, hB1, hbox1⟩, by simp [intOf]; omega⟩
    · have HF : Hid (Pl.checkDoc ns = 0) := by
        have he : k = ns.length := by omega
        have := hd.out
        rw [he] at this
        exact checkDoc_zero h1 h64 this
      go_wp2
      go_ret
      exact ⟨by rw [HF.out]; rfl, hB⟩

theorem check_any (v : Value) (ns : List Pl.Nd) (w : World) (hf : FitsAll ns) (hv : NdsAt w v ns) :
    Calls Try.prog 17 #[.agg #[v]] w fun e w' => e = .returned (.int .i64 (Pl.checkDoc ns)) ∧ Below w.heap.size w w' := by
  obtain ⟨a, cap, rfl, h⟩ := hv
  by_cases hl : ns.length < 1 ∨ 64 < ns.length
  · have : Pl.checkDoc ns = 2 := by unfold Pl.checkDoc; rw [if_pos hl]
    rw [this]
    exact check_many a ns.length cap w hl hf.1
  · rcases h with rfl | ⟨b, o, rfl, hc⟩
    · simp at hl
    · exact check_some b o cap ns w (by omega) (by omega) hf hc
end Go.Proofs.Ythlpcmgeelkncaa
