/-
  A right element, as the program tells it.
-/
import Derived.Test.YthlpcmgeelkncaaRight
namespace Go.Proofs.Ythlpcmgeelkncaa
open Go.RowKit

/-- an element as a value -/
def NdV (w : World) (v : Value) (x : Pl.Nd) : Prop :=
  ∃ vc va, v = .agg #[.int .i64 x.up, .string ⟨x.tag.toArray⟩, .string ⟨x.id.toArray⟩, vc, va] ∧ StrsAt w vc x.cls ∧ AtsAt w va x.ats
/-- its lists are no longer than lists can be -/
def Fits (x : Pl.Nd) : Prop := x.cls.length ≤ maxLen ∧ x.ats.length ≤ maxLen

set_option maxHeartbeats 1000000 in
theorem isRight_any (v : Value) (x : Pl.Nd) (w : World) (hf : Fits x) (hv : NdV w v x) :
    Calls Try.prog 42 #[v] w fun e w' => e = .returned (.bool (Pl.right x)) ∧ Below w.heap.size w w' := by
  obtain ⟨vc, va, rfl, hc, ha⟩ := hv
  obtain ⟨m1, m2⟩ := hf
  obtain ⟨ac, cc, rfl, hc'⟩ := id hc
  obtain ⟨aa, ca, rfl, ha'⟩ := id ha
  have HC : Hid _ := hc
  have HA : Hid _ := ha
  clear hc ha hc' ha'
  cases ht : Pl.isName x.tag with
  | false =>
    have HR : Hid (Pl.right x = false) := by simp [Hid, Pl.right, ht]
    go_enter Try.func42, Try.ntmps42
    go_wp2_with (go_at_call 66; refine (isName_any _ _).mono ?_; rintro e w' ⟨rfl, rfl⟩)
    go_ret
    exact ⟨by rw [HR.out]; rfl, on_alloc _ _⟩
  | true =>
    have hid : x.id = [] ∨ (x.id ≠ [] ∧ Pl.isName x.id = true) ∨ (x.id ≠ [] ∧ Pl.isName x.id = false) := by
      by_cases h : x.id = []
      · exact Or.inl h
      · cases Pl.isName x.id
        · exact Or.inr (Or.inr ⟨h, rfl⟩)
        · exact Or.inr (Or.inl ⟨h, rfl⟩)
    rcases hid with hi | ⟨hi, hi2⟩ | ⟨hi, hi2⟩
    · have HI : Hid ((x.id.isEmpty || Pl.isName x.id) = true) := by simp [Hid, hi]
      go_enter Try.func42, Try.ntmps42
      go_wp2_with (go_at_call 66; refine (isName_any _ _).mono ?_; rintro e w' ⟨rfl, rfl⟩)
      refine (areS_any _ x.cls _ m1 (StrsAt.on HC.out (on_alloc _ _))).mono ?_
      rintro e w1 ⟨rfl, h1⟩
      have hB1 := below_trans (on_alloc w _) h1
      have c4 := cell_on (p := ⟨w.heap.size, 4, none⟩) (v := .slice aa x.ats.length ca) h1 (by simp [go_sem])
      clear h1
      cases hn : Pl.names 6 x.cls with
      | false =>
        have HR : Hid (Pl.right x = false) := by simp [Hid, Pl.right, hn]
        go_wp2
        go_ret
        exact ⟨by rw [HR.out]; rfl, hB1⟩
      | true =>
        go_wp2_with fail
        refine (areA_any _ x.ats _ m2 (AtsAt.on HA.out hB1)).mono ?_
        rintro e w2 ⟨rfl, h2⟩
        have hB2 := below_trans hB1 h2
        have d4 := cell_on h2 c4
        clear h2 c4
        cases hm : Pl.names 4 (x.ats.map (·.1)) with
        | false =>
          have HR : Hid (Pl.right x = false) := by simp [Hid, Pl.right, hm]
          go_wp2
          go_ret
          exact ⟨by rw [HR.out]; rfl, hB2⟩
        | true =>
          have HR : Hid (Pl.right x = x.ats.all (fun a => Pl.isValue a.2)) := by simp [Hid, Pl.right, ht, HI.out, hn, hm]
          go_wp2_with fail
          refine (vals_any _ x.ats _ m2 (AtsAt.on HA.out hB2)).mono ?_
          rintro e w3 ⟨rfl, h3⟩
          go_wp2
          go_ret
          exact ⟨by rw [HR.out]; rfl, below_trans hB2 h3⟩
    · have HI : Hid ((x.id.isEmpty || Pl.isName x.id) = true) := by simp [Hid, hi2]
      go_enter Try.func42, Try.ntmps42
      go_wp2_with (go_at_call 66; refine (isName_any _ _).mono ?_; rintro e w' ⟨rfl, rfl⟩)
      refine (areS_any _ x.cls _ m1 (StrsAt.on HC.out (on_alloc _ _))).mono ?_
      rintro e w1 ⟨rfl, h1⟩
      have hB1 := below_trans (on_alloc w _) h1
      have c4 := cell_on (p := ⟨w.heap.size, 4, none⟩) (v := .slice aa x.ats.length ca) h1 (by simp [go_sem])
      clear h1
      cases hn : Pl.names 6 x.cls with
      | false =>
        have HR : Hid (Pl.right x = false) := by simp [Hid, Pl.right, hn]
        go_wp2
        go_ret
        exact ⟨by rw [HR.out]; rfl, hB1⟩
      | true =>
        go_wp2_with fail
        refine (areA_any _ x.ats _ m2 (AtsAt.on HA.out hB1)).mono ?_
        rintro e w2 ⟨rfl, h2⟩
        have hB2 := below_trans hB1 h2
        have d4 := cell_on h2 c4
        clear h2 c4
        cases hm : Pl.names 4 (x.ats.map (·.1)) with
        | false =>
          have HR : Hid (Pl.right x = false) := by simp [Hid, Pl.right, hm]
          go_wp2
          go_ret
          exact ⟨by rw [HR.out]; rfl, hB2⟩
        | true =>
          have HR : Hid (Pl.right x = x.ats.all (fun a => Pl.isValue a.2)) := by simp [Hid, Pl.right, ht, HI.out, hn, hm]
          go_wp2_with fail
          refine (vals_any _ x.ats _ m2 (AtsAt.on HA.out hB2)).mono ?_
          rintro e w3 ⟨rfl, h3⟩
          go_wp2
          go_ret
          exact ⟨by rw [HR.out]; rfl, below_trans hB2 h3⟩
    · have HR : Hid (Pl.right x = false) := by simp [Hid, Pl.right, hi, hi2]
      go_enter Try.func42, Try.ntmps42
      go_wp2_with (go_at_call 66; refine (isName_any _ _).mono ?_; rintro e w' ⟨rfl, rfl⟩)
      go_ret
      exact ⟨by rw [HR.out]; rfl, on_alloc _ _⟩
end Go.Proofs.Ythlpcmgeelkncaa
