/-
  A right element, as the document's own answer tells it.
-/
import Derived.Test.YtagobgjlhdbhmaaGreatDoorIsR
import Derived.Test.YtagobgjlhdbhmaaGreatDoorRefN
import Derived.BigQuiet
import Derived.Deep.QuietTactic
namespace Go.Proofs.YtagobgjlhdbhmaaGreatDoor
open Go.RowKit

theorem rise_iff : ∀ (ss : List (List UInt8)), Pl.rise ss = true ↔ ∀ j (h : j + 1 < ss.length), Op.bytesLess ss[j] ss[j + 1] = true
  | [] => by simp [Pl.rise]
  | [a] => by simp [Pl.rise]
  | a :: b :: r => by
    rw [Pl.rise, Bool.and_eq_true, rise_iff (b :: r)]
    constructor
    · rintro ⟨h1, h2⟩ j hj
      cases j with
      | zero => exact h1
      | succ j => exact h2 j (by simpa using hj)
    · intro h
      exact ⟨h 0 (by simp), fun j hj => h (j + 1) (by simpa using hj)⟩
/-- the first k are names and rise -/
def NamesTo (ss : List (List UInt8)) (k : Nat) : Prop := ∀ j (h : j < ss.length), j < k → Pl.isName ss[j] = true ∧ (∀ (i : Nat) (hi : i + 1 = j), Op.bytesLess (ss[i]'(by omega)) ss[j] = true)
theorem namesTo_all {ss : List (List UInt8)} {m : Nat} (hm : ss.length ≤ m) (h : NamesTo ss ss.length) : Pl.names m ss = true := by
  unfold Pl.names
  have h2 : ss.all Pl.isName = true := by
    rw [List.all_eq_true]
    intro x hx
    obtain ⟨i, hi, rfl⟩ := List.mem_iff_getElem.mp hx
    exact (h i hi hi).1
  have h3 : Pl.rise ss = true := (rise_iff ss).mpr fun j hj => (h (j + 1) hj hj).2 j rfl
  simp [hm, h2, h3]
theorem names_not1 {ss : List (List UInt8)} {m k : Nat} (hk : k < ss.length) (h : Pl.isName ss[k] = false) : Pl.names m ss = false := by
  unfold Pl.names
  rw [allN_not ss k hk h]; simp
theorem names_not2 {ss : List (List UInt8)} {m k : Nat} (hk : k + 1 < ss.length) (h : Op.bytesLess ss[k] ss[k + 1] = false) : Pl.names m ss = false := by
  unfold Pl.names
  have : Pl.rise ss = false := by
    cases hr : Pl.rise ss with
    | false => rfl
    | true => rw [rise_iff] at hr; rw [hr k hk] at h; cases h
  rw [this]; simp
theorem namesTo_next0 {ss : List (List UInt8)} (hk : 0 < ss.length) (h1 : Pl.isName ss[0] = true) : NamesTo ss 1 := by
  intro j hj hlt
  have : j = 0 := by omega
  subst this
  exact ⟨h1, fun i hi => by omega⟩
theorem namesTo_next {ss : List (List UInt8)} {k : Nat} (hk : k + 1 < ss.length) (h : NamesTo ss (k + 1)) (h1 : Pl.isName ss[k + 1] = true) (h2 : Op.bytesLess ss[k] ss[k + 1] = true) : NamesTo ss (k + 2) := by
  intro j hj hlt
  by_cases hjk : j < k + 1
  · exact h j hj hjk
  · have : j = k + 1 := by omega
    subst this
    refine ⟨h1, fun i hi => ?_⟩
    have : i = k := by omega
    subst this
    exact h2
/-- the first loop's callee, quiet -/
theorem fine_tag (v : Value) (x : Pl.Nd) (w : World) (hv : NdV w v x) (hm : Fits x) (ht : Pl.isName x.tag = false) :
    Calls Tryz.prog 49 #[v] w fun e w' => e = .returned (.bool (Pl.right x)) ∧ Below w.heap.size w w' := by
  obtain ⟨vc, va, rfl, hc, ha⟩ := hv
  obtain ⟨m1, m2⟩ := hm
  obtain ⟨ac, cc, rfl, hc'⟩ := id hc
  obtain ⟨aa, ca, rfl, ha'⟩ := id ha
  clear hc ha hc' ha'
  have HR : Hid (Pl.right x = false) := by simp [Hid, Pl.right, ht]
  go_enter Tryz.func49, Tryz.ntmps49
  go_wp2_with (go_at_call 75; refine (refName_any _ _).mono ?_; rintro e w' ⟨rfl, rfl⟩; rw [ht])
  go_ret
  exact ⟨by rw [HR.out]; rfl, on_alloc _ _⟩
set_option maxHeartbeats 4000000 in
theorem fine_rest (v : Value) (x : Pl.Nd) (w : World) (hv : NdV w v x) (hm : Fits x) (ht : Pl.isName x.tag = true) :
    Calls Tryz.prog 49 #[v] w fun e w' => e = .returned (.bool (Pl.right x)) ∧ Below w.heap.size w w' := by
  obtain ⟨vc, va, rfl, hc, ha⟩ := hv
  obtain ⟨m1, m2⟩ := hm
  obtain ⟨ac, cc, rfl, hc'⟩ := id hc
  obtain ⟨aa, ca, rfl, ha'⟩ := id ha
  have HC : Hid _ := hc'
  have HA : Hid _ := ha'
  clear hc ha hc' ha'
  unfold maxLen at m1 m2
  have hid : x.id = [] ∨ (x.id ≠ [] ∧ Pl.isName x.id = true) ∨ (x.id ≠ [] ∧ Pl.isName x.id = false) := by
    by_cases h : x.id = []
    · exact Or.inl h
    · cases Pl.isName x.id
      · exact Or.inr (Or.inr ⟨h, rfl⟩)
      · exact Or.inr (Or.inl ⟨h, rfl⟩)
  rcases hid with hi | ⟨hi, hi2⟩ | ⟨hi, hi2⟩
  case' inr.inr =>
    have HR : Hid (Pl.right x = false) := by simp [Hid, Pl.right, hi, hi2]
    go_enter Tryz.func49, Tryz.ntmps49
    go_wp2_with (go_at_call 75; refine (refName_any _ _).mono ?_; rintro e w' ⟨rfl, rfl⟩; first | rw [hi2] | rw [ht])
    go_ret
    exact ⟨by rw [HR.out]; rfl, on_alloc _ _⟩
  case' inl => have HI : Hid ((x.id.isEmpty || Pl.isName x.id) = true) := by simp [Hid, hi]
  case' inr.inl => have HI : Hid ((x.id.isEmpty || Pl.isName x.id) = true) := by simp [Hid, hi2]
  all_goals
    by_cases hl1 : (6 : Int) < (x.cls.length : Int)
    · have HR : Hid (Pl.right x = false) := by
        have : ¬ x.cls.length ≤ 6 := by omega
        simp [Hid, Pl.right, Pl.names, this]
      go_enter Tryz.func49, Tryz.ntmps49
      go_wp2_with (go_at_call 75; refine (refName_any _ _).mono ?_; rintro e w' ⟨rfl, rfl⟩; first | rw [ht] | rw [hi2])
      go_ret
      exact ⟨by rw [HR.out]; rfl, on_alloc _ _⟩
    · by_cases hl2 : (4 : Int) < (x.ats.length : Int)
      · have HR : Hid (Pl.right x = false) := by
          have : ¬ x.ats.length ≤ 4 := by omega
          simp [Hid, Pl.right, Pl.names, this]
        go_enter Tryz.func49, Tryz.ntmps49
        go_wp2_with (go_at_call 75; refine (refName_any _ _).mono ?_; rintro e w' ⟨rfl, rfl⟩; first | rw [ht] | rw [hi2])
        go_ret
        exact ⟨by rw [HR.out]; rfl, on_alloc _ _⟩
      · go_enter Tryz.func49, Tryz.ntmps49
        go_wp2_with (go_at_call 75; refine (refName_any _ _).mono ?_; rintro e w' ⟨rfl, rfl⟩; first | rw [ht] | rw [hi2])
        go_loopw [3] (fun i wr => ∃ k : Nat, k ≤ x.cls.length ∧ i = .int .i64 k ∧ Hid (NamesTo x.cls k) ∧ Below w.heap.size w wr ∧ wr.cell? ⟨w.heap.size, 3, none⟩ = some (.slice ac x.cls.length cc) ∧ wr.cell? ⟨w.heap.size, 4, none⟩ = some (.slice aa x.ats.length ca)) (fun i _ => x.cls.length - (intOf i).toNat)
        case atStart => exact ⟨0, Nat.zero_le _, rfl, fun j _ h => by omega, on_alloc _ _, by simp [go_sem], by simp [go_sem]⟩
        case round =>
          obtain ⟨k, hk, rfl, hd, hB, hb3, hb4⟩ := hrel
          by_cases hlt : k < x.cls.length
          · obtain ⟨b, o, rfl, hcell⟩ := HC.out.resolve_left (by intro h; rw [h] at hlt; simp at hlt)
            have c0 : wr.cell? ⟨b, o + k, none⟩ = some (.string ⟨x.cls[k].toArray⟩) := cell_on hB (hcell k hlt)
            have i3 : (k : Int) < (x.cls.length : Int) := by omega
            have i0 : (0 : Int) ≤ (k : Int) := by omega
            cases hn : Pl.isName x.cls[k] with
            | false =>
              have HR : Hid (Pl.right x = false) := by simp [Hid, Pl.right, names_not1 (m := 6) hlt hn]
              have q : ∀ w, Calls Tryz.prog 75 #[.string ⟨x.cls[k].toArray⟩] w fun e w' => e = .returned (.bool false) ∧ w' = w := fun w => by
                have := refName_any x.cls[k] w
                rwa [hn] at this
              clear hcell HC HA
              go_wp2
              go_quiet ((go_at_call 75; exact Calls.quiet_of_same (q _)))
              go_wp2
              go_ret
              exact ⟨by rw [HR.out]; rfl, below_drewN hB _⟩
            | true =>
              have q : ∀ w, Calls Tryz.prog 75 #[.string ⟨x.cls[k].toArray⟩] w fun e w' => e = .returned (.bool true) ∧ w' = w := fun w => by
                have := refName_any x.cls[k] w
                rwa [hn] at this
              rcases Nat.eq_zero_or_pos k with rfl | hkp
              · have HN : Hid (NamesTo x.cls 1) := namesTo_next0 hlt hn
                rw [Nat.add_zero] at c0
                clear hcell HC HA
                go_wp2
                go_quiet ((go_at_call 75; exact Calls.quiet_of_same (q _)))
                go_wp2
                exact ⟨⟨1, hlt, by go_num, HN, below_drewN hB _, by simpa [go_sem] using hb3, by simpa [go_sem] using hb4⟩, by simp [intOf]; omega⟩
              · obtain ⟨j, rfl⟩ : ∃ j, k = j + 1 := ⟨k - 1, by omega⟩
                have c1 : wr.cell? ⟨b, o + j, none⟩ = some (.string ⟨x.cls[j].toArray⟩) := cell_on hB (hcell j (by omega))
                have ek : ((j + 1 : Nat) : Int) = (j : Int) + 1 := by omega
                rw [ek] at i3 i0
                rw [ek]
                have i1 : (0 : Int) ≤ (j : Int) := by omega
                have i2 : (j : Int) < (x.cls.length : Int) := by omega
                have i4 : (0 : Int) < (j : Int) + 1 := by omega
                cases hle : Op.bytesLess x.cls[j] x.cls[j + 1] with
                | true =>
                  have HN : Hid (NamesTo x.cls (j + 2)) := namesTo_next hlt hd.out hn hle
                  clear hcell HC HA
                  go_wp2
                  go_quiet ((go_at_call 75; exact Calls.quiet_of_same (q _)))
                  go_wp2
                  exact ⟨⟨j + 2, by omega, by go_num, HN, below_drewN hB _, by simpa [go_sem] using hb3, by simpa [go_sem] using hb4⟩, by simp [intOf]; omega⟩
                | false =>
                  have HR : Hid (Pl.right x = false) := by simp [Hid, Pl.right, names_not2 (m := 6) hlt hle]
                  clear hcell HC HA
                  go_wp2
                  go_quiet ((go_at_call 75; exact Calls.quiet_of_same (q _)))
                  go_wp2
                  go_ret
                  exact ⟨by rw [HR.out]; rfl, below_drewN hB _⟩
          · have HN : Hid (Pl.names 6 x.cls = true) := by
              have : k = x.cls.length := by omega
              subst this
              exact namesTo_all (by omega) hd.out
            clear hd HC
            go_wp2
            go_loopw [4] (fun i wr => ∃ k : Nat, k ≤ x.ats.length ∧ i = .int .i64 k ∧ Hid (NamesTo (x.ats.map (·.1)) k ∧ ∀ j (h : j < x.ats.length), j < k → Pl.isValue x.ats[j].2 = true) ∧ Below w.heap.size w wr ∧ wr.cell? ⟨w.heap.size, 4, none⟩ = some (.slice aa x.ats.length ca)) (fun i _ => x.ats.length - (intOf i).toNat)
            case atStart => exact ⟨0, Nat.zero_le _, rfl, ⟨fun j _ h => by omega, fun j _ h => by omega⟩, hB, hb4⟩
            case round =>
              clear hB hb4
              obtain ⟨k, hk, rfl, hd, hB, hb4⟩ := hrel
              by_cases hlt : k < x.ats.length
              · obtain ⟨b, o, rfl, hcell⟩ := HA.out.resolve_left (by intro h; rw [h] at hlt; simp at hlt)
                have c0 : wr.cell? ⟨b, o + k * 2, none⟩ = some (.string ⟨x.ats[k].1.toArray⟩) := cell_on hB (hcell k hlt).1
                have c2 : wr.cell? ⟨b, o + k * 2 + 1, none⟩ = some (.string ⟨x.ats[k].2.toArray⟩) := cell_on hB (hcell k hlt).2
                have i3 : (k : Int) < (x.ats.length : Int) := by omega
                have i0 : (0 : Int) ≤ (k : Int) := by omega
                have hltm : k < (x.ats.map (·.1)).length := by simpa using hlt
                have em : (x.ats.map (·.1))[k] = x.ats[k].1 := by simp
                cases hn : Pl.isName x.ats[k].1 with
                | false =>
                  have HR : Hid (Pl.right x = false) := by simp [Hid, Pl.right, names_not1 (m := 4) hltm (by rw [em]; exact hn)]
                  have q : ∀ w, Calls Tryz.prog 75 #[.string ⟨x.ats[k].1.toArray⟩] w fun e w' => e = .returned (.bool false) ∧ w' = w := fun w => by
                    have := refName_any x.ats[k].1 w
                    rwa [hn] at this
                  clear hcell HA em
                  go_wp2
                  go_quiet ((go_at_call 75; exact Calls.quiet_of_same (q _)))
                  go_wp2
                  go_ret
                  exact ⟨by rw [HR.out]; rfl, below_drewN hB _⟩
                | true =>
                  have q : ∀ w, Calls Tryz.prog 75 #[.string ⟨x.ats[k].1.toArray⟩] w fun e w' => e = .returned (.bool true) ∧ w' = w := fun w => by
                    have := refName_any x.ats[k].1 w
                    rwa [hn] at this
                  cases hva : Pl.isValue x.ats[k].2 with
                  | false =>
                    have HR : Hid (Pl.right x = false) := by
                      have : x.ats.all (fun a => Pl.isValue a.2) = false := allN_not (p := fun (a : List UInt8 × List UInt8) => Pl.isValue a.2) x.ats k hlt hva
                      simp only [Hid, Pl.right, this, Bool.and_false]
                    have q2 : ∀ w, Calls Tryz.prog 76 #[.string ⟨x.ats[k].2.toArray⟩] w fun e w' => e = .returned (.bool false) ∧ w' = w := fun w => by
                      have := refValue_any x.ats[k].2 w
                      rwa [hva] at this
                    clear hcell HA em
                    go_wp2
                    go_quiet (first | (go_at_call 75; exact Calls.quiet_of_same (q _)) | (go_at_call 76; exact Calls.quiet_of_same (q2 _)))
                    go_wp2
                    go_ret
                    exact ⟨by rw [HR.out]; rfl, below_drewN hB _⟩
                  | true =>
                    have q2 : ∀ w, Calls Tryz.prog 76 #[.string ⟨x.ats[k].2.toArray⟩] w fun e w' => e = .returned (.bool true) ∧ w' = w := fun w => by
                      have := refValue_any x.ats[k].2 w
                      rwa [hva] at this
                    have HV : Hid (∀ j (h : j < x.ats.length), j < k + 1 → Pl.isValue x.ats[j].2 = true) := by
                      intro j hj hjk
                      by_cases h : j < k
                      · exact hd.out.2 j hj h
                      · have : j = k := by omega
                        subst this
                        exact hva
                    rcases Nat.eq_zero_or_pos k with rfl | hkp
                    · have HN : Hid (NamesTo (x.ats.map (·.1)) 1) := namesTo_next0 hltm (by rw [em]; exact hn)
                      rw [Nat.zero_mul, Nat.add_zero] at c0 c2
                      clear hcell HA em
                      go_wp2
                      go_quiet (first | (go_at_call 75; exact Calls.quiet_of_same (q _)) | (go_at_call 76; exact Calls.quiet_of_same (q2 _)))
                      go_wp2
                      exact ⟨⟨1, hlt, by go_num, ⟨HN.out, HV.out⟩, below_drewN hB _, by simpa [go_sem] using hb4⟩, by simp [intOf]; omega⟩
                    · obtain ⟨j, rfl⟩ : ∃ j, k = j + 1 := ⟨k - 1, by omega⟩
                      have c1 : wr.cell? ⟨b, o + j * 2, none⟩ = some (.string ⟨x.ats[j].1.toArray⟩) := cell_on hB (hcell j (by omega)).1
                      have ek : ((j + 1 : Nat) : Int) = (j : Int) + 1 := by omega
                      rw [ek] at i3 i0
                      rw [ek]
                      have i1 : (0 : Int) ≤ (j : Int) := by omega
                      have i2 : (j : Int) < (x.ats.length : Int) := by omega
                      have i4 : (0 : Int) < (j : Int) + 1 := by omega
                      have em2 : (x.ats.map (·.1))[j]'(by simp; omega) = x.ats[j].1 := by simp
                      cases hle : Op.bytesLess x.ats[j].1 x.ats[j + 1].1 with
                      | true =>
                        have HN : Hid (NamesTo (x.ats.map (·.1)) (j + 2)) := namesTo_next hltm hd.out.1 (by rw [em]; exact hn) (by rw [em, em2]; exact hle)
                        clear hcell HA em em2
                        go_wp2
                        go_quiet (first | (go_at_call 75; exact Calls.quiet_of_same (q _)) | (go_at_call 76; exact Calls.quiet_of_same (q2 _)))
                        go_wp2
                        exact ⟨⟨j + 2, by omega, by go_num, ⟨HN.out, HV.out⟩, below_drewN hB _, by simpa [go_sem] using hb4⟩, by simp [intOf]; omega⟩
                      | false =>
                        have HR : Hid (Pl.right x = false) := by simp [Hid, Pl.right, names_not2 (m := 4) hltm (by rw [em, em2]; exact hle)]
                        clear hcell HA em em2
                        go_wp2
                        go_quiet (first | (go_at_call 75; exact Calls.quiet_of_same (q _)) | (go_at_call 76; exact Calls.quiet_of_same (q2 _)))
                        go_wp2
                        go_ret
                        exact ⟨by rw [HR.out]; rfl, below_drewN hB _⟩
              · have HR : Hid (Pl.right x = true) := by
                  have : k = x.ats.length := by omega
                  subst this
                  have h1 : Pl.names 4 (x.ats.map (·.1)) = true := namesTo_all (by simp; omega) (by simpa using hd.out.1)
                  have h2 : x.ats.all (fun a => Pl.isValue a.2) = true := by
                    rw [List.all_eq_true]
                    intro a ha
                    obtain ⟨i, hi, rfl⟩ := List.mem_iff_getElem.mp ha
                    exact hd.out.2 i hi hi
                  simp only [Hid, Pl.right, ht, HI.out, HN.out, h1, h2, Bool.and_self]
                go_wp2
                go_ret
                exact ⟨by rw [HR.out]; rfl, hB⟩
theorem fine_any (v : Value) (x : Pl.Nd) (w : World) (hm : Fits x) (hv : NdV w v x) :
    Calls Tryz.prog 49 #[v] w fun e w' => e = .returned (.bool (Pl.right x)) ∧ Below w.heap.size w w' := by
  cases ht : Pl.isName x.tag with
  | false => exact fine_tag v x w hv hm ht
  | true => exact fine_rest v x w hv hm ht
end Go.Proofs.YtagobgjlhdbhmaaGreatDoor
