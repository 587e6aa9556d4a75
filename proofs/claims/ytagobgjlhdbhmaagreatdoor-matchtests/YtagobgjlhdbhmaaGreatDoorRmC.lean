/-
  What the document says of values, of attributes, of places in lists, of those above.
-/
import Derived.Test.YtagobgjlhdbhmaaGreatDoorRmB
import Derived.Test.YtagobgjlhdbhmaaGreatDoorRefK
import Derived.RangeFuncBox
namespace Go.Proofs.YtagobgjlhdbhmaaGreatDoor
open Go.RowKit

set_option maxRecDepth 100000 in
set_option maxHeartbeats 4000000 in
theorem valuePasses_any (kind : Int) (s t : List UInt8) (w : World) (hs : s.length ≤ 65536) (ht : t.length ≤ 65536) :
    Calls Tryz.prog 35 #[.int .i64 kind, .string ⟨s.toArray⟩, .string ⟨t.toArray⟩] w fun e w' => e = .returned (.bool (Pl.valOk kind s t)) ∧ w' = w := by
  have HST : Hid (∀ (k : Int), -65536 ≤ k → k ≤ 65536 → Calls Tryz.prog 62 #[.string ⟨s.toArray⟩, .string ⟨t.toArray⟩, .int .i64 k] w fun e w' => e = .returned (.bool (Pl.stands s t k)) ∧ w' = w) := fun k h1 h2 => standsAt_any s t k w (by omega) (by omega) ⟨by omega, by omega⟩
  have HWD : Hid (Calls Tryz.prog 61 _ _ _) := word_any s t w hs ht
  by_cases h3 : kind = 3
  · subst h3
    go_enter Tryz.func35, Tryz.ntmps35
    go_wp2
    go_ret
    exact ⟨rfl, rfl⟩
  have b3 : (kind == 3) = false := by simpa using h3
  by_cases h4 : kind = 4
  · subst h4
    have HV : Hid (Pl.valOk 4 s t = (s == t)) := rfl
    cases he : (s == t) with
    | true =>
      have e : s = t := by simpa using he
      subst e
      clear he
      go_enter Tryz.func35, Tryz.ntmps35
      go_wp2
      go_ret
      exact ⟨by rw [HV.out]; simp, rfl⟩
    | false =>
      rw [he] at HV
      have he2 : ¬ (⟨s.toArray⟩ : ByteArray) = ⟨t.toArray⟩ := fun e => by
        have := congrArg (fun x : ByteArray => x.data.toList) e
        simp at this
        rw [this] at he
        simp at he
      go_enter Tryz.func35, Tryz.ntmps35
      go_wp2
      go_ret
      exact ⟨by rw [HV.out]; rfl, rfl⟩
  have b4 : (kind == 4) = false := by simpa using h4
  by_cases h8 : kind = 8
  · subst h8
    have HV : Hid (Pl.valOk 8 s t = Pl.word s t) := rfl
    clear h3 h4 b3 b4
    go_enter Tryz.func35, Tryz.ntmps35
    go_wp2_with fail
    refine HWD.out.mono ?_
    rintro e w1 ⟨rfl, rfl⟩
    go_wp2
    go_ret
    exact ⟨by rw [HV.out]; rfl, rfl⟩
  have b8 : (kind == 8) = false := by simpa using h8
  cases h0 : t.isEmpty with
  | true =>
    have HV : Hid (Pl.valOk kind s t = false) := by
      unfold Hid Pl.valOk
      rw [if_neg h3, if_neg h4, if_neg h8, if_pos h0]
    have ht0 : t = [] := by simpa using h0
    subst ht0
    clear h3 h4 h8
    go_enter Tryz.func35, Tryz.ntmps35
    go_wp2
    go_ret
    exact ⟨by rw [HV.out]; rfl, rfl⟩
  | false =>
    by_cases h5 : kind = 5
    · subst h5
      have HV : Hid (Pl.valOk 5 s t = Pl.stands s t 0) := by
        unfold Hid Pl.valOk
        rw [h0]
        rfl
      have HC := HST.out 0 (by omega) (by omega)
      have HC2 : Hid (Calls Tryz.prog 62 _ _ _) := HC
      clear HC h3 h4 h8 b3 b4 b8
      go_enter Tryz.func35, Tryz.ntmps35
      go_wp2_with fail
      refine HC2.out.mono ?_
      rintro e w1 ⟨rfl, rfl⟩
      go_wp2
      go_ret
      exact ⟨by rw [HV.out]; rfl, rfl⟩
    have b5 : (kind == 5) = false := by simpa using h5
    by_cases h6 : kind = 6
    · subst h6
      have HV : Hid (Pl.valOk 6 s t = Pl.stands s t ((s.length : Int) - t.length)) := by
        unfold Hid Pl.valOk
        rw [h0]
        rfl
      have HC := HST.out ((s.length : Int) - t.length) (by omega) (by omega)
      have HC2 : Hid (Calls Tryz.prog 62 _ _ _) := HC
      have hw : wrap64 ((s.length : Int) - (t.length : Int)) = (s.length : Int) - (t.length : Int) := IntWalk.wrap64_in _ ⟨by omega, by omega⟩
      clear HC h3 h4 h8 b3 b4 b8 h5 b5
      go_enter Tryz.func35, Tryz.ntmps35
      go_wp2_with fail
      refine HC2.out.mono ?_
      rintro e w1 ⟨rfl, rfl⟩
      go_wp2
      go_ret
      exact ⟨by rw [HV.out]; rfl, rfl⟩
    have b6 : (kind == 6) = false := by simpa using h6
    have HV : Hid (Pl.valOk kind s t = (List.range s.length).any fun i => Pl.stands s t i) := by
      unfold Hid Pl.valOk
      rw [if_neg h3, if_neg h4, if_neg h8, h0, if_neg (by simp), if_neg h5, if_neg h6]
    clear h3 h4 h8 h5 h6
    go_enter Tryz.func35, Tryz.ntmps35
    go_wp2_with fail
    go_loop [7] (fun n => ∃ k : Nat, k ≤ s.length ∧ n = .int .i64 k ∧ Hid (∀ j, j < k → Pl.stands s t (j : Nat) = false)) (fun n => s.length - (intOf n).toNat)
    case atStart => exact ⟨0, Nat.zero_le _, rfl, fun j hj => by omega⟩
    case round =>
      obtain ⟨k, hk, rfl, HD⟩ := hrel
      by_cases hlt : k < s.length
      · have HC := HST.out k (by omega) (by omega)
        cases hst : Pl.stands s t (k : Nat) with
        | true =>
          have HY : Hid (Pl.valOk kind s t = true) := by
            unfold Hid
            rw [HV.out]
            exact any_some hlt hst
          rw [hst] at HC
          have HC2 : Hid (Calls Tryz.prog 62 _ _ _) := HC
          clear HC hst
          go_wp2_with fail
          refine HC2.out.mono ?_
          rintro e w1 ⟨rfl, rfl⟩
          go_wp2
          go_ret
          exact ⟨by rw [HY.out]; rfl, rfl⟩
        | false =>
          have HD2 : Hid (∀ j, j < k + 1 → Pl.stands s t (j : Nat) = false) := by
            intro j hj
            by_cases e : j = k
            · subst e
              exact hst
            · exact HD.out j (by omega)
          rw [hst] at HC
          have HC2 : Hid (Calls Tryz.prog 62 _ _ _) := HC
          clear HC hst
          go_wp2_with fail
          refine HC2.out.mono ?_
          rintro e w1 ⟨rfl, rfl⟩
          go_wp2
          go_round
          case rel => exact ⟨k + 1, by omega, by go_num, HD2⟩
          case measure => simp [intOf]; omega
      · have HN : Hid (Pl.valOk kind s t = false) := by
          unfold Hid
          rw [HV.out]
          exact any_none fun j hj => HD.out j (by omega)
        go_wp2
        go_ret
        exact ⟨by rw [HN.out]; rfl, rfl⟩
end Go.Proofs.YtagobgjlhdbhmaaGreatDoor
