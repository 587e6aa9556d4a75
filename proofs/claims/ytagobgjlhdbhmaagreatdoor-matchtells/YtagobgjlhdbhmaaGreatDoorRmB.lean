/-
  What the document says of words in a value.
-/
import Derived.Test.YtagobgjlhdbhmaaGreatDoorRmA
namespace Go.Proofs.YtagobgjlhdbhmaaGreatDoor
open Go.RowKit

theorem byte_yes {l : List UInt8} {k : Nat} (h : k < l.length) (hc : l[k]? = some 32) : ((((⟨l.toArray⟩ : ByteArray)[k]'h).toNat : Int) == 32) = true := by
  have e : l[k] = 32 := by
    rw [List.getElem?_eq_getElem h] at hc
    exact Option.some.inj hc
  show (((l[k]).toNat : Int) == 32) = true
  rw [e]
  rfl
theorem byte_no {l : List UInt8} {k : Nat} (h : k < l.length) (hc : ¬ l[k]? = some 32) : ((((⟨l.toArray⟩ : ByteArray)[k]'h).toNat : Int) == 32) = false := by
  rw [Bool.eq_false_iff]
  intro e
  apply hc
  rw [List.getElem?_eq_getElem h]
  congr 1
  have e2 : ((l[k]).toNat : Int) = ((32 : UInt8).toNat : Int) := by
    have : (((l[k]).toNat : Int) == 32) = true := e
    simpa using this
  exact UInt8.toNat_inj.1 (Int.ofNat.inj e2)
theorem word_no {s t : List UInt8} {k : Nat} (hk : ∀ j, j < k → Pl.wordAt s t j = false) (h : Pl.wordAt s t k = false) : ∀ j, j < k + 1 → Pl.wordAt s t j = false := by
  intro j hj
  by_cases e : j = k
  · subst e
    exact h
  · exact hk j (by omega)
theorem any_none {n : Nat} {p : Nat → Bool} (h : ∀ j, j < n → p j = false) : (List.range n).any p = false := by
  rw [Bool.eq_false_iff]
  intro e
  rw [List.any_eq_true] at e
  obtain ⟨x, hx, hp⟩ := e
  rw [h x (by simpa using hx)] at hp
  cases hp
theorem any_some {n k : Nat} {p : Nat → Bool} (hk : k < n) (h : p k = true) : (List.range n).any p = true := by
  rw [List.any_eq_true]
  exact ⟨k, by simpa using hk, h⟩
set_option maxRecDepth 100000 in
set_option maxHeartbeats 4000000 in
theorem word_any (s t : List UInt8) (w : World) (hs : s.length ≤ 65536) (ht : t.length ≤ 65536) :
    Calls Tryz.prog 61 #[.string ⟨s.toArray⟩, .string ⟨t.toArray⟩] w fun e w' => e = .returned (.bool (Pl.word s t)) ∧ w' = w := by
  have HST : Hid (∀ (k : Nat), k ≤ 65536 → Calls Tryz.prog 62 #[.string ⟨s.toArray⟩, .string ⟨t.toArray⟩, .int .i64 k] w fun e w' => e = .returned (.bool (Pl.stands s t k)) ∧ w' = w) := fun k hk => standsAt_any s t k w (by omega) (by omega) ⟨by omega, by omega⟩
  cases h0 : t.isEmpty with
  | true =>
    have ht0 : t = [] := by simpa using h0
    subst ht0
    go_enter Tryz.func61, Tryz.ntmps61
    go_wp2
    go_ret
    exact ⟨by simp [Pl.word], rfl⟩
  | false =>
    go_enter Tryz.func61, Tryz.ntmps61
    go_wp2
    go_loop [5] (fun n => ∃ k : Nat, k ≤ t.length ∧ n = .int .i64 k ∧ Hid (∀ j (h : j < t.length), j < k → (t[j] == 32) = false)) (fun n => t.length - (intOf n).toNat)
    case atStart => exact ⟨0, Nat.zero_le _, rfl, fun j _ hj => by omega⟩
    case round =>
      obtain ⟨k, hk, rfl, HD⟩ := hrel
      by_cases hlt : k < t.length
      · by_cases hc : t[k]? = some 32
        · have hb := byte_yes hlt hc
          have HW : Hid (Pl.word s t = false) := by
            unfold Hid Pl.word
            have : (t.all fun c => !(c == 32)) = false := by
              rw [Bool.eq_false_iff]
              intro e
              rw [List.all_eq_true] at e
              have h1 := e (t[k]) (List.getElem_mem hlt)
              rw [List.getElem?_eq_getElem hlt] at hc
              rw [Option.some.inj hc] at h1
              simp at h1
            rw [this]
            simp
          clear hc
          go_wp2
          go_ret
          exact ⟨by rw [HW.out]; rfl, rfl⟩
        · have hb := byte_no hlt hc
          have HD2 : Hid (∀ j (h : j < t.length), j < k + 1 → (t[j] == 32) = false) := by
            intro j h hj
            by_cases e : j = k
            · subst e
              rw [List.getElem?_eq_getElem hlt] at hc
              simp only [Option.some.injEq] at hc
              simpa using hc
            · exact HD.out j h (by omega)
          clear hc
          go_wp2
          go_round
          case rel => exact ⟨k + 1, by omega, by go_num, HD2⟩
          case measure => simp [intOf]; omega
      · have HA : Hid (Pl.word s t = (List.range (s.length + 1)).any (Pl.wordAt s t)) := by
          unfold Hid Pl.word
          have : (t.all fun c => !(c == 32)) = true := by
            rw [List.all_eq_true]
            intro c hc
            obtain ⟨j, hj, rfl⟩ := List.getElem_of_mem hc
            rw [HD.out j hj (by omega)]
            rfl
          rw [this, h0]
          rfl
        clear HD h0
        go_wp2
        go_loop [6] (fun n => ∃ k : Nat, k ≤ s.length + 1 ∧ n = .int .i64 k ∧ Hid (∀ j, j < k → Pl.wordAt s t j = false)) (fun n => s.length + 1 - (intOf n).toNat)
        case atStart => exact ⟨0, Nat.zero_le _, rfl, fun j hj => by omega⟩
        case round =>
          obtain ⟨k, hk, rfl, HD⟩ := hrel
          by_cases hlt : k ≤ s.length
          · have hki : (k : Int) ≤ (s.length : Int) := by omega
            have hcs := HST.out k (by omega)
            cases hst : Pl.stands s t k with
            | false =>
              have HN : Hid (∀ j, j < k + 1 → Pl.wordAt s t j = false) := word_no HD.out (by unfold Pl.wordAt; rw [hst]; rfl)
              rw [hst] at hcs
              have HCS : Hid (Calls Tryz.prog 62 _ _ _) := hcs
              clear hcs hst
              go_wp2_with fail
              refine HCS.out.mono ?_
              rintro e w1 ⟨rfl, rfl⟩
              go_wp2
              go_round
              case rel => exact ⟨k + 1, by omega, by go_num, HN⟩
              case measure => simp [intOf]; omega
            | true =>
              have hin : k + t.length ≤ s.length := by
                unfold Pl.stands at hst
                simp only [Bool.and_eq_true, decide_eq_true_eq] at hst
                have := hst.2.1
                omega
              rw [hst] at hcs
              have HCS : Hid (Calls Tryz.prog 62 _ _ _) := hcs
              have HST1 : Hid (Pl.stands s t k = true) := hst
              clear hcs hst
              obtain ⟨r, hr⟩ : ∃ r, r = k + t.length := ⟨_, rfl⟩
              have hrs : r ≤ s.length := by omega
              have HR : Hid (k + t.length = r) := hr.symm
              clear hr hin
              have hL : (k = 0) ∨ (∃ j, k = j + 1 ∧ s[j]? = some 32) ∨ (∃ j, k = j + 1 ∧ ¬ s[j]? = some 32) := by
                rcases k with _ | j
                · exact Or.inl rfl
                · by_cases q : s[j]? = some 32
                  · exact Or.inr (Or.inl ⟨j, rfl, q⟩)
                  · exact Or.inr (Or.inr ⟨j, rfl, q⟩)
              have hRR : (r = s.length) ∨ (r < s.length ∧ s[r]? = some 32) ∨ (r < s.length ∧ ¬ s[r]? = some 32) := by
                by_cases q : r = s.length
                · exact Or.inl q
                · by_cases q2 : s[r]? = some 32
                  · exact Or.inr (Or.inl ⟨by omega, q2⟩)
                  · exact Or.inr (Or.inr ⟨by omega, q2⟩)
              rcases hL with rfl | ⟨j, rfl, hj⟩ | ⟨j, rfl, hj⟩
              · obtain rfl : r = t.length := by have := HR.out; omega
                rcases hRR with hr1 | ⟨hr1, hr2⟩ | ⟨hr1, hr2⟩
                · have hrb : ((t.length : Int) == (s.length : Int)) = true := by simp [hr1]
                  have hri : (t.length : Int) = (s.length : Int) := by omega
                  have HY : Hid (Pl.word s t = true) := by
                    unfold Hid
                    rw [HA.out]
                    refine any_some (k := 0) (by omega) ?_
                    unfold Pl.wordAt
                    rw [HST1.out, HR.out]
                    simp [hr1]
                  clear hr1
                  go_wp2_with fail
                  refine HCS.out.mono ?_
                  rintro e w1 ⟨rfl, rfl⟩
                  go_wp2
                  go_ret
                  exact ⟨by rw [HY.out]; rfl, rfl⟩
                · have hrb : ((t.length : Int) == (s.length : Int)) = false := by simp; omega
                  have hri : ¬ (t.length : Int) = (s.length : Int) := by omega
                  have HY : Hid (Pl.word s t = true) := by
                    unfold Hid
                    rw [HA.out]
                    refine any_some (k := 0) (by omega) ?_
                    unfold Pl.wordAt
                    rw [HST1.out, HR.out]
                    simp [hr2]
                  have hb := byte_yes hr1 hr2
                  clear hr2
                  go_wp2_with fail
                  refine HCS.out.mono ?_
                  rintro e w1 ⟨rfl, rfl⟩
                  go_wp2
                  go_ret
                  exact ⟨by rw [HY.out]; rfl, rfl⟩
                · have hrb : ((t.length : Int) == (s.length : Int)) = false := by simp; omega
                  have hri : ¬ (t.length : Int) = (s.length : Int) := by omega
                  have HN : Hid (∀ i, i < 0 + 1 → Pl.wordAt s t i = false) := word_no HD.out (by
                    unfold Pl.wordAt
                    rw [HR.out]
                    simp [hr2, Nat.ne_of_lt hr1])
                  have hb := byte_no hr1 hr2
                  clear hr2
                  go_wp2_with fail
                  refine HCS.out.mono ?_
                  rintro e w1 ⟨rfl, rfl⟩
                  go_wp2
                  go_round
                  case rel => exact ⟨0 + 1, by omega, by go_num, HN⟩
                  case measure => simp [intOf]
              · have hjl : j < s.length := by omega
                have hbj := byte_yes hjl hj
                have hw3 : (((j + 1 : Nat) : Int) - 1) = (j : Int) := by omega
                have hw4 : ((j + 1 : Nat) : Int) + (t.length : Int) = (r : Int) := by have := HR.out; omega
                have hw5 : (j : Int) + 1 + (t.length : Int) = (r : Int) := by have := HR.out; omega
                have hw6 : (j : Int) + 1 - 1 = (j : Int) := by omega
                rcases hRR with hr1 | ⟨hr1, hr2⟩ | ⟨hr1, hr2⟩
                · have hrb : ((r : Int) == (s.length : Int)) = true := by simp [hr1]
                  have hri : (r : Int) = (s.length : Int) := by omega
                  have HY : Hid (Pl.word s t = true) := by
                    unfold Hid
                    rw [HA.out]
                    refine any_some (k := (j + 1)) (by omega) ?_
                    unfold Pl.wordAt
                    rw [HST1.out, HR.out]
                    simp [hj, hr1]
                  clear hj hr1
                  go_wp2_with fail
                  refine HCS.out.mono ?_
                  rintro e w1 ⟨rfl, rfl⟩
                  go_wp2
                  go_ret
                  exact ⟨by rw [HY.out]; rfl, rfl⟩
                · have hrb : ((r : Int) == (s.length : Int)) = false := by simp; omega
                  have hri : ¬ (r : Int) = (s.length : Int) := by omega
                  have HY : Hid (Pl.word s t = true) := by
                    unfold Hid
                    rw [HA.out]
                    refine any_some (k := (j + 1)) (by omega) ?_
                    unfold Pl.wordAt
                    rw [HST1.out, HR.out]
                    simp [hj, hr2]
                  have hb := byte_yes hr1 hr2
                  clear hj hr2
                  go_wp2_with fail
                  refine HCS.out.mono ?_
                  rintro e w1 ⟨rfl, rfl⟩
                  go_wp2
                  go_ret
                  exact ⟨by rw [HY.out]; rfl, rfl⟩
                · have hrb : ((r : Int) == (s.length : Int)) = false := by simp; omega
                  have hri : ¬ (r : Int) = (s.length : Int) := by omega
                  have HN : Hid (∀ i, i < (j + 1) + 1 → Pl.wordAt s t i = false) := word_no HD.out (by
                    unfold Pl.wordAt
                    rw [HR.out]
                    simp [hr2, Nat.ne_of_lt hr1])
                  have hb := byte_no hr1 hr2
                  clear hj hr2
                  go_wp2_with fail
                  refine HCS.out.mono ?_
                  rintro e w1 ⟨rfl, rfl⟩
                  go_wp2
                  go_round
                  case rel => exact ⟨(j + 1) + 1, by omega, by go_num, HN⟩
                  case measure => simp [intOf]; omega
              · have hjl : j < s.length := by omega
                have hbj := byte_no hjl hj
                have hw3 : (((j + 1 : Nat) : Int) - 1) = (j : Int) := by omega
                have hw6 : (j : Int) + 1 - 1 = (j : Int) := by omega
                have HN : Hid (∀ i, i < (j + 1) + 1 → Pl.wordAt s t i = false) := word_no HD.out (by
                  unfold Pl.wordAt
                  simp [hj])
                clear hj hRR
                go_wp2_with fail
                refine HCS.out.mono ?_
                rintro e w1 ⟨rfl, rfl⟩
                go_wp2
                go_round
                case rel => exact ⟨(j + 1) + 1, by omega, by go_num, HN⟩
                case measure => simp [intOf]; omega
          · have hki : ¬ (k : Int) ≤ (s.length : Int) := by omega
            have HN : Hid (Pl.word s t = false) := by
              unfold Hid
              rw [HA.out]
              exact any_none fun j hj => HD.out j (by omega)
            go_wp2
            go_ret
            exact ⟨by rw [HN.out]; rfl, rfl⟩
end Go.Proofs.YtagobgjlhdbhmaaGreatDoor
