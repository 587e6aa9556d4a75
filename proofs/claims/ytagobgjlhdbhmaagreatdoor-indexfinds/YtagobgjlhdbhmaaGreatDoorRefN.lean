/-
  What the document says of words in a value.
-/
import Derived.Test.YtagobgjlhdbhmaaGreatDoorRmA
import Derived.Test.YtagobgjlhdbhmaaGreatDoorMem
namespace Go.Proofs.YtagobgjlhdbhmaaGreatDoor
open Go.RowKit

theorem byte_yes {l : List UInt8} {k : Nat} (h : k < l.length) (hc : l[k]? = some 32) : ((((⟨l.toArray⟩ : ByteArray)[k]'h).toNat : Int) == 32) = true := by
  have e : l[k] = 32 := by
    rw [List.getElem?_eq_getElem h] at hc
    exact Option.some.inj hc
  show (((l[k]).toNat : Int) == 32) = true
  rw [e]
  rfl
theorem byte_no {l : List UInt8} {k : Nat} (h : k < l.length) (hc : ¬ l[k]? = some 32) : ((((⟨l.toArray⟩ : ByteArray)[k]'h).toNat : Int) == 32) = false := by
  rw [Bool.eq_false_iff]
  intro e
  apply hc
  rw [List.getElem?_eq_getElem h]
  congr 1
  have e2 : ((l[k]).toNat : Int) = ((32 : UInt8).toNat : Int) := by
    have : (((l[k]).toNat : Int) == 32) = true := e
    simpa using this
  exact UInt8.toNat_inj.1 (Int.ofNat.inj e2)
theorem word_no {s t : List UInt8} {k : Nat} (hk : ∀ j, j < k → Pl.wordAt s t j = false) (h : Pl.wordAt s t k = false) : ∀ j, j < k + 1 → Pl.wordAt s t j = false := by
  intro j hj
  by_cases e : j = k
  · subst e
    exact h
  · exact hk j (by omega)
theorem any_none {n : Nat} {p : Nat → Bool} (h : ∀ j, j < n → p j = false) : (List.range n).any p = false := by
  rw [Bool.eq_false_iff]
  intro e
  rw [List.any_eq_true] at e
  obtain ⟨x, hx, hp⟩ := e
  rw [h x (by simpa using hx)] at hp
  cases hp
theorem any_some {n k : Nat} {p : Nat → Bool} (hk : k < n) (h : p k = true) : (List.range n).any p = true := by
  rw [List.any_eq_true]
  exact ⟨k, by simpa using hk, h⟩
set_option maxRecDepth 100000 in
set_option maxHeartbeats 4000000 in
theorem word_any (s t : List UInt8) (w : World) (hs : s.length ≤ 65536) (ht : t.length ≤ 65536) :
    Calls Tryz.prog 61 #[.string ⟨s.toArray⟩, .string ⟨t.toArray⟩] w fun e w' => e = .returned (.bool (Pl.word s t)) ∧ w' = w := by
  have HST : Hid (∀ (k : Nat), k ≤ 65536 → Calls Tryz.prog 62 #[.string ⟨s.toArray⟩, .string ⟨t.toArray⟩, .int .i64 k] w fun e w' => e = .returned (.bool (Pl.stands s t k)) ∧ w' = w) := fun k hk => standsAt_any s t k w (by omega) (by omega) ⟨by omega, by omega⟩
  cases h0 : t.isEmpty with
  | true =>
    have ht0 : t = [] := by simpa using h0
    subst ht0
    go_enter Tryz.func61, Tryz.ntmps61
    go_wp2
    go_ret
    exact ⟨by simp [Pl.word], rfl⟩
  | false =>
    go_enter Tryz.func61, Tryz.ntmps61
    go_wp2
    go_loop [5] (fun n => ∃ k : Nat, k ≤ t.length ∧ n = .int .i64 k ∧ Hid (∀ j (h : j < t.length), j < k → (t[j] == 32) = false)) (fun n => t.length - (intOf n).toNat)
    case atStart => exact ⟨0, Nat.zero_le _, rfl, fun j _ hj => by omega⟩
    case round =>
      obtain ⟨k, hk, rfl, HD⟩ := hrel
      by_cases hlt : k < t.length
      · by_cases hc : t[k]? = some 32
        · have hb := byte_yes hlt hc
          have HW : Hid (Pl.word s t = false) := by
            unfold Hid Pl.word
            have : (t.all fun c => !(c == 32)) = false := by
              rw [Bool.eq_false_iff]
              intro e
              rw [List.all_eq_true] at e
              have h1 := e (t[k]) (List.getElem_mem hlt)
              rw [List.getElem?_eq_getElem hlt] at hc
              rw [Option.some.inj hc] at h1
              simp at h1
            rw [this]
            simp
          clear hc
          go_wp2
          go_ret
          exact ⟨by rw [HW.out]; rfl, rfl⟩
        · have hb := byte_no hlt hc
          have HD2 : Hid (∀ j (h : j < t.length), j < k + 1 → (t[j] == 32) = false) := by
            intro j h hj
            by_cases e : j = k
            · subst e
              rw [List.getElem?_eq_getElem hlt] at hc
              simp only [Option.some.injEq] at hc
              simpa using hc
            · exact HD.out j h (by omega)
          clear hc
          go_wp2
          go_round
          case rel => exact ⟨k + 1, by omega, by go_num, HD2⟩
          case measure => simp [intOf]; omega
      · have HA : Hid (Pl.word s t = (List.range (s.length + 1)).any (Pl.wordAt s t)) := by
          unfold Hid Pl.word
          have : (t.all fun c => !(c == 32)) = true := by
            rw [List.all_eq_true]
            intro c hc
            obtain ⟨j, hj, rfl⟩ := List.getElem_of_mem hc
            rw [HD.out j hj (by omega)]
            rfl
          rw [this, h0]
          rfl
        clear HD h0
        go_wp2
        go_loop [6] (fun n => ∃ k : Nat, k ≤ s.length + 1 ∧ n = .int .i64 k ∧ Hid (∀ j, j < k → Pl.wordAt s t j = false)) (fun n => s.length + 1 - (intOf n).toNat)
        case atStart => exact ⟨0, Nat.zero_le _, rfl, fun j hj => by omega⟩
        case round =>
          obtain ⟨k, hk, rfl, HD⟩ := hrel
          by_cases hlt : k ≤ s.length
          · have hki : (k : Int) ≤ (s.length : Int) := by omega
            have hcs := HST.out k (by omega)
            cases hst : Pl.stands s t k with
            | false =>
              have HN : Hid (∀ j, j < k + 1 → Pl.wordAt s t j = false) := word_no HD.out (by unfold Pl.wordAt; rw [hst]; rfl)
              rw [hst] at hcs
              have HCS : Hid (Calls Tryz.prog 62 _ _ _) := hcs
              clear hcs hst
              go_wp2_with fail
              refine HCS.out.mono ?_
              rintro e w1 ⟨rfl, rfl⟩
              go_wp2
              go_round
              case rel => exact ⟨k + 1, by omega, by go_num, HN⟩
              case measure => simp [intOf]; omega
            | true =>
              have hin : k + t.length ≤ s.length := by
                unfold Pl.stands at hst
                simp only [Bool.and_eq_true, decide_eq_true_eq] at hst
                have := hst.2.1
                omega
              rw [hst] at hcs
              have HCS : Hid (Calls Tryz.prog 62 _ _ _) := hcs
              have HST1 : Hid (Pl.stands s t k = true) := hst
              clear hcs hst
              obtain ⟨r, hr⟩ : ∃ r, r = k + t.length := ⟨_, rfl⟩
              have hrs : r ≤ s.length := by omega
              have HR : Hid (k + t.length = r) := hr.symm
              clear hr hin
              have hL : (k = 0) ∨ (∃ j, k = j + 1 ∧ s[j]? = some 32) ∨ (∃ j, k = j + 1 ∧ ¬ s[j]? = some 32) := by
                rcases k with _ | j
                · exact Or.inl rfl
                · by_cases q : s[j]? = some 32
                  · exact Or.inr (Or.inl ⟨j, rfl, q⟩)
                  · exact Or.inr (Or.inr ⟨j, rfl, q⟩)
              have hRR : (r = s.length) ∨ (r < s.length ∧ s[r]? = some 32) ∨ (r < s.length ∧ ¬ s[r]? = some 32) := by
                by_cases q : r = s.length
                · exact Or.inl q
                · by_cases q2 : s[r]? = some 32
                  · exact Or.inr (Or.inl ⟨by omega, q2⟩)
                  · exact Or.inr (Or.inr ⟨by omega, q2⟩)
              rcases hL with rfl | ⟨j, rfl, hj⟩ | ⟨j, rfl, hj⟩
              · obtain rfl : r = t.length := by have := HR.out; omega
                rcases hRR with hr1 | ⟨hr1, hr2⟩ | ⟨hr1, hr2⟩
                · have hrb : ((t.length : Int) == (s.length : Int)) = true := by simp [hr1]
                  have hri : (t.length : Int) = (s.length : Int) := by omega
                  have HY : Hid (Pl.word s t = true) := by
                    unfold Hid
                    rw [HA.out]
                    refine any_some (k := 0) (by omega) ?_
                    unfold Pl.wordAt
                    rw [HST1.out, HR.out]
                    simp [hr1]
                  clear hr1
                  go_wp2_with fail
                  refine HCS.out.mono ?_
                  rintro e w1 ⟨rfl, rfl⟩
                  go_wp2
                  go_ret
                  exact ⟨by rw [HY.out]; rfl, rfl⟩
                · have hrb : ((t.length : Int) == (s.length : Int)) = false := by simp; omega
                  have hri : ¬ (t.length : Int) = (s.length : Int) := by omega
                  have HY : Hid (Pl.word s t = true) := by
                    unfold Hid
                    rw [HA.out]
                    refine any_some (k := 0) (by omega) ?_
                    unfold Pl.wordAt
                    rw [HST1.out, HR.out]
                    simp [hr2]
                  have hb := byte_yes hr1 hr2
                  clear hr2
                  go_wp2_with fail
                  refine HCS.out.mono ?_
                  rintro e w1 ⟨rfl, rfl⟩
                  go_wp2
                  go_ret
                  exact ⟨by rw [HY.out]; rfl, rfl⟩
                · have hrb : ((t.length : Int) == (s.length : Int)) = false := by simp; omega
                  have hri : ¬ (t.length : Int) = (s.length : Int) := by omega
                  have HN : Hid (∀ i, i < 0 + 1 → Pl.wordAt s t i = false) := word_no HD.out (by
                    unfold Pl.wordAt
                    rw [HR.out]
                    simp [hr2, Nat.ne_of_lt hr1])
                  have hb := byte_no hr1 hr2
                  clear hr2
                  go_wp2_with fail
                  refine HCS.out.mono ?_
                  rintro e w1 ⟨rfl, rfl⟩
                  go_wp2
                  go_round
                  case rel => exact ⟨0 + 1, by omega, by go_num, HN⟩
                  case measure => simp [intOf]
              · have hjl : j < s.length := by omega
                have hbj := byte_yes hjl hj
                have hw3 : (((j + 1 : Nat) : Int) - 1) = (j : Int) := by omega
                have hw4 : ((j + 1 : Nat) : Int) + (t.length : Int) = (r : Int) := by have := HR.out; omega
                have hw5 : (j : Int) + 1 + (t.length : Int) = (r : Int) := by have := HR.out; omega
                have hw6 : (j : Int) + 1 - 1 = (j : Int) := by omega
                rcases hRR with hr1 | ⟨hr1, hr2⟩ | ⟨hr1, hr2⟩
                · have hrb : ((r : Int) == (s.length : Int)) = true := by simp [hr1]
                  have hri : (r : Int) = (s.length : Int) := by omega
                  have HY : Hid (Pl.word s t = true) := by
                    unfold Hid
                    rw [HA.out]
                    refine any_some (k := (j + 1)) (by omega) ?_
                    unfold Pl.wordAt
                    rw [HST1.out, HR.out]
                    simp [hj, hr1]
                  clear hj hr1
                  go_wp2_with fail
                  refine HCS.out.mono ?_
                  rintro e w1 ⟨rfl, rfl⟩
                  go_wp2
                  go_ret
                  exact ⟨by rw [HY.out]; rfl, rfl⟩
                · have hrb : ((r : Int) == (s.length : Int)) = false := by simp; omega
                  have hri : ¬ (r : Int) = (s.length : Int) := by omega
                  have HY : Hid (Pl.word s t = true) := by
                    unfold Hid
                    rw [HA.out]
                    refine any_some (k := (j + 1)) (by omega) ?_
                    unfold Pl.wordAt
                    rw [HST1.out, HR.out]
                    simp [hj, hr2]
                  have hb := byte_yes hr1 hr2
                  clear hj hr2
                  go_wp2_with fail
                  refine HCS.out.mono ?_
                  rintro e w1 ⟨rfl, rfl⟩
                  go_wp2
                  go_ret
                  exact ⟨by rw [HY.out]; rfl, rfl⟩
                · have hrb : ((r : Int) == (s.length : Int)) = false := by simp; omega
                  have hri : ¬ (r : Int) = (s.length : Int) := by omega
                  have HN : Hid (∀ i, i < (j + 1) + 1 → Pl.wordAt s t i = false) := word_no HD.out (by
                    unfold Pl.wordAt
                    rw [HR.out]
                    simp [hr2, Nat.ne_of_lt hr1])
                  have hb := byte_no hr1 hr2
                  clear hj hr2
                  go_wp2_with fail
                  refine HCS.out.mono ?_
                  rintro e w1 ⟨rfl, rfl⟩
                  go_wp2
                  go_round
                  case rel => exact ⟨(j + 1) + 1, by omega, by go_num, HN⟩
                  case measure => simp [intOf]; omega
              · have hjl : j < s.length := by omega
                have hbj := byte_no hjl hj
                have hw3 : (((j + 1 : Nat) : Int) - 1) = (j : Int) := by omega
                have hw6 : (j : Int) + 1 - 1 = (j : Int) := by omega
                have HN : Hid (∀ i, i < (j + 1) + 1 → Pl.wordAt s t i = false) := word_no HD.out (by
                  unfold Pl.wordAt
                  simp [hj])
                clear hj hRR
                go_wp2_with fail
                refine HCS.out.mono ?_
                rintro e w1 ⟨rfl, rfl⟩
                go_wp2
                go_round
                case rel => exact ⟨(j + 1) + 1, by omega, by go_num, HN⟩
                case measure => simp [intOf]; omega
          · have hki : ¬ (k : Int) ≤ (s.length : Int) := by omega
            have HN : Hid (Pl.word s t = false) := by
              unfold Hid
              rw [HA.out]
              exact any_none fun j hj => HD.out j (by omega)
            go_wp2
            go_ret
            exact ⟨by rw [HN.out]; rfl, rfl⟩
end Go.Proofs.YtagobgjlhdbhmaaGreatDoor
/-
  Names and values, as the document's own answer tells them.
-/
namespace Go.Proofs.YtagobgjlhdbhmaaGreatDoor
open Go.RowKit

def within (n lo hi : Int) : Bool := decide (lo ≤ n) && decide (n ≤ hi)
set_option maxHeartbeats 400000 in
theorem within_any (n lo hi : Int) (w : World) : Calls Tryz.prog 33 #[.int .i64 n, .int .i64 lo, .int .i64 hi] w fun e w' => e = .returned (.bool (within n lo hi)) ∧ w' = w := by
  by_cases h : lo ≤ n
  · have HH : Hid (within n lo hi = decide (n ≤ hi)) := by simp [Hid, within, h]
    go_enter Tryz.func33, Tryz.ntmps33
    go_wp2
    go_ret
    exact ⟨by rw [HH.out]; rfl, rfl⟩
  · have HH : Hid (within n lo hi = false) := by simp [Hid, within, h]
    go_enter Tryz.func33, Tryz.ntmps33
    go_wp2
    go_ret
    exact ⟨by rw [HH.out]; rfl, rfl⟩
set_option maxHeartbeats 1000000 in
theorem refValue_any (l : List UInt8) (w : World) :
    Calls Tryz.prog 76 #[.string ⟨l.toArray⟩] w fun e w' => e = .returned (.bool (Pl.isValue l)) ∧ w' = w := by
  by_cases h16 : 16 < l.length
  · have hh : Pl.isValue l = false := by
      have : ¬ l.length ≤ 16 := by omega
      simp [Pl.isValue, this]
    go_enter Tryz.func76, Tryz.ntmps76
    go_wp2
    go_ret
    exact ⟨by first | rfl | (rw [hh]; rfl), rfl⟩
  · have hle : l.length ≤ 16 := by omega
    have HH : Hid (Pl.isValue l = l.all Pl.isVB) := by
      unfold Hid; simp [Pl.isValue, hle]
    go_enter Tryz.func76, Tryz.ntmps76
    go_wp2
    go_loop [3] (fun i => ∃ k : Nat, k ≤ l.length ∧ i = .int .i64 k ∧ Hid ((l.take k).all Pl.isVB = true)) (fun i => l.length - (intOf i).toNat)
    case atStart => exact ⟨0, Nat.zero_le _, rfl, rfl⟩
    case round =>
      obtain ⟨k, hk, rfl, hd⟩ := hrel
      by_cases hlt : k < l.length
      · cases hx : Pl.isVB l[k] with
        | true =>
          obtain ⟨b1, b2, b3⟩ := vb_true _ hx
          have y1 : ¬ (((⟨l.toArray⟩ : ByteArray)[k]'hlt).toNat : Int) < 32 := b1
          have y2 : ¬ 126 < (((⟨l.toArray⟩ : ByteArray)[k]'hlt).toNat : Int) := b2
          have y3 : ((((⟨l.toArray⟩ : ByteArray)[k]'hlt).toNat : Int) == 34) = false := b3
          have HX : Hid _ := hx
          clear hx b1 b2 b3
          go_wp2
          go_round
          case rel => exact ⟨k + 1, hlt, by go_num, all_succ l k hlt hd.out HX.out⟩
          case measure => simp [intOf]; omega
        | false =>
          have HF : Hid (l.all Pl.isVB = false) := all_not l k hlt hx
          have hcs := vb_cases _ hx
          clear hx
          have hcs' : (((⟨l.toArray⟩ : ByteArray)[k]'hlt).toNat : Int) < 32 ∨ (¬ (((⟨l.toArray⟩ : ByteArray)[k]'hlt).toNat : Int) < 32 ∧ 126 < (((⟨l.toArray⟩ : ByteArray)[k]'hlt).toNat : Int)) ∨ (¬ (((⟨l.toArray⟩ : ByteArray)[k]'hlt).toNat : Int) < 32 ∧ ¬ 126 < (((⟨l.toArray⟩ : ByteArray)[k]'hlt).toNat : Int) ∧ ((((⟨l.toArray⟩ : ByteArray)[k]'hlt).toNat : Int) == 34) = true) := hcs
          clear hcs
          rcases hcs' with y1 | ⟨y1, y2⟩ | ⟨y1, y2, y3⟩
          all_goals
            go_wp2
            go_ret
            exact ⟨by rw [HH.out, HF.out]; rfl, rfl⟩
      · have HF : Hid (l.all Pl.isVB = true) := by
          have := hd.out
          rwa [List.take_of_length_le (by omega)] at this
        go_wp2
        go_ret
        exact ⟨by rw [HH.out, HF.out]; rfl, rfl⟩
end Go.Proofs.YtagobgjlhdbhmaaGreatDoor
/-
  Names, as the document's own answer tells them.
-/
namespace Go.Proofs.YtagobgjlhdbhmaaGreatDoor
open Go.RowKit

theorem nb_class (c : UInt8) : ((97 : Int) ≤ (c.toNat : Int) ∧ (c.toNat : Int) ≤ 122 ∧ Pl.isNB c = true) ∨ ((97 : Int) ≤ (c.toNat : Int) ∧ ¬ (c.toNat : Int) ≤ 122 ∧ (48 : Int) ≤ (c.toNat : Int) ∧ ¬ (c.toNat : Int) ≤ 57 ∧ ((c.toNat : Int) == 45) = false ∧ Pl.isNB c = false) ∨
    (¬ (97 : Int) ≤ (c.toNat : Int) ∧ (48 : Int) ≤ (c.toNat : Int) ∧ (c.toNat : Int) ≤ 57 ∧ Pl.isNB c = true) ∨ (¬ (97 : Int) ≤ (c.toNat : Int) ∧ (48 : Int) ≤ (c.toNat : Int) ∧ ¬ (c.toNat : Int) ≤ 57 ∧ ((c.toNat : Int) == 45) = false ∧ Pl.isNB c = false) ∨
    (¬ (97 : Int) ≤ (c.toNat : Int) ∧ ¬ (48 : Int) ≤ (c.toNat : Int) ∧ ((c.toNat : Int) == 45) = true ∧ Pl.isNB c = true) ∨ (¬ (97 : Int) ≤ (c.toNat : Int) ∧ ¬ (48 : Int) ≤ (c.toNat : Int) ∧ ((c.toNat : Int) == 45) = false ∧ Pl.isNB c = false) := by
  unfold Pl.isNB Pl.isLet Pl.isDig
  generalize c.toNat = n
  by_cases h1 : 97 ≤ n
  · by_cases h2 : n ≤ 122
    · left; simp; omega
    · right; left; simp; omega
  · by_cases h3 : 48 ≤ n
    · by_cases h4 : n ≤ 57
      · right; right; left; simp; omega
      · right; right; right; left; simp; omega
    · by_cases h5 : n = 45
      · right; right; right; right; left; simp; omega
      · right; right; right; right; right; simp; omega
set_option maxHeartbeats 1000000 in
theorem refName_any (l : List UInt8) (w : World) :
    Calls Tryz.prog 75 #[.string ⟨l.toArray⟩] w fun e w' => e = .returned (.bool (Pl.isName l)) ∧ w' = w := by
  by_cases hw : within (l.length : Int) 1 12 = true
  · have hl : 1 ≤ l.length ∧ l.length ≤ 12 := by
      unfold within at hw
      simp only [Bool.and_eq_true, decide_eq_true_eq] at hw
      omega
    obtain ⟨l1, l12⟩ := hl
    have hlt0 : 0 < l.length := by omega
    by_cases ha : ((l[0].toNat : Int)) < 97
    · have hh : Pl.isName l = false := by
        obtain ⟨c, t, rfl⟩ : ∃ c t, l = c :: t := by
          cases l with
          | nil => simp at l1
          | cons c t => exact ⟨c, t, rfl⟩
        have : Pl.isLet c = false := by simp at ha; simp [Pl.isLet]; omega
        simp [Pl.isName, Pl.headLet, this]
      have ha' : ((((⟨l.toArray⟩ : ByteArray)[0]'hlt0).toNat : Int)) < 97 := ha
      have HH : Hid _ := hh
      clear hh ha
      go_enter Tryz.func75, Tryz.ntmps75
      go_wp2_with (go_at_call 33; refine (within_any _ _ _ _).mono ?_; rintro e w' ⟨rfl, rfl⟩; rw [hw])
      go_ret
      exact ⟨by rw [HH.out]; rfl, rfl⟩
    · by_cases hz : (122 : Int) < (l[0].toNat : Int)
      · have hh : Pl.isName l = false := by
          obtain ⟨c, t, rfl⟩ : ∃ c t, l = c :: t := by
            cases l with
            | nil => simp at l1
            | cons c t => exact ⟨c, t, rfl⟩
          have : Pl.isLet c = false := by simp at hz; simp [Pl.isLet]; omega
          simp [Pl.isName, Pl.headLet, this]
        have ha' : ¬ ((((⟨l.toArray⟩ : ByteArray)[0]'hlt0).toNat : Int)) < 97 := ha
        have hz' : (122 : Int) < ((((⟨l.toArray⟩ : ByteArray)[0]'hlt0).toNat : Int)) := hz
        have HH : Hid _ := hh
        clear hh ha hz
        go_enter Tryz.func75, Tryz.ntmps75
        go_wp2_with (go_at_call 33; refine (within_any _ _ _ _).mono ?_; rintro e w' ⟨rfl, rfl⟩; rw [hw])
        go_ret
        exact ⟨by rw [HH.out]; rfl, rfl⟩
      · have HH : Hid (Pl.isName l = l.all Pl.isNB) := by
          unfold Hid
          obtain ⟨c, t, rfl⟩ : ∃ c t, l = c :: t := by
            cases l with
            | nil => simp at l1
            | cons c t => exact ⟨c, t, rfl⟩
          have : Pl.isLet c = true := by simp at ha hz; simp [Pl.isLet]; omega
          have h3 : (c :: t).length ≤ 12 := l12
          simp only [Pl.isName, Pl.headLet, this, Bool.and_true]
          have e1 : decide (1 ≤ (c :: t).length) = true := by simp
          have e2 : decide ((c :: t).length ≤ 12) = true := by simpa using h3
          rw [e1, e2]
          rfl
        have ha' : ¬ ((((⟨l.toArray⟩ : ByteArray)[0]'hlt0).toNat : Int)) < 97 := ha
        have hz' : ¬ (122 : Int) < ((((⟨l.toArray⟩ : ByteArray)[0]'hlt0).toNat : Int)) := hz
        clear ha hz
        go_enter Tryz.func75, Tryz.ntmps75
        go_wp2_with (go_at_call 33; refine (within_any _ _ _ _).mono ?_; rintro e w' ⟨rfl, rfl⟩; rw [hw])
        clear ha' hz'
        go_loop [3] (fun i => ∃ k : Nat, k ≤ l.length ∧ i = .int .i64 k ∧ Hid ((l.take k).all Pl.isNB = true)) (fun i => l.length - (intOf i).toNat)
        case atStart => exact ⟨0, Nat.zero_le _, rfl, rfl⟩
        case round =>
          obtain ⟨k, hk, rfl, hd⟩ := hrel
          by_cases hlt : k < l.length
          · rcases nb_class l[k] with ⟨y1, y2, hx⟩ | ⟨y1, y2, y3, y4, y5, hx⟩ | ⟨y1, y2, y3, hx⟩ | ⟨y1, y2, y3, y4, hx⟩ | ⟨y1, y2, y3, hx⟩ | ⟨y1, y2, y3, hx⟩
            · have HX : Hid _ := hx
              clear hx
              change (97 : Int) ≤ (((⟨l.toArray⟩ : ByteArray)[k]'hlt).toNat : Int) at y1
              change (((⟨l.toArray⟩ : ByteArray)[k]'hlt).toNat : Int) ≤ 122 at y2
              go_wp2
              go_round
              case rel => exact ⟨k + 1, hlt, by go_num, all_succ l k hlt hd.out HX.out⟩
              case measure => simp [intOf]; omega
            · have HF : Hid (l.all Pl.isNB = false) := all_not l k hlt hx
              clear hx
              change (97 : Int) ≤ (((⟨l.toArray⟩ : ByteArray)[k]'hlt).toNat : Int) at y1
              change ¬ (((⟨l.toArray⟩ : ByteArray)[k]'hlt).toNat : Int) ≤ 122 at y2
              change (48 : Int) ≤ (((⟨l.toArray⟩ : ByteArray)[k]'hlt).toNat : Int) at y3
              change ¬ (((⟨l.toArray⟩ : ByteArray)[k]'hlt).toNat : Int) ≤ 57 at y4
              change ((((⟨l.toArray⟩ : ByteArray)[k]'hlt).toNat : Int) == 45) = false at y5
              go_wp2
              go_ret
              exact ⟨by rw [HH.out, HF.out]; rfl, rfl⟩
            · have HX : Hid _ := hx
              clear hx
              change ¬ (97 : Int) ≤ (((⟨l.toArray⟩ : ByteArray)[k]'hlt).toNat : Int) at y1
              change (48 : Int) ≤ (((⟨l.toArray⟩ : ByteArray)[k]'hlt).toNat : Int) at y2
              change (((⟨l.toArray⟩ : ByteArray)[k]'hlt).toNat : Int) ≤ 57 at y3
              go_wp2
              go_round
              case rel => exact ⟨k + 1, hlt, by go_num, all_succ l k hlt hd.out HX.out⟩
              case measure => simp [intOf]; omega
            · have HF : Hid (l.all Pl.isNB = false) := all_not l k hlt hx
              clear hx
              change ¬ (97 : Int) ≤ (((⟨l.toArray⟩ : ByteArray)[k]'hlt).toNat : Int) at y1
              change (48 : Int) ≤ (((⟨l.toArray⟩ : ByteArray)[k]'hlt).toNat : Int) at y2
              change ¬ (((⟨l.toArray⟩ : ByteArray)[k]'hlt).toNat : Int) ≤ 57 at y3
              change ((((⟨l.toArray⟩ : ByteArray)[k]'hlt).toNat : Int) == 45) = false at y4
              go_wp2
              go_ret
              exact ⟨by rw [HH.out, HF.out]; rfl, rfl⟩
            · have HX : Hid _ := hx
              clear hx
              change ¬ (97 : Int) ≤ (((⟨l.toArray⟩ : ByteArray)[k]'hlt).toNat : Int) at y1
              change ¬ (48 : Int) ≤ (((⟨l.toArray⟩ : ByteArray)[k]'hlt).toNat : Int) at y2
              change ((((⟨l.toArray⟩ : ByteArray)[k]'hlt).toNat : Int) == 45) = true at y3
              go_wp2
              go_round
              case rel => exact ⟨k + 1, hlt, by go_num, all_succ l k hlt hd.out HX.out⟩
              case measure => simp [intOf]; omega
            · have HF : Hid (l.all Pl.isNB = false) := all_not l k hlt hx
              clear hx
              change ¬ (97 : Int) ≤ (((⟨l.toArray⟩ : ByteArray)[k]'hlt).toNat : Int) at y1
              change ¬ (48 : Int) ≤ (((⟨l.toArray⟩ : ByteArray)[k]'hlt).toNat : Int) at y2
              change ((((⟨l.toArray⟩ : ByteArray)[k]'hlt).toNat : Int) == 45) = false at y3
              go_wp2
              go_ret
              exact ⟨by rw [HH.out, HF.out]; rfl, rfl⟩
          · have HF : Hid (l.all Pl.isNB = true) := by
              have := hd.out
              rwa [List.take_of_length_le (by omega)] at this
            go_wp2
            go_ret
            exact ⟨by rw [HH.out, HF.out]; rfl, rfl⟩
  · have hw' : within (l.length : Int) 1 12 = false := by simpa using hw
    have HH : Hid (Pl.isName l = false) := by
      unfold Hid
      unfold within at hw'
      simp only [Bool.and_eq_false_iff, decide_eq_false_iff_not] at hw'
      unfold Pl.isName
      rcases hw' with h | h
      · have : decide (1 ≤ l.length) = false := decide_eq_false (by omega)
        rw [this]; rfl
      · have : decide (l.length ≤ 12) = false := decide_eq_false (by omega)
        rw [this]; simp
    clear hw
    go_enter Tryz.func75, Tryz.ntmps75
    go_wp2_with (go_at_call 33; refine (within_any _ _ _ _).mono ?_; rintro e w' ⟨rfl, rfl⟩; rw [hw'])
    go_ret
    exact ⟨by rw [HH.out]; rfl, rfl⟩
end Go.Proofs.YtagobgjlhdbhmaaGreatDoor
