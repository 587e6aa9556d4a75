/-
  Names and values, as the document's own answer tells them.
-/
import Derived.Test.YtephhllfodlfbaaDoorMem
namespace Go.Proofs.YtephhllfodlfbaaDoor
open Go.RowKit

def within (n lo hi : Int) : Bool := decide (lo ≤ n) && decide (n ≤ hi)
set_option maxHeartbeats 400000 in
theorem within_any (n lo hi : Int) (w : World) : Calls Tryd.prog 34 #[.int .i64 n, .int .i64 lo, .int .i64 hi] w fun e w' => e = .returned (.bool (within n lo hi)) ∧ w' = w := by
  by_cases h : lo ≤ n
  · have HH : Hid (within n lo hi = decide (n ≤ hi)) := by simp [Hid, within, h]
    go_enter Tryd.func34, Tryd.ntmps34
    go_wp2
    go_ret
    exact ⟨by rw [HH.out]; rfl, rfl⟩
  · have HH : Hid (within n lo hi = false) := by simp [Hid, within, h]
    go_enter Tryd.func34, Tryd.ntmps34
    go_wp2
    go_ret
    exact ⟨by rw [HH.out]; rfl, rfl⟩
set_option maxHeartbeats 1000000 in
theorem refValue_any (l : List UInt8) (w : World) :
    Calls Tryd.prog 37 #[.string ⟨l.toArray⟩] w fun e w' => e = .returned (.bool (Pl.isValue l)) ∧ w' = w := by
  by_cases h16 : 16 < l.length
  · have hh : Pl.isValue l = false := by
      have : ¬ l.length ≤ 16 := by omega
      simp [Pl.isValue, this]
    go_enter Tryd.func37, Tryd.ntmps37
    go_wp2
    go_ret
    exact ⟨by first | rfl | (rw [hh]; rfl), rfl⟩
  · have hle : l.length ≤ 16 := by omega
    have HH : Hid (Pl.isValue l = l.all Pl.isVB) := by
      unfold Hid; simp [Pl.isValue, hle]
    go_enter Tryd.func37, Tryd.ntmps37
    go_wp2
    go_loop [3] (fun i => ∃ k : Nat, k ≤ l.length ∧ i = .int .i64 k ∧ Hid ((l.take k).all Pl.isVB = true)) (fun i => l.length - (intOf i).toNat)
    case atStart => exact ⟨0, Nat.zero_le _, rfl, rfl⟩
    case round =>
      obtain ⟨k, hk, rfl, hd⟩ := hrel
      by_cases hlt : k < l.length
      · cases hx : Pl.isVB l[k] with
        | true =>
          obtain ⟨b1, b2, b3⟩ := vb_true _ hx
          have y1 : ¬ (((⟨l.toArray⟩ : ByteArray)[k]'hlt).toNat : Int) < 32 := b1
          have y2 : ¬ 126 < (((⟨l.toArray⟩ : ByteArray)[k]'hlt).toNat : Int) := b2
          have y3 : ((((⟨l.toArray⟩ : ByteArray)[k]'hlt).toNat : Int) == 34) = false := b3
          have HX : Hid _ := hx
          clear hx b1 b2 b3
          go_wp2
          go_round
          case rel => exact ⟨k + 1, hlt, by go_num, all_succ l k hlt hd.out HX.out⟩
          case measure => simp [intOf]; omega
        | false =>
          have HF : Hid (l.all Pl.isVB = false) := all_not l k hlt hx
          have hcs := vb_cases _ hx
          clear hx
          have hcs' : (((⟨l.toArray⟩ : ByteArray)[k]'hlt).toNat : Int) < 32 ∨ (¬ (((⟨l.toArray⟩ : ByteArray)[k]'hlt).toNat : Int) < 32 ∧ 126 < (((⟨l.toArray⟩ : ByteArray)[k]'hlt).toNat : Int)) ∨ (¬ (((⟨l.toArray⟩ : ByteArray)[k]'hlt).toNat : Int) < 32 ∧ ¬ 126 < (((⟨l.toArray⟩ : ByteArray)[k]'hlt).toNat : Int) ∧ ((((⟨l.toArray⟩ : ByteArray)[k]'hlt).toNat : Int) == 34) = true) := hcs
          clear hcs
          rcases hcs' with y1 | ⟨y1, y2⟩ | ⟨y1, y2, y3⟩
          all_goals
            go_wp2
            go_ret
            exact ⟨by rw [HH.out, HF.out]; rfl, rfl⟩
      · have HF : Hid (l.all Pl.isVB = true) := by
          have := hd.out
          rwa [List.take_of_length_le (by omega)] at this
        go_wp2
        go_ret
        exact ⟨by rw [HH.out, HF.out]; rfl, rfl⟩
end Go.Proofs.YtephhllfodlfbaaDoor
/-
  Names, as the document's own answer tells them.
-/
namespace Go.Proofs.YtephhllfodlfbaaDoor
open Go.RowKit

theorem nb_class (c : UInt8) : ((97 : Int) ≤ (c.toNat : Int) ∧ (c.toNat : Int) ≤ 122 ∧ Pl.isNB c = true) ∨ ((97 : Int) ≤ (c.toNat : Int) ∧ ¬ (c.toNat : Int) ≤ 122 ∧ (48 : Int) ≤ (c.toNat : Int) ∧ ¬ (c.toNat : Int) ≤ 57 ∧ ((c.toNat : Int) == 45) = false ∧ Pl.isNB c = false) ∨
    (¬ (97 : Int) ≤ (c.toNat : Int) ∧ (48 : Int) ≤ (c.toNat : Int) ∧ (c.toNat : Int) ≤ 57 ∧ Pl.isNB c = true) ∨ (¬ (97 : Int) ≤ (c.toNat : Int) ∧ (48 : Int) ≤ (c.toNat : Int) ∧ ¬ (c.toNat : Int) ≤ 57 ∧ ((c.toNat : Int) == 45) = false ∧ Pl.isNB c = false) ∨
    (¬ (97 : Int) ≤ (c.toNat : Int) ∧ ¬ (48 : Int) ≤ (c.toNat : Int) ∧ ((c.toNat : Int) == 45) = true ∧ Pl.isNB c = true) ∨ (¬ (97 : Int) ≤ (c.toNat : Int) ∧ ¬ (48 : Int) ≤ (c.toNat : Int) ∧ ((c.toNat : Int) == 45) = false ∧ Pl.isNB c = false) := by
  unfold Pl.isNB Pl.isLet Pl.isDig
  generalize c.toNat = n
  by_cases h1 : 97 ≤ n
  · by_cases h2 : n ≤ 122
    · left; simp; omega
    · right; left; simp; omega
  · by_cases h3 : 48 ≤ n
    · by_cases h4 : n ≤ 57
      · right; right; left; simp; omega
      · right; right; right; left; simp; omega
    · by_cases h5 : n = 45
      · right; right; right; right; left; simp; omega
      · right; right; right; right; right; simp; omega
set_option maxHeartbeats 1000000 in
theorem refName_any (l : List UInt8) (w : World) :
    Calls Tryd.prog 36 #[.string ⟨l.toArray⟩] w fun e w' => e = .returned (.bool (Pl.isName l)) ∧ w' = w := by
  by_cases hw : within (l.length : Int) 1 12 = true
  · have hl : 1 ≤ l.length ∧ l.length ≤ 12 := by
      unfold within at hw
      simp only [Bool.and_eq_true, decide_eq_true_eq] at hw
      omega
    obtain ⟨l1, l12⟩ := hl
    have hlt0 : 0 < l.length := by omega
    by_cases ha : ((l[0].toNat : Int)) < 97
    · have hh : Pl.isName l = false := by
        obtain ⟨c, t, rfl⟩ : ∃ c t, l = c :: t := by
          cases l with
          | nil => simp at l1
          | cons c t => exact ⟨c, t, rfl⟩
        have : Pl.isLet c = false := by simp at ha; simp [Pl.isLet]; omega
        simp [Pl.isName, Pl.headLet, this]
      have ha' : ((((⟨l.toArray⟩ : ByteArray)[0]'hlt0).toNat : Int)) < 97 := ha
      have HH : Hid _ := hh
      clear hh ha
      go_enter Tryd.func36, Tryd.ntmps36
      go_wp2_with (go_at_call 34; refine (within_any _ _ _ _).mono ?_; rintro e w' ⟨rfl, rfl⟩; rw [hw])
      go_ret
      exact ⟨by rw [HH.out]; rfl, rfl⟩
    · by_cases hz : (122 : Int) < (l[0].toNat : Int)
      · have hh : Pl.isName l = false := by
          obtain ⟨c, t, rfl⟩ : ∃ c t, l = c :: t := by
            cases l with
            | nil => simp at l1
            | cons c t => exact ⟨c, t, rfl⟩
          have : Pl.isLet c = false := by simp at hz; simp [Pl.isLet]; omega
          simp [Pl.isName, Pl.headLet, this]
        have ha' : ¬ ((((⟨l.toArray⟩ : ByteArray)[0]'hlt0).toNat : Int)) < 97 := ha
        have hz' : (122 : Int) < ((((⟨l.toArray⟩ : ByteArray)[0]'hlt0).toNat : Int)) := hz
        have HH : Hid _ := hh
        clear hh ha hz
        go_enter Tryd.func36, Tryd.ntmps36
        go_wp2_with (go_at_call 34; refine (within_any _ _ _ _).mono ?_; rintro e w' ⟨rfl, rfl⟩; rw [hw])
        go_ret
        exact ⟨by rw [HH.out]; rfl, rfl⟩
      · have HH : Hid (Pl.isName l = l.all Pl.isNB) := by
          unfold Hid
          obtain ⟨c, t, rfl⟩ : ∃ c t, l = c :: t := by
            cases l with
            | nil => simp at l1
            | cons c t => exact ⟨c, t, rfl⟩
          have : Pl.isLet c = true := by simp at ha hz; simp [Pl.isLet]; omega
          have h3 : (c :: t).length ≤ 12 := l12
          simp only [Pl.isName, Pl.headLet, this, Bool.and_true]
          have e1 : decide (1 ≤ (c :: t).length) = true := by simp
          have e2 : decide ((c :: t).length ≤ 12) = true := by simpa using h3
          rw [e1, e2]
          rfl
        have ha' : ¬ ((((⟨l.toArray⟩ : ByteArray)[0]'hlt0).toNat : Int)) < 97 := ha
        have hz' : ¬ (122 : Int) < ((((⟨l.toArray⟩ : ByteArray)[0]'hlt0).toNat : Int)) := hz
        clear ha hz
        go_enter Tryd.func36, Tryd.ntmps36
        go_wp2_with (go_at_call 34; refine (within_any _ _ _ _).mono ?_; rintro e w' ⟨rfl, rfl⟩; rw [hw])
        clear ha' hz'
        go_loop [3] (fun i => ∃ k : Nat, k ≤ l.length ∧ i = .int .i64 k ∧ Hid ((l.take k).all Pl.isNB = true)) (fun i => l.length - (intOf i).toNat)
        case atStart => exact ⟨0, Nat.zero_le _, rfl, rfl⟩
        case round =>
          obtain ⟨k, hk, rfl, hd⟩ := hrel
          by_cases hlt : k < l.length
          · rcases nb_class l[k] with ⟨y1, y2, hx⟩ | ⟨y1, y2, y3, y4, y5, hx⟩ | ⟨y1, y2, y3, hx⟩ | ⟨y1, y2, y3, y4, hx⟩ | ⟨y1, y2, y3, hx⟩ | ⟨y1, y2, y3, hx⟩
            · have HX : Hid _ := hx
              clear hx
              change (97 : Int) ≤ (((⟨l.toArray⟩ : ByteArray)[k]'hlt).toNat : Int) at y1
              change (((⟨l.toArray⟩ : ByteArray)[k]'hlt).toNat : Int) ≤ 122 at y2
              go_wp2
              go_round
              case rel => exact ⟨k + 1, hlt, by go_num, all_succ l k hlt hd.out HX.out⟩
              case measure => simp [intOf]; omega
            · have HF : Hid (l.all Pl.isNB = false) := all_not l k hlt hx
              clear hx
              change (97 : Int) ≤ (((⟨l.toArray⟩ : ByteArray)[k]'hlt).toNat : Int) at y1
              change ¬ (((⟨l.toArray⟩ : ByteArray)[k]'hlt).toNat : Int) ≤ 122 at y2
              change (48 : Int) ≤ (((⟨l.toArray⟩ : ByteArray)[k]'hlt).toNat : Int) at y3
              change ¬ (((⟨l.toArray⟩ : ByteArray)[k]'hlt).toNat : Int) ≤ 57 at y4
              change ((((⟨l.toArray⟩ : ByteArray)[k]'hlt).toNat : Int) == 45) = false at y5
              go_wp2
              go_ret
              exact ⟨by rw [HH.out, HF.out]; rfl, rfl⟩
            · have HX : Hid _ := hx
              clear hx
              change ¬ (97 : Int) ≤ (((⟨l.toArray⟩ : ByteArray)[k]'hlt).toNat : Int) at y1
              change (48 : Int) ≤ (((⟨l.toArray⟩ : ByteArray)[k]'hlt).toNat : Int) at y2
              change (((⟨l.toArray⟩ : ByteArray)[k]'hlt).toNat : Int) ≤ 57 at y3
              go_wp2
              go_round
              case rel => exact ⟨k + 1, hlt, by go_num, all_succ l k hlt hd.out HX.out⟩
              case measure => simp [intOf]; omega
            · have HF : Hid (l.all Pl.isNB = false) := all_not l k hlt hx
              clear hx
              change ¬ (97 : Int) ≤ (((⟨l.toArray⟩ : ByteArray)[k]'hlt).toNat : Int) at y1
              change (48 : Int) ≤ (((⟨l.toArray⟩ : ByteArray)[k]'hlt).toNat : Int) at y2
              change ¬ (((⟨l.toArray⟩ : ByteArray)[k]'hlt).toNat : Int) ≤ 57 at y3
              change ((((⟨l.toArray⟩ : ByteArray)[k]'hlt).toNat : Int) == 45) = false at y4
              go_wp2
              go_ret
              exact ⟨by rw [HH.out, HF.out]; rfl, rfl⟩
            · have HX : Hid _ := hx
              clear hx
              change ¬ (97 : Int) ≤ (((⟨l.toArray⟩ : ByteArray)[k]'hlt).toNat : Int) at y1
              change ¬ (48 : Int) ≤ (((⟨l.toArray⟩ : ByteArray)[k]'hlt).toNat : Int) at y2
              change ((((⟨l.toArray⟩ : ByteArray)[k]'hlt).toNat : Int) == 45) = true at y3
              go_wp2
              go_round
              case rel => exact ⟨k + 1, hlt, by go_num, all_succ l k hlt hd.out HX.out⟩
              case measure => simp [intOf]; omega
            · have HF : Hid (l.all Pl.isNB = false) := all_not l k hlt hx
              clear hx
              change ¬ (97 : Int) ≤ (((⟨l.toArray⟩ : ByteArray)[k]'hlt).toNat : Int) at y1
              change ¬ (48 : Int) ≤ (((⟨l.toArray⟩ : ByteArray)[k]'hlt).toNat : Int) at y2
              change ((((⟨l.toArray⟩ : ByteArray)[k]'hlt).toNat : Int) == 45) = false at y3
              go_wp2
              go_ret
              exact ⟨by rw [HH.out, HF.out]; rfl, rfl⟩
          · have HF : Hid (l.all Pl.isNB = true) := by
              have := hd.out
              rwa [List.take_of_length_le (by omega)] at this
            go_wp2
            go_ret
            exact ⟨by rw [HH.out, HF.out]; rfl, rfl⟩
  · have hw' : within (l.length : Int) 1 12 = false := by simpa using hw
    have HH : Hid (Pl.isName l = false) := by
      unfold Hid
      unfold within at hw'
      simp only [Bool.and_eq_false_iff, decide_eq_false_iff_not] at hw'
      unfold Pl.isName
      rcases hw' with h | h
      · have : decide (1 ≤ l.length) = false := decide_eq_false (by omega)
        rw [this]; rfl
      · have : decide (l.length ≤ 12) = false := decide_eq_false (by omega)
        rw [this]; simp
    clear hw
    go_enter Tryd.func36, Tryd.ntmps36
    go_wp2_with (go_at_call 34; refine (within_any _ _ _ _).mono ?_; rintro e w' ⟨rfl, rfl⟩; rw [hw'])
    go_ret
    exact ⟨by rw [HH.out]; rfl, rfl⟩
end Go.Proofs.YtephhllfodlfbaaDoor
