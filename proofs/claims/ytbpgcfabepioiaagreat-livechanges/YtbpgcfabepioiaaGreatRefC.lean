/-
  Names and values, as the document's own answer tells them.
-/
import Derived.Test.YtbpgcfabepioiaaGreatMem
import Derived.Test.YtbpgcfabepioiaaGreatIsR
import Derived.BigQuiet
import Derived.Deep.QuietTactic
import Derived.Test.YtbpgcfabepioiaaGreatDocA
namespace Go.Proofs.YtbpgcfabepioiaaGreat
open Go.RowKit

def within (n lo hi : Int) : Bool := decide (lo ≤ n) && decide (n ≤ hi)
set_option maxHeartbeats 400000 in
theorem within_any (n lo hi : Int) (w : World) : Calls Tryz.prog 27 #[.int .i64 n, .int .i64 lo, .int .i64 hi] w fun e w' => e = .returned (.bool (within n lo hi)) ∧ w' = w := by
  by_cases h : lo ≤ n
  · have HH : Hid (within n lo hi = decide (n ≤ hi)) := by simp [Hid, within, h]
    go_enter Tryz.func27, Tryz.ntmps27
    go_wp2
    go_ret
    exact ⟨by rw [HH.out]; rfl, rfl⟩
  · have HH : Hid (within n lo hi = false) := by simp [Hid, within, h]
    go_enter Tryz.func27, Tryz.ntmps27
    go_wp2
    go_ret
    exact ⟨by rw [HH.out]; rfl, rfl⟩
set_option maxHeartbeats 1000000 in
theorem refValue_any (l : List UInt8) (w : World) :
    Calls Tryz.prog 58 #[.string ⟨l.toArray⟩] w fun e w' => e = .returned (.bool (Pl.isValue l)) ∧ w' = w := by
  by_cases h16 : 16 < l.length
  · have hh : Pl.isValue l = false := by
      have : ¬ l.length ≤ 16 := by omega
      simp [Pl.isValue, this]
    go_enter Tryz.func58, Tryz.ntmps58
    go_wp2
    go_ret
    exact ⟨by first | rfl | (rw [hh]; rfl), rfl⟩
  · have hle : l.length ≤ 16 := by omega
    have HH : Hid (Pl.isValue l = l.all Pl.isVB) := by
      unfold Hid; simp [Pl.isValue, hle]
    go_enter Tryz.func58, Tryz.ntmps58
    go_wp2
    go_loop [3] (fun i => ∃ k : Nat, k ≤ l.length ∧ i = .int .i64 k ∧ Hid ((l.take k).all Pl.isVB = true)) (fun i => l.length - (intOf i).toNat)
    case atStart => exact ⟨0, Nat.zero_le _, rfl, rfl⟩
    case round =>
      obtain ⟨k, hk, rfl, hd⟩ := hrel
      by_cases hlt : k < l.length
      · cases hx : Pl.isVB l[k] with
        | true =>
          obtain ⟨b1, b2, b3⟩ := vb_true _ hx
          have y1 : ¬ (((⟨l.toArray⟩ : ByteArray)[k]'hlt).toNat : Int) < 32 := b1
          have y2 : ¬ 126 < (((⟨l.toArray⟩ : ByteArray)[k]'hlt).toNat : Int) := b2
          have y3 : ((((⟨l.toArray⟩ : ByteArray)[k]'hlt).toNat : Int) == 34) = false := b3
          have HX : Hid _ := hx
          clear hx b1 b2 b3
          go_wp2
          go_round
          case rel => exact ⟨k + 1, hlt, by go_num, all_succ l k hlt hd.out HX.out⟩
          case measure => simp [intOf]; omega
        | false =>
          have HF : Hid (l.all Pl.isVB = false) := all_not l k hlt hx
          have hcs := vb_cases _ hx
          clear hx
          have hcs' : (((⟨l.toArray⟩ : ByteArray)[k]'hlt).toNat : Int) < 32 ∨ (¬ (((⟨l.toArray⟩ : ByteArray)[k]'hlt).toNat : Int) < 32 ∧ 126 < (((⟨l.toArray⟩ : ByteArray)[k]'hlt).toNat : Int)) ∨ (¬ (((⟨l.toArray⟩ : ByteArray)[k]'hlt).toNat : Int) < 32 ∧ ¬ 126 < (((⟨l.toArray⟩ : ByteArray)[k]'hlt).toNat : Int) ∧ ((((⟨l.toArray⟩ : ByteArray)[k]'hlt).toNat : Int) == 34) = true) := hcs
          clear hcs
          rcases hcs' with y1 | ⟨y1, y2⟩ | ⟨y1, y2, y3⟩
          all_goals
            go_wp2
            go_ret
            exact ⟨by rw [HH.out, HF.out]; rfl, rfl⟩
      · have HF : Hid (l.all Pl.isVB = true) := by
          have := hd.out
          rwa [List.take_of_length_le (by omega)] at this
        go_wp2
        go_ret
        exact ⟨by rw [HH.out, HF.out]; rfl, rfl⟩
end Go.Proofs.YtbpgcfabepioiaaGreat
/-
  Names, as the document's own answer tells them.
-/
namespace Go.Proofs.YtbpgcfabepioiaaGreat
open Go.RowKit

theorem nb_class (c : UInt8) : ((97 : Int) ≤ (c.toNat : Int) ∧ (c.toNat : Int) ≤ 122 ∧ Pl.isNB c = true) ∨ ((97 : Int) ≤ (c.toNat : Int) ∧ ¬ (c.toNat : Int) ≤ 122 ∧ (48 : Int) ≤ (c.toNat : Int) ∧ ¬ (c.toNat : Int) ≤ 57 ∧ ((c.toNat : Int) == 45) = false ∧ Pl.isNB c = false) ∨
    (¬ (97 : Int) ≤ (c.toNat : Int) ∧ (48 : Int) ≤ (c.toNat : Int) ∧ (c.toNat : Int) ≤ 57 ∧ Pl.isNB c = true) ∨ (¬ (97 : Int) ≤ (c.toNat : Int) ∧ (48 : Int) ≤ (c.toNat : Int) ∧ ¬ (c.toNat : Int) ≤ 57 ∧ ((c.toNat : Int) == 45) = false ∧ Pl.isNB c = false) ∨
    (¬ (97 : Int) ≤ (c.toNat : Int) ∧ ¬ (48 : Int) ≤ (c.toNat : Int) ∧ ((c.toNat : Int) == 45) = true ∧ Pl.isNB c = true) ∨ (¬ (97 : Int) ≤ (c.toNat : Int) ∧ ¬ (48 : Int) ≤ (c.toNat : Int) ∧ ((c.toNat : Int) == 45) = false ∧ Pl.isNB c = false) := by
  unfold Pl.isNB Pl.isLet Pl.isDig
  generalize c.toNat = n
  by_cases h1 : 97 ≤ n
  · by_cases h2 : n ≤ 122
    · left; simp; omega
    · right; left; simp; omega
  · by_cases h3 : 48 ≤ n
    · by_cases h4 : n ≤ 57
      · right; right; left; simp; omega
      · right; right; right; left; simp; omega
    · by_cases h5 : n = 45
      · right; right; right; right; left; simp; omega
      · right; right; right; right; right; simp; omega
set_option maxHeartbeats 1000000 in
theorem refName_any (l : List UInt8) (w : World) :
    Calls Tryz.prog 57 #[.string ⟨l.toArray⟩] w fun e w' => e = .returned (.bool (Pl.isName l)) ∧ w' = w := by
  by_cases hw : within (l.length : Int) 1 12 = true
  · have hl : 1 ≤ l.length ∧ l.length ≤ 12 := by
      unfold within at hw
      simp only [Bool.and_eq_true, decide_eq_true_eq] at hw
      omega
    obtain ⟨l1, l12⟩ := hl
    have hlt0 : 0 < l.length := by omega
    by_cases ha : ((l[0].toNat : Int)) < 97
    · have hh : Pl.isName l = false := by
        obtain ⟨c, t, rfl⟩ : ∃ c t, l = c :: t := by
          cases l with
          | nil => simp at l1
          | cons c t => exact ⟨c, t, rfl⟩
        have : Pl.isLet c = false := by simp at ha; simp [Pl.isLet]; omega
        simp [Pl.isName, Pl.headLet, this]
      have ha' : ((((⟨l.toArray⟩ : ByteArray)[0]'hlt0).toNat : Int)) < 97 := ha
      have HH : Hid _ := hh
      clear hh ha
      go_enter Tryz.func57, Tryz.ntmps57
      go_wp2_with (go_at_call 27; refine (within_any _ _ _ _).mono ?_; rintro e w' ⟨rfl, rfl⟩; rw [hw])
      go_ret
      exact ⟨by rw [HH.out]; rfl, rfl⟩
    · by_cases hz : (122 : Int) < (l[0].toNat : Int)
      · have hh : Pl.isName l = false := by
          obtain ⟨c, t, rfl⟩ : ∃ c t, l = c :: t := by
            cases l with
            | nil => simp at l1
            | cons c t => exact ⟨c, t, rfl⟩
          have : Pl.isLet c = false := by simp at hz; simp [Pl.isLet]; omega
          simp [Pl.isName, Pl.headLet, this]
        have ha' : ¬ ((((⟨l.toArray⟩ : ByteArray)[0]'hlt0).toNat : Int)) < 97 := ha
        have hz' : (122 : Int) < ((((⟨l.toArray⟩ : ByteArray)[0]'hlt0).toNat : Int)) := hz
        have HH : Hid _ := hh
        clear hh ha hz
        go_enter Tryz.func57, Tryz.ntmps57
        go_wp2_with (go_at_call 27; refine (within_any _ _ _ _).mono ?_; rintro e w' ⟨rfl, rfl⟩; rw [hw])
        go_ret
        exact ⟨by rw [HH.out]; rfl, rfl⟩
      · have HH : Hid (Pl.isName l = l.all Pl.isNB) := by
          unfold Hid
          obtain ⟨c, t, rfl⟩ : ∃ c t, l = c :: t := by
            cases l with
            | nil => simp at l1
            | cons c t => exact ⟨c, t, rfl⟩
          have : Pl.isLet c = true := by simp at ha hz; simp [Pl.isLet]; omega
          have h3 : (c :: t).length ≤ 12 := l12
          simp only [Pl.isName, Pl.headLet, this, Bool.and_true]
          have e1 : decide (1 ≤ (c :: t).length) = true := by simp
          have e2 : decide ((c :: t).length ≤ 12) = true := by simpa using h3
          rw [e1, e2]
          rfl
        have ha' : ¬ ((((⟨l.toArray⟩ : ByteArray)[0]'hlt0).toNat : Int)) < 97 := ha
        have hz' : ¬ (122 : Int) < ((((⟨l.toArray⟩ : ByteArray)[0]'hlt0).toNat : Int)) := hz
        clear ha hz
        go_enter Tryz.func57, Tryz.ntmps57
        go_wp2_with (go_at_call 27; refine (within_any _ _ _ _).mono ?_; rintro e w' ⟨rfl, rfl⟩; rw [hw])
        clear ha' hz'
        go_loop [3] (fun i => ∃ k : Nat, k ≤ l.length ∧ i = .int .i64 k ∧ Hid ((l.take k).all Pl.isNB = true)) (fun i => l.length - (intOf i).toNat)
        case atStart => exact ⟨0, Nat.zero_le _, rfl, rfl⟩
        case round =>
          obtain ⟨k, hk, rfl, hd⟩ := hrel
          by_cases hlt : k < l.length
          · rcases nb_class l[k] with ⟨y1, y2, hx⟩ | ⟨y1, y2, y3, y4, y5, hx⟩ | ⟨y1, y2, y3, hx⟩ | ⟨y1, y2, y3, y4, hx⟩ | ⟨y1, y2, y3, hx⟩ | ⟨y1, y2, y3, hx⟩
            · have HX : Hid _ := hx
              clear hx
              change (97 : Int) ≤ (((⟨l.toArray⟩ : ByteArray)[k]'hlt).toNat : Int) at y1
              change (((⟨l.toArray⟩ : ByteArray)[k]'hlt).toNat : Int) ≤ 122 at y2
              go_wp2
              go_round
              case rel => exact ⟨k + 1, hlt, by go_num, all_succ l k hlt hd.out HX.out⟩
              case measure => simp [intOf]; omega
            · have HF : Hid (l.all Pl.isNB = false) := all_not l k hlt hx
              clear hx
              change (97 : Int) ≤ (((⟨l.toArray⟩ : ByteArray)[k]'hlt).toNat : Int) at y1
              change ¬ (((⟨l.toArray⟩ : ByteArray)[k]'hlt).toNat : Int) ≤ 122 at y2
              change (48 : Int) ≤ (((⟨l.toArray⟩ : ByteArray)[k]'hlt).toNat : Int) at y3
              change ¬ (((⟨l.toArray⟩ : ByteArray)[k]'hlt).toNat : Int) ≤ 57 at y4
              change ((((⟨l.toArray⟩ : ByteArray)[k]'hlt).toNat : Int) == 45) = false at y5
              go_wp2
              go_ret
              exact ⟨by rw [HH.out, HF.out]; rfl, rfl⟩
            · have HX : Hid _ := hx
              clear hx
              change ¬ (97 : Int) ≤ (((⟨l.toArray⟩ : ByteArray)[k]'hlt).toNat : Int) at y1
              change (48 : Int) ≤ (((⟨l.toArray⟩ : ByteArray)[k]'hlt).toNat : Int) at y2
              change (((⟨l.toArray⟩ : ByteArray)[k]'hlt).toNat : Int) ≤ 57 at y3
              go_wp2
              go_round
              case rel => exact ⟨k + 1, hlt, by go_num, all_succ l k hlt hd.out HX.out⟩
              case measure => simp [intOf]; omega
            · have HF : Hid (l.all Pl.isNB = false) := all_not l k hlt hx
              clear hx
              change ¬ (97 : Int) ≤ (((⟨l.toArray⟩ : ByteArray)[k]'hlt).toNat : Int) at y1
              change (48 : Int) ≤ (((⟨l.toArray⟩ : ByteArray)[k]'hlt).toNat : Int) at y2
              change ¬ (((⟨l.toArray⟩ : ByteArray)[k]'hlt).toNat : Int) ≤ 57 at y3
              change ((((⟨l.toArray⟩ : ByteArray)[k]'hlt).toNat : Int) == 45) = false at y4
              go_wp2
              go_ret
              exact ⟨by rw [HH.out, HF.out]; rfl, rfl⟩
            · have HX : Hid _ := hx
              clear hx
              change ¬ (97 : Int) ≤ (((⟨l.toArray⟩ : ByteArray)[k]'hlt).toNat : Int) at y1
              change ¬ (48 : Int) ≤ (((⟨l.toArray⟩ : ByteArray)[k]'hlt).toNat : Int) at y2
              change ((((⟨l.toArray⟩ : ByteArray)[k]'hlt).toNat : Int) == 45) = true at y3
              go_wp2
              go_round
              case rel => exact ⟨k + 1, hlt, by go_num, all_succ l k hlt hd.out HX.out⟩
              case measure => simp [intOf]; omega
            · have HF : Hid (l.all Pl.isNB = false) := all_not l k hlt hx
              clear hx
              change ¬ (97 : Int) ≤ (((⟨l.toArray⟩ : ByteArray)[k]'hlt).toNat : Int) at y1
              change ¬ (48 : Int) ≤ (((⟨l.toArray⟩ : ByteArray)[k]'hlt).toNat : Int) at y2
              change ((((⟨l.toArray⟩ : ByteArray)[k]'hlt).toNat : Int) == 45) = false at y3
              go_wp2
              go_ret
              exact ⟨by rw [HH.out, HF.out]; rfl, rfl⟩
          · have HF : Hid (l.all Pl.isNB = true) := by
              have := hd.out
              rwa [List.take_of_length_le (by omega)] at this
            go_wp2
            go_ret
            exact ⟨by rw [HH.out, HF.out]; rfl, rfl⟩
  · have hw' : within (l.length : Int) 1 12 = false := by simpa using hw
    have HH : Hid (Pl.isName l = false) := by
      unfold Hid
      unfold within at hw'
      simp only [Bool.and_eq_false_iff, decide_eq_false_iff_not] at hw'
      unfold Pl.isName
      rcases hw' with h | h
      · have : decide (1 ≤ l.length) = false := decide_eq_false (by omega)
        rw [this]; rfl
      · have : decide (l.length ≤ 12) = false := decide_eq_false (by omega)
        rw [this]; simp
    clear hw
    go_enter Tryz.func57, Tryz.ntmps57
    go_wp2_with (go_at_call 27; refine (within_any _ _ _ _).mono ?_; rintro e w' ⟨rfl, rfl⟩; rw [hw'])
    go_ret
    exact ⟨by rw [HH.out]; rfl, rfl⟩
end Go.Proofs.YtbpgcfabepioiaaGreat
/-
  A right element, as the document's own answer tells it.
-/
namespace Go.Proofs.YtbpgcfabepioiaaGreat
open Go.RowKit

theorem rise_iff : ∀ (ss : List (List UInt8)), Pl.rise ss = true ↔ ∀ j (h : j + 1 < ss.length), Op.bytesLess ss[j] ss[j + 1] = true
  | [] => by simp [Pl.rise]
  | [a] => by simp [Pl.rise]
  | a :: b :: r => by
    rw [Pl.rise, Bool.and_eq_true, rise_iff (b :: r)]
    constructor
    · rintro ⟨h1, h2⟩ j hj
      cases j with
      | zero => exact h1
      | succ j => exact h2 j (by simpa using hj)
    · intro h
      exact ⟨h 0 (by simp), fun j hj => h (j + 1) (by simpa using hj)⟩
/-- the first k are names and rise -/
def NamesTo (ss : List (List UInt8)) (k : Nat) : Prop := ∀ j (h : j < ss.length), j < k → Pl.isName ss[j] = true ∧ (∀ (i : Nat) (hi : i + 1 = j), Op.bytesLess (ss[i]'(by omega)) ss[j] = true)
theorem namesTo_all {ss : List (List UInt8)} {m : Nat} (hm : ss.length ≤ m) (h : NamesTo ss ss.length) : Pl.names m ss = true := by
  unfold Pl.names
  have h2 : ss.all Pl.isName = true := by
    rw [List.all_eq_true]
    intro x hx
    obtain ⟨i, hi, rfl⟩ := List.mem_iff_getElem.mp hx
    exact (h i hi hi).1
  have h3 : Pl.rise ss = true := (rise_iff ss).mpr fun j hj => (h (j + 1) hj hj).2 j rfl
  simp [hm, h2, h3]
theorem names_not1 {ss : List (List UInt8)} {m k : Nat} (hk : k < ss.length) (h : Pl.isName ss[k] = false) : Pl.names m ss = false := by
  unfold Pl.names
  rw [allN_not ss k hk h]; simp
theorem names_not2 {ss : List (List UInt8)} {m k : Nat} (hk : k + 1 < ss.length) (h : Op.bytesLess ss[k] ss[k + 1] = false) : Pl.names m ss = false := by
  unfold Pl.names
  have : Pl.rise ss = false := by
    cases hr : Pl.rise ss with
    | false => rfl
    | true => rw [rise_iff] at hr; rw [hr k hk] at h; cases h
  rw [this]; simp
theorem namesTo_next0 {ss : List (List UInt8)} (hk : 0 < ss.length) (h1 : Pl.isName ss[0] = true) : NamesTo ss 1 := by
  intro j hj hlt
  have : j = 0 := by omega
  subst this
  exact ⟨h1, fun i hi => by omega⟩
theorem namesTo_next {ss : List (List UInt8)} {k : Nat} (hk : k + 1 < ss.length) (h : NamesTo ss (k + 1)) (h1 : Pl.isName ss[k + 1] = true) (h2 : Op.bytesLess ss[k] ss[k + 1] = true) : NamesTo ss (k + 2) := by
  intro j hj hlt
  by_cases hjk : j < k + 1
  · exact h j hj hjk
  · have : j = k + 1 := by omega
    subst this
    refine ⟨h1, fun i hi => ?_⟩
    have : i = k := by omega
    subst this
    exact h2
/-- the first loop's callee, quiet -/
theorem fine_tag (v : Value) (x : Pl.Nd) (w : World) (hv : NdV w v x) (hm : Fits x) (ht : Pl.isName x.tag = false) :
    Calls Tryz.prog 28 #[v] w fun e w' => e = .returned (.bool (Pl.right x)) ∧ Below w.heap.size w w' := by
  obtain ⟨vc, va, rfl, hc, ha⟩ := hv
  obtain ⟨m1, m2⟩ := hm
  obtain ⟨ac, cc, rfl, hc'⟩ := id hc
  obtain ⟨aa, ca, rfl, ha'⟩ := id ha
  clear hc ha hc' ha'
  have HR : Hid (Pl.right x = false) := by simp [Hid, Pl.right, ht]
  go_enter Tryz.func28, Tryz.ntmps28
  go_wp2_with (go_at_call 57; refine (refName_any _ _).mono ?_; rintro e w' ⟨rfl, rfl⟩; rw [ht])
  go_ret
  exact ⟨by rw [HR.out]; rfl, on_alloc _ _⟩
set_option maxHeartbeats 4000000 in
theorem fine_rest (v : Value) (x : Pl.Nd) (w : World) (hv : NdV w v x) (hm : Fits x) (ht : Pl.isName x.tag = true) :
    Calls Tryz.prog 28 #[v] w fun e w' => e = .returned (.bool (Pl.right x)) ∧ Below w.heap.size w w' := by
  obtain ⟨vc, va, rfl, hc, ha⟩ := hv
  obtain ⟨m1, m2⟩ := hm
  obtain ⟨ac, cc, rfl, hc'⟩ := id hc
  obtain ⟨aa, ca, rfl, ha'⟩ := id ha
  have HC : Hid _ := hc'
  have HA : Hid _ := ha'
  clear hc ha hc' ha'
  unfold maxLen at m1 m2
  have hid : x.id = [] ∨ (x.id ≠ [] ∧ Pl.isName x.id = true) ∨ (x.id ≠ [] ∧ Pl.isName x.id = false) := by
    by_cases h : x.id = []
    · exact Or.inl h
    · cases Pl.isName x.id
      · exact Or.inr (Or.inr ⟨h, rfl⟩)
      · exact Or.inr (Or.inl ⟨h, rfl⟩)
  rcases hid with hi | ⟨hi, hi2⟩ | ⟨hi, hi2⟩
  case' inr.inr =>
    have HR : Hid (Pl.right x = false) := by simp [Hid, Pl.right, hi, hi2]
    go_enter Tryz.func28, Tryz.ntmps28
    go_wp2_with (go_at_call 57; refine (refName_any _ _).mono ?_; rintro e w' ⟨rfl, rfl⟩; first | rw [hi2] | rw [ht])
    go_ret
    exact ⟨by rw [HR.out]; rfl, on_alloc _ _⟩
  case' inl => have HI : Hid ((x.id.isEmpty || Pl.isName x.id) = true) := by simp [Hid, hi]
  case' inr.inl => have HI : Hid ((x.id.isEmpty || Pl.isName x.id) = true) := by simp [Hid, hi2]
  all_goals
    by_cases hl1 : (6 : Int) < (x.cls.length : Int)
    · have HR : Hid (Pl.right x = false) := by
        have : ¬ x.cls.length ≤ 6 := by omega
        simp [Hid, Pl.right, Pl.names, this]
      go_enter Tryz.func28, Tryz.ntmps28
      go_wp2_with (go_at_call 57; refine (refName_any _ _).mono ?_; rintro e w' ⟨rfl, rfl⟩; first | rw [ht] | rw [hi2])
      go_ret
      exact ⟨by rw [HR.out]; rfl, on_alloc _ _⟩
    · by_cases hl2 : (4 : Int) < (x.ats.length : Int)
      · have HR : Hid (Pl.right x = false) := by
          have : ¬ x.ats.length ≤ 4 := by omega
          simp [Hid, Pl.right, Pl.names, this]
        go_enter Tryz.func28, Tryz.ntmps28
        go_wp2_with (go_at_call 57; refine (refName_any _ _).mono ?_; rintro e w' ⟨rfl, rfl⟩; first | rw [ht] | rw [hi2])
        go_ret
        exact ⟨by rw [HR.out]; rfl, on_alloc _ _⟩
      · go_enter Tryz.func28, Tryz.ntmps28
        go_wp2_with (go_at_call 57; refine (refName_any _ _).mono ?_; rintro e w' ⟨rfl, rfl⟩; first | rw [ht] | rw [hi2])
        go_loopw [3] (fun i wr => ∃ k : Nat, k ≤ x.cls.length ∧ i = .int .i64 k ∧ Hid (NamesTo x.cls k) ∧ Below w.heap.size w wr ∧ wr.cell? ⟨w.heap.size, 3, none⟩ = some (.slice ac x.cls.length cc) ∧ wr.cell? ⟨w.heap.size, 4, none⟩ = some (.slice aa x.ats.length ca)) (fun i _ => x.cls.length - (intOf i).toNat)
        case atStart => exact ⟨0, Nat.zero_le _, rfl, fun j _ h => by omega, on_alloc _ _, by simp [go_sem], by simp [go_sem]⟩
        case round =>
          obtain ⟨k, hk, rfl, hd, hB, hb3, hb4⟩ := hrel
          by_cases hlt : k < x.cls.length
          · obtain ⟨b, o, rfl, hcell⟩ := HC.out.resolve_left (by intro h; rw [h] at hlt; simp at hlt)
            have c0 : wr.cell? ⟨b, o + k, none⟩ = some (.string ⟨x.cls[k].toArray⟩) := cell_on hB (hcell k hlt)
            have i3 : (k : Int) < (x.cls.length : Int) := by omega
            have i0 : (0 : Int) ≤ (k : Int) := by omega
            cases hn : Pl.isName x.cls[k] with
            | false =>
              have HR : Hid (Pl.right x = false) := by simp [Hid, Pl.right, names_not1 (m := 6) hlt hn]
              have q : ∀ w, Calls Tryz.prog 57 #[.string ⟨x.cls[k].toArray⟩] w fun e w' => e = .returned (.bool false) ∧ w' = w := fun w => by
                have := refName_any x.cls[k] w
                rwa [hn] at this
              clear hcell HC HA
              go_wp2
              go_quiet ((go_at_call 57; exact Calls.quiet_of_same (q _)))
              go_wp2
              go_ret
              exact ⟨by rw [HR.out]; rfl, below_drewN hB _⟩
            | true =>
              have q : ∀ w, Calls Tryz.prog 57 #[.string ⟨x.cls[k].toArray⟩] w fun e w' => e = .returned (.bool true) ∧ w' = w := fun w => by
                have := refName_any x.cls[k] w
                rwa [hn] at this
              rcases Nat.eq_zero_or_pos k with rfl | hkp
              · have HN : Hid (NamesTo x.cls 1) := namesTo_next0 hlt hn
                rw [Nat.add_zero] at c0
                clear hcell HC HA
                go_wp2
                go_quiet ((go_at_call 57; exact Calls.quiet_of_same (q _)))
                go_wp2
                exact ⟨⟨1, hlt, by go_num, HN, below_drewN hB _, by simpa [go_sem] using hb3, by simpa [go_sem] using hb4⟩, by simp [intOf]; omega⟩
              · obtain ⟨j, rfl⟩ : ∃ j, k = j + 1 := ⟨k - 1, by omega⟩
                have c1 : wr.cell? ⟨b, o + j, none⟩ = some (.string ⟨x.cls[j].toArray⟩) := cell_on hB (hcell j (by omega))
                have ek : ((j + 1 : Nat) : Int) = (j : Int) + 1 := by omega
                rw [ek] at i3 i0
                rw [ek]
                have i1 : (0 : Int) ≤ (j : Int) := by omega
                have i2 : (j : Int) < (x.cls.length : Int) := by omega
                have i4 : (0 : Int) < (j : Int) + 1 := by omega
                cases hle : Op.bytesLess x.cls[j] x.cls[j + 1] with
                | true =>
                  have HN : Hid (NamesTo x.cls (j + 2)) := namesTo_next hlt hd.out hn hle
                  clear hcell HC HA
                  go_wp2
                  go_quiet ((go_at_call 57; exact Calls.quiet_of_same (q _)))
                  go_wp2
                  exact ⟨⟨j + 2, by omega, by go_num, HN, below_drewN hB _, by simpa [go_sem] using hb3, by simpa [go_sem] using hb4⟩, by simp [intOf]; omega⟩
                | false =>
                  have HR : Hid (Pl.right x = false) := by simp [Hid, Pl.right, names_not2 (m := 6) hlt hle]
                  clear hcell HC HA
                  go_wp2
                  go_quiet ((go_at_call 57; exact Calls.quiet_of_same (q _)))
                  go_wp2
                  go_ret
                  exact ⟨by rw [HR.out]; rfl, below_drewN hB _⟩
          · have HN : Hid (Pl.names 6 x.cls = true) := by
              have : k = x.cls.length := by omega
              subst this
              exact namesTo_all (by omega) hd.out
            clear hd HC
            go_wp2
            go_loopw [4] (fun i wr => ∃ k : Nat, k ≤ x.ats.length ∧ i = .int .i64 k ∧ Hid (NamesTo (x.ats.map (·.1)) k ∧ ∀ j (h : j < x.ats.length), j < k → Pl.isValue x.ats[j].2 = true) ∧ Below w.heap.size w wr ∧ wr.cell? ⟨w.heap.size, 4, none⟩ = some (.slice aa x.ats.length ca)) (fun i _ => x.ats.length - (intOf i).toNat)
            case atStart => exact ⟨0, Nat.zero_le _, rfl, ⟨fun j _ h => by omega, fun j _ h => by omega⟩, hB, hb4⟩
            case round =>
              clear hB hb4
              obtain ⟨k, hk, rfl, hd, hB, hb4⟩ := hrel
              by_cases hlt : k < x.ats.length
              · obtain ⟨b, o, rfl, hcell⟩ := HA.out.resolve_left (by intro h; rw [h] at hlt; simp at hlt)
                have c0 : wr.cell? ⟨b, o + k * 2, none⟩ = some (.string ⟨x.ats[k].1.toArray⟩) := cell_on hB (hcell k hlt).1
                have c2 : wr.cell? ⟨b, o + k * 2 + 1, none⟩ = some (.string ⟨x.ats[k].2.toArray⟩) := cell_on hB (hcell k hlt).2
                have i3 : (k : Int) < (x.ats.length : Int) := by omega
                have i0 : (0 : Int) ≤ (k : Int) := by omega
                have hltm : k < (x.ats.map (·.1)).length := by simpa using hlt
                have em : (x.ats.map (·.1))[k] = x.ats[k].1 := by simp
                cases hn : Pl.isName x.ats[k].1 with
                | false =>
                  have HR : Hid (Pl.right x = false) := by simp [Hid, Pl.right, names_not1 (m := 4) hltm (by rw [em]; exact hn)]
                  have q : ∀ w, Calls Tryz.prog 57 #[.string ⟨x.ats[k].1.toArray⟩] w fun e w' => e = .returned (.bool false) ∧ w' = w := fun w => by
                    have := refName_any x.ats[k].1 w
                    rwa [hn] at this
                  clear hcell HA em
                  go_wp2
                  go_quiet ((go_at_call 57; exact Calls.quiet_of_same (q _)))
                  go_wp2
                  go_ret
                  exact ⟨by rw [HR.out]; rfl, below_drewN hB _⟩
                | true =>
                  have q : ∀ w, Calls Tryz.prog 57 #[.string ⟨x.ats[k].1.toArray⟩] w fun e w' => e = .returned (.bool true) ∧ w' = w := fun w => by
                    have := refName_any x.ats[k].1 w
                    rwa [hn] at this
                  cases hva : Pl.isValue x.ats[k].2 with
                  | false =>
                    have HR : Hid (Pl.right x = false) := by
                      have : x.ats.all (fun a => Pl.isValue a.2) = false := allN_not (p := fun (a : List UInt8 × List UInt8) => Pl.isValue a.2) x.ats k hlt hva
                      simp only [Hid, Pl.right, this, Bool.and_false]
                    have q2 : ∀ w, Calls Tryz.prog 58 #[.string ⟨x.ats[k].2.toArray⟩] w fun e w' => e = .returned (.bool false) ∧ w' = w := fun w => by
                      have := refValue_any x.ats[k].2 w
                      rwa [hva] at this
                    clear hcell HA em
                    go_wp2
                    go_quiet (first | (go_at_call 57; exact Calls.quiet_of_same (q _)) | (go_at_call 58; exact Calls.quiet_of_same (q2 _)))
                    go_wp2
                    go_ret
                    exact ⟨by rw [HR.out]; rfl, below_drewN hB _⟩
                  | true =>
                    have q2 : ∀ w, Calls Tryz.prog 58 #[.string ⟨x.ats[k].2.toArray⟩] w fun e w' => e = .returned (.bool true) ∧ w' = w := fun w => by
                      have := refValue_any x.ats[k].2 w
                      rwa [hva] at this
                    have HV : Hid (∀ j (h : j < x.ats.length), j < k + 1 → Pl.isValue x.ats[j].2 = true) := by
                      intro j hj hjk
                      by_cases h : j < k
                      · exact hd.out.2 j hj h
                      · have : j = k := by omega
                        subst this
                        exact hva
                    rcases Nat.eq_zero_or_pos k with rfl | hkp
                    · have HN : Hid (NamesTo (x.ats.map (·.1)) 1) := namesTo_next0 hltm (by rw [em]; exact hn)
                      rw [Nat.zero_mul, Nat.add_zero] at c0 c2
                      clear hcell HA em
                      go_wp2
                      go_quiet (first | (go_at_call 57; exact Calls.quiet_of_same (q _)) | (go_at_call 58; exact Calls.quiet_of_same (q2 _)))
                      go_wp2
                      exact ⟨⟨1, hlt, by go_num, ⟨HN.out, HV.out⟩, below_drewN hB _, by simpa [go_sem] using hb4⟩, by simp [intOf]; omega⟩
                    · obtain ⟨j, rfl⟩ : ∃ j, k = j + 1 := ⟨k - 1, by omega⟩
                      have c1 : wr.cell? ⟨b, o + j * 2, none⟩ = some (.string ⟨x.ats[j].1.toArray⟩) := cell_on hB (hcell j (by omega)).1
                      have ek : ((j + 1 : Nat) : Int) = (j : Int) + 1 := by omega
                      rw [ek] at i3 i0
                      rw [ek]
                      have i1 : (0 : Int) ≤ (j : Int) := by omega
                      have i2 : (j : Int) < (x.ats.length : Int) := by omega
                      have i4 : (0 : Int) < (j : Int) + 1 := by omega
                      have em2 : (x.ats.map (·.1))[j]'(by simp; omega) = x.ats[j].1 := by simp
                      cases hle : Op.bytesLess x.ats[j].1 x.ats[j + 1].1 with
                      | true =>
                        have HN : Hid (NamesTo (x.ats.map (·.1)) (j + 2)) := namesTo_next hltm hd.out.1 (by rw [em]; exact hn) (by rw [em, em2]; exact hle)
                        clear hcell HA em em2
                        go_wp2
                        go_quiet (first | (go_at_call 57; exact Calls.quiet_of_same (q _)) | (go_at_call 58; exact Calls.quiet_of_same (q2 _)))
                        go_wp2
                        exact ⟨⟨j + 2, by omega, by go_num, ⟨HN.out, HV.out⟩, below_drewN hB _, by simpa [go_sem] using hb4⟩, by simp [intOf]; omega⟩
                      | false =>
                        have HR : Hid (Pl.right x = false) := by simp [Hid, Pl.right, names_not2 (m := 4) hltm (by rw [em, em2]; exact hle)]
                        clear hcell HA em em2
                        go_wp2
                        go_quiet (first | (go_at_call 57; exact Calls.quiet_of_same (q _)) | (go_at_call 58; exact Calls.quiet_of_same (q2 _)))
                        go_wp2
                        go_ret
                        exact ⟨by rw [HR.out]; rfl, below_drewN hB _⟩
              · have HR : Hid (Pl.right x = true) := by
                  have : k = x.ats.length := by omega
                  subst this
                  have h1 : Pl.names 4 (x.ats.map (·.1)) = true := namesTo_all (by simp; omega) (by simpa using hd.out.1)
                  have h2 : x.ats.all (fun a => Pl.isValue a.2) = true := by
                    rw [List.all_eq_true]
                    intro a ha
                    obtain ⟨i, hi, rfl⟩ := List.mem_iff_getElem.mp ha
                    exact hd.out.2 i hi hi
                  simp only [Hid, Pl.right, ht, HI.out, HN.out, h1, h2, Bool.and_self]
                go_wp2
                go_ret
                exact ⟨by rw [HR.out]; rfl, hB⟩
theorem fine_any (v : Value) (x : Pl.Nd) (w : World) (hm : Fits x) (hv : NdV w v x) :
    Calls Tryz.prog 28 #[v] w fun e w' => e = .returned (.bool (Pl.right x)) ∧ Below w.heap.size w w' := by
  cases ht : Pl.isName x.tag with
  | false => exact fine_tag v x w hv hm ht
  | true => exact fine_rest v x w hv hm ht
end Go.Proofs.YtbpgcfabepioiaaGreat
/-
  A right document, as the document's own answer tells it.
-/
namespace Go.Proofs.YtbpgcfabepioiaaGreat
open Go.RowKit

set_option maxHeartbeats 400000 in
theorem refCheck_many (a : Option Addr) (n cap : Nat) (w : World) (h : n < 1 ∨ 64 < n) (hm : n ≤ maxLen) :
    Calls Tryz.prog 9 #[.agg #[.slice a n cap]] w fun e w' => e = .returned (.int .i64 2) ∧ Below w.heap.size w w' := by
  unfold maxLen at hm
  have hw : within (n : Int) 1 64 = false := by unfold within; simp; omega
  go_enter Tryz.func9, Tryz.ntmps9
  go_wp2_with (go_at_call 27; refine (within_any _ _ _ _).mono ?_; rintro e w' ⟨rfl, rfl⟩; rw [hw])
  go_ret
  exact ⟨rfl, on_alloc _ _⟩
set_option maxHeartbeats 2000000 in
theorem refCheck_some (b o cap : Nat) (ns : List Pl.Nd) (w : World) (h1 : 1 ≤ ns.length) (h64 : ns.length ≤ 64) (hf : FitsAll ns) (hc : ∀ i (h : i < ns.length), NdAt w b (o + i * 5) ns[i]) :
    Calls Tryz.prog 9 #[.agg #[.slice (some ⟨b, o, none⟩) ns.length cap]] w fun e w' => e = .returned (.int .i64 (Pl.checkDoc ns)) ∧ Below w.heap.size w w' := by
  have HC : Hid (∀ i (h : i < ns.length), NdAt w b (o + i * 5) ns[i]) := hc
  have HFit : Hid (FitsAll ns) := hf
  clear hc hf
  have hw : within (ns.length : Int) 1 64 = true := by unfold within; simp; omega
  go_enter Tryz.func9, Tryz.ntmps9
  go_wp2_with (go_at_call 27; refine (within_any _ _ _ _).mono ?_; rintro e w' ⟨rfl, rfl⟩; rw [hw])
  go_loopw [3] (fun i wr => ∃ k : Nat, k ≤ ns.length ∧ i = .int .i64 k ∧ Hid (Pl.okTo ns k = true) ∧ Below w.heap.size w wr ∧ wr.cell? ⟨w.heap.size, 0, none⟩ = some (.slice (some ⟨b, o, none⟩) ns.length cap)) (fun i _ => ns.length - (intOf i).toNat)
  case atStart => exact ⟨0, Nat.zero_le _, rfl, rfl, on_alloc _ _, by simp [go_sem]⟩
  case round =>
    obtain ⟨k, hk, rfl, hd, hB, hbox⟩ := hrel
    by_cases hlt : k < ns.length
    · obtain ⟨vc, va, n0, n1, n2, n3, n4, nc, na⟩ := (HC.out k hlt).on hB
      obtain ⟨ac, cc, rfl, _⟩ := id nc
      obtain ⟨aa, ca, rfl, _⟩ := id na
      have HV : Hid (NdV wr (.agg #[.int .i64 ns[k].up, .string ⟨ns[k].tag.toArray⟩, .string ⟨ns[k].id.toArray⟩, .slice ac ns[k].cls.length cc, .slice aa ns[k].ats.length ca]) ns[k]) := ⟨_, _, rfl, nc, na⟩
      clear nc na
      cases hr : Pl.right ns[k] with
      | false =>
        have HF : Hid (Pl.checkDoc ns = 1) := checkDoc_one h1 h64 (okTo_false hlt (by rw [hr]; rfl))
        go_wp2_with fail
        refine (fine_any _ ns[k] _ (HFit.out.2 k hlt) HV.out).mono ?_
        rintro e w1 ⟨rfl, hw1⟩
        rw [hr]
        have hB1 := below_trans hB hw1
        go_wp2
        go_ret
        exact ⟨by rw [HF.out]; rfl, hB1⟩
      | true =>
        go_wp2_with fail
        refine (fine_any _ ns[k] _ (HFit.out.2 k hlt) HV.out).mono ?_
        rintro e w1 ⟨rfl, hw1⟩
        rw [hr]
        have hB1 := below_trans hB hw1
        have hbox1 := cell_on hw1 hbox
        have HC1 : Hid (∀ k, k < ns.length → w1.cell? ⟨b, o + k * 5, none⟩ = some (.int .i64 (Pl.upOf ns k))) := fun k h => up_cell (fun i h => (HC.out i h).on hB1) k h
        have ck := HC1.out k hlt
        clear hw1 hbox n0 n1 n2 n3 n4 HV
        rcases Nat.eq_zero_or_pos k with rfl | hkp
        · rw [Nat.zero_mul, Nat.add_zero] at ck
          have i0 : (0 : Int) < (ns.length : Int) := by omega
          cases hh : (Pl.upOf ns 0 == -1) with
          | false =>
            have hhang : Pl.hangs ns 0 = false := by simp [Pl.hangs, hh]
            have HF : Hid (Pl.checkDoc ns = 1) := checkDoc_one h1 h64 (okTo_false hlt (by rw [hhang]; simp))
            generalize Pl.upOf ns 0 = u at *
            go_wp2
            go_ret
            exact ⟨by rw [HF.out]; rfl, hB1⟩
          | true =>
            have hhang : Pl.hangs ns 0 = true := by simp [Pl.hangs, hh]
            have HN : Hid (Pl.okTo ns (0 + 1) = true) := okTo_next hlt hd.out hr hhang
            generalize Pl.upOf ns 0 = u at *
            go_wp2
            refine wp_loop_rounds 1 ?_
            rw [rounds_succ]
            go_wp2
            exact ⟨⟨1, hlt, by go_num, HN, hB1, hbox1⟩, by simp [intOf]; omega⟩
        · have hz : ((k : Int) == 0) = false := by simp; omega
          have HH : Hid (Pl.hangs ns k = way ns ((k : Int) - 1) (Pl.upOf ns k)) := hangs_way ns k (by omega)
          have HL : Hid (Pl.Low ns k) := Pl.okTo_low k hd.out
          have HF : Hid (Pl.hangs ns k = false → Pl.checkDoc ns = 1) := fun hh => checkDoc_one h1 h64 (okTo_false hlt (by rw [hh]; simp))
          have HN : Hid (Pl.hangs ns k = true → Pl.okTo ns (k + 1) = true) := fun hh => okTo_next hlt hd.out hr hh
          generalize Pl.upOf ns k = t at *
          go_wp2
          go_loop [4, 5] (fun f u => ∃ (fb : Bool) (q : Int), f = .bool fb ∧ u = .int .i64 q ∧ -1 ≤ q ∧ q < k ∧ Hid (fb = true → Pl.hangs ns k = true) ∧ Hid (fb = false → Pl.hangs ns k = way ns q t)) (fun _ u => (intOf u + 1).toNat)
          case atStart => exact ⟨false, (k : Int) - 1, rfl, rfl, by omega, by omega, (fun h => by cases h), fun _ => HH.out⟩
          case round =>
            obtain ⟨fb, q, rfl, rfl, hq1, hq2, hf1, hf2⟩ := hrel
            by_cases hneg : q < 0
            · cases fb with
              | true =>
                have HO : Hid (Pl.okTo ns (k + 1) = true) := HN.out (hf1.out rfl)
                go_wp2
                exact ⟨⟨k + 1, hlt, by go_num, HO, hB1, hbox1⟩, by simp [intOf]; omega⟩
              | false =>
                have HO : Hid (Pl.checkDoc ns = 1) := by
                  refine HF.out ?_
                  have : q = -1 := by omega
                  subst this
                  exact (hf2.out rfl).trans (way_neg ns t)
                go_wp2
                go_ret
                exact ⟨by rw [HO.out]; rfl, hB1⟩
            · cases fb with
              | true =>
                have HO : Hid (Pl.okTo ns (k + 1) = true) := HN.out (hf1.out rfl)
                go_wp2
                exact ⟨⟨k + 1, hlt, by go_num, HO, hB1, hbox1⟩, by simp [intOf]; omega⟩
              | false =>
                obtain ⟨j, rfl⟩ : ∃ j : Nat, q = j := ⟨q.toNat, by omega⟩
                have hj : j < k := by omega
                have cj := HC1.out j (by omega)
                obtain ⟨u1, u2⟩ := HL.out j hj
                cases he : ((j : Int) == t) with
                | true =>
                  have HT : Hid (Pl.hangs ns k = true) := by
                    have : (j : Int) = t := by simpa using he
                    rw [Hid, hf2.out rfl, ← this]; exact way_hit ns j
                  generalize Pl.upOf ns j = u at *
                  go_wp2
                  exact ⟨⟨true, u, rfl, rfl, u1, by omega, fun _ => HT.out, (fun h => by cases h)⟩, by simp [intOf]; omega⟩
                | false =>
                  have HS : Hid (Pl.hangs ns k = way ns (Pl.upOf ns j) t) := (hf2.out rfl).trans (way_step HL.out j hj t he)
                  generalize Pl.upOf ns j = u at *
                  go_wp2
                  exact ⟨⟨false, u, rfl, rfl, u1, by omega, (fun h => by cases h), fun _ => HS.out⟩, by simp [intOf]; omega⟩
    · have HF : Hid (Pl.checkDoc ns = 0) := by
        have he : k = ns.length := by omega
        have := hd.out
        rw [he] at this
        exact checkDoc_zero h1 h64 this
      go_wp2
      go_ret
      exact ⟨by rw [HF.out]; rfl, hB⟩
theorem refCheck_any (v : Value) (ns : List Pl.Nd) (w : World) (hf : FitsAll ns) (hv : NdsAt w v ns) :
    Calls Tryz.prog 9 #[.agg #[v]] w fun e w' => e = .returned (.int .i64 (Pl.checkDoc ns)) ∧ Below w.heap.size w w' := by
  obtain ⟨a, cap, rfl, h⟩ := hv
  by_cases hl : ns.length < 1 ∨ 64 < ns.length
  · have : Pl.checkDoc ns = 2 := by unfold Pl.checkDoc; rw [if_pos hl]
    rw [this]
    exact refCheck_many a ns.length cap w hl hf.1
  · rcases h with rfl | ⟨b, o, rfl, hc⟩
    · simp at hl
    · exact refCheck_some b o cap ns w (by omega) (by omega) hf hc

theorem within_has (len : Nat) (n : Int) : within n 0 ((len : Int) - 1) = hasB len n := by
  unfold within hasB
  congr 1
  rw [decide_eq_decide]; omega
set_option maxHeartbeats 800000 in
theorem there_any (v : Value) (ns : List Pl.Nd) (n : Int) (w : World) (hf : FitsAll ns) (hv : NdsAt w v ns) :
    Calls Tryz.prog 36 #[.agg #[v], .int .i64 n] w fun e w' => e = .returned (.int .i64 (checkAtOf ns n)) ∧ Below w.heap.size w w' := by
  obtain ⟨a, cap, rfl, _⟩ := id hv
  have HV : Hid _ := hv
  clear hv
  have hm := hf.1
  unfold maxLen at hm
  cases hz : (Pl.checkDoc ns != 0) with
  | true =>
    have HH : Hid (checkAtOf ns n = Pl.checkDoc ns) := by unfold Hid checkAtOf; rw [if_neg (by simpa using hz)]
    go_enter Tryz.func36, Tryz.ntmps36
    go_wp2_with fail
    refine (refCheck_any _ ns _ hf (NdsAt.on HV.out (on_alloc _ _))).mono ?_
    rintro e w1 ⟨rfl, h1⟩
    have hB := below_trans (on_alloc _ _) h1
    go_wp2
    go_ret
    exact ⟨by rw [HH.out]; rfl, hB⟩
  | false =>
    have hz0 : Pl.checkDoc ns = 0 := by simpa using hz
    clear hz
    have hl1 : 1 ≤ ns.length := by
      rcases Nat.lt_or_ge ns.length 1 with h | h
      · unfold Pl.checkDoc at hz0; rw [if_pos (Or.inl h)] at hz0; cases hz0
      · exact h
    have hwi := within_has ns.length n
    cases hh : hasB ns.length n with
    | true =>
      have HH : Hid (checkAtOf ns n = 0) := by unfold Hid checkAtOf; rw [if_pos hz0, hh]; rfl
      rw [hh] at hwi
      go_enter Tryz.func36, Tryz.ntmps36
      go_wp2_with fail
      refine (refCheck_any _ ns _ hf (NdsAt.on HV.out (on_alloc _ _))).mono ?_
      rintro e w1 ⟨rfl, h1⟩
      rw [hz0]
      have hB := below_trans (on_alloc _ _) h1
      have c0 := cell_on (p := ⟨w.heap.size, 0, none⟩) (v := .slice a ns.length cap) h1 (by simp [go_sem])
      clear h1
      go_wp2_with (go_at_call 27; refine (within_any _ _ _ _).mono ?_; rintro e w' ⟨rfl, rfl⟩; rw [hwi])
      go_ret
      exact ⟨by rw [HH.out]; rfl, hB⟩
    | false =>
      have HH : Hid (checkAtOf ns n = 5) := by unfold Hid checkAtOf; rw [if_pos hz0, hh]; rfl
      rw [hh] at hwi
      go_enter Tryz.func36, Tryz.ntmps36
      go_wp2_with fail
      refine (refCheck_any _ ns _ hf (NdsAt.on HV.out (on_alloc _ _))).mono ?_
      rintro e w1 ⟨rfl, h1⟩
      rw [hz0]
      have hB := below_trans (on_alloc _ _) h1
      have c0 := cell_on (p := ⟨w.heap.size, 0, none⟩) (v := .slice a ns.length cap) h1 (by simp [go_sem])
      clear h1
      go_wp2_with (go_at_call 27; refine (within_any _ _ _ _).mono ?_; rintro e w' ⟨rfl, rfl⟩; rw [hwi])
      go_ret
      exact ⟨by rw [HH.out]; rfl, hB⟩
end Go.Proofs.YtbpgcfabepioiaaGreat
