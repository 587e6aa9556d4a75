/-
  What the document says of attribute tests: texts that stand in texts, words. Plain, and walked.
-/
import Derived.Test.YtagobgjlhdbhmaaGreatDoorIsR
namespace Go.Proofs.YtagobgjlhdbhmaaGreatDoor
open Go.RowKit

namespace Pl
/-- a text stands in another one, at a place -/
def stands (s t : List UInt8) (i : Int) : Bool := decide (0 ≤ i) && (decide (i + t.length ≤ s.length) && ((s.drop i.toNat).take t.length == t))
/-- what word asks at a place -/
def wordAt (s t : List UInt8) (i : Nat) : Bool := stands s t i && ((decide (i = 0) || s[i - 1]? == some 32) && (decide (i + t.length = s.length) || s[i + t.length]? == some 32))
def word (s t : List UInt8) : Bool := !t.isEmpty && (t.all (fun c => !(c == 32)) && (List.range (s.length + 1)).any (wordAt s t))
def valOk (kind : Int) (s t : List UInt8) : Bool :=
  if kind = 3 then true
  else if kind = 4 then s == t
  else if kind = 8 then word s t
  else if t.isEmpty = true then false
  else if kind = 5 then stands s t 0
  else if kind = 6 then stands s t ((s.length : Int) - t.length)
  else (List.range s.length).any fun i => stands s t i
end Pl
theorem ex_mid (l : List UInt8) (a b : Nat) : (⟨l.toArray⟩ : ByteArray).extract a b = ⟨((l.drop a).take (b - a)).toArray⟩ := by
  rw [Lib.extract_eq]
set_option maxHeartbeats 1000000 in
theorem standsAt_any (s t : List UInt8) (i : Int) (w : World) (hs : s.length ≤ 1048576) (ht : t.length ≤ 1048576) (hi : -1048576 ≤ i ∧ i ≤ 1048576) :
    Calls Tryz.prog 62 #[.string ⟨s.toArray⟩, .string ⟨t.toArray⟩, .int .i64 i] w fun e w' => e = .returned (.bool (Pl.stands s t i)) ∧ w' = w := by
  by_cases h0 : 0 ≤ i
  · obtain ⟨k, rfl⟩ := Int.eq_ofNat_of_zero_le h0
    have hw : wrap64 ((k : Int) + (t.length : Int)) = (k : Int) + (t.length : Int) := IntWalk.wrap64_in _ ⟨by omega, by omega⟩
    by_cases h1 : (k : Int) + (t.length : Int) ≤ (s.length : Int)
    · have hk : k ≤ k + t.length := by omega
      have e1 : (⟨s.toArray⟩ : ByteArray).extract k (k + t.length) = ⟨((s.drop k).take t.length).toArray⟩ := by
        rw [ex_mid, show k + t.length - k = t.length by omega]
      cases he : ((s.drop k).take t.length == t) with
      | true =>
        have HV : Hid (Pl.stands s t k = true) := by
          unfold Hid Pl.stands
          simp only [Int.toNat_natCast, he, decide_eq_true h1, decide_eq_true h0, Bool.and_true]
        have e2 : (s.drop k).take t.length = t := by simpa using he
        rw [e2] at e1
        clear he e2
        go_enter Tryz.func62, Tryz.ntmps62
        go_wp2
        go_ret
        exact ⟨by rw [HV.out]; rfl, rfl⟩
      | false =>
        have HV : Hid (Pl.stands s t k = false) := by
          unfold Hid Pl.stands
          simp only [Int.toNat_natCast, he, Bool.and_false]
        generalize (s.drop k).take t.length = q at *
        have he2 : ¬ (⟨q.toArray⟩ : ByteArray) = ⟨t.toArray⟩ := fun e => by
          have := congrArg (fun x : ByteArray => x.data.toList) e
          simp at this
          rw [this] at he
          simp at he
        go_enter Tryz.func62, Tryz.ntmps62
        go_wp2
        go_ret
        exact ⟨by rw [HV.out]; rfl, rfl⟩
    · have HV : Hid (Pl.stands s t k = false) := by
        unfold Hid Pl.stands
        simp only [decide_eq_false h1, Bool.false_and, Bool.and_false]
      go_enter Tryz.func62, Tryz.ntmps62
      go_wp2
      go_ret
      exact ⟨by rw [HV.out]; rfl, rfl⟩
  · have HV : Hid (Pl.stands s t i = false) := by
      unfold Hid Pl.stands
      simp only [decide_eq_false h0, Bool.false_and]
    go_enter Tryz.func62, Tryz.ntmps62
    go_wp2
    go_ret
    exact ⟨by rw [HV.out]; rfl, rfl⟩
end Go.Proofs.YtagobgjlhdbhmaaGreatDoor
