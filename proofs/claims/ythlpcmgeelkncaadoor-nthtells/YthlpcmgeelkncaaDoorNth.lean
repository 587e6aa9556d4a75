/-
  The strict reader's counts: a number with its sign, and a whole count.
-/
import Derived.Test.YthlpcmgeelkncaaDoorNum
namespace Go.Proofs.YthlpcmgeelkncaaDoor
open Go.RowKit

set_option maxHeartbeats 400000 in
theorem readNum_any (b : Nat) (m : Bool) (l : List UInt8) (w : World) (hc : w.cell? ⟨b, 0, none⟩ = some (.string ⟨l.toArray⟩)) (hf : w.frozen? ⟨b, 0, none⟩ = false) (hl : l.length ≤ maxLen) :
    Calls Tryd.prog 25 #[.pointer (some ⟨b, 0, none⟩), .bool m] w fun e w' => (Pl.readNum m l = none ∧ e = .panicked [{ v := .iface 24 (.int .i64 1), recovered := false }] ∧ Below b w w') ∨
      (∃ x r, Pl.readNum m l = some (x, r) ∧ e = .returned (.int .i64 x) ∧ w' = w.setCell ⟨b, 0, none⟩ (.string ⟨r.toArray⟩)) := by
  go_enter Tryd.func25, Tryd.ntmps25
  go_wp2_with fail
  refine (number_any b l _ hc hf hl).mono ?_
  rintro e w' (⟨h, rfl, hb⟩ | ⟨n, r, h, rfl, rfl⟩)
  · go_wp2
    exact ⟨rfl, Or.inl ⟨by simp [Pl.readNum, h], rfl, hb⟩⟩
  · have hb := ((Pl.number_iff _ _ _).1 h).2.1
    cases m with
    | false =>
      have hq : Hid (Pl.readNum false l = some ((n : Int), r)) := by simp [Hid, Pl.readNum, h]
      clear h
      go_wp2
      go_ret
      exact Or.inr ⟨_, _, hq, rfl, rfl⟩
    | true =>
      by_cases h0 : n = 0
      · have hq : Hid (Pl.readNum true l = none) := by simp [Hid, Pl.readNum, h, h0]
        subst h0
        clear h
        go_wp2_with (go_at_call 24; refine (refuse_any _).mono ?_; rintro e w' ⟨rfl, rfl⟩)
        exact ⟨rfl, Or.inl ⟨hq, rfl, (Below.refl _ _).setCell (p := ⟨b, 0, none⟩) (Nat.le_refl _) _⟩⟩
      · have hq : Hid (Pl.readNum true l = some (-(n : Int), r)) := by simp [Hid, Pl.readNum, h, h0]
        have hn : ((n : Int) == 0) = false := by simp; omega
        clear h
        go_wp2
        go_ret
        exact Or.inr ⟨_, _, hq, rfl, rfl⟩
end Go.Proofs.YthlpcmgeelkncaaDoor
