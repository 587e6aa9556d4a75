/-
  The three levels of plainer lists; again and again till nothing changes. No program in this text.
-/
import Derived.Test.YtephhllfodlfbaaDoorPnA
namespace Go.Proofs.YtephhllfodlfbaaDoor
namespace Pl

def lift0 (_ : List Unit) : List D1 := []
def lift1 : List D1 → List D2 := trL lift0
def lift2 : List D2 → List D3 := trL lift1
def L1 : Lev D1 := L0.up lift0
def L2 : Lev D2 := L1.up lift1
def L3 : Lev D3 := L2.up lift2
theorem isLift_0 : IsLift L0 (L0.up lift0) lift0 := ⟨fun _ => ⟨by simp [lift0], fun p hp => by simp [lift0] at hp⟩, fun _ => rfl⟩
section
variable {α : Type} [DecidableEq α] {L : Lev α} {lift : List α → List (Pth α)}
theorem map_sum {β γ : Type} {f : β → γ} {g : γ → Nat} {h : β → Nat} {l : List β} (e : ∀ x ∈ l, g (f x) = h x) : ((l.map f).map g).sum = (l.map h).sum := by
  rw [List.map_map]
  exact congrArg List.sum (List.map_congr_left e)
theorem isLift_up (hl : IsLift L (L.up lift) lift) : IsLift (L.up lift) ((L.up lift).up (trL lift)) (trL lift) where
  ok {l} h := by
    have h' : okL L.W l := h
    refine ⟨by simpa [trL] using h'.1, fun p hp => ?_⟩
    obtain ⟨q, hq, rfl⟩ := List.mem_map.1 hp
    obtain ⟨q1, q2, q3, q4⟩ := h'.2 q hq
    refine ⟨by simpa [trP] using q1, by simpa [trP] using q2, q3, fun s hs => ?_⟩
    obtain ⟨s0, hs0, rfl⟩ := List.mem_map.1 hs
    obtain ⟨s1, s2⟩ := q4 s0 hs0
    refine ⟨by simpa [trS] using s1, fun t ht => ?_⟩
    obtain ⟨t0, ht0, rfl⟩ := List.mem_map.1 ht
    exact hl.ok (s2 t0 ht0)
  sz {l} h := by
    have h' : okL L.W l := h
    refine map_sum fun p hp => map_sum fun s hs => ?_
    show 1 + _ = 1 + _
    refine congrArg (1 + ·) (map_sum fun t ht => ?_)
    exact congrArg (1 + ·) (hl.sz (((h'.2 p hp).2.2.2 s hs).2 t ht))
end
theorem isLev_1 : IsLev L1 := isLev_up isLev_0 isLift_0
theorem isLift_1 : IsLift L1 (L1.up lift1) lift1 := isLift_up isLift_0
theorem isLev_2 : IsLev L2 := isLev_up isLev_1 isLift_1
theorem isLift_2 : IsLift L2 (L2.up lift2) lift2 := isLift_up isLift_1
theorem isLev_3 : IsLev L3 := isLev_up isLev_2 isLift_2
/-- once, and again and again -/
def once3 : List D3 → List D3 := L3.f
def plN : Nat → List D3 → List D3
  | 0, l => l
  | n + 1, l => if once3 l = l then l else plN n (once3 l)
def size3 : List D3 → Nat := L3.z
def W3 : List D3 → Prop := L3.W
def plain3 (l : List D3) : List D3 := plN (size3 l) l
theorem once_sz {l : List D3} (h : W3 l) : once3 l = l ∨ size3 (once3 l) < size3 l := isLev_3.sz h
theorem once_ok {l : List D3} (h : W3 l) : W3 (once3 l) := isLev_3.ok h
theorem plN_more : ∀ (n m : Nat) (l : List D3), W3 l → size3 l ≤ n → size3 l ≤ m → plN n l = plN m l
  | 0, 0, l, _, _, _ => rfl
  | 0, m + 1, l, hw, h1, _ => by
    unfold plN
    rcases once_sz hw with e | e
    · rw [if_pos e]
    · omega
  | n + 1, 0, l, hw, _, h2 => by
    unfold plN
    rcases once_sz hw with e | e
    · rw [if_pos e]
    · omega
  | n + 1, m + 1, l, hw, h1, h2 => by
    unfold plN
    by_cases e : once3 l = l
    · rw [if_pos e, if_pos e]
    · rw [if_neg e, if_neg e]
      have := (once_sz hw).resolve_left e
      exact plN_more n m _ (once_ok hw) (by omega) (by omega)
theorem plain_stays {l : List D3} (h : once3 l = l) : plain3 l = l := by
  unfold plain3
  cases size3 l with
  | zero => rfl
  | succ n => unfold plN; rw [if_pos h]
theorem plain_goes {l : List D3} (hw : W3 l) (h : once3 l ≠ l) : plain3 l = plain3 (once3 l) := by
  have hs := (once_sz hw).resolve_left h
  unfold plain3
  obtain ⟨n, hn⟩ : ∃ n, size3 l = n + 1 := ⟨size3 l - 1, by omega⟩
  rw [hn]
  show (if once3 l = l then l else plN n (once3 l)) = _
  rw [if_neg h]
  exact plN_more _ _ _ (once_ok hw) (by omega) (Nat.le_refl _)
theorem plain_fix (n : Nat) : ∀ l : List D3, W3 l → size3 l ≤ n → once3 (plain3 l) = plain3 l ∧ W3 (plain3 l) ∧ size3 (plain3 l) ≤ size3 l := by
  induction n with
  | zero =>
    intro l hw h
    have e : once3 l = l := by
      rcases once_sz hw with e | e
      · exact e
      · omega
    rw [plain_stays e]
    exact ⟨e, hw, Nat.le_refl _⟩
  | succ n ih =>
    intro l hw h
    by_cases e : once3 l = l
    · rw [plain_stays e]
      exact ⟨e, hw, Nat.le_refl _⟩
    · rw [plain_goes hw e]
      have hs := (once_sz hw).resolve_left e
      obtain ⟨i1, i2, i3⟩ := ih (once3 l) (once_ok hw) (by omega)
      exact ⟨i1, i2, by omega⟩
end Pl
end Go.Proofs.YtephhllfodlfbaaDoor
