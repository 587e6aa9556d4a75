/-
  Where elements hang, in plain lists. No program in this text.
-/
import Derived.Test.YthlpcmgeelkncaaPlain
namespace Go.Proofs.Ythlpcmgeelkncaa.Pl

/-- Up of element k; -1 where there is none -/
def upOf (ns : List Nd) (k : Nat) : Int := match ns[k]? with | some x => x.up | none => -1
/-- is t met on the way up from k on (k itself too)? -/
def chase (ns : List Nd) : Nat → Int → Int → Bool
  | 0, _, _ => false
  | f + 1, k, t => if k < 0 then false else if k == t then true else chase ns f (upOf ns k.toNat) t
/-- does element n hang right, those ahead of it hanging right? -/
def hangs (ns : List Nd) (n : Nat) : Bool := if n = 0 then upOf ns 0 == -1 else chase ns (n + 1) ((n : Int) - 1) (upOf ns n)
/-- those ahead of n lie above themselves -/
def Low (ns : List Nd) (n : Nat) : Prop := ∀ k, k < n → -1 ≤ upOf ns k ∧ upOf ns k < k
/-- the first n elements are right and hang right -/
def okTo (ns : List Nd) (n : Nat) : Bool := (List.range n).all fun k => (match ns[k]? with | some x => right x | none => false) && hangs ns k
def checkDoc (ns : List Nd) : Int := if ns.length < 1 ∨ 64 < ns.length then 2 else if okTo ns ns.length = true then 0 else 1

theorem chase_low {ns : List Nd} {n : Nat} (hl : Low ns n) : ∀ (f : Nat) (k t : Int), k < n → -1 ≤ k → k + 1 < f → ∀ g, f ≤ g → chase ns g k t = chase ns f k t := by
  intro f
  induction f with
  | zero => intro k t _ h1 h2; omega
  | succ f ih =>
    intro k t hk h1 h2 g hg
    obtain ⟨g', rfl⟩ : ∃ g', g = g' + 1 := ⟨g - 1, by omega⟩
    unfold chase
    by_cases h0 : k < 0
    · simp [h0]
    · rw [if_neg h0, if_neg h0]
      by_cases he : (k == t) = true
      · rw [if_pos he, if_pos he]
      · rw [if_neg he, if_neg he]
        have := hl k.toNat (by omega)
        exact ih _ _ (by omega) this.1 (by omega) g' (by omega)
theorem chase_le {ns : List Nd} {n : Nat} (hl : Low ns n) : ∀ (f : Nat) (k t : Int), k < n → chase ns f k t = true → 0 ≤ t ∧ t ≤ k := by
  intro f
  induction f with
  | zero => intro k t _ h; simp [chase] at h
  | succ f ih =>
    intro k t hk h
    unfold chase at h
    by_cases h0 : k < 0
    · simp [h0] at h
    · rw [if_neg h0] at h
      by_cases he : (k == t) = true
      · have : k = t := by simpa using he
        omega
      · rw [if_neg he] at h
        have h3 := hl k.toNat (by omega)
        have := ih _ _ (by omega) h
        omega
theorem hangs_low {ns : List Nd} {n : Nat} (hl : Low ns n) (h : hangs ns n = true) : Low ns (n + 1) := by
  intro k hk
  by_cases hkn : k < n
  · exact hl k hkn
  · obtain rfl : k = n := by omega
    unfold hangs at h
    by_cases h0 : k = 0
    · subst h0
      simp at h; omega
    · rw [if_neg h0] at h
      have := chase_le hl _ _ _ (by omega) h
      omega
theorem okTo_succ (ns : List Nd) (n : Nat) : okTo ns (n + 1) = (okTo ns n && ((match ns[n]? with | some x => right x | none => false) && hangs ns n)) := by
  unfold okTo
  rw [List.range_succ, List.all_append]
  simp
theorem okTo_low {ns : List Nd} : ∀ n, okTo ns n = true → Low ns n
  | 0, _ => fun k hk => by omega
  | n + 1, h => by
    rw [okTo_succ, Bool.and_eq_true, Bool.and_eq_true] at h
    exact hangs_low (okTo_low n h.1) h.2.2
theorem okTo_le {ns : List Nd} {n m : Nat} (h : okTo ns m = true) (hm : n ≤ m) : okTo ns n = true := by
  unfold okTo at *
  rw [List.all_eq_true] at *
  intro k hk
  exact h k (by simp at *; omega)
end Go.Proofs.Ythlpcmgeelkncaa.Pl
