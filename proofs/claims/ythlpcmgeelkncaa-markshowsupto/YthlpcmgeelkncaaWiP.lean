/-
  A tree laid in among an element's kids, in plain forests; what with's walk leans on.
-/
import Derived.Test.YthlpcmgeelkncaaWiO
namespace Go.Proofs.Ythlpcmgeelkncaa
open Go.RowKit

namespace Pl
def insAt (ex : Nd) (ek : F) : F → Nat → F
  | f, 0 => .cons ex ek f
  | .nil, _ + 1 => .nil
  | .cons x k r, i + 1 => .cons x k (insAt ex ek r i)
/-- laid in at place a, if it is asked for and there is that place -/
def insIf (ex : Nd) (ek : F) (c : Bool) (a : Int) (f : F) : F := if c = true ∧ 0 ≤ a ∧ a ≤ f.len then insAt ex ek f a.toNat else f
def withF (up at_ : Int) (ex : Nd) (ek : F) : F → F
  | .nil => .nil
  | .cons x k r => .cons x (insIf ex ek (x.up == up) at_ (withF up at_ ex ek k)) (withF up at_ ex ek r)
theorem withF_len (up at_ : Int) (ex : Nd) (ek : F) (f : F) : (withF up at_ ex ek f).len = f.len := by
  induction f with
  | nil => rfl
  | cons x k r _ ih => simp [withF, F.len, ih]
theorem insIf_cons (ex : Nd) (ek : F) (c : Bool) (a : Int) (y : Nd) (ky r : F) :
    insIf ex ek c a (.cons y ky r) = (if c = true ∧ a = 0 then F.cons ex ek .nil else .nil).app (.cons y ky (insIf ex ek c (a - 1) r)) := by
  unfold insIf
  by_cases h : c = true
  · rcases Int.lt_trichotomy a 0 with h1 | h1 | h1
    · rw [if_neg (by omega), if_neg (by omega), if_neg (by omega)]; rfl
    · subst h1
      rw [if_pos ⟨h, by omega, by omega⟩, if_pos ⟨h, rfl⟩, if_neg (by omega)]
      rfl
    · rw [show (if c = true ∧ a = 0 then F.cons ex ek .nil else .nil) = F.nil from if_neg (fun h2 => by omega)]
      have hL : (F.cons y ky r).len = r.len + 1 := rfl
      by_cases h3 : a ≤ (r.len + 1 : Nat)
      · rw [if_pos ⟨h, by omega, by rw [hL]; exact h3⟩, if_pos ⟨h, by omega, by omega⟩, show a.toNat = (a - 1).toNat + 1 by omega]
        rfl
      · rw [if_neg (fun h2 => by rw [hL] at h2; exact h3 h2.2.2), if_neg (fun h2 => by omega)]
        rfl
  · rw [if_neg (fun h2 => h h2.1), if_neg (fun h2 => h h2.1), if_neg (fun h2 => h h2.1)]; rfl
theorem insIf_nil (ex : Nd) (ek : F) (c : Bool) (a : Int) : insIf ex ek c a .nil = (if c = true ∧ a = 0 then F.cons ex ek .nil else .nil) := by
  unfold insIf
  by_cases h : c = true ∧ a = 0
  · rw [if_pos h, if_pos ⟨h.1, by omega, by simp [F.len]; omega⟩]
    obtain ⟨_, rfl⟩ := h
    rfl
  · rw [if_neg h, if_neg (fun h2 => h ⟨h2.1, by simp [F.len] at h2; omega⟩)]
end Pl
/-- three boxes -/
theorem three_sixes (w : World) (c0 c1 c2 c3 c4 c5 d0 d1 d2 d3 d4 d5 e0 e1 e2 e3 e4 e5 : Value) :
    Blk6 (((w.alloc (.cells #[c0, c1, c2, c3, c4, c5] 66)).alloc (.cells #[d0, d1, d2, d3, d4, d5] 66)).alloc (.cells #[e0, e1, e2, e3, e4, e5] 66)) w.heap.size c0 c1 c2 c3 c4 c5 ∧ Blk6 (((w.alloc (.cells #[c0, c1, c2, c3, c4, c5] 66)).alloc (.cells #[d0, d1, d2, d3, d4, d5] 66)).alloc (.cells #[e0, e1, e2, e3, e4, e5] 66)) (w.heap.size + 1) d0 d1 d2 d3 d4 d5 ∧
    Blk6 (((w.alloc (.cells #[c0, c1, c2, c3, c4, c5] 66)).alloc (.cells #[d0, d1, d2, d3, d4, d5] 66)).alloc (.cells #[e0, e1, e2, e3, e4, e5] 66)) (w.heap.size + 2) e0 e1 e2 e3 e4 e5 := by
  obtain ⟨h1, h2⟩ := two_sixes w c0 c1 c2 c3 c4 c5 d0 d1 d2 d3 d4 d5
  refine ⟨h1.on (on_alloc _ _), h2.on (on_alloc _ _), ?_⟩
  have := Blk6.new ((w.alloc (.cells #[c0, c1, c2, c3, c4, c5] 66)).alloc (.cells #[d0, d1, d2, d3, d4, d5] 66)) e0 e1 e2 e3 e4 e5
  simpa using this
abbrev Cells6 (W : World) (b o : Nat) (c0 c1 c2 c3 c4 c5 : Value) : Prop := W.cell? ⟨b, o, none⟩ = some c0 ∧ W.cell? ⟨b, o + 1, none⟩ = some c1 ∧ W.cell? ⟨b, o + 2, none⟩ = some c2 ∧ W.cell? ⟨b, o + 3, none⟩ = some c3 ∧ W.cell? ⟨b, o + 4, none⟩ = some c4 ∧ W.cell? ⟨b, o + 5, none⟩ = some c5
theorem CellsF.drew {P : Nat → Prop} {w : World} {xs : List Value} {f : Pl.F} (h : CellsF P w xs f) : CellsF P w.drew xs f := CellsF.to (w := w) (w' := w.drew) (fun _ hj _ => ⟨hj, rfl⟩) f xs h
theorem mv_new {Pp : Nat → Prop} {B s n : Nat} {own : Option Nat} {w4 : World} (hs : B ≤ n) (hge : ∀ k, own = some k → B ≤ k) (hlt : ∀ k, own = some k → k < n) (hsB : s ≤ B) : Mv (fun i => (Pp i ∧ i < s) ∨ n ≤ i) w4 (fun i => ((Pp i ∧ i < s) ∨ B ≤ i) ∧ some i ≠ own) w4 := by
  intro i hi _
  refine ⟨⟨?_, fun e => ?_⟩, rfl⟩
  · rcases hi with h | h
    · exact Or.inl h
    · exact Or.inr (Nat.le_trans hs h)
  · have h1 := hge i e.symm
    have h2 := hlt i e.symm
    rcases hi with h | h <;> omega
theorem bel_grown {w0 W w' : World} {g : Option Nat} (h : Below w0.heap.size w0 W) (hg : W.grownBy w' g) (hr : ∀ k, g = some k → w0.heap.size ≤ k) : Below w0.heap.size w0 w' := h.grown hg h.size hr
theorem TRow.newOwn {B : Nat} {P : Nat → Prop} {w : World} {v : Value} {f : Pl.F} (h : TRow B P w v f) : ∀ k, v.ownBlock = some k → B ≤ k := fun k hk => (h.own k hk).1
end Go.Proofs.Ythlpcmgeelkncaa
