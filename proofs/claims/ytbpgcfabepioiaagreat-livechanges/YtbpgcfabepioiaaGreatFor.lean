/-
  Trees in plain lists (as forests), and how they lie in memory.
-/
import Derived.Test.YtbpgcfabepioiaaGreatDocA
namespace Go.Proofs.YtbpgcfabepioiaaGreat
open Go.RowKit

namespace Pl
/-- trees side by side: the first one's element, its kids, and the trees behind it -/
inductive F where
  | nil : F
  | cons (x : Nd) (k r : F) : F
namespace F
def len : F → Nat
  | .nil => 0
  | .cons _ _ r => r.len + 1
def size : F → Nat
  | .nil => 0
  | .cons _ k r => k.size + r.size + 1
def app : F → F → F
  | .nil, g => g
  | .cons x k r, g => .cons x k (r.app g)
def drop : F → Nat → F
  | f, 0 => f
  | .nil, _ + 1 => .nil
  | .cons _ _ r, n + 1 => r.drop n
theorem app_len (f g : F) : (f.app g).len = f.len + g.len := by
  induction f with
  | nil => simp [app, len]
  | cons x k r _ ih => simp [app, len, ih]; omega
theorem app_size (f g : F) : (f.app g).size = f.size + g.size := by
  induction f with
  | nil => simp [app, size]
  | cons x k r _ ih => simp [app, size, ih]; omega
theorem app_nil (f : F) : f.app .nil = f := by
  induction f with
  | nil => rfl
  | cons x k r _ ih => simp [app, ih]
theorem app_assoc (f g h : F) : (f.app g).app h = f.app (g.app h) := by
  induction f with
  | nil => rfl
  | cons x k r _ ih => simp [app, ih]
theorem drop_zero (f : F) : f.drop 0 = f := by cases f <;> rfl
theorem drop_len : ∀ (f : F) (n : Nat), f.len ≤ n → f.drop n = .nil
  | .nil, 0, _ => rfl
  | .nil, _ + 1, _ => rfl
  | .cons _ _ r, 0, h => by simp [len] at h
  | .cons _ _ r, n + 1, h => by simp only [len] at h; exact drop_len r n (by omega)
theorem drop_lt : ∀ (f : F) (n : Nat), n < f.len → ∃ x k, f.drop n = .cons x k (f.drop (n + 1)) ∧ k.size < f.size
  | .nil, n, h => by simp [len] at h
  | .cons x k r, 0, _ => ⟨x, k, by simp [drop, drop_zero], by simp [size]; omega⟩
  | .cons x k r, n + 1, h => by
    obtain ⟨y, l, h1, h2⟩ := drop_lt r n (by simp only [len] at h; omega)
    exact ⟨y, l, by simp only [drop]; exact h1, by simp only [size]; omega⟩
theorem len_le_size (f : F) : f.len ≤ f.size := by
  induction f with
  | nil => simp [len]
  | cons x k r _ ih => simp [len, size]; omega
end F
/-- trees laid down from place pos on, below up -/
def layF : F → Nat → Int → List Nd
  | .nil, _, _ => []
  | .cons x k r, pos, up => ({ x with up := up } :: layF k (pos + 1) pos) ++ layF r (pos + 1 + k.size) up
theorem layF_len (f : F) : ∀ pos up, (layF f pos up).length = f.size := by
  induction f with
  | nil => intro _ _; rfl
  | cons x k r ihk ihr => intro pos up; simp [layF, F.size, ihk, ihr]; try omega
def layT (x : Nd) (k : F) (pos : Nat) (up : Int) : List Nd := { x with up := up } :: layF k (pos + 1) pos
theorem layT_len (x : Nd) (k : F) (pos : Nat) (up : Int) : (layT x k pos up).length = k.size + 1 := by simp [layT, layF_len]
end Pl

/-- the lists of texts lie in blocks of P -/
def StrsP (P : Nat → Prop) (w : World) (v : Value) (ss : List (List UInt8)) : Prop :=
  ∃ a cap, v = .slice a ss.length cap ∧ (ss = [] ∨ ∃ b o, a = some ⟨b, o, none⟩ ∧ P b ∧ ∀ i (h : i < ss.length), w.cell? ⟨b, o + i, none⟩ = some (.string ⟨ss[i].toArray⟩))
def AtsP (P : Nat → Prop) (w : World) (v : Value) (ss : List (List UInt8 × List UInt8)) : Prop :=
  ∃ a cap, v = .slice a ss.length cap ∧ (ss = [] ∨ ∃ b o, a = some ⟨b, o, none⟩ ∧ P b ∧ ∀ i (h : i < ss.length), w.cell? ⟨b, o + i * 2, none⟩ = some (.string ⟨ss[i].1.toArray⟩) ∧ w.cell? ⟨b, o + i * 2 + 1, none⟩ = some (.string ⟨ss[i].2.toArray⟩))
/-- blocks of P stay, and are of P' -/
def Mv (P : Nat → Prop) (w : World) (P' : Nat → Prop) (w' : World) : Prop := ∀ j, P j → j < w.heap.size → P' j ∧ w'.heap[j]? = w.heap[j]?
theorem Mv.cell {P P' : Nat → Prop} {w w' : World} (h : Mv P w P' w') {b o : Nat} {v : Value} (hb : P b) (hc : w.cell? ⟨b, o, none⟩ = some v) : w'.cell? ⟨b, o, none⟩ = some v := by
  rw [World.cell?_of_block (w := w) (h b hb (cell_lt hc)).2]; exact hc
theorem StrsP.to {P P' : Nat → Prop} {w w' : World} {v : Value} {ss : List (List UInt8)} (h : StrsP P w v ss) (hm : Mv P w P' w') : StrsP P' w' v ss := by
  obtain ⟨a, cap, rfl, h⟩ := h
  refine ⟨a, cap, rfl, ?_⟩
  rcases h with h | ⟨b, o, ha, hp, hc⟩
  · exact Or.inl h
  · by_cases hn : ss = []
    · exact Or.inl hn
    · have hl : 0 < ss.length := List.length_pos_iff.2 hn
      exact Or.inr ⟨b, o, ha, (hm b hp (cell_lt (hc 0 hl))).1, fun i hi => hm.cell hp (hc i hi)⟩
theorem AtsP.to {P P' : Nat → Prop} {w w' : World} {v : Value} {ss : List (List UInt8 × List UInt8)} (h : AtsP P w v ss) (hm : Mv P w P' w') : AtsP P' w' v ss := by
  obtain ⟨a, cap, rfl, h⟩ := h
  refine ⟨a, cap, rfl, ?_⟩
  rcases h with h | ⟨b, o, ha, hp, hc⟩
  · exact Or.inl h
  · by_cases hn : ss = []
    · exact Or.inl hn
    · have hl : 0 < ss.length := List.length_pos_iff.2 hn
      exact Or.inr ⟨b, o, ha, (hm b hp (cell_lt (hc 0 hl).1)).1, fun i hi => ⟨hm.cell hp (hc i hi).1, hm.cell hp (hc i hi).2⟩⟩
/-- an element in five cells, its lists in blocks of P -/
def NdP (P : Nat → Prop) (w : World) (b o : Nat) (x : Pl.Nd) : Prop :=
  ∃ vc va, w.cell? ⟨b, o, none⟩ = some (.int .i64 x.up) ∧ w.cell? ⟨b, o + 1, none⟩ = some (.string ⟨x.tag.toArray⟩) ∧ w.cell? ⟨b, o + 2, none⟩ = some (.string ⟨x.id.toArray⟩) ∧
    w.cell? ⟨b, o + 3, none⟩ = some vc ∧ w.cell? ⟨b, o + 4, none⟩ = some va ∧ StrsP P w vc x.cls ∧ AtsP P w va x.ats
/-- a block of P that may be written -/
def Own (P : Nat → Prop) (w : World) (b : Nat) : Prop := P b ∧ ∀ i, w.frozen? ⟨b, i, none⟩ = false
theorem Own.to {P P' : Nat → Prop} {w w' : World} {b : Nat} (h : Own P w b) (hm : Mv P w P' w') (hl : b < w.heap.size) : Own P' w' b :=
  ⟨(hm b h.1 hl).1, fun i => by rw [World.frozen?_of_block (w := w) (a := ⟨b, i, none⟩) (hm b h.1 hl).2]; exact h.2 i⟩
/-- trees side by side in memory, six cells each, all in blocks of P -/
def FIn (P : Nat → Prop) (w : World) : Pl.F → Nat → Nat → Prop
  | .nil, _, _ => True
  | .cons x k r, b, o => NdP P w b o x ∧ (∃ a cap, w.cell? ⟨b, o + 5, none⟩ = some (.slice a k.len cap) ∧ (k.len = 0 ∨ ∃ b' o', a = some ⟨b', o', none⟩ ∧ Own P w b' ∧ FIn P w k b' o')) ∧ FIn P w r b (o + 6)
theorem FIn.to {P P' : Nat → Prop} {w w' : World} (hm : Mv P w P' w') (f : Pl.F) : ∀ b o, P b → FIn P w f b o → FIn P' w' f b o := by
  induction f with
  | nil => intro _ _ _ _; trivial
  | cons x k r ihk ihr =>
    rintro b o hp ⟨⟨vc, va, h0, h1, h2, h3, h4, hs, ha⟩, ⟨a, cap, h5, h6⟩, h7⟩
    refine ⟨⟨vc, va, hm.cell hp h0, hm.cell hp h1, hm.cell hp h2, hm.cell hp h3, hm.cell hp h4, hs.to hm, ha.to hm⟩, ⟨a, cap, hm.cell hp h5, ?_⟩, ihr b _ hp h7⟩
    rcases h6 with h6 | ⟨b', o', e, hp', h6⟩
    · exact Or.inl h6
    · by_cases hk : k.len = 0
      · exact Or.inl hk
      · refine Or.inr ⟨b', o', e, ?_, ihk b' o' hp'.1 h6⟩
        cases k with
        | nil => simp [Pl.F.len] at hk
        | cons y k2 r2 =>
          obtain ⟨⟨_, _, g0, _⟩, _⟩ := h6
          exact hp'.to hm (cell_lt g0)
theorem FIn.drop {P : Nat → Prop} {w : World} : ∀ (f : Pl.F) (n b o : Nat), FIn P w f b o → FIn P w (f.drop n) b (o + n * 6)
  | f, 0, b, o, h => by rw [Pl.F.drop_zero]; simpa using h
  | .nil, _ + 1, _, _, _ => trivial
  | .cons x k r, n + 1, b, o, h => by
    have := FIn.drop r n b (o + 6) h.2.2
    rw [show o + (n + 1) * 6 = o + 6 + n * 6 by omega]
    exact this
/-- a list of trees -/
def Sub (P : Nat → Prop) (w : World) (v : Value) (k : Pl.F) : Prop := ∃ a cap, v = .slice a k.len cap ∧ (k.len = 0 ∨ ∃ b o, a = some ⟨b, o, none⟩ ∧ Own P w b ∧ FIn P w k b o)
theorem Sub.to {P P' : Nat → Prop} {w w' : World} {v : Value} {k : Pl.F} (h : Sub P w v k) (hm : Mv P w P' w') : Sub P' w' v k := by
  obtain ⟨a, cap, rfl, h⟩ := h
  refine ⟨a, cap, rfl, ?_⟩
  rcases h with h | ⟨b, o, ha, hp, hf⟩
  · exact Or.inl h
  · cases k with
    | nil => exact Or.inl rfl
    | cons y k2 r2 =>
      have hf2 := hf
      obtain ⟨⟨_, _, g0, _⟩, _⟩ := hf2
      exact Or.inr ⟨b, o, ha, hp.to hm (cell_lt g0), FIn.to hm _ b o hp.1 hf⟩
/-- a tree as a value -/
def TV (P : Nat → Prop) (w : World) (v : Value) (x : Pl.Nd) (k : Pl.F) : Prop :=
  ∃ vc va vk, v = .agg #[.int .i64 x.up, .string ⟨x.tag.toArray⟩, .string ⟨x.id.toArray⟩, vc, va, vk] ∧ StrsP P w vc x.cls ∧ AtsP P w va x.ats ∧ Sub P w vk k
theorem TV.to {P P' : Nat → Prop} {w w' : World} {v : Value} {x : Pl.Nd} {k : Pl.F} (h : TV P w v x k) (hm : Mv P w P' w') : TV P' w' v x k := by
  obtain ⟨vc, va, vk, rfl, hc, ha, hk⟩ := h
  exact ⟨vc, va, vk, rfl, hc.to hm, ha.to hm, hk.to hm⟩
/-- the cells of trees side by side -/
def CellsF (P : Nat → Prop) (w : World) : List Value → Pl.F → Prop
  | [], .nil => True
  | c0 :: c1 :: c2 :: c3 :: c4 :: c5 :: r, .cons x k t => (c0 = .int .i64 x.up ∧ c1 = .string ⟨x.tag.toArray⟩ ∧ c2 = .string ⟨x.id.toArray⟩ ∧ StrsP P w c3 x.cls ∧ AtsP P w c4 x.ats ∧ Sub P w c5 k) ∧ CellsF P w r t
  | _, _ => False
theorem CellsF.split {P : Nat → Prop} {w : World} {xs : List Value} {x : Pl.Nd} {k t : Pl.F} (h : CellsF P w xs (.cons x k t)) :
    ∃ c3 c4 c5 r, xs = .int .i64 x.up :: .string ⟨x.tag.toArray⟩ :: .string ⟨x.id.toArray⟩ :: c3 :: c4 :: c5 :: r ∧ StrsP P w c3 x.cls ∧ AtsP P w c4 x.ats ∧ Sub P w c5 k ∧ CellsF P w r t := by
  match xs, h with
  | c0 :: c1 :: c2 :: c3 :: c4 :: c5 :: r, ⟨⟨h0, h1, h2, h3, h4, h5⟩, h6⟩ => exact ⟨c3, c4, c5, r, by rw [h0, h1, h2], h3, h4, h5, h6⟩
theorem CellsF.empty {P : Nat → Prop} {w : World} {xs : List Value} (h : CellsF P w xs .nil) : xs = [] := by
  cases xs with
  | nil => rfl
  | cons c r => simp [CellsF] at h
theorem CellsF.to {P P' : Nat → Prop} {w w' : World} (hm : Mv P w P' w') (f : Pl.F) : ∀ xs, CellsF P w xs f → CellsF P' w' xs f := by
  induction f with
  | nil => intro xs h; rw [h.empty]; trivial
  | cons x k t _ ih =>
    intro xs h
    obtain ⟨c3, c4, c5, r, rfl, h3, h4, h5, h6⟩ := h.split
    exact ⟨⟨rfl, rfl, rfl, h3.to hm, h4.to hm, h5.to hm⟩, ih r h6⟩
theorem CellsF.append {P : Nat → Prop} {w : World} (f : Pl.F) : ∀ xs ys g, CellsF P w xs f → CellsF P w ys g → CellsF P w (xs ++ ys) (f.app g) := by
  induction f with
  | nil => intro xs ys g h h2; rw [h.empty]; exact h2
  | cons x k t _ ih =>
    intro xs ys g h h2
    obtain ⟨c3, c4, c5, r, rfl, h3, h4, h5, h6⟩ := h.split
    exact ⟨⟨rfl, rfl, rfl, h3, h4, h5⟩, ih r ys g h6 h2⟩
/-- trees side by side out of their cells -/
theorem CellsF.fin {P : Nat → Prop} {w : World} (b : Nat) (f : Pl.F) : ∀ xs o, CellsF P w xs f → (∀ j u, xs[j]? = some u → w.cell? ⟨b, o + j, none⟩ = some u) → FIn P w f b o := by
  induction f with
  | nil => intro _ _ _ _; trivial
  | cons x k t _ ih =>
    intro xs o h hc
    obtain ⟨c3, c4, c5, r, rfl, h3, h4, h5, h6⟩ := h.split
    obtain ⟨a, cap, rfl, hs⟩ := h5
    refine ⟨⟨c3, c4, hc 0 _ rfl, hc 1 _ rfl, hc 2 _ rfl, hc 3 _ rfl, hc 4 _ rfl, h3, h4⟩, ⟨a, cap, hc 5 _ rfl, hs⟩, ih r (o + 6) h6 fun j u hj => ?_⟩
    have := hc (j + 6) u (by simpa using hj)
    rw [show o + 6 + j = o + (j + 6) by omega]
    exact this
/-- the row of trees that is built, from block B on; what it holds lies in blocks of P, none of them its own -/
def TRow (B : Nat) (P : Nat → Prop) (w : World) (v : Value) (f : Pl.F) : Prop := ∃ xs, w.ownsRow B 60 6 v f.len xs ∧ CellsF (fun j => P j ∧ some j ≠ v.ownBlock) w xs f
theorem TRow.nil (B : Nat) (P : Nat → Prop) (w : World) : TRow B P w (.slice none 0 0) .nil := ⟨[], World.ownsRow_nil _ _ _ _, trivial⟩
theorem TRow.form {B : Nat} {P : Nat → Prop} {w : World} {v : Value} {f : Pl.F} (h : TRow B P w v f) : ∃ a c, v = .slice a f.len c := by
  obtain ⟨xs, ho, _⟩ := h
  rcases ho.2 with ⟨rfl, h0⟩ | ⟨g, cap, cur, rfl, _⟩
  · exact ⟨none, 0, by rw [h0]⟩
  · exact ⟨_, cap, rfl⟩
theorem TRow.on {B : Nat} {P : Nat → Prop} {w w' : World} {v : Value} {f : Pl.F} (h : TRow B P w v f) (hb : Below w.heap.size w w') : TRow B P w' v f := by
  obtain ⟨xs, ho, hc⟩ := h
  exact ⟨xs, own_on ho hb, CellsF.to (fun j hj hl => ⟨hj, hb.block j hl⟩) f xs hc⟩
theorem TRow.sub {B : Nat} {P : Nat → Prop} {w : World} {v : Value} {f : Pl.F} (h : TRow B P w v f) (hP : ∀ j, B ≤ j → P j) : Sub P w v f := by
  obtain ⟨xs, ho, hc⟩ := h
  have hh := ho
  rcases ho.2 with ⟨rfl, h0⟩ | ⟨g, cap, cur, rfl, hb, hg, _⟩
  · exact ⟨none, 0, by rw [h0], Or.inl h0⟩
  · refine ⟨_, cap, rfl, Or.inr ⟨g, 0, rfl, ⟨hP g hb, fun i => by simp [World.frozen?, hg]⟩, ?_⟩⟩
    have hc2 := CellsF.to (P' := P) (w' := w) (fun j hj _ => ⟨hj.1, rfl⟩) f xs hc
    refine CellsF.fin g f xs 0 hc2 fun j u hj => ?_
    have := World.ownsRow.cells hh rfl j u hj
    rwa [Addr.add_lit] at this
/-- the row with one tree more -/
theorem trow_step {B : Nat} {P : Nat → Prop} {W w' : World} {v : Value} {f : Pl.F} {xs : List Value} {x : Pl.Nd} {k : Pl.F} {vc va vk : Value} {g cap : Nat} (hc : CellsF (fun j => P j ∧ some j ≠ v.ownBlock) W xs f)
    (hvc : StrsP (fun j => P j ∧ some j ≠ v.ownBlock) W vc x.cls) (hva : AtsP (fun j => P j ∧ some j ≠ v.ownBlock) W va x.ats) (hvk : Sub (fun j => P j ∧ some j ≠ v.ownBlock) W vk k)
    (h1 : w'.ownsRow B 60 6 (.slice (some ⟨g, 0, none⟩) (f.len + 1) cap) (f.len + 1) (xs ++ [.int .i64 x.up, .string ⟨x.tag.toArray⟩, .string ⟨x.id.toArray⟩, vc, va, vk])) (hg : W.grownBy w' v.ownBlock) (hat : v.ownBlock = some g ∨ g = W.heap.size) :
    TRow B P w' (.slice (some ⟨g, 0, none⟩) (f.len + 1) cap) (f.app (.cons x k .nil)) := by
  have hl : (f.app (.cons x k .nil)).len = f.len + 1 := by rw [Pl.F.app_len]; rfl
  refine ⟨_, by rw [hl]; exact h1, ?_⟩
  have hm : Mv (fun j => P j ∧ some j ≠ v.ownBlock) W (fun j => P j ∧ some j ≠ (Value.slice (some ⟨g, 0, none⟩) (f.len + 1) cap).ownBlock) w' := by
    intro j hj hlt
    refine ⟨⟨hj.1, ?_⟩, hg.block j hlt hj.2⟩
    rcases hat with h | h
    · rw [h] at hj; exact hj.2
    · intro e
      have : j = g := by simpa [Value.ownBlock] using e
      omega
  exact CellsF.append f _ _ _ (CellsF.to hm f _ hc) ⟨⟨rfl, rfl, rfl, hvc.to hm, hva.to hm, hvk.to hm⟩, trivial⟩
theorem Tryz.info60 : (Tryz.prog.info? 60).map (fun i => (i.zero, i.size, i.bytes)) = some (some (.agg #[.int .i64 0, .string ⟨#[]⟩, .string ⟨#[]⟩, .slice none 0 0, .slice none 0 0, .slice none 0 0]), 6, 112) := by kernel_rfl
end Go.Proofs.YtbpgcfabepioiaaGreat
