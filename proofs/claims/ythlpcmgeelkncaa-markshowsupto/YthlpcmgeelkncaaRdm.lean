/-
  Elements that are read, side by side: in plain lists, and in memory.
-/
import Derived.Test.YthlpcmgeelkncaaMkC
import Derived.Test.YthlpcmgeelkncaaRdl
import Derived.Test.YthlpcmgeelkncaaFor
namespace Go.Proofs.Ythlpcmgeelkncaa
open Go.RowKit

namespace Pl
def Few (x : Nd) : Prop := x.cls.length ≤ 6 ∧ x.ats.length ≤ 4
theorem rd_props : ∀ (f : Nat), (∀ ns up l ns' r, rdEl f ns up l = some (ns', r) → ns.length ≤ 64 → ns'.length ≤ 64 ∧ ((∀ x ∈ ns, Few x) → ∀ x ∈ ns', Few x)) ∧
    (∀ ns up l ns' r, rdKids f ns up l = some (ns', r) → ns.length ≤ 64 → ns'.length ≤ 64 ∧ ((∀ x ∈ ns, Few x) → ∀ x ∈ ns', Few x)) := by
  intro f
  induction f with
  | zero => exact ⟨fun _ _ _ _ _ h => by simp [rdEl] at h, fun _ _ _ _ _ h => by simp [rdKids] at h⟩
  | succ f ih =>
    refine ⟨fun ns up l ns' r h h64 => ?_, fun ns up l ns' r h h64 => ?_⟩
    · unfold rdEl at h
      split at h
      · cases h
      · rename_i hne
        split at h
        · cases h
        · rename_i x l1 h1
          obtain ⟨_, _, e3, e4⟩ := rdNode_sound _ _ _ _ h1
          have hF : (∀ y ∈ ns, Few y) → ∀ y ∈ ns ++ [x], Few y := by
            intro hy y hm
            rcases List.mem_append.1 hm with h2 | h2
            · exact hy y h2
            · rw [List.mem_singleton.1 h2]; exact ⟨e3, e4⟩
          split at h
          · simp only [Option.some.injEq, Prod.mk.injEq] at h
            obtain ⟨rfl, rfl⟩ := h
            exact ⟨by simp; omega, hF⟩
          · obtain ⟨a1, a2⟩ := ih.2 _ _ _ _ _ h (by simp; omega)
            exact ⟨a1, fun hy => a2 (hF hy)⟩
    · unfold rdKids at h
      split at h
      · cases h
      · rename_i ns1 l1 h1
        obtain ⟨a1, a2⟩ := ih.1 _ _ _ _ _ h1 h64
        split at h
        · simp only [Option.some.injEq, Prod.mk.injEq] at h
          obtain ⟨rfl, rfl⟩ := h
          exact ⟨a1, a2⟩
        · split at h
          · cases h
          · obtain ⟨b1, b2⟩ := ih.2 _ _ _ _ _ h a1
            exact ⟨b1, fun hy => b2 (a2 hy)⟩
theorem rdEl_more {f : Nat} {ns ns' : List Nd} {up : Int} {l r : List UInt8} (h : rdEl f ns up l = some (ns', r)) : ns.length < ns'.length ∧ r.length ≤ l.length := by
  obtain ⟨x, k, e1, e2⟩ := (rd_sound f).1 _ _ _ _ _ h
  rw [e1, e2]
  simp only [List.length_append, layT_len]
  omega
end Pl
/-- the cells of elements side by side, their lists in blocks of P -/
def NCells (P : Nat → Prop) (w : World) : List Value → List Pl.Nd → Prop
  | [], [] => True
  | c0 :: c1 :: c2 :: c3 :: c4 :: r, x :: t => (c0 = .int .i64 x.up ∧ c1 = .string ⟨x.tag.toArray⟩ ∧ c2 = .string ⟨x.id.toArray⟩ ∧ StrsP P w c3 x.cls ∧ AtsP P w c4 x.ats) ∧ NCells P w r t
  | _, _ => False
theorem NCells.split {P : Nat → Prop} {w : World} {xs : List Value} {x : Pl.Nd} {t : List Pl.Nd} (h : NCells P w xs (x :: t)) :
    ∃ c3 c4 r, xs = .int .i64 x.up :: .string ⟨x.tag.toArray⟩ :: .string ⟨x.id.toArray⟩ :: c3 :: c4 :: r ∧ StrsP P w c3 x.cls ∧ AtsP P w c4 x.ats ∧ NCells P w r t := by
  match xs, h with
  | c0 :: c1 :: c2 :: c3 :: c4 :: r, ⟨⟨h0, h1, h2, h3, h4⟩, h6⟩ => exact ⟨c3, c4, r, by rw [h0, h1, h2], h3, h4, h6⟩
theorem NCells.empty {P : Nat → Prop} {w : World} {xs : List Value} (h : NCells P w xs []) : xs = [] := by
  cases xs with
  | nil => rfl
  | cons c r => simp [NCells] at h
theorem NCells.to {P P' : Nat → Prop} {w w' : World} (hm : Mv P w P' w') (ns : List Pl.Nd) : ∀ xs, NCells P w xs ns → NCells P' w' xs ns := by
  induction ns with
  | nil => intro xs h; rw [h.empty]; trivial
  | cons x t ih =>
    intro xs h
    obtain ⟨c3, c4, r, rfl, h3, h4, h6⟩ := h.split
    exact ⟨⟨rfl, rfl, rfl, h3.to hm, h4.to hm⟩, ih r h6⟩
theorem NCells.append {P : Nat → Prop} {w : World} (ns : List Pl.Nd) : ∀ xs ys ms, NCells P w xs ns → NCells P w ys ms → NCells P w (xs ++ ys) (ns ++ ms) := by
  induction ns with
  | nil => intro xs ys ms h h2; rw [h.empty]; exact h2
  | cons x t ih =>
    intro xs ys ms h h2
    obtain ⟨c3, c4, r, rfl, h3, h4, h6⟩ := h.split
    exact ⟨⟨rfl, rfl, rfl, h3, h4⟩, ih r ys ms h6 h2⟩
theorem StrsP.from {B : Nat} {w : World} {v : Value} {ss : List (List UInt8)} (h : StrsFrom B w v ss) : StrsP (fun j => B ≤ j) w v ss := h
theorem AtsP.from {B : Nat} {w : World} {v : Value} {ss : List (List UInt8 × List UInt8)} (h : AtsFrom B w v ss) : AtsP (fun j => B ≤ j) w v ss := h
/-- the row of elements that is built, from block B on -/
def NRow (B : Nat) (w : World) (v : Value) (ns : List Pl.Nd) : Prop := ∃ xs, w.ownsRow B 47 5 v ns.length xs ∧ NCells (fun j => B ≤ j ∧ some j ≠ v.ownBlock) w xs ns
theorem NRow.nil (B : Nat) (w : World) : NRow B w (.slice none 0 0) [] := ⟨[], World.ownsRow_nil _ _ _ _, trivial⟩
theorem NRow.form {B : Nat} {w : World} {v : Value} {ns : List Pl.Nd} (h : NRow B w v ns) : ∃ a c, v = .slice a ns.length c := by
  obtain ⟨xs, ho, _⟩ := h
  exact own_form ho
theorem NRow.gb {B b : Nat} {w w' : World} {v : Value} {ns : List Pl.Nd} (h : NRow B w v ns) (hg : w.grownBy w' (some b)) (hb : b < B) : NRow B w' v ns := by
  obtain ⟨xs, ho, hc⟩ := h
  exact ⟨xs, own_gb ho hg hb, NCells.to (fun j hj hl => ⟨hj, hg.block j hl (by intro e; injection e with e; omega)⟩) ns xs hc⟩
theorem NRow.on {B : Nat} {w w' : World} {v : Value} {ns : List Pl.Nd} (h : NRow B w v ns) (hb : Below w.heap.size w w') : NRow B w' v ns := by
  obtain ⟨xs, ho, hc⟩ := h
  exact ⟨xs, own_on ho hb, NCells.to (fun j hj hl => ⟨hj, hb.block j hl⟩) ns xs hc⟩
theorem NRow.lt {B : Nat} {w : World} {v : Value} {ns : List Pl.Nd} (h : NRow B w v ns) : ∀ k, v.ownBlock = some k → B ≤ k ∧ k < w.heap.size := by
  obtain ⟨xs, ho, _⟩ := h
  exact fun k hk => World.ownsRow.lt ho k hk
theorem StrsP.ne2 {B : Nat} {w : World} {v : Value} {ss : List (List UInt8)} {g : Option Nat} (h : StrsP (fun j => B ≤ j ∧ some j ≠ g) w v ss) : StrsNe g w v ss := by
  obtain ⟨a, cap, rfl, h⟩ := h
  refine ⟨a, cap, rfl, ?_⟩
  rcases h with h | ⟨b, o, ha, hp, hc⟩
  · exact Or.inl h
  · exact Or.inr ⟨b, o, ha, hp.2, hc⟩
theorem AtsP.ne2 {B : Nat} {w : World} {v : Value} {ss : List (List UInt8 × List UInt8)} {g : Option Nat} (h : AtsP (fun j => B ≤ j ∧ some j ≠ g) w v ss) : AtsNe g w v ss := by
  obtain ⟨a, cap, rfl, h⟩ := h
  refine ⟨a, cap, rfl, ?_⟩
  rcases h with h | ⟨b, o, ha, hp, hc⟩
  · exact Or.inl h
  · exact Or.inr ⟨b, o, ha, hp.2, hc⟩
theorem NCells.cells {B : Nat} {w : World} {g : Option Nat} (ns : List Pl.Nd) : ∀ xs, NCells (fun j => B ≤ j ∧ some j ≠ g) w xs ns → CellsOf g w xs ns := by
  induction ns with
  | nil => intro xs h; rw [h.empty]; trivial
  | cons x t ih =>
    intro xs h
    obtain ⟨c3, c4, r, rfl, h3, h4, h6⟩ := h.split
    exact ⟨⟨rfl, rfl, rfl, h3.ne2, h4.ne2⟩, ih r h6⟩
theorem NRow.row {B : Nat} {w : World} {v : Value} {ns : List Pl.Nd} (h : NRow B w v ns) : Row B w v ns := by
  obtain ⟨xs, ho, hc⟩ := h
  exact ⟨xs, ho, NCells.cells ns xs hc⟩
/-- one element more, at the step that appends it -/
theorem wpList_nadd {ops : Array Oper} {rest : List Oper} {o : Oper} {a : Act} {Q : Exit → Act → World → Prop} {B : Nat} {w2 : World} {v : Value} {ns : List Pl.Nd} {x : Pl.Nd} {vc va : Value} (hgd : o.guard = none) (s t : Operand)
    (ho : o.op = .call { callee := .builtin .append, args := #[s, t], argTypes := #[22, 22] }) (hs : a.eval s = v) (hx : a.eval t = .slice (some ⟨w2.heap.size, 0, none⟩) 1 1)
    (hr : NRow B w2 v ns) (hlen : ns.length + 1 ≤ 64) (hB : B ≤ w2.heap.size) (hvc : StrsP (fun j => B ≤ j ∧ some j ≠ v.ownBlock) w2 vc x.cls) (hva : AtsP (fun j => B ≤ j ∧ some j ≠ v.ownBlock) w2 va x.ats)
    (h : ∀ g cap w', NRow B w' (.slice (some ⟨g, 0, none⟩) (ns.length + 1) cap) (ns ++ [x]) → (w2.alloc (.cells #[.int .i64 x.up, .string ⟨x.tag.toArray⟩, .string ⟨x.id.toArray⟩, vc, va] 47)).grownBy w' v.ownBlock → wpList Try.prog ops Q rest (a.put o.dst (.slice (some ⟨g, 0, none⟩) (ns.length + 1) cap)) w') :
    wpList Try.prog ops Q (o :: rest) a (w2.alloc (.cells #[.int .i64 x.up, .string ⟨x.tag.toArray⟩, .string ⟨x.id.toArray⟩, vc, va] 47)) := by
  obtain ⟨i0, hi, hz0, hz1, hz2⟩ := info_parts Try.info47
  obtain ⟨xs, hown, hcs⟩ := hr
  obtain ⟨_, _, e3, _⟩ := id hvc
  obtain ⟨_, _, e4, _⟩ := id hva
  have hm : Mv (fun j => B ≤ j ∧ some j ≠ v.ownBlock) w2 (fun j => B ≤ j ∧ some j ≠ v.ownBlock) (w2.alloc (.cells #[.int .i64 x.up, .string ⟨x.tag.toArray⟩, .string ⟨x.id.toArray⟩, vc, va] 47)) := fun j hj hl => ⟨hj, (on_alloc _ _).block j hl⟩
  refine wpList_append_lies _ hgd s t 22 ho B 47 i0 _ 5 88 Try.underlying22 hi hz0 hz1 hz2 rfl (by decide) v ns.length xs hs (own_on hown (on_alloc _ _)) ⟨w2.heap.size, 0, none⟩ 1 1 [.int .i64 x.up, .string ⟨x.tag.toArray⟩, .string ⟨x.id.toArray⟩, vc, va] hx rfl ?_ ?_ (by decide) (by unfold maxLen; omega) (by omega) (by simp; omega) _ rfl ?_
  · exact World.news_of_block (heap_alloc_new w2 _)
  · intro u hu
    simp only [List.mem_cons, List.not_mem_nil, or_false] at hu
    rcases hu with rfl | rfl | rfl | rfl | rfl
    · rfl
    · rfl
    · rfl
    · rw [e3]; rfl
    · rw [e4]; rfl
  · intro g cap w' h1 h2 h3 _
    refine h g cap w' ⟨_, by rw [List.length_append]; exact h1, ?_⟩ h2
    have hm2 : Mv (fun j => B ≤ j ∧ some j ≠ v.ownBlock) (w2.alloc (.cells #[.int .i64 x.up, .string ⟨x.tag.toArray⟩, .string ⟨x.id.toArray⟩, vc, va] 47)) (fun j => B ≤ j ∧ some j ≠ (Value.slice (some ⟨g, 0, none⟩) (ns.length + 1) cap).ownBlock) w' := by
      intro j hj hl
      refine ⟨⟨hj.1, fun e => ?_⟩, h2.block j hl hj.2⟩
      have e2 : j = g := by simpa [Value.ownBlock] using e
      rcases h3 with h | h
      · rw [h] at hj; exact hj.2 (by rw [e2])
      · omega
    exact NCells.append ns _ _ _ (NCells.to hm2 ns _ (NCells.to hm ns _ hcs)) ⟨⟨rfl, rfl, rfl, (hvc.to hm).to hm2, (hva.to hm).to hm2⟩, trivial⟩
end Go.Proofs.Ythlpcmgeelkncaa
