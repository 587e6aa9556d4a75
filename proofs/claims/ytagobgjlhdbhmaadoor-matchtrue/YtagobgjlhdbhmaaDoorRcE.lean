/-
  The document's own check of a list of paths: what is too much.
-/
import Derived.Test.YtagobgjlhdbhmaaDoorLvM
import Derived.Test.YtagobgjlhdbhmaaDoorRefN
namespace Go.Proofs.YtagobgjlhdbhmaaDoor
open Go.RowKit

theorem kName_within (k : Int) : within k 1 8 = Pl.kName k := by simp [within, Pl.kName, Bool.decide_and]
theorem kValue_within (k : Int) : within k 4 8 = Pl.kValue k := by simp [within, Pl.kValue, Bool.decide_and]
theorem kList_within (k : Int) : within k 13 15 = Pl.kList k := by simp [within, Pl.kList, Bool.decide_and]
theorem all_next {β : Type} {l : List β} {p : β → Bool} {i : Nat} (h : i < l.length) (ht : (l.take i).all p = true) (hp : p l[i] = true) : (l.take (i + 1)).all p = true := by
  rw [List.take_succ_eq_append_getElem h, List.all_append, ht]
  simp [hp]
theorem all_done {β : Type} {l : List β} {p : β → Bool} {i : Nat} (h : ¬ i < l.length) (ht : (l.take i).all p = true) : l.all p = true := by
  rwa [List.take_of_length_le (by omega)] at ht
theorem all_bad {β : Type} {l : List β} {p : β → Bool} {i : Nat} (h : i < l.length) (hp : p l[i] = false) : l.all p = false := by
  rw [List.all_eq_false]
  exact ⟨l[i], List.getElem_mem h, by simp [hp]⟩
theorem Blk2p.new (w : World) (u v : Value) : (w.alloc (.cells #[u, v] 59)).cell? ⟨w.heap.size, 0, none⟩ = some u ∧ (w.alloc (.cells #[u, v] 59)).cell? ⟨w.heap.size, 1, none⟩ = some v := by
  constructor <;> simp [go_sem]
theorem Blk6p.new (w : World) (u0 u1 u2 u3 u4 u5 : Value) : (w.alloc (.cells #[u0, u1, u2, u3, u4, u5] 34)).cell? ⟨w.heap.size, 0, none⟩ = some u0 ∧ (w.alloc (.cells #[u0, u1, u2, u3, u4, u5] 34)).cell? ⟨w.heap.size, 5, none⟩ = some u5 := by
  constructor <;> simp [go_sem]
/-- what fits, in the order in which it is asked -/
def fitT {α : Type} (f : List α → Bool) (t : Pl.Tst α) : Bool := !Pl.kList t.kind || f t.list
def fitS {α : Type} (f : List α → Bool) (s : Pl.Stp α) : Bool := decide (s.tests.length ≤ 6) && s.tests.all (fitT f)
def fitP {α : Type} (f : List α → Bool) (p : Pl.Pth α) : Bool := decide (1 ≤ p.steps.length ∧ p.steps.length ≤ 5 ∧ p.links.length + 1 = p.steps.length) && p.steps.all (fitS f)
theorem fit_eq {α : Type} (f : List α → Bool) (l : List (Pl.Pth α)) : Pl.fitUp f l = (decide (1 ≤ l.length ∧ l.length ≤ 5) && l.all (fitP f)) := by
  have e : (fun p => Pl.pFits p && Pl.inner f p) = fitP f := by
    funext p
    unfold Pl.pFits Pl.inner fitP Pl.Pth.tests
    rw [List.all_flatMap, Bool.and_assoc]
    congr 1
    rw [Bool.eq_iff_iff]
    simp only [Bool.and_eq_true, List.all_eq_true]
    constructor
    · rintro ⟨h1, h2⟩ s hs
      unfold fitS
      rw [h1 s hs, Bool.true_and, List.all_eq_true]
      exact h2 s hs
    · intro h
      refine ⟨fun s hs => ?_, fun s hs t ht => ?_⟩
      · have := h s hs
        unfold fitS at this
        rw [Bool.and_eq_true] at this
        exact this.1
      · have := h s hs
        unfold fitS at this
        rw [Bool.and_eq_true, List.all_eq_true] at this
        exact this.2 t ht
  unfold Pl.fitUp
  rw [e]
end Go.Proofs.YtagobgjlhdbhmaaDoor
/-
  The document's own check of a list of paths: its kinds.
-/
namespace Go.Proofs.YtagobgjlhdbhmaaDoor
open Go.RowKit

theorem isLink_within (k : Int) : within k 1 4 = Pl.isLink k := by simp [within, Pl.isLink, Bool.decide_and]
theorem isKind_within (k : Int) : within k 1 15 = Pl.isKind k := by simp [within, Pl.isKind, Bool.decide_and]
/-- f of all tests, step by step -/
theorem tests_all {α : Type} (p : Pl.Pth α) (f : Pl.Tst α → Bool) : p.tests.all f = p.steps.all fun s => s.tests.all f := by
  unfold Pl.Pth.tests
  rw [List.all_flatMap]
theorem all_and {β : Type} (l : List β) (f g : β → Bool) : (l.all f && l.all g) = l.all fun x => f x && g x := by
  rw [Bool.eq_iff_iff]
  simp only [Bool.and_eq_true, List.all_eq_true]
  exact ⟨fun h x hx => ⟨h.1 x hx, h.2 x hx⟩, fun h => ⟨fun x hx => (h x hx).1, fun x hx => (h x hx).2⟩⟩
/-- of every list within -/
def Inner {α : Type} (ok : List α → Prop) (l : List (Pl.Pth α)) : Prop := ∀ p ∈ l, ∀ s ∈ p.steps, ∀ t ∈ s.tests, Pl.kList t.kind = true → ok t.list
def kindT {α : Type} (g : List α → Bool) (t : Pl.Tst α) : Bool := Pl.isKind t.kind && (!Pl.kList t.kind || g t.list)
def kindS {α : Type} (g : List α → Bool) (s : Pl.Stp α) : Bool := s.tests.all (kindT g)
def kindP {α : Type} (g : List α → Bool) (p : Pl.Pth α) : Bool := p.links.all Pl.isLink && p.steps.all (kindS g)
theorem kind_eq {α : Type} (g : List α → Bool) (l : List (Pl.Pth α)) : Pl.evUp Pl.pKinds g l = l.all (kindP g) := by
  have e : (fun p => Pl.pKinds p && Pl.inner g p) = kindP g := by
    funext p
    unfold Pl.pKinds Pl.inner kindP kindS
    rw [Bool.and_assoc, all_and, tests_all]
    rfl
  unfold Pl.evUp
  rw [e]
end Go.Proofs.YtagobgjlhdbhmaaDoor
/-
  The document's own check of a list of paths: its forms.
-/
namespace Go.Proofs.YtagobgjlhdbhmaaDoor
open Go.RowKit

abbrev tF {α : Type} (t : Pl.Tst α) : Bool := Pl.tForm Pl.isName Pl.isValue t
def formT {α : Type} (g : List α → Bool) (t : Pl.Tst α) : Bool := tF t && (!Pl.kList t.kind || g t.list)
def formS {α : Type} (g : List α → Bool) (s : Pl.Stp α) : Bool := (s.tag.isEmpty || Pl.isName s.tag) && s.tests.all (formT g)
def formP {α : Type} (g : List α → Bool) (p : Pl.Pth α) : Bool := p.steps.all (formS g)
theorem form_eq {α : Type} (g : List α → Bool) (l : List (Pl.Pth α)) : Pl.evUp (Pl.pForm Pl.isName Pl.isValue) g l = l.all (formP g) := by
  have e : (fun p => Pl.pForm Pl.isName Pl.isValue p && Pl.inner g p) = formP g := by
    funext p
    unfold Pl.pForm Pl.inner formP
    rw [Bool.and_assoc, all_and, tests_all, all_and]
    rfl
  unfold Pl.evUp
  rw [e]
theorem asked_yes {there right empty : Bool} (h : Pl.asked there right empty = true) : (there = true ∧ right = true) ∨ (there = false ∧ empty = true) := by
  unfold Pl.asked at h
  cases there <;> simp_all
theorem asked_no {there right empty : Bool} (h : Pl.asked there right empty = false) : (there = true ∧ right = false) ∨ (there = false ∧ empty = false) := by
  unfold Pl.asked at h
  cases there <;> simp_all
theorem Blk2s.new (w : World) (u v : Value) : (w.alloc (.cells #[u, v] 56)).cell? ⟨w.heap.size, 0, none⟩ = some u ∧ (w.alloc (.cells #[u, v] 56)).cell? ⟨w.heap.size, 1, none⟩ = some v := by
  constructor <;> simp [go_sem]
theorem Blk6q.new (w : World) (u0 u1 u2 u3 u4 u5 : Value) : (w.alloc (.cells #[u0, u1, u2, u3, u4, u5] 34)).cell? ⟨w.heap.size, 1, none⟩ = some u1 ∧ (w.alloc (.cells #[u0, u1, u2, u3, u4, u5] 34)).cell? ⟨w.heap.size, 2, none⟩ = some u2 ∧ (w.alloc (.cells #[u0, u1, u2, u3, u4, u5] 34)).cell? ⟨w.heap.size, 3, none⟩ = some u3 ∧ (w.alloc (.cells #[u0, u1, u2, u3, u4, u5] 34)).cell? ⟨w.heap.size, 4, none⟩ = some u4 := by
  refine ⟨?_, ?_, ?_, ?_⟩ <;> simp [go_sem]
end Go.Proofs.YtagobgjlhdbhmaaDoor
/-
  The document's own check of a list of paths: its counts.
-/
namespace Go.Proofs.YtagobgjlhdbhmaaDoor
open Go.RowKit

def nB (a b : Int) : Bool := within a (-1048576) 1048576 && within b (-1048576) 1048576
def nErr (a b : Int) : Int := if nB a b = true then 0 else 3
theorem nErr_ok {a b : Int} (h : nB a b = true) : nErr a b = 0 := by unfold nErr; rw [if_pos h]
theorem nErr_no {a b : Int} (h : nB a b = false) : nErr a b = 3 := by unfold nErr; rw [h]; rfl
theorem Blk2n.new (w : World) (u v : Value) : (w.alloc (.cells #[u, v] 32)).cell? ⟨w.heap.size, 0, none⟩ = some u ∧ (w.alloc (.cells #[u, v] 32)).cell? ⟨w.heap.size, 1, none⟩ = some v := by
  constructor <;> simp [go_sem]
theorem Blk6r.new (w : World) (u0 u1 u2 u3 u4 u5 : Value) : (w.alloc (.cells #[u0, u1, u2, u3, u4, u5] 34)).cell? ⟨w.heap.size, 3, none⟩ = some u3 ∧ (w.alloc (.cells #[u0, u1, u2, u3, u4, u5] 34)).cell? ⟨w.heap.size, 4, none⟩ = some u4 := by
  constructor <;> simp [go_sem]
/-- of every list within, asked for or not -/
def InnerA {α : Type} (ok : List α → Prop) (l : List (Pl.Pth α)) : Prop := ∀ p ∈ l, ∀ s ∈ p.steps, ∀ t ∈ s.tests, ok t.list
def nthT {α : Type} (g : List α → Bool) (t : Pl.Tst α) : Bool := nB t.a t.b && g t.list
def nthS {α : Type} (g : List α → Bool) (s : Pl.Stp α) : Bool := s.tests.all (nthT g)
def nthP {α : Type} (g : List α → Bool) (p : Pl.Pth α) : Bool := p.steps.all (nthS g)
def nthL {α : Type} (g : List α → Bool) (l : List (Pl.Pth α)) : Bool := l.all (nthP g)
end Go.Proofs.YtagobgjlhdbhmaaDoor
/-
  The document's own check of a list of paths.
-/
namespace Go.Proofs.YtagobgjlhdbhmaaDoor
open Go.RowKit

namespace Pl
def kind3 : List D3 → Bool := evUp pKinds (evUp pKinds (evUp pKinds fun _ => true))
def form3 : List D3 → Bool := evUp (pForm isName isValue) (evUp (pForm isName isValue) (evUp (pForm isName isValue) fun _ => true))
/-- which fault a list has -/
def pick4 (a b c d : Bool) : Int := if a then (if b then (if c then (if d then 0 else 3) else 1) else 4) else 2
end Pl
def nth3 : List Pl.D3 → Bool := nthL (nthL (nthL fun _ => true))
def chkList (l : List Pl.D3) : Int := Pl.pick4 (Pl.fit3 l) (Pl.kind3 l) (Pl.form3 l) (nth3 l)
theorem inner_fit {α : Type} {f : List α → Bool} {ok : List α → Prop} {l : List (Pl.Pth α)} (h : Pl.fitUp f l = true) (hf : ∀ l, f l = true → ok l) : Inner ok l := by
  intro p hp s hs t ht hk
  rw [fit_eq, Bool.and_eq_true, List.all_eq_true] at h
  have h1 := h.2 p hp
  unfold fitP at h1
  rw [Bool.and_eq_true, List.all_eq_true] at h1
  have h2 := h1.2 s hs
  unfold fitS at h2
  rw [Bool.and_eq_true, List.all_eq_true] at h2
  have h3 := h2.2 t ht
  unfold fitT at h3
  rw [hk] at h3
  exact hf _ h3
/-- where the forms are right, a list stands only where one is asked for -/
theorem inner_form {α : Type} {g : List α → Bool} {ok : List α → Prop} {l : List (Pl.Pth α)} (h : Pl.evUp (Pl.pForm Pl.isName Pl.isValue) g l = true) (h0 : ok []) (hin : Inner (fun l => g l = true → ok l) l) : InnerA ok l := by
  intro p hp s hs t ht
  rw [form_eq, List.all_eq_true] at h
  have h1 := h p hp
  unfold formP at h1
  rw [List.all_eq_true] at h1
  have h2 := h1 s hs
  unfold formS at h2
  rw [Bool.and_eq_true, List.all_eq_true] at h2
  have h3 := h2.2 t ht
  unfold formT tF Pl.tForm at h3
  simp only [Bool.and_eq_true] at h3
  cases hk : Pl.kList t.kind with
  | true =>
    have := h3.2
    rw [hk] at this
    exact hin p hp s hs t ht hk this
  | false =>
    have := h3.1.2
    rw [hk] at this
    have hz : t.list.length = 0 := by simpa using this
    rw [List.length_eq_zero_iff.1 hz]
    exact h0
/-- the lists that may stand at each level, where all else is right -/
def okN1 (l : List Pl.D1) : Prop := InnerA (fun l => l = []) l
def okN2 (l : List Pl.D2) : Prop := InnerA okN1 l
theorem okN1_of {l : List Pl.D1} (hf : Pl.fitUp (fun _ => false) l = true) (hg : Pl.evUp (Pl.pForm Pl.isName Pl.isValue) (fun _ => true) l = true) : okN1 l :=
  inner_form hg rfl (inner_fit hf fun _ hx => by cases hx)
theorem okN2_of {l : List Pl.D2} (hf : Pl.fitUp (Pl.fitUp fun _ => false) l = true) (hg : Pl.evUp (Pl.pForm Pl.isName Pl.isValue) (Pl.evUp (Pl.pForm Pl.isName Pl.isValue) fun _ => true) l = true) : okN2 l :=
  inner_form hg (fun _ h => by cases h) (inner_fit hf fun _ hx hy => okN1_of hx hy)
theorem okN3_of {l : List Pl.D3} (hf : Pl.fit3 l = true) (hg : Pl.form3 l = true) : InnerA okN2 l :=
  inner_form hg (fun _ h => by cases h) (inner_fit hf fun _ hx hy => okN2_of hx hy)
end Go.Proofs.YtagobgjlhdbhmaaDoor
