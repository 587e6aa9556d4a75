/-
  Rows in memory, whatever their elements; and how a row that is handed in is opened.
-/
import Derived.Test.YtagobgjlhdbhmaaGreatDoorMem
import Derived.Deep.SlicePairs
import Derived.SliceStrings
import Derived.ProofKit
import Derived.OpenShut
import Derived.KernelRfl
import Derived.Lib.SmallJoins
namespace Go.Proofs.YtagobgjlhdbhmaaGreatDoor
open Go.RowKit

/-- a row of elements of k cells each -/
def RowAt {β : Type} (E : World → Nat → Nat → β → Prop) (k : Nat) (w : World) (v : Value) (l : List β) : Prop :=
  ∃ a cap, v = .slice a l.length cap ∧ (l.length ≤ cap ∧ cap ≤ maxLen) ∧ (l = [] ∨ ∃ b o, a = some ⟨b, o, none⟩ ∧ ∀ i (h : i < l.length), E w b (o + i * k) l[i])
theorem RowAt.form {β : Type} {E : World → Nat → Nat → β → Prop} {k : Nat} {w : World} {v : Value} {l : List β} (h : RowAt E k w v l) : ∃ a c, v = .slice a l.length c := by
  obtain ⟨a, c, e, _⟩ := h
  exact ⟨a, c, e⟩
theorem RowAt.fit {β : Type} {E : World → Nat → Nat → β → Prop} {k : Nat} {w : World} {v : Value} {l : List β} (h : RowAt E k w v l) : l.length ≤ maxLen := by
  obtain ⟨_, _, _, h, _⟩ := h
  exact Nat.le_trans h.1 h.2
theorem RowAt.nil {β : Type} (E : World → Nat → Nat → β → Prop) (k : Nat) (w : World) : RowAt E k w (.slice none 0 0) [] := ⟨none, 0, rfl, by simp, Or.inl rfl⟩
theorem RowAt.map {β : Type} {E F : World → Nat → Nat → β → Prop} {k : Nat} {w w' : World} {v : Value} {l : List β} (h : RowAt E k w v l) (hm : ∀ b o x, E w b o x → F w' b o x) : RowAt F k w' v l := by
  obtain ⟨a, cap, e, hf, h⟩ := h
  refine ⟨a, cap, e, hf, ?_⟩
  rcases h with h | ⟨b, o, ha, hc⟩
  · exact Or.inl h
  · exact Or.inr ⟨b, o, ha, fun i hi => hm _ _ _ (hc i hi)⟩
theorem RowAt.at {β : Type} {E : World → Nat → Nat → β → Prop} {k : Nat} {w : World} {a : Option Addr} {n c : Nat} {l : List β} (h : RowAt E k w (.slice a n c) l) (h0 : 0 < l.length) : n = l.length ∧ ∃ b o, a = some ⟨b, o, none⟩ ∧ ∀ i (h : i < l.length), E w b (o + i * k) l[i] := by
  obtain ⟨a', c', e, _, h | ⟨b, o, ha, hc⟩⟩ := h
  · subst h; simp at h0
  · injection e with e1 e2 e3
    subst e1 e2 e3
    exact ⟨rfl, b, o, ha, hc⟩
end Go.Proofs.YtagobgjlhdbhmaaGreatDoor
/-
  Lists of paths, in plain form: level by level. A list that lies so deep holds paths whose tests hold lists that lie deeper; of the deepest nothing but the length is told.
-/
namespace Go.Proofs.YtagobgjlhdbhmaaGreatDoor
namespace Pl

/-- a test, a step, a path: over what their lists hold -/
structure Tst (α : Type) where
  kind : Int
  name : List UInt8
  value : List UInt8
  a : Int
  b : Int
  list : List α
deriving DecidableEq
structure Stp (α : Type) where
  tag : List UInt8
  tests : List (Tst α)
deriving DecidableEq
structure Pth (α : Type) where
  steps : List (Stp α)
  links : List Int
deriving DecidableEq
/-- the tests of all steps -/
def Pth.tests {α : Type} (p : Pth α) : List (Tst α) := p.steps.flatMap (·.tests)
def isKind (k : Int) : Bool := decide (1 ≤ k ∧ k ≤ 15)
def isLink (k : Int) : Bool := decide (1 ≤ k ∧ k ≤ 4)
def kName (k : Int) : Bool := decide (1 ≤ k ∧ k ≤ 8)
def kValue (k : Int) : Bool := decide (4 ≤ k ∧ k ≤ 8)
def kNth (k : Int) : Bool := decide (k = 9 ∨ k = 10)
def kList (k : Int) : Bool := decide (13 ≤ k ∧ k ≤ 15)
/-- whether there is as much as there may be -/
def pFits {α : Type} (p : Pth α) : Bool := decide (1 ≤ p.steps.length ∧ p.steps.length ≤ 5 ∧ p.links.length + 1 = p.steps.length) && p.steps.all fun s => decide (s.tests.length ≤ 6)
/-- f of every list within -/
def inner {α : Type} (f : List α → Bool) (p : Pth α) : Bool := p.tests.all fun t => !kList t.kind || f t.list
def fitUp {α : Type} (f : List α → Bool) (l : List (Pth α)) : Bool := decide (1 ≤ l.length ∧ l.length ≤ 5) && l.all fun p => pFits p && inner f p
/-- all paths are right, those of the lists within too -/
def evUp {α : Type} (r : Pth α → Bool) (f : List α → Bool) (l : List (Pth α)) : Bool := l.all fun p => r p && inner f p
def pKinds {α : Type} (p : Pth α) : Bool := p.links.all isLink && p.tests.all fun t => isKind t.kind
def asked (there right empty : Bool) : Bool := if there then right else empty
def tForm {α : Type} (isName isValue : List UInt8 → Bool) (t : Tst α) : Bool := asked (kName t.kind) (isName t.name) t.name.isEmpty && asked (kValue t.kind) (isValue t.value) t.value.isEmpty && (kNth t.kind || decide (t.a = 0 ∧ t.b = 0)) && (kList t.kind || decide (t.list.length = 0))
def pForm {α : Type} (isName isValue : List UInt8 → Bool) (p : Pth α) : Bool := (p.steps.all fun s => s.tag.isEmpty || isName s.tag) && p.tests.all (tForm isName isValue)
def pCounts {α : Type} (inB : Int → Int → Bool) (p : Pth α) : Bool := p.tests.all fun t => !kNth t.kind || inB t.a t.b
/-- the deepest, those above it, and a list that is handed in -/
abbrev D1 := Pth Unit
abbrev D2 := Pth D1
abbrev D3 := Pth D2
def fit3 : List D3 → Bool := fitUp (fitUp (fitUp fun _ => false))
end Pl
end Go.Proofs.YtagobgjlhdbhmaaGreatDoor
/-
  Lists of paths in memory, level by level; and how they are opened where they are handed in.
-/
namespace Go.Proofs.YtagobgjlhdbhmaaGreatDoor
open Go.RowKit

abbrev MemL (α : Type) := World → Value → List α → Prop
/-- what every level keeps to -/
structure IsL {α : Type} (A : MemL α) : Prop where
  form : ∀ {w v l}, A w v l → ∃ a c, v = .slice a l.length c ∧ l.length ≤ maxLen
  on : ∀ {w w' v l}, A w v l → Below w.heap.size w w' → A w' v l
  nil : ∀ w, A w (.slice none 0 0) []
def TstAt {α : Type} (A : MemL α) (w : World) (b o : Nat) (t : Pl.Tst α) : Prop :=
  ∃ v, w.cell? ⟨b, o, none⟩ = some (.int .i64 t.kind) ∧ w.cell? ⟨b, o + 1, none⟩ = some (.string ⟨t.name.toArray⟩) ∧ w.cell? ⟨b, o + 2, none⟩ = some (.string ⟨t.value.toArray⟩) ∧ w.cell? ⟨b, o + 3, none⟩ = some (.int .i64 t.a) ∧ w.cell? ⟨b, o + 4, none⟩ = some (.int .i64 t.b) ∧ w.cell? ⟨b, o + 5, none⟩ = some v ∧ A w v t.list
def StpAt {α : Type} (A : MemL α) (w : World) (b o : Nat) (s : Pl.Stp α) : Prop :=
  ∃ v, w.cell? ⟨b, o, none⟩ = some (.string ⟨s.tag.toArray⟩) ∧ w.cell? ⟨b, o + 1, none⟩ = some v ∧ RowAt (TstAt A) 6 w v s.tests
def IntAt (w : World) (b o : Nat) (k : Int) : Prop := w.cell? ⟨b, o, none⟩ = some (.int .i64 k)
def PthAt {α : Type} (A : MemL α) (w : World) (b o : Nat) (p : Pl.Pth α) : Prop :=
  ∃ v u, w.cell? ⟨b, o, none⟩ = some v ∧ w.cell? ⟨b, o + 1, none⟩ = some u ∧ RowAt (StpAt A) 2 w v p.steps ∧ RowAt IntAt 1 w u p.links
def LstAt {α : Type} (A : MemL α) : MemL (Pl.Pth α) := RowAt (PthAt A) 2
def ZAt : MemL Unit := fun _ v l => ∃ a c, v = .slice a l.length c ∧ l.length ≤ maxLen
/-- as values -/
def TstV {α : Type} (A : MemL α) (w : World) (x : Value) (t : Pl.Tst α) : Prop := ∃ v, x = .agg #[.int .i64 t.kind, .string ⟨t.name.toArray⟩, .string ⟨t.value.toArray⟩, .int .i64 t.a, .int .i64 t.b, v] ∧ A w v t.list
def PthV {α : Type} (A : MemL α) (w : World) (x : Value) (p : Pl.Pth α) : Prop := ∃ v u, x = .agg #[v, u] ∧ RowAt (StpAt A) 2 w v p.steps ∧ RowAt IntAt 1 w u p.links
theorem TstAt.on {α : Type} {A : MemL α} (hA : IsL A) {w w' : World} {b o : Nat} {t : Pl.Tst α} (h : TstAt A w b o t) (hb : Below w.heap.size w w') : TstAt A w' b o t := by
  obtain ⟨v, h0, h1, h2, h3, h4, h5, h6⟩ := h
  exact ⟨v, cell_on hb h0, cell_on hb h1, cell_on hb h2, cell_on hb h3, cell_on hb h4, cell_on hb h5, hA.on h6 hb⟩
theorem StpAt.on {α : Type} {A : MemL α} (hA : IsL A) {w w' : World} {b o : Nat} {s : Pl.Stp α} (h : StpAt A w b o s) (hb : Below w.heap.size w w') : StpAt A w' b o s := by
  obtain ⟨v, h0, h1, h2⟩ := h
  exact ⟨v, cell_on hb h0, cell_on hb h1, h2.map fun b o x hx => hx.on hA hb⟩
theorem PthAt.on {α : Type} {A : MemL α} (hA : IsL A) {w w' : World} {b o : Nat} {p : Pl.Pth α} (h : PthAt A w b o p) (hb : Below w.heap.size w w') : PthAt A w' b o p := by
  obtain ⟨v, u, h0, h1, h2, h3⟩ := h
  exact ⟨v, u, cell_on hb h0, cell_on hb h1, h2.map fun b o x hx => hx.on hA hb, h3.map fun b o x hx => cell_on hb hx⟩
theorem isL_z : IsL ZAt := ⟨fun h => h, fun h _ => h, fun _ => ⟨none, 0, rfl, by simp⟩⟩
theorem isL_up {α : Type} {A : MemL α} (hA : IsL A) : IsL (LstAt A) where
  form h := by
    obtain ⟨a, c, e, hf, _⟩ := h
    exact ⟨a, c, e, Nat.le_trans hf.1 hf.2⟩
  on h hb := RowAt.map h fun b o x hx => PthAt.on hA hx hb
  nil w := RowAt.nil _ _ w
theorem cl9 : Tryz.prog.cellsOf 9 = 1 := by kernel_rfl
theorem cl3 : Tryz.prog.cellsOf 3 = 1 := by kernel_rfl
instance {α : Type} : Inhabited (Pl.Tst α) := ⟨⟨0, [], [], 0, 0, []⟩⟩
instance {α : Type} : Inhabited (Pl.Stp α) := ⟨⟨[], []⟩⟩
instance {α : Type} : Inhabited (Pl.Pth α) := ⟨⟨[], []⟩⟩
section
variable {H : Type} {enc : TypeId × Value → H} {W : World} {held : Bool} {fuel : Nat} {cs : List Value} {x : DataW H × List MemPlace}
end
/-- the three levels -/
abbrev A1 : MemL Pl.D1 := LstAt ZAt
abbrev A2 : MemL Pl.D2 := LstAt A1
abbrev A3 : MemL Pl.D3 := LstAt A2
theorem isL_1 : IsL A1 := isL_up isL_z
theorem isL_2 : IsL A2 := isL_up isL_1
theorem isL_3 : IsL A3 := isL_up isL_2
end Go.Proofs.YtagobgjlhdbhmaaGreatDoor
