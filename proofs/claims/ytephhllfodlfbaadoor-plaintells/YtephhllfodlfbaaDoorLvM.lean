/-
  Rows in memory, whatever their elements; and how a row that is handed in is opened.
-/
import Derived.Test.YtephhllfodlfbaaDoorMem
import Derived.Deep.SlicePairs
import Derived.SliceStrings
import Derived.ProofKit
import Derived.OpenShut
import Derived.KernelRfl
import Derived.Lib.SmallJoins
namespace Go.Proofs.YtephhllfodlfbaaDoor
open Go.RowKit

/-- a row of elements of k cells each -/
def RowAt {β : Type} (E : World → Nat → Nat → β → Prop) (k : Nat) (w : World) (v : Value) (l : List β) : Prop :=
  ∃ a cap, v = .slice a l.length cap ∧ (l.length ≤ cap ∧ cap ≤ maxLen) ∧ (l = [] ∨ ∃ b o, a = some ⟨b, o, none⟩ ∧ ∀ i (h : i < l.length), E w b (o + i * k) l[i])
theorem RowAt.form {β : Type} {E : World → Nat → Nat → β → Prop} {k : Nat} {w : World} {v : Value} {l : List β} (h : RowAt E k w v l) : ∃ a c, v = .slice a l.length c := by
  obtain ⟨a, c, e, _⟩ := h
  exact ⟨a, c, e⟩
theorem RowAt.fit {β : Type} {E : World → Nat → Nat → β → Prop} {k : Nat} {w : World} {v : Value} {l : List β} (h : RowAt E k w v l) : l.length ≤ maxLen := by
  obtain ⟨_, _, _, h, _⟩ := h
  exact Nat.le_trans h.1 h.2
theorem RowAt.nil {β : Type} (E : World → Nat → Nat → β → Prop) (k : Nat) (w : World) : RowAt E k w (.slice none 0 0) [] := ⟨none, 0, rfl, by simp, Or.inl rfl⟩
theorem RowAt.map {β : Type} {E F : World → Nat → Nat → β → Prop} {k : Nat} {w w' : World} {v : Value} {l : List β} (h : RowAt E k w v l) (hm : ∀ b o x, E w b o x → F w' b o x) : RowAt F k w' v l := by
  obtain ⟨a, cap, e, hf, h⟩ := h
  refine ⟨a, cap, e, hf, ?_⟩
  rcases h with h | ⟨b, o, ha, hc⟩
  · exact Or.inl h
  · exact Or.inr ⟨b, o, ha, fun i hi => hm _ _ _ (hc i hi)⟩
theorem RowAt.at {β : Type} {E : World → Nat → Nat → β → Prop} {k : Nat} {w : World} {a : Option Addr} {n c : Nat} {l : List β} (h : RowAt E k w (.slice a n c) l) (h0 : 0 < l.length) : n = l.length ∧ ∃ b o, a = some ⟨b, o, none⟩ ∧ ∀ i (h : i < l.length), E w b (o + i * k) l[i] := by
  obtain ⟨a', c', e, _, h | ⟨b, o, ha, hc⟩⟩ := h
  · subst h; simp at h0
  · injection e with e1 e2 e3
    subst e1 e2 e3
    exact ⟨rfl, b, o, ha, hc⟩
theorem cell_addr {W : World} {a : Addr} {v : Value} (h : W.cell? a = some v) : a = ⟨a.block, a.off, none⟩ := by
  obtain ⟨b, o, s⟩ := a
  cases s with
  | none => rfl
  | some s =>
    exfalso
    unfold World.cell? at h
    split at h
    · simp at h
    · cases h
theorem addr_zero (a : Addr) : a.add 0 = a := by unfold Addr.add; simp
/-- a row that is handed in: by how its elements are opened -/
theorem row_open {β : Type} [Inhabited β] {H : Type} {enc : TypeId × Value → H} {P : Program} {W : World} {held : Bool} {t e : TypeId} {k : Nat} {E : World → Nat → Nat → β → Prop} (ht : P.underlying t = some (.slice e)) (hk : P.cellsOf e = k) (hk0 : 0 < k) {fuel : Nat}
    (hE : ∀ n cs y b o, n < fuel → cs.length = k → (∀ i, i < k → W.cell? ⟨b, o + i, none⟩ = cs[i]?) → DataW.trod enc P W 0 (fun _ => true) held n e cs = some y → ∃ x, E W b o x)
    {cs : List Value} {x : DataW H × List MemPlace} (h : DataW.trod enc P W 0 (fun _ => true) held fuel t cs = some x) : ∃ v l, cs = [v] ∧ RowAt E k W v l := by
  rcases DataW.trod_slice ht h with ⟨rfl, _⟩ | ⟨a, len, cap, elems, rest, n, hfu, rfl, _, _, hl, hm, hlen, hel, _, _⟩
  · exact ⟨_, [], rfl, RowAt.nil E k W⟩
  · rcases Nat.eq_zero_or_pos len with h0 | h0
    · subst h0
      exact ⟨_, [], rfl, some a, cap, rfl, ⟨by simp, by omega⟩, Or.inl rfl⟩
    have hcell : ∀ i, i < len → ∃ cs' : List Value, (∀ j, j < k → W.cell? ((a.add (i * k)).add j) = cs'[j]?) ∧ cs'.length = k ∧ ∃ y, DataW.trod enc P W 0 (fun _ => true) held n e cs' = some y := by
      intro i hi
      have h1 := hel i hi
      rw [List.getElem?_eq_getElem (by omega), hk, Option.bind_eq_some_iff] at h1
      obtain ⟨cs', h2, h3⟩ := h1
      obtain ⟨_, h4, h5⟩ := World.cells?_some h2
      exact ⟨cs', fun j hj => h5 j hj, h4, _, h3⟩
    have ha : a = ⟨a.block, a.off, none⟩ := by
      obtain ⟨cs', h1, h2, _⟩ := hcell 0 h0
      have h3 := h1 0 (by omega)
      rw [Nat.zero_mul, addr_zero, addr_zero, List.getElem?_eq_getElem (by omega)] at h3
      exact cell_addr h3
    have hex : ∀ i, i < len → ∃ x, E W a.block (a.off + i * k) x := by
      intro i hi
      obtain ⟨cs', h1, h2, y, h3⟩ := hcell i hi
      refine hE n cs' y _ _ (by omega) h2 (fun j hj => ?_) h3
      have := h1 j hj
      rw [ha, Addr.add_lit, Addr.add_lit] at this
      exact this
    obtain ⟨f, hf⟩ := Deep.choose_lt hex
    have hL : ((List.range len).map f).length = len := by simp
    refine ⟨_, (List.range len).map f, rfl, some a, cap, by rw [hL], by omega, Or.inr ⟨a.block, a.off, by rw [← ha], fun i hi => ?_⟩⟩
    rw [hL] at hi
    simp only [List.getElem_map, List.getElem_range]
    exact hf i hi
end Go.Proofs.YtephhllfodlfbaaDoor
/-
  Lists of paths, in plain form: level by level. A list that lies so deep holds paths whose tests hold lists that lie deeper; of the deepest nothing but the length is told.
-/
namespace Go.Proofs.YtephhllfodlfbaaDoor
namespace Pl

/-- a test, a step, a path: over what their lists hold -/
structure Tst (α : Type) where
  kind : Int
  name : List UInt8
  value : List UInt8
  a : Int
  b : Int
  list : List α
deriving DecidableEq
structure Stp (α : Type) where
  tag : List UInt8
  tests : List (Tst α)
deriving DecidableEq
structure Pth (α : Type) where
  steps : List (Stp α)
  links : List Int
deriving DecidableEq
/-- the tests of all steps -/
def Pth.tests {α : Type} (p : Pth α) : List (Tst α) := p.steps.flatMap (·.tests)
def isKind (k : Int) : Bool := decide (1 ≤ k ∧ k ≤ 15)
def isLink (k : Int) : Bool := decide (1 ≤ k ∧ k ≤ 4)
def kName (k : Int) : Bool := decide (1 ≤ k ∧ k ≤ 8)
def kValue (k : Int) : Bool := decide (4 ≤ k ∧ k ≤ 8)
def kNth (k : Int) : Bool := decide (k = 9 ∨ k = 10)
def kList (k : Int) : Bool := decide (13 ≤ k ∧ k ≤ 15)
/-- whether there is as much as there may be -/
def pFits {α : Type} (p : Pth α) : Bool := decide (1 ≤ p.steps.length ∧ p.steps.length ≤ 5 ∧ p.links.length + 1 = p.steps.length) && p.steps.all fun s => decide (s.tests.length ≤ 6)
/-- f of every list within -/
def inner {α : Type} (f : List α → Bool) (p : Pth α) : Bool := p.tests.all fun t => !kList t.kind || f t.list
def fitUp {α : Type} (f : List α → Bool) (l : List (Pth α)) : Bool := decide (1 ≤ l.length ∧ l.length ≤ 5) && l.all fun p => pFits p && inner f p
/-- all paths are right, those of the lists within too -/
def evUp {α : Type} (r : Pth α → Bool) (f : List α → Bool) (l : List (Pth α)) : Bool := l.all fun p => r p && inner f p
def pKinds {α : Type} (p : Pth α) : Bool := p.links.all isLink && p.tests.all fun t => isKind t.kind
def asked (there right empty : Bool) : Bool := if there then right else empty
def tForm {α : Type} (isName isValue : List UInt8 → Bool) (t : Tst α) : Bool := asked (kName t.kind) (isName t.name) t.name.isEmpty && asked (kValue t.kind) (isValue t.value) t.value.isEmpty && (kNth t.kind || decide (t.a = 0 ∧ t.b = 0)) && (kList t.kind || decide (t.list.length = 0))
def pForm {α : Type} (isName isValue : List UInt8 → Bool) (p : Pth α) : Bool := (p.steps.all fun s => s.tag.isEmpty || isName s.tag) && p.tests.all (tForm isName isValue)
def pCounts {α : Type} (inB : Int → Int → Bool) (p : Pth α) : Bool := p.tests.all fun t => !kNth t.kind || inB t.a t.b
/-- the deepest, those above it, and a list that is handed in -/
abbrev D1 := Pth Unit
abbrev D2 := Pth D1
abbrev D3 := Pth D2
def fit3 : List D3 → Bool := fitUp (fitUp (fitUp fun _ => false))
end Pl
end Go.Proofs.YtephhllfodlfbaaDoor
/-
  Lists of paths in memory, level by level; and how they are opened where they are handed in.
-/
namespace Go.Proofs.YtephhllfodlfbaaDoor
open Go.RowKit

abbrev MemL (α : Type) := World → Value → List α → Prop
/-- what every level keeps to -/
structure IsL {α : Type} (A : MemL α) : Prop where
  form : ∀ {w v l}, A w v l → ∃ a c, v = .slice a l.length c ∧ l.length ≤ maxLen
  on : ∀ {w w' v l}, A w v l → Below w.heap.size w w' → A w' v l
  nil : ∀ w, A w (.slice none 0 0) []
def TstAt {α : Type} (A : MemL α) (w : World) (b o : Nat) (t : Pl.Tst α) : Prop :=
  ∃ v, w.cell? ⟨b, o, none⟩ = some (.int .i64 t.kind) ∧ w.cell? ⟨b, o + 1, none⟩ = some (.string ⟨t.name.toArray⟩) ∧ w.cell? ⟨b, o + 2, none⟩ = some (.string ⟨t.value.toArray⟩) ∧ w.cell? ⟨b, o + 3, none⟩ = some (.int .i64 t.a) ∧ w.cell? ⟨b, o + 4, none⟩ = some (.int .i64 t.b) ∧ w.cell? ⟨b, o + 5, none⟩ = some v ∧ A w v t.list
def StpAt {α : Type} (A : MemL α) (w : World) (b o : Nat) (s : Pl.Stp α) : Prop :=
  ∃ v, w.cell? ⟨b, o, none⟩ = some (.string ⟨s.tag.toArray⟩) ∧ w.cell? ⟨b, o + 1, none⟩ = some v ∧ RowAt (TstAt A) 6 w v s.tests
def IntAt (w : World) (b o : Nat) (k : Int) : Prop := w.cell? ⟨b, o, none⟩ = some (.int .i64 k)
def PthAt {α : Type} (A : MemL α) (w : World) (b o : Nat) (p : Pl.Pth α) : Prop :=
  ∃ v u, w.cell? ⟨b, o, none⟩ = some v ∧ w.cell? ⟨b, o + 1, none⟩ = some u ∧ RowAt (StpAt A) 2 w v p.steps ∧ RowAt IntAt 1 w u p.links
def LstAt {α : Type} (A : MemL α) : MemL (Pl.Pth α) := RowAt (PthAt A) 2
def ZAt : MemL Unit := fun _ v l => ∃ a c, v = .slice a l.length c ∧ l.length ≤ c ∧ c ≤ maxLen
/-- as values -/
def TstV {α : Type} (A : MemL α) (w : World) (x : Value) (t : Pl.Tst α) : Prop := ∃ v, x = .agg #[.int .i64 t.kind, .string ⟨t.name.toArray⟩, .string ⟨t.value.toArray⟩, .int .i64 t.a, .int .i64 t.b, v] ∧ A w v t.list
def StpV {α : Type} (A : MemL α) (w : World) (x : Value) (s : Pl.Stp α) : Prop := ∃ v, x = .agg #[.string ⟨s.tag.toArray⟩, v] ∧ RowAt (TstAt A) 6 w v s.tests
def PthV {α : Type} (A : MemL α) (w : World) (x : Value) (p : Pl.Pth α) : Prop := ∃ v u, x = .agg #[v, u] ∧ RowAt (StpAt A) 2 w v p.steps ∧ RowAt IntAt 1 w u p.links
theorem TstAt.on {α : Type} {A : MemL α} (hA : IsL A) {w w' : World} {b o : Nat} {t : Pl.Tst α} (h : TstAt A w b o t) (hb : Below w.heap.size w w') : TstAt A w' b o t := by
  obtain ⟨v, h0, h1, h2, h3, h4, h5, h6⟩ := h
  exact ⟨v, cell_on hb h0, cell_on hb h1, cell_on hb h2, cell_on hb h3, cell_on hb h4, cell_on hb h5, hA.on h6 hb⟩
theorem StpAt.on {α : Type} {A : MemL α} (hA : IsL A) {w w' : World} {b o : Nat} {s : Pl.Stp α} (h : StpAt A w b o s) (hb : Below w.heap.size w w') : StpAt A w' b o s := by
  obtain ⟨v, h0, h1, h2⟩ := h
  exact ⟨v, cell_on hb h0, cell_on hb h1, h2.map fun b o x hx => hx.on hA hb⟩
theorem PthAt.on {α : Type} {A : MemL α} (hA : IsL A) {w w' : World} {b o : Nat} {p : Pl.Pth α} (h : PthAt A w b o p) (hb : Below w.heap.size w w') : PthAt A w' b o p := by
  obtain ⟨v, u, h0, h1, h2, h3⟩ := h
  exact ⟨v, u, cell_on hb h0, cell_on hb h1, h2.map fun b o x hx => hx.on hA hb, h3.map fun b o x hx => cell_on hb hx⟩
theorem isL_z : IsL ZAt := ⟨fun ⟨a, c, e, h1, h2⟩ => ⟨a, c, e, Nat.le_trans h1 h2⟩, fun h _ => h, fun _ => ⟨none, 0, rfl, by simp, by simp⟩⟩
theorem isL_up {α : Type} {A : MemL α} (hA : IsL A) : IsL (LstAt A) where
  form h := by
    obtain ⟨a, c, e, hf, _⟩ := h
    exact ⟨a, c, e, Nat.le_trans hf.1 hf.2⟩
  on h hb := RowAt.map h fun b o x hx => PthAt.on hA hx hb
  nil w := RowAt.nil _ _ w
/-- how the lists of a level are opened -/
def OpenL {α : Type} (A : MemL α) : Prop := ∀ {H : Type} {enc : TypeId × Value → H} {W : World} {held : Bool} {fuel : Nat} {cs : List Value} {x : DataW H × List MemPlace}, DataW.trod enc Tryd.prog W 0 (fun _ => true) held fuel 22 cs = some x → ∃ v l, cs = [v] ∧ A W v l
theorem cl9 : Tryd.prog.cellsOf 9 = 1 := by kernel_rfl
theorem cl3 : Tryd.prog.cellsOf 3 = 1 := by kernel_rfl
theorem cl22 : Tryd.prog.cellsOf 22 = 1 := by kernel_rfl
theorem cl35 : Tryd.prog.cellsOf 35 = 1 := by kernel_rfl
theorem cl36 : Tryd.prog.cellsOf 36 = 1 := by kernel_rfl
theorem cl38 : Tryd.prog.cellsOf 38 = 2 := by kernel_rfl
theorem cl54 : Tryd.prog.cellsOf 39 = 1 := by kernel_rfl
theorem cl56 : Tryd.prog.cellsOf 41 = 2 := by kernel_rfl
theorem cl59 : Tryd.prog.cellsOf 43 = 2 := by kernel_rfl
theorem cl61 : Tryd.prog.cellsOf 45 = 6 := by kernel_rfl
theorem list2 {α : Type} {l : List α} (h : l.length = 2) : ∃ a b, l = [a, b] := by
  rcases l with _ | ⟨a, _ | ⟨b, _ | ⟨c, r⟩⟩⟩
  all_goals first | exact ⟨_, _, rfl⟩ | (simp at h; done) | (simp at h; omega)
theorem list5 {α : Type} {l : List α} (h : l.length = 5) : ∃ a b c d e, l = [a, b, c, d, e] := by
  rcases l with _ | ⟨a, _ | ⟨b, _ | ⟨c, _ | ⟨d, _ | ⟨e, _ | ⟨f, r⟩⟩⟩⟩⟩⟩
  all_goals first | exact ⟨_, _, _, _, _, rfl⟩ | (simp at h; done) | (simp at h; omega)
theorem list6 {α : Type} {l : List α} (h : l.length = 6) : ∃ a b c d e f, l = [a, b, c, d, e, f] := by
  rcases l with _ | ⟨a, _ | ⟨b, _ | ⟨c, _ | ⟨d, _ | ⟨e, _ | ⟨f, _ | ⟨g, r⟩⟩⟩⟩⟩⟩⟩
  all_goals first | exact ⟨_, _, _, _, _, _, rfl⟩ | (simp at h; done) | (simp at h; omega)
theorem z_open : OpenL ZAt := by
  intro H enc W held fuel cs x h
  rcases DataW.trod_slice Tryd.underlying22 h with ⟨rfl, _⟩ | ⟨a, len, cap, _, _, n, _, rfl, _, _, hl, hm, _, _, _, _⟩
  · exact ⟨_, [], rfl, none, 0, rfl, by simp, by simp⟩
  · exact ⟨_, List.replicate len (), rfl, some a, cap, by simp, by simp; omega, hm⟩
instance {α : Type} : Inhabited (Pl.Tst α) := ⟨⟨0, [], [], 0, 0, []⟩⟩
instance {α : Type} : Inhabited (Pl.Stp α) := ⟨⟨[], []⟩⟩
instance {α : Type} : Inhabited (Pl.Pth α) := ⟨⟨[], []⟩⟩
section
variable {H : Type} {enc : TypeId × Value → H} {W : World} {held : Bool} {fuel : Nat} {cs : List Value} {x : DataW H × List MemPlace}
theorem links_open (h : DataW.trod enc Tryd.prog W 0 (fun _ => true) held fuel 36 cs = some x) : ∃ v l, cs = [v] ∧ RowAt IntAt 1 W v l := by
  refine row_open Tryd.underlying36 cl3 (by decide) (fun n cs y b o _ _ hc hy => ?_) h
  obtain ⟨k, rfl, _, _⟩ := DataW.trod_int Tryd.underlying3 hy
  exact ⟨k, by simpa [IntAt] using hc 0 (by omega)⟩
/-- a test, as it is read -/
theorem tst_vals {α : Type} {A : MemL α} (hO : OpenL A) (h : DataW.trod enc Tryd.prog W 0 (fun _ => true) held fuel 45 cs = some x) : ∃ (t : Pl.Tst α) (v : Value), cs = [.int .i64 t.kind, .string ⟨t.name.toArray⟩, .string ⟨t.value.toArray⟩, .int .i64 t.a, .int .i64 t.b, v] ∧ A W v t.list := by
  obtain ⟨xs, m, _, _, hl, hlen, hf⟩ := DataW.trod_struct Tryd.underlying45 h
  rw [cl61] at hl
  obtain ⟨v0, v1, v2, v3, v4, v5, rfl⟩ := list6 hl
  obtain ⟨y0, y1, y2, y3, y4, rfl⟩ := list5 hlen
  have f0 : DataW.trod enc Tryd.prog W 0 (fun _ => true) held m 3 (([v0, v1, v2, v3, v4, v5].drop 0).take (Tryd.prog.cellsOf 3)) = some y0 := hf 0 _ rfl
  rw [cl3] at f0
  replace f0 : DataW.trod enc Tryd.prog W 0 (fun _ => true) held m 3 [v0] = some y0 := f0
  have f1 : DataW.trod enc Tryd.prog W 0 (fun _ => true) held m 9 (([v0, v1, v2, v3, v4, v5].drop 1).take (Tryd.prog.cellsOf 9)) = some y1 := hf 1 _ rfl
  rw [cl9] at f1
  replace f1 : DataW.trod enc Tryd.prog W 0 (fun _ => true) held m 9 [v1] = some y1 := f1
  have f2 : DataW.trod enc Tryd.prog W 0 (fun _ => true) held m 9 (([v0, v1, v2, v3, v4, v5].drop 2).take (Tryd.prog.cellsOf 9)) = some y2 := hf 2 _ rfl
  rw [cl9] at f2
  replace f2 : DataW.trod enc Tryd.prog W 0 (fun _ => true) held m 9 [v2] = some y2 := f2
  have f3 : DataW.trod enc Tryd.prog W 0 (fun _ => true) held m 43 (([v0, v1, v2, v3, v4, v5].drop 3).take (Tryd.prog.cellsOf 43)) = some y3 := hf 3 _ rfl
  rw [cl59] at f3
  replace f3 : DataW.trod enc Tryd.prog W 0 (fun _ => true) held m 43 [v3, v4] = some y3 := f3
  have f4 : DataW.trod enc Tryd.prog W 0 (fun _ => true) held m 22 (([v0, v1, v2, v3, v4, v5].drop 5).take (Tryd.prog.cellsOf 22)) = some y4 := hf 4 _ rfl
  rw [cl22] at f4
  replace f4 : DataW.trod enc Tryd.prog W 0 (fun _ => true) held m 22 [v5] = some y4 := f4
  obtain ⟨zs, m2, _, _, _, hlen2, hg⟩ := DataW.trod_struct Tryd.underlying43 f3
  obtain ⟨z0, z1, rfl⟩ := list2 hlen2
  have g0 : DataW.trod enc Tryd.prog W 0 (fun _ => true) held m2 3 (([v3, v4].drop 0).take (Tryd.prog.cellsOf 3)) = some z0 := hg 0 _ rfl
  rw [cl3] at g0
  replace g0 : DataW.trod enc Tryd.prog W 0 (fun _ => true) held m2 3 [v3] = some z0 := g0
  have g1 : DataW.trod enc Tryd.prog W 0 (fun _ => true) held m2 3 (([v3, v4].drop 1).take (Tryd.prog.cellsOf 3)) = some z1 := hg 1 _ rfl
  rw [cl3] at g1
  replace g1 : DataW.trod enc Tryd.prog W 0 (fun _ => true) held m2 3 [v4] = some z1 := g1
  obtain ⟨k, e0, _, _⟩ := DataW.trod_int Tryd.underlying3 f0
  obtain ⟨s1, e1, _, _⟩ := DataW.trod_string Tryd.underlying9 f1
  obtain ⟨s2, e2, _, _⟩ := DataW.trod_string Tryd.underlying9 f2
  obtain ⟨k3, e3, _, _⟩ := DataW.trod_int Tryd.underlying3 g0
  obtain ⟨k4, e4, _, _⟩ := DataW.trod_int Tryd.underlying3 g1
  obtain ⟨w5, l, e5, hl⟩ := hO f4
  injection e0 with e0 _
  injection e1 with e1 _
  injection e2 with e2 _
  injection e3 with e3 _
  injection e4 with e4 _
  injection e5 with e5 _
  subst e0 e1 e2 e3 e4 e5
  exact ⟨⟨k, s1.data.toList, s2.data.toList, k3, k4, l⟩, v5, rfl, hl⟩
theorem tsts_open {α : Type} {A : MemL α} (hO : OpenL A) (h : DataW.trod enc Tryd.prog W 0 (fun _ => true) held fuel 39 cs = some x) : ∃ v l, cs = [v] ∧ RowAt (TstAt A) 6 W v l := by
  refine row_open Tryd.underlying39 cl61 (by decide) (fun n cs y b o _ _ hc hy => ?_) h
  obtain ⟨t, v, rfl, hl⟩ := tst_vals hO hy
  exact ⟨t, v, by simpa using hc 0 (by omega), by simpa using hc 1 (by omega), by simpa using hc 2 (by omega), by simpa using hc 3 (by omega), by simpa using hc 4 (by omega), by simpa using hc 5 (by omega), hl⟩
theorem stps_open {α : Type} {A : MemL α} (hO : OpenL A) (h : DataW.trod enc Tryd.prog W 0 (fun _ => true) held fuel 35 cs = some x) : ∃ v l, cs = [v] ∧ RowAt (StpAt A) 2 W v l := by
  refine row_open Tryd.underlying35 cl56 (by decide) (fun n cs y b o _ _ hc hy => ?_) h
  obtain ⟨xs, m, _, _, hl, hlen, hf⟩ := DataW.trod_struct Tryd.underlying41 hy
  rw [cl56] at hl
  obtain ⟨v0, v1, rfl⟩ := list2 hl
  obtain ⟨y0, y1, rfl⟩ := list2 hlen
  have f0 : DataW.trod enc Tryd.prog W 0 (fun _ => true) held m 9 (([v0, v1].drop 0).take (Tryd.prog.cellsOf 9)) = some y0 := hf 0 _ rfl
  rw [cl9] at f0
  replace f0 : DataW.trod enc Tryd.prog W 0 (fun _ => true) held m 9 [v0] = some y0 := f0
  have f1 : DataW.trod enc Tryd.prog W 0 (fun _ => true) held m 39 (([v0, v1].drop 1).take (Tryd.prog.cellsOf 39)) = some y1 := hf 1 _ rfl
  rw [cl54] at f1
  replace f1 : DataW.trod enc Tryd.prog W 0 (fun _ => true) held m 39 [v1] = some y1 := f1
  obtain ⟨s, e0, _, _⟩ := DataW.trod_string Tryd.underlying9 f0
  obtain ⟨u, l, e1, hr⟩ := tsts_open hO f1
  injection e0 with e0 _
  injection e1 with e1 _
  subst e0 e1
  exact ⟨⟨s.data.toList, l⟩, v1, by simpa using hc 0 (by omega), by simpa using hc 1 (by omega), hr⟩
/-- a path, as it is read -/
theorem pth_vals {α : Type} {A : MemL α} (hO : OpenL A) (h : DataW.trod enc Tryd.prog W 0 (fun _ => true) held fuel 38 cs = some x) : ∃ (p : Pl.Pth α) (v u : Value), cs = [v, u] ∧ RowAt (StpAt A) 2 W v p.steps ∧ RowAt IntAt 1 W u p.links := by
  obtain ⟨xs, m, _, _, hl, hlen, hf⟩ := DataW.trod_struct Tryd.underlying38 h
  rw [cl38] at hl
  obtain ⟨v0, v1, rfl⟩ := list2 hl
  obtain ⟨y0, y1, rfl⟩ := list2 hlen
  have f0 : DataW.trod enc Tryd.prog W 0 (fun _ => true) held m 35 (([v0, v1].drop 0).take (Tryd.prog.cellsOf 35)) = some y0 := hf 0 _ rfl
  rw [cl35] at f0
  replace f0 : DataW.trod enc Tryd.prog W 0 (fun _ => true) held m 35 [v0] = some y0 := f0
  have f1 : DataW.trod enc Tryd.prog W 0 (fun _ => true) held m 36 (([v0, v1].drop 1).take (Tryd.prog.cellsOf 36)) = some y1 := hf 1 _ rfl
  rw [cl36] at f1
  replace f1 : DataW.trod enc Tryd.prog W 0 (fun _ => true) held m 36 [v1] = some y1 := f1
  obtain ⟨w0, ss, e0, hs⟩ := stps_open hO f0
  obtain ⟨w1, ks, e1, hk⟩ := links_open f1
  injection e0 with e0 _
  injection e1 with e1 _
  subst e0 e1
  exact ⟨⟨ss, ks⟩, v0, v1, rfl, hs, hk⟩
end
theorem up_open {α : Type} {A : MemL α} (hO : OpenL A) : OpenL (LstAt A) := by
  intro H enc W held fuel cs x h
  refine row_open Tryd.underlying22 cl38 (by decide) (fun n cs y b o _ _ hc hy => ?_) h
  obtain ⟨p, v, u, rfl, hs, hk⟩ := pth_vals hO hy
  exact ⟨p, v, u, by simpa using hc 0 (by omega), by simpa using hc 1 (by omega), hs, hk⟩
/-- the three levels -/
abbrev A1 : MemL Pl.D1 := LstAt ZAt
abbrev A2 : MemL Pl.D2 := LstAt A1
abbrev A3 : MemL Pl.D3 := LstAt A2
theorem isL_1 : IsL A1 := isL_up isL_z
theorem isL_2 : IsL A2 := isL_up isL_1
theorem isL_3 : IsL A3 := isL_up isL_2
theorem open_3 : OpenL A3 := up_open (up_open (up_open z_open))
end Go.Proofs.YtephhllfodlfbaaDoor
