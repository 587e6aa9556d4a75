/-
  The document's own OnceOf and PlainOf at each level.
-/
import Derived.Test.YtephhllfodlfbaaDoorOnD
import Derived.Test.YtephhllfodlfbaaDoorDoA
import Derived.Test.YtephhllfodlfbaaDoorPnU
namespace Go.Proofs.YtephhllfodlfbaaDoor
open Go.RowKit

theorem dPlC_up {α : Type} [DecidableEq α] {A : MemL α} (hA : IsL A) (hS : IsSub A) (L : Pl.Lev α) (hL : Pl.IsLev L) (hOwn : OwnC A L.W) (hO : DOnlyC A L) (hD : DPlC A L) (hsame : ∀ (w : World) (v1 v2 : Value) (l m : List α), A w v1 l → A w v2 m → L.W l → L.W m → Calls Tryd.prog 12 #[v1, v2] w fun e w' => e = .returned (.bool (sm l m)) ∧ Below w.heap.size w w') (lift : List α → List (Pl.Pth α)) : DPlC (LstAt A) (L.up lift) :=
  onceOf_up hA hS L hL hOwn hD (onceStep_any hA hS L hL hO hsame) hsame lift
theorem dPlC_0 : DPlC ZAt Pl.L0 := fun w v l h hw => by
  have hw : l = [] := hw
  subst hw
  obtain ⟨a, c, rfl, h1, h2⟩ := h
  have := dPlC_up isL_z isSub_z LF isLev_F (fun _ _ _ _ h => h.elim) (fun _ _ _ _ _ h => h.elim) (fun _ _ _ _ h => h.elim) (fun _ _ _ _ _ _ _ h => h.elim) (fun _ => []) w (.slice a 0 c) [] ⟨a, c, rfl, ⟨h1, h2⟩, Or.inl rfl⟩ ⟨by simp, fun p hp => by simp at hp⟩
  refine this.mono ?_
  rintro e w' ⟨a', c', rfl, hr, hb⟩
  obtain ⟨a'', c'', e', hf, -⟩ := hr
  exact ⟨a', c', rfl, ⟨a'', c'', e', hf.1, hf.2⟩, hb⟩
theorem dPlC_1 : DPlC A1 Pl.L1 := dPlC_up isL_z isSub_z Pl.L0 Pl.isLev_0 ownC_0 dOnlyC_0 dPlC_0 dSameL_z Pl.lift0
theorem dPlC_2 : DPlC A2 Pl.L2 := dPlC_up isL_1 (isSub_up isSub_z) Pl.L1 Pl.isLev_1 ownC_1 dOnlyC_1 dPlC_1 dSameL_1 Pl.lift1
theorem dPlC_3 : DPlC A3 Pl.L3 := dPlC_up isL_2 (isSub_up (isSub_up isSub_z)) Pl.L2 Pl.isLev_2 ownC_2 dOnlyC_2 dPlC_2 dSameL_2 Pl.lift2
end Go.Proofs.YtephhllfodlfbaaDoor
/-
  What the laws of plainer lists begin with: a list with a no to a no.
-/
namespace Go.Proofs.YtephhllfodlfbaaDoor
open Go.RowKit

theorem row_1 {β : Type} {E : World → Nat → Nat → β → Prop} {k : Nat} {W : World} {b : Nat} {x : β} (h : E W b 0 x) : RowAt E k W (.slice (some ⟨b, 0, none⟩) 1 1) [x] := by
  refine ⟨_, _, rfl, by unfold maxLen; simp, Or.inr ⟨b, 0, rfl, fun i hi => ?_⟩⟩
  have : i = 0 := by simpa using hi
  subst this
  simpa using h
def oneOf {α : Type} (tag : List UInt8) (t : Pl.Tst α) : List (Pl.Pth α) := [⟨[⟨tag, [t]⟩], []⟩]
theorem oneOf_at {α : Type} {A : MemL α} {W : World} {bt bs bp T1 T2 T3 : Nat} {x : Value} {tag : List UInt8} {t : Pl.Tst α} (h1 : W.heap[bt]? = some (.cells #[.int .i64 t.kind, .string ⟨t.name.toArray⟩, .string ⟨t.value.toArray⟩, .int .i64 t.a, .int .i64 t.b, x] T1)) (h2 : W.heap[bs]? = some (.cells #[.string ⟨tag.toArray⟩, .slice (some ⟨bt, 0, none⟩) 1 1] T2)) (h3 : W.heap[bp]? = some (.cells #[.slice (some ⟨bs, 0, none⟩) 1 1, .slice none 0 0] T3)) (hx : A W x t.list) : LstAt A W (.slice (some ⟨bp, 0, none⟩) 1 1) (oneOf tag t) := by
  obtain ⟨a0, a1, a2, a3, a4, a5⟩ := f6 h1
  obtain ⟨b0, b1⟩ := f2 h2
  obtain ⟨c0, c1⟩ := f2 h3
  exact row_1 ⟨_, _, c0, c1, row_1 ⟨_, b0, b1, row_1 ⟨_, a0, a1, a2, a3, a4, a5, hx⟩⟩, RowAt.nil _ _ _⟩
theorem al3 (w : World) (O1 O2 O3 : Obj) : (((w.alloc O1).alloc O2).alloc O3).heap[w.heap.size]? = some O1 ∧ (((w.alloc O1).alloc O2).alloc O3).heap[w.heap.size + 1]? = some O2 ∧ (((w.alloc O1).alloc O2).alloc O3).heap[w.heap.size + 1 + 1]? = some O3 ∧ Below w.heap.size w (((w.alloc O1).alloc O2).alloc O3) := by
  have b2 := on_alloc w O1
  have b3 := on_alloc (w.alloc O1) O2
  have b4 := on_alloc ((w.alloc O1).alloc O2) O3
  have e1 := World.alloc_heap_new w O1
  have e2 := World.alloc_heap_new (w.alloc O1) O2
  have e3 := World.alloc_heap_new ((w.alloc O1).alloc O2) O3
  have f2 := hblk e2 b4
  have f1 := hblk (hblk e1 b3) b4
  simp only [World.size_alloc] at f1 f2 e3
  exact ⟨f1, f2, e3, below_trans b2 (below_trans b3 b4)⟩
set_option maxRecDepth 100000 in
set_option maxHeartbeats 4000000 in
theorem one_any {α : Type} {A : MemL α} (hA : IsL A) (x : Value) (t : Pl.Tst α) (w : World) (hx : A w x t.list) :
    Calls Tryd.prog 43 #[.agg #[.int .i64 t.kind, .string ⟨t.name.toArray⟩, .string ⟨t.value.toArray⟩, .int .i64 t.a, .int .i64 t.b, x]] w fun e w' => ∃ a, e = .returned (.slice a 1 1) ∧ LstAt A w' (.slice a 1 1) (oneOf [] t) ∧ Below w.heap.size w w' := by
  obtain ⟨ax, cx, rfl, -⟩ := hA.form hx
  have HX : Hid (A w (.slice ax t.list.length cx) t.list) := hx
  clear hx
  go_enter Tryd.func43, Tryd.ntmps43
  go_wp2_with fail
  go_ret
  have b0 := on_alloc w (.cells #[.int .i64 t.kind, .string ⟨t.name.toArray⟩, .string ⟨t.value.toArray⟩, .int .i64 t.a, .int .i64 t.b, .slice ax t.list.length cx] 45)
  obtain ⟨g1, g2, g3, hb⟩ := al3 (w.alloc (.cells #[.int .i64 t.kind, .string ⟨t.name.toArray⟩, .string ⟨t.value.toArray⟩, .int .i64 t.a, .int .i64 t.b, .slice ax t.list.length cx] 45)) _ _ _
  simp only [World.size_alloc] at g1 g2 g3
  exact ⟨_, rfl, oneOf_at g1 g2 g3 (hA.on (hA.on HX.out b0) hb), below_trans b0 hb⟩
def tEmp {α : Type} : Pl.Tst α := ⟨11, [], [], 0, 0, []⟩
def tNot {α : Type} (l : List α) : Pl.Tst α := ⟨13, [], [], 0, 0, l⟩
def xEmp {α : Type} : List (Pl.Pth α) := oneOf [120] tEmp
def twiceL : List Pl.D3 := oneOf [] (tNot (oneOf [] (tNot xEmp)))
set_option maxRecDepth 100000 in
set_option maxHeartbeats 4000000 in
theorem twice_any (w : World) : Calls Tryd.prog 24 #[] w fun e w' => ∃ a, e = .returned (.slice a 1 1) ∧ A3 w' (.slice a 1 1) twiceL ∧ Below w.heap.size w w' := by
  go_enter Tryd.func24, Tryd.ntmps24
  go_wp2_with fail
  obtain ⟨g1, g2, g3, hb⟩ := al3 w (.cells #[.int .i64 11, .string ⟨#[]⟩, .string ⟨#[]⟩, .int .i64 0, .int .i64 0, .slice none 0 0] 45) (.cells #[.string ⟨#[120]⟩, .slice (some ⟨w.heap.size, 0, none⟩) 1 1] 41) (.cells #[.slice (some ⟨w.heap.size + 1, 0, none⟩) 1 1, .slice none 0 0] 38)
  have HB : Hid _ := hb
  have HC : Hid (Calls Tryd.prog 43 _ _ _) := one_any isL_1 _ (tNot xEmp) _ (oneOf_at (A := ZAt) (t := tEmp) (tag := [120]) g1 g2 g3 (isL_z.nil _))
  clear g1 g2 g3 hb
  refine HC.out.mono ?_
  rintro e w1 ⟨a1, rfl, h1, hb1⟩
  have HB1 : Hid (Below w.heap.size w w1) := below_trans HB.out hb1
  have HC2 : Hid (Calls Tryd.prog 43 _ _ _) := one_any isL_2 _ (tNot (oneOf [] (tNot xEmp))) _ h1
  clear h1 hb1 HC HB
  go_wp2_with fail
  refine HC2.out.mono ?_
  rintro e w2 ⟨a2, rfl, h2, hb2⟩
  have HR : Hid (A3 w2 (.slice a2 1 1) twiceL) := h2
  have HB2 : Hid (Below w.heap.size w w2) := below_trans HB1.out hb2
  clear h2 hb2 HC2
  go_wp2
  go_ret
  exact ⟨a2, rfl, HR.out, HB2.out⟩
theorem tw_chk : chkList twiceL = 0 := by kernel_rfl
theorem tw_size : sizeOfL twiceL = 6 := by kernel_rfl
theorem tw_plain : plainOfL twiceL = xEmp := by kernel_rfl
theorem tw_once : onceOfL twiceL = oneOf [] ⟨14, [], [], 0, 0, xEmp⟩ := by kernel_rfl
theorem tw_w : Pl.L3.W (xEmp : List Pl.D3) := W3_of (by kernel_rfl)
theorem oneOf_cells {α : Type} {A : MemL α} {W : World} {a : Option Addr} {c : Nat} {t : Pl.Tst α} (h : LstAt A W (.slice a 1 c) (oneOf [] t)) : ∃ b o b1 o1 c1 b2 o2 c2, a = some ⟨b, o, none⟩ ∧ W.cell? ⟨b, o, none⟩ = some (.slice (some ⟨b1, o1, none⟩) 1 c1) ∧ W.cell? ⟨b1, o1 + 1, none⟩ = some (.slice (some ⟨b2, o2, none⟩) 1 c2) ∧ W.cell? ⟨b2, o2, none⟩ = some (.int .i64 t.kind) := by
  obtain ⟨_, b, o, ha, hq⟩ := RowAt.at (k := 2) (l := oneOf [] t) h (by simp [oneOf])
  obtain ⟨v1, u1, p0, -, hr1, -⟩ := hq 0 (by simp [oneOf])
  obtain ⟨as_, cs, rfl⟩ := hr1.form
  obtain ⟨_, b1, o1, rfl, hq1⟩ := RowAt.at hr1 (by simp [oneOf])
  obtain ⟨v2, -, p1, hr2⟩ := hq1 0 (by simp [oneOf])
  obtain ⟨at_, ct, rfl⟩ := hr2.form
  obtain ⟨_, b2, o2, rfl, hq2⟩ := RowAt.at hr2 (by simp [oneOf])
  obtain ⟨v3, p2, -⟩ := hq2 0 (by simp [oneOf])
  simp only [Nat.zero_mul, Nat.add_zero] at p0 p1 p2
  exact ⟨b, o, b1, o1, cs, b2, o2, ct, ha, p0, p1, p2⟩
set_option maxRecDepth 100000 in
set_option maxHeartbeats 4000000 in
theorem plainBegun_any (w : World) (hF : FormsAt w) : Calls Tryd.prog 11 #[] w fun e w' => e = .returned (.bool true) ∧ Below w.heap.size w w' := by
  have HF : Hid (FormsAt w) := hF
  have HT1 : Hid (Calls Tryd.prog 24 _ _ _) := twice_any w
  clear hF
  go_enter Tryd.func11, Tryd.ntmps11
  go_wp2_with fail
  refine HT1.out.mono ?_
  rintro e w1 ⟨a1, rfl, h1, hb1⟩
  have HP : Hid (Calls Tryd.prog 6 _ _ _) := plainPlain_any w1 _ _ h1 (HF.out.on hb1)
  have HB1 : Hid (Below w.heap.size w w1) := hb1
  clear h1 hb1 HT1
  rw [tw_plain, tw_chk, show (xEmp : List Pl.D3).length = 1 from rfl] at HP
  go_wp2_with fail
  refine HP.out.mono ?_
  rintro e w2 ⟨a2, c2, rfl, h2, hb2⟩
  have HB2 : Hid (Below w.heap.size w w2) := below_trans HB1.out hb2
  have HL : Hid (A3 w2 (.slice a2 1 c2) xEmp) := (isSub_up (isSub_up (isSub_up isSub_z))).sub h2 (incl_real _ _)
  have HT2 : Hid (Calls Tryd.prog 24 _ _ _) := twice_any w2
  clear h2 hb2 HP HB1
  change Hid (A3 w2 (.slice a2 1 c2) xEmp) at HL
  go_wp2_with fail
  refine HT2.out.mono ?_
  rintro e w3 ⟨a3, rfl, h3, hb3⟩
  have HP : Hid (Calls Tryd.prog 5 _ _ _) := plainOnce_any w3 _ _ h3 (HF.out.on (below_trans HB2.out hb3))
  have HB3 : Hid (Below w.heap.size w w3) := below_trans HB2.out hb3
  have HL3 : Hid (A3 w3 (.slice a2 1 c2) xEmp) := isL_3.on HL.out hb3
  clear h3 hb3 HT2 HL HB2
  rw [tw_once, tw_chk, show (oneOf [] ⟨14, [], [], 0, 0, xEmp⟩ : List Pl.D3).length = 1 from rfl] at HP
  go_wp2_with fail
  refine HP.out.mono ?_
  rintro e w4 ⟨a4, c4, rfl, h4, hb4⟩
  have HB4 : Hid (Below w.heap.size w w4) := below_trans HB3.out hb4
  have HL4 : Hid (A3 w4 (.slice a2 1 c2) xEmp) := isL_3.on HL3.out hb4
  have HM4 : Hid (A3 w4 (.slice a4 1 c4) (oneOf [] ⟨14, [], [], 0, 0, xEmp⟩)) := (isSub_up (isSub_up (isSub_up isSub_z))).sub h4 (incl_real _ _)
  have HT3 : Hid (Calls Tryd.prog 24 _ _ _) := twice_any w4
  clear h4 hb4 HP HB3 HL3
  go_wp2_with fail
  refine HT3.out.mono ?_
  rintro e w5 ⟨a5, rfl, h5, hb5⟩
  have HP : Hid (Calls Tryd.prog 4 _ _ _) := plainSize_any w5 _ _ h5 (HF.out.on (below_trans HB4.out hb5))
  have HB5 : Hid (Below w.heap.size w w5) := below_trans HB4.out hb5
  have HL5 : Hid (A3 w5 (.slice a2 1 c2) xEmp) := isL_3.on HL4.out hb5
  have HM5 : Hid (A3 w5 (.slice a4 1 c4) (oneOf [] ⟨14, [], [], 0, 0, xEmp⟩)) := isL_3.on HM4.out hb5
  clear h5 hb5 HT3 HL4 HB4 HM4
  rw [tw_size, tw_chk] at HP
  go_wp2_with fail
  refine HP.out.mono ?_
  rintro e w6 ⟨rfl, hb6⟩
  have HB6 : Hid (Below w.heap.size w w6) := below_trans HB5.out hb6
  have HL6 : Hid (A3 w6 (.slice a2 1 c2) xEmp) := isL_3.on HL5.out hb6
  have HM6 : Hid (A3 w6 (.slice a4 1 c4) (oneOf [] ⟨14, [], [], 0, 0, xEmp⟩)) := isL_3.on HM5.out hb6
  clear hb6 HP HL5 HB5 HM5
  obtain ⟨g1, g2, g3, hb⟩ := al3 w6 (.cells #[.int .i64 11, .string ⟨#[]⟩, .string ⟨#[]⟩, .int .i64 0, .int .i64 0, .slice none 0 0] 45) (.cells #[.string ⟨#[120]⟩, .slice (some ⟨w6.heap.size, 0, none⟩) 1 1] 41) (.cells #[.slice (some ⟨w6.heap.size + 1, 0, none⟩) 1 1, .slice none 0 0] 38)
  have HS : Hid (Calls Tryd.prog 12 _ _ _) := dSameL_3 _ _ _ xEmp xEmp (isL_3.on HL6.out hb) (oneOf_at (A := A2) (t := tEmp) (tag := [120]) g1 g2 g3 (isL_2.nil _)) tw_w tw_w
  have hs1 : sm (xEmp : List Pl.D3) xEmp = true := by unfold sm; simp
  rw [hs1] at HS
  have HB7 : Hid (Below w.heap.size w _) := below_trans HB6.out hb
  have HM7 : Hid (A3 _ (.slice a4 1 c4) (oneOf [] ⟨14, [], [], 0, 0, xEmp⟩)) := isL_3.on HM6.out hb
  clear g1 g2 g3 hb hs1 HL6 HM6 HB6
  go_wp2_with fail
  refine HS.out.mono ?_
  rintro e w8 ⟨rfl, hb8⟩
  have HB8 : Hid (Below w.heap.size w w8) := below_trans HB7.out hb8
  obtain ⟨b, o, b1, o1, c1, b2, o2, c2', rfl, p0, p1, p2⟩ := oneOf_cells (isL_3.on HM7.out hb8)
  clear hb8 HS HM7 HB7
  change w8.cell? _ = some (.int .i64 14) at p2
  go_wp2
  go_ret
  exact ⟨rfl, HB8.out⟩
end Go.Proofs.YtephhllfodlfbaaDoor
