/-
  What the document says of lists: who matches, who is nearest, which error there is.
-/
import Derived.Test.YtephhllfodlfbaaGreatDoorRmG
import Derived.Test.YtephhllfodlfbaaGreatDoorMtQ
import Derived.Laws.MakeOwn
import Derived.Laws.OwnMore
namespace Go.Proofs.YtephhllfodlfbaaGreatDoor
open Go.RowKit

theorem on3c {W W' : World} {p1 p2 p3 : Addr} {u1 u2 u3 : Value} (h : W.cell? p1 = some u1 ∧ W.cell? p2 = some u2 ∧ W.cell? p3 = some u3) (hb : Below W.heap.size W W') : W'.cell? p1 = some u1 ∧ W'.cell? p2 = some u2 ∧ W'.cell? p3 = some u3 :=
  ⟨cell_on hb h.1, cell_on hb h.2.1, cell_on hb h.2.2⟩
end Go.Proofs.YtephhllfodlfbaaGreatDoor
/-
  What the document says of all that match.
-/
namespace Go.Proofs.YtephhllfodlfbaaGreatDoor
open Go.RowKit

def allTo (q : Nat → Bool) (k : Nat) : List Nat := (List.range k).filter q
theorem allTo_hit (q : Nat → Bool) (k : Nat) (h : q k = true) : allTo q (k + 1) = allTo q k ++ [k] := by
  unfold allTo
  rw [List.range_succ, List.filter_append]
  simp [h]
theorem allTo_miss (q : Nat → Bool) (k : Nat) (h : q k = false) : allTo q (k + 1) = allTo q k := by
  unfold allTo
  rw [List.range_succ, List.filter_append]
  simp [h]
theorem allTo_len (q : Nat → Bool) (k : Nat) : (allTo q k).length ≤ k := by
  unfold allTo
  exact Nat.le_trans (List.length_filter_le _ _) (by simp)
end Go.Proofs.YtephhllfodlfbaaGreatDoor
/-
  The program's checks ahead of matching; rows of yes and no; trees.
-/
namespace Go.Proofs.YtephhllfodlfbaaGreatDoor
open Go.RowKit

def chkBoth (ns : List Pl.Nd) (l : List Pl.D3) : Int := if Pl.checkDoc ns = 0 then chkList l else Pl.checkDoc ns
set_option maxHeartbeats 2000000 in
theorem mcheck_any (v u : Value) (ns : List Pl.Nd) (l : List Pl.D3) (w : World) (hf : FitsAll ns) (hv : NdsAt w v ns) (hl : A3 w u l) (hF : FormsAt w) :
    Calls Tryz.prog 46 #[.agg #[v], u] w fun e w' => e = .returned (.int .i64 (chkBoth ns l)) ∧ Below w.heap.size w w' := by
  obtain ⟨av, cv, rfl, -⟩ := id hv
  obtain ⟨al, cl, rfl, -⟩ := isL_3.form hl
  have HB : Hid (Below w.heap.size w (w.alloc (.cells #[.slice av ns.length cv] 24))) := on_alloc _ _
  have c0 : (w.alloc (.cells #[.slice av ns.length cv] 24)).cell? ⟨w.heap.size, 0, none⟩ = some (.slice av ns.length cv) := by simp [go_sem]
  have HC1 := check_any (.slice av ns.length cv) ns _ hf (hv.on HB.out)
  have HE : Hid (chkBoth ns l = if Pl.checkDoc ns = 0 then chkList l else Pl.checkDoc ns) := rfl
  have HRL : Hid (∀ W, Below w.heap.size w W → Calls Tryz.prog 44 #[.slice al l.length cl] W fun e w' => e = .returned (.int .i64 (chkList l)) ∧ Below W.heap.size W w') := fun W hW => pathCheck_any W _ l (isL_3.on hl hW) (hF.on hW)
  clear hv hl hf hF
  generalize Pl.checkDoc ns = ce at *
  generalize chkList l = le at *
  have HC1' : Hid (Calls Tryz.prog 14 _ _ _) := HC1
  clear HC1
  go_enter Tryz.func46, Tryz.ntmps46
  go_wp2_with fail
  refine HC1'.out.mono ?_
  rintro e w1 ⟨rfl, hb1⟩
  have HB1 : Hid (Below w.heap.size w w1) := below_trans HB.out hb1
  clear hb1 c0
  by_cases h1 : ce = 0
  · subst h1
    rw [if_pos rfl] at HE
    go_wp2_with fail
    refine (HRL.out _ HB1.out).mono ?_
    rintro e w2 ⟨rfl, hb2⟩
    have HB2 : Hid (Below w.heap.size w w2) := below_trans HB1.out hb2
    clear hb2
    go_wp2
    go_ret
    exact ⟨by rw [HE.out]; rfl, HB2.out⟩
  · rw [if_neg h1] at HE
    have b1 : (ce == 0) = false := by simpa using h1
    clear h1
    go_wp2
    go_ret
    exact ⟨by rw [HE.out]; rfl, HB1.out⟩
/-- a row of yes and no in a block of its own -/
def BRow (w : World) (g : Nat) (bs : List Bool) : Prop := w.heap[g]? = some (.cells (bs.map Value.bool).toArray 4)
section
variable {w w' : World} {g : Nat} {bs : List Bool}
theorem BRow.lt (h : BRow w g bs) : g < w.heap.size := (Array.getElem?_eq_some_iff.1 h).1
theorem BRow.cell (h : BRow w g bs) {i : Nat} (hi : i < bs.length) : w.cell? ⟨g, i, none⟩ = some (.bool bs[i]) := by
  unfold BRow at h
  unfold World.cell?
  dsimp only
  rw [h]
  simp [hi]
theorem BRow.frozen (h : BRow w g bs) (i : Nat) : w.frozen? ⟨g, i, none⟩ = false := by
  unfold BRow at h
  simp [World.frozen?, h]
theorem BRow.on (h : BRow w g bs) (hb : Below w.heap.size w w') : BRow w' g bs := (hb.block g h.lt).trans h
theorem BRow.other (h : BRow w g bs) {M i : Nat} (hne : g ≠ M) (v : Value) : BRow (w.setCell ⟨M, i, none⟩ v) g bs := by
  unfold BRow
  rw [Below.heap_setCell _ _ _ _ (by exact hne)]
  exact h
theorem BRow.set (h : BRow w g bs) (i : Nat) (x : Bool) : BRow (w.setCell ⟨g, i, none⟩ (.bool x)) g (bs.set i x) := by
  unfold BRow at *
  simp [World.setCell, Array.getElem?_modify, h, List.map_set]
end
/-- the library's variable that strings.Index reads holds a number -/
def Glob (w : World) : Prop := ∃ m, w.cell? ⟨1, 0, none⟩ = some (.int .i64 m)
theorem Glob.on {w w' : World} (h : Glob w) (hb : Below w.heap.size w w') : Glob w' := by
  obtain ⟨m, h⟩ := h
  exact ⟨m, cell_on hb h⟩
/-- a tree: the elements and what is counted of them -/
structure TR (w : World) (b o bk bn bl : Nat) (ns : List Pl.Nd) : Prop where
  glob : Glob w
  rd : RD w b o ns
  kids : ∀ i, i < ns.length → w.cell? ⟨bk, i, none⟩ = some (.int .i64 (Pl.kidsOf ns i).length)
  num : ∀ i, i < ns.length → w.cell? ⟨bn, i, none⟩ = some (.int .i64 (plc (famOf ns i) i + 1))
  lst : ∀ i, i < ns.length → w.cell? ⟨bl, i, none⟩ = some (.int .i64 ((famOf ns i).length - plc (famOf ns i) i))
theorem TR.on {w w' : World} {b o bk bn bl : Nat} {ns : List Pl.Nd} (h : TR w b o bk bn bl ns) (hb : Below w.heap.size w w') : TR w' b o bk bn bl ns :=
  ⟨h.glob.on hb, h.rd.on hb, fun i hi => cell_on hb (h.kids i hi), fun i hi => cell_on hb (h.num i hi), fun i hi => cell_on hb (h.lst i hi)⟩
end Go.Proofs.YtephhllfodlfbaaGreatDoor
/-
  Rows that are made; what is found of a list, by what is found of its paths.
-/
namespace Go.Proofs.YtephhllfodlfbaaGreatDoor
open Go.RowKit

theorem info4 : (Tryz.prog.info? 4).map (fun i => (i.zero, i.size, i.bytes)) = some (some (.bool false), 1, 1) := by kernel_rfl
theorem made_one (z : Value) (hz : z.cells = #[z]) : ∀ n, madeCells z.cells (n * 1) = (List.replicate n z).toArray := by
  intro n
  rw [hz, Nat.mul_one, ← toList_madeCells_one]
/-- a row of no is made -/
def mkB (w : World) (N : Nat) : World := w.alloc (.cells ((List.replicate N false).map Value.bool).toArray 4)
theorem mkB_on (w : World) (N : Nat) : Below w.heap.size w (mkB w N) := on_alloc _ _
theorem mkB_row (w : World) (N : Nat) : BRow (mkB w N) w.heap.size (List.replicate N false) := World.alloc_heap_new w _
theorem make_bools (N : Nat) (hN : N ≤ 64) (w : World) : (Instr.makeSlice 90 (.int .i64 N) (.int .i64 N)).run Tryz.prog w = .ok (.slice (some ⟨w.heap.size, 0, none⟩) N N) (mkB w N) := by
  obtain ⟨i0, hi, hz0, hz1, hz2⟩ := info_parts info4
  have := run_make (P := Tryz.prog) (w := w) 90 4 i0 (.bool false) Tryz.underlying90 hi hz0 .i64 .i64 (N : Int) (N : Int) (by omega) (by omega) (by rw [hz2]; omega) (by omega)
  rw [this, hz1, Int.toNat_natCast, made_one _ rfl]
  unfold mkB
  simp
/-- a row of which the first n are new -/
def mix (F F' : Nat → Bool) (n N : Nat) : List Bool := (List.range N).map fun m => if m < n then F' m else F m
theorem mix_len (F F' : Nat → Bool) (n N : Nat) : (mix F F' n N).length = N := by simp [mix]
theorem mix_get (F F' : Nat → Bool) {n N m : Nat} (h : m < (mix F F' n N).length) : (mix F F' n N)[m] = if m < n then F' m else F m := by simp [mix]
theorem mix_set (F F' : Nat → Bool) {n N : Nat} (_h : n < N) : (mix F F' n N).set n (F' n) = mix F F' (n + 1) N := by
  apply List.ext_getElem
  · simp [mix]
  · intro m h1 h2
    rw [List.getElem_set, mix_get _ _ (by simpa using h1), mix_get]
    by_cases e : n = m
    · subst e
      rw [if_pos rfl, if_pos (by omega)]
    · rw [if_neg e]
      by_cases e2 : m < n
      · rw [if_pos e2, if_pos (by omega)]
      · rw [if_neg e2, if_neg (by omega)]
theorem mix_zero (F F' : Nat → Bool) (N : Nat) : mix F F' 0 N = (List.range N).map F := by simp [mix]
theorem mix_all (F F' : Nat → Bool) (N : Nat) : mix F F' N N = (List.range N).map F' := by
  unfold mix
  apply List.map_congr_left
  intro m hm
  rw [if_pos (by simpa using hm)]
theorem none_row (N : Nat) : List.replicate N false = (List.range N).map fun _ => false := by
  rw [List.map_const']
  simp
/-- what ofList and ofPath tell of a level -/
def OFL {α : Type} (A : MemL α) (g : List Pl.Nd → List α → Nat → Bool) (R : List α → Prop) : Prop := ∀ (w : World) (b o cap bk bn bl : Nat) (ns : List Pl.Nd) (v : Value) (l : List α), TR w b o bk bn bl ns → A w v l → R l → Calls Tryz.prog 48 #[.agg #[.slice (some ⟨b, o, none⟩) ns.length cap, .slice (some ⟨bk, 0, none⟩) ns.length ns.length, .slice (some ⟨bn, 0, none⟩) ns.length ns.length, .slice (some ⟨bl, 0, none⟩) ns.length ns.length], v] w fun e w' => ∃ gB, e = .returned (.slice (some ⟨gB, 0, none⟩) ns.length ns.length) ∧ w.heap.size ≤ gB ∧ BRow w' gB ((List.range ns.length).map (g ns l)) ∧ Below w.heap.size w w'
def OFP {α : Type} (A : MemL α) (g : List Pl.Nd → List α → Nat → Bool) (R : List α → Prop) : Prop := ∀ (w : World) (b o cap bk bn bl : Nat) (ns : List Pl.Nd) (vs vk : Value) (p : Pl.Pth α), TR w b o bk bn bl ns → RowAt (StpAt A) 2 w vs p.steps → RowAt IntAt 1 w vk p.links → RP R p → Calls Tryz.prog 99 #[.agg #[.slice (some ⟨b, o, none⟩) ns.length cap, .slice (some ⟨bk, 0, none⟩) ns.length ns.length, .slice (some ⟨bn, 0, none⟩) ns.length ns.length, .slice (some ⟨bl, 0, none⟩) ns.length ns.length], .agg #[vs, vk]] w fun e w' => ∃ gB, e = .returned (.slice (some ⟨gB, 0, none⟩) ns.length ns.length) ∧ w.heap.size ≤ gB ∧ BRow w' gB ((List.range ns.length).map (pthM ns (g ns) p (p.steps.length - 1))) ∧ Below w.heap.size w w'
/-- while a row is filled: the tree's box at B, the row at B + 1 -/
structure LW (w W : World) (t0 t1 t2 t3 : Value) (bs : List Bool) : Prop where
  bel : Below w.heap.size w W
  box : W.heap[w.heap.size]? = some (.cells #[t0, t1, t2, t3] 92)
  row : BRow W (w.heap.size + 1) bs
section
variable {w W W' : World} {t0 t1 t2 t3 : Value} {bs : List Bool}
theorem LW.on (h : LW w W t0 t1 t2 t3 bs) (hb : Below W.heap.size W W') : LW w W' t0 t1 t2 t3 bs := ⟨below_trans h.bel hb, (hb.block _ (Array.getElem?_eq_some_iff.1 h.box).1).trans h.box, h.row.on hb⟩
theorem LW.set (h : LW w W t0 t1 t2 t3 bs) (i : Nat) (x : Bool) : LW w (W.setCell ⟨w.heap.size + 1, i, none⟩ (.bool x)) t0 t1 t2 t3 (bs.set i x) :=
  ⟨h.bel.setCell (p := ⟨w.heap.size + 1, i, none⟩) (by simp) _, by rw [Below.heap_setCell _ _ _ _ (by show w.heap.size ≠ w.heap.size + 1; omega)]; exact h.box, h.row.set i x⟩
theorem LW.cells (h : LW w W t0 t1 t2 t3 bs) : W.cell? ⟨w.heap.size, 0, none⟩ = some t0 ∧ W.cell? ⟨w.heap.size, 1, none⟩ = some t1 ∧ W.cell? ⟨w.heap.size, 2, none⟩ = some t2 ∧ W.cell? ⟨w.heap.size, 3, none⟩ = some t3 := by
  have hb := h.box
  refine ⟨?_, ?_, ?_, ?_⟩ <;> simp [World.cell?, hb]
end
theorem take_any {α : Type} {l : List α} {i : Nat} (hi : i < l.length) (q : α → Bool) : (l.take (i + 1)).any q = ((l.take i).any q || q l[i]) := by
  rw [List.take_succ_eq_append_getElem hi, List.any_append]
  simp
set_option maxRecDepth 100000 in
set_option maxHeartbeats 8000000 in
theorem ofList_up {α : Type} {A : MemL α} (hA : IsL A) {g : List Pl.Nd → List α → Nat → Bool} {R : List α → Prop} (hP : OFP A g R) : OFL (LstAt A) (fun ns => lstM ns (g ns)) (RL R) := by
  intro w b o cap bk bn bl ns v l hT hl hR
  obtain ⟨al, cl, rfl⟩ := RowAt.form hl
  have h64 := hT.rd.n64
  have hmk := make_bools ns.length h64
  have hb1 := on_alloc w (.cells #[.slice (some ⟨b, o, none⟩) ns.length cap, .slice (some ⟨bk, 0, none⟩) ns.length ns.length, .slice (some ⟨bn, 0, none⟩) ns.length ns.length, .slice (some ⟨bl, 0, none⟩) ns.length ns.length] 92)
  have hb2 := mkB_on (w.alloc (.cells #[.slice (some ⟨b, o, none⟩) ns.length cap, .slice (some ⟨bk, 0, none⟩) ns.length ns.length, .slice (some ⟨bn, 0, none⟩) ns.length ns.length, .slice (some ⟨bl, 0, none⟩) ns.length ns.length] 92)) ns.length
  have e1 := World.alloc_heap_new w (.cells #[.slice (some ⟨b, o, none⟩) ns.length cap, .slice (some ⟨bk, 0, none⟩) ns.length ns.length, .slice (some ⟨bn, 0, none⟩) ns.length ns.length, .slice (some ⟨bl, 0, none⟩) ns.length ns.length] 92)
  have e2 := mkB_row (w.alloc (.cells #[.slice (some ⟨b, o, none⟩) ns.length cap, .slice (some ⟨bk, 0, none⟩) ns.length ns.length, .slice (some ⟨bn, 0, none⟩) ns.length ns.length, .slice (some ⟨bl, 0, none⟩) ns.length ns.length] 92)) ns.length
  simp only [World.size_alloc] at e2
  have HLW : Hid (LW w (mkB (w.alloc (.cells #[.slice (some ⟨b, o, none⟩) ns.length cap, .slice (some ⟨bk, 0, none⟩) ns.length ns.length, .slice (some ⟨bn, 0, none⟩) ns.length ns.length, .slice (some ⟨bl, 0, none⟩) ns.length ns.length] 92)) ns.length) (.slice (some ⟨b, o, none⟩) ns.length cap) (.slice (some ⟨bk, 0, none⟩) ns.length ns.length) (.slice (some ⟨bn, 0, none⟩) ns.length ns.length) (.slice (some ⟨bl, 0, none⟩) ns.length ns.length) ((List.range ns.length).map fun n => (l.take 0).any fun p => pthM ns (g ns) p (p.steps.length - 1) n)) := ⟨below_trans hb1 hb2, (hb2.block _ (by simp)).trans e1, by
    have e : ((List.range ns.length).map fun n => (l.take 0).any fun p => pthM ns (g ns) p (p.steps.length - 1) n) = List.replicate ns.length false := by rw [none_row]; rfl
    rw [e]
    exact e2⟩
  have HT : Hid (TR w b o bk bn bl ns) := hT
  have HL : Hid (RowAt (PthAt A) 2 w (.slice al l.length cl) l) := hl
  have HRP : Hid (∀ p ∈ l, RP R p) := hR.2
  have hl5 : l.length ≤ 5 := hR.1.2
  have HIA : Hid (IsL A) := hA
  have HPP : Hid (OFP A g R) := hP
  have c0 : (w.alloc (.cells #[.slice (some ⟨b, o, none⟩) ns.length cap, .slice (some ⟨bk, 0, none⟩) ns.length ns.length, .slice (some ⟨bn, 0, none⟩) ns.length ns.length, .slice (some ⟨bl, 0, none⟩) ns.length ns.length] 92)).cell? ⟨w.heap.size, 0, none⟩ = some (.slice (some ⟨b, o, none⟩) ns.length cap) := by simp [go_sem]
  clear hT hl hR hA hP hb1 hb2 e1 e2
  go_enter Tryz.func48, Tryz.ntmps48
  go_wp2_with fail
  clear hmk c0
  generalize mkB (w.alloc (.cells #[.slice (some ⟨b, o, none⟩) ns.length cap, .slice (some ⟨bk, 0, none⟩) ns.length ns.length, .slice (some ⟨bn, 0, none⟩) ns.length ns.length, .slice (some ⟨bl, 0, none⟩) ns.length ns.length] 92)) ns.length = W0 at *
  go_loopw [16] (fun i wr => ∃ j : Nat, j ≤ l.length ∧ i = .int .i64 j ∧ Hid (LW w wr (.slice (some ⟨b, o, none⟩) ns.length cap) (.slice (some ⟨bk, 0, none⟩) ns.length ns.length) (.slice (some ⟨bn, 0, none⟩) ns.length ns.length) (.slice (some ⟨bl, 0, none⟩) ns.length ns.length) ((List.range ns.length).map fun n => (l.take j).any fun p => pthM ns (g ns) p (p.steps.length - 1) n))) (fun i _ => l.length - (intOf i).toNat)
  case atStart => exact ⟨0, Nat.zero_le _, rfl, HLW⟩
  case round =>
    obtain ⟨j, hj, rfl, HR⟩ := hrel
    clear HLW
    by_cases hlt : j < l.length
    · obtain ⟨-, bp, op, rfl, hcells⟩ := RowAt.at HL.out (by omega)
      obtain ⟨vs, vk, p0, p1, hS, hK⟩ := hcells j hlt
      obtain ⟨a1, c1, rfl⟩ := hS.form
      obtain ⟨a2, c2, rfl⟩ := hK.form
      have hba := on_alloc wr (.cells #[.slice a1 l[j].steps.length c1, .slice a2 l[j].links.length c2] 64)
      have HR2 : Hid (LW w (wr.alloc (.cells #[.slice a1 l[j].steps.length c1, .slice a2 l[j].links.length c2] 64)) _ _ _ _ _) := HR.out.on hba
      have q0 := cell_on HR.out.bel p0
      have q1 := cell_on HR.out.bel p1
      have X := blk2d (World.alloc_heap_new wr (.cells #[.slice a1 l[j].steps.length c1, .slice a2 l[j].links.length c2] 64))
      obtain ⟨x0, x1⟩ := X
      obtain ⟨y0, y1, y2, y3⟩ := HR2.out.cells
      have HC : Hid (Calls Tryz.prog 99 _ _ _) := HPP.out _ b o cap bk bn bl ns _ _ l[j] (HT.out.on HR2.out.bel) (hS.map fun b o x hx => hx.on HIA.out HR2.out.bel) (hK.map fun b o x hx => cell_on HR2.out.bel hx) (HRP.out _ (List.getElem_mem hlt))
      have HNX : Hid (∀ n, (l.take (j + 1)).any (fun p => pthM ns (g ns) p (p.steps.length - 1) n) = ((l.take j).any (fun p => pthM ns (g ns) p (p.steps.length - 1) n) || pthM ns (g ns) l[j] (l[j].steps.length - 1) n)) := fun n => take_any hlt _
      have j1 : (0 : Int) ≤ (j : Int) := by omega
      have j2 : (j : Int) < (l.length : Int) := by omega
      clear p0 p1 hS hK hcells hba HR
      obtain ⟨F, hF⟩ : ∃ F : Nat → Bool, F = fun n => (l.take j).any fun p => pthM ns (g ns) p (p.steps.length - 1) n := ⟨_, rfl⟩
      obtain ⟨Q, hQ⟩ : ∃ Q : Nat → Bool, Q = pthM ns (g ns) l[j] (l[j].steps.length - 1) := ⟨_, rfl⟩
      obtain ⟨G, hG⟩ : ∃ G : Nat → Bool, G = fun n => (l.take (j + 1)).any fun p => pthM ns (g ns) p (p.steps.length - 1) n := ⟨_, rfl⟩
      have HG : Hid (∀ n, G n = (F n || Q n)) := by
        intro n
        rw [hG, hF, hQ]
        exact HNX.out n
      have HGE : Hid (G = fun n => (l.take (j + 1)).any fun p => pthM ns (g ns) p (p.steps.length - 1) n) := hG
      rw [← hF] at HR2
      rw [← hQ] at HC
      clear hF hQ hG HNX
      generalize l[j].steps.length = sl at *
      generalize l[j].links.length = kl at *
      go_wp2_with fail
      clear x0 x1 y0 y1 y2 y3 q0 q1
      generalize wr.alloc (.cells #[.slice a1 sl c1, .slice a2 kl c2] 64) = W1 at *
      refine HC.out.mono ?_
      rintro e w2 ⟨gB, rfl, hgB, hrow, hb2⟩
      have HR3 : Hid (LW w w2 (.slice (some ⟨b, o, none⟩) ns.length cap) (.slice (some ⟨bk, 0, none⟩) ns.length ns.length) (.slice (some ⟨bn, 0, none⟩) ns.length ns.length) (.slice (some ⟨bl, 0, none⟩) ns.length ns.length) (mix F G 0 ns.length)) := by
        have := HR2.out.on hb2
        unfold Hid
        rw [mix_zero]
        exact this
      have HPR : Hid (BRow w2 gB ((List.range ns.length).map Q)) := hrow
      have hgw : w.heap.size + 2 ≤ gB := by have := HR2.out.row.lt; omega
      clear hb2 hrow hgB HR2 HC
      go_wp2_with fail
      go_loopw [24] (fun i wr => ∃ n : Nat, n ≤ ns.length ∧ i = .int .i64 n ∧ Hid (LW w wr (.slice (some ⟨b, o, none⟩) ns.length cap) (.slice (some ⟨bk, 0, none⟩) ns.length ns.length) (.slice (some ⟨bn, 0, none⟩) ns.length ns.length) (.slice (some ⟨bl, 0, none⟩) ns.length ns.length) (mix F G n ns.length)) ∧ Hid (BRow wr gB ((List.range ns.length).map Q))) (fun i _ => ns.length - (intOf i).toNat)
      case atStart => exact ⟨0, Nat.zero_le _, rfl, HR3, HPR⟩
      case round =>
        obtain ⟨n, hn, rfl, HRn, HPn⟩ := hrel
        clear HR3 HPR
        by_cases hln : n < ns.length
        · have z1 : wr.cell? ⟨gB, n, none⟩ = some (.bool (Q n)) := by
            have := HPn.out.cell (i := n) (by simpa using hln)
            simpa using this
          have z2 : wr.cell? ⟨w.heap.size + 1, n, none⟩ = some (.bool (F n)) := by
            have := HRn.out.row.cell (i := n) (by rw [mix_len]; exact hln)
            rw [mix_get] at this
            simpa using this
          have zf := HRn.out.row.frozen n
          have n1 : (0 : Int) ≤ (n : Int) := by omega
          have n2 : (n : Int) < (ns.length : Int) := by omega
          have HS : Hid (LW w (wr.setCell ⟨w.heap.size + 1, n, none⟩ (.bool (G n))) (.slice (some ⟨b, o, none⟩) ns.length cap) (.slice (some ⟨bk, 0, none⟩) ns.length ns.length) (.slice (some ⟨bn, 0, none⟩) ns.length ns.length) (.slice (some ⟨bl, 0, none⟩) ns.length ns.length) (mix F G (n + 1) ns.length)) := by
            have := HRn.out.set n (G n)
            rw [mix_set F G hln] at this
            exact this
          have HPS : Hid (BRow (wr.setCell ⟨w.heap.size + 1, n, none⟩ (.bool (G n))) gB ((List.range ns.length).map Q)) := HPn.out.other (by omega) _
          have hg := HG.out n
          cases hf : F n with
          | true =>
            rw [hf, Bool.true_or] at hg
            rw [hf] at z2
            rw [hg] at HS HPS
            clear hg hf
            go_wp2
            exact ⟨⟨n + 1, by omega, by go_num, HS, HPS⟩, by simp [intOf]; omega⟩
          | false =>
            rw [hf, Bool.false_or] at hg
            rw [hf] at z2
            rw [hg] at HS HPS
            clear hg hf
            go_wp2
            exact ⟨⟨n + 1, by omega, by go_num, HS, HPS⟩, by simp [intOf]; omega⟩
        · have hnl : n = ns.length := by omega
          have HSF : Hid (LW w wr (.slice (some ⟨b, o, none⟩) ns.length cap) (.slice (some ⟨bk, 0, none⟩) ns.length ns.length) (.slice (some ⟨bn, 0, none⟩) ns.length ns.length) (.slice (some ⟨bl, 0, none⟩) ns.length ns.length) ((List.range ns.length).map fun n => (l.take (j + 1)).any fun p => pthM ns (g ns) p (p.steps.length - 1) n)) := by
            unfold Hid
            have h1 := HRn.out
            rw [show mix F G n ns.length = (List.range ns.length).map G by rw [hnl]; exact mix_all F G ns.length] at h1
            rw [← HGE.out]
            exact h1
          go_wp2
          exact ⟨⟨j + 1, by omega, by go_num, HSF⟩, by simp [intOf]; omega⟩
    · have hjl : j = l.length := by omega
      have HE : Hid (((List.range ns.length).map fun n => (l.take j).any fun p => pthM ns (g ns) p (p.steps.length - 1) n) = (List.range ns.length).map (lstM ns (g ns) l)) := by
        unfold Hid
        rw [hjl, List.take_length]
        rfl
      go_wp2
      go_ret
      exact ⟨w.heap.size + 1, rfl, by omega, by rw [← HE.out]; exact HR.out.row, HR.out.bel⟩
end Go.Proofs.YtephhllfodlfbaaGreatDoor
/-
  What is found of a path, by what is found of its steps and where its links lead.
-/
namespace Go.Proofs.YtephhllfodlfbaaGreatDoor
open Go.RowKit

/-- what ofStep tells of a level; what goOn tells -/
def OFS {α : Type} (A : MemL α) (g : List Pl.Nd → List α → Nat → Bool) (R : List α → Prop) : Prop := ∀ (w : World) (b o cap bk bn bl : Nat) (ns : List Pl.Nd) (vt : Value) (s : Pl.Stp α), TR w b o bk bn bl ns → RowAt (TstAt A) 6 w vt s.tests → RS R s → Calls Tryz.prog 133 #[.agg #[.slice (some ⟨b, o, none⟩) ns.length cap, .slice (some ⟨bk, 0, none⟩) ns.length ns.length, .slice (some ⟨bn, 0, none⟩) ns.length ns.length, .slice (some ⟨bl, 0, none⟩) ns.length ns.length], .agg #[.string ⟨s.tag.toArray⟩, vt]] w fun e w' => ∃ gB, e = .returned (.slice (some ⟨gB, 0, none⟩) ns.length ns.length) ∧ w.heap.size ≤ gB ∧ BRow w' gB ((List.range ns.length).map (stpM ns (g ns) s)) ∧ Below w.heap.size w w'
def GOON : Prop := ∀ (w : World) (b o cap bk bn bl : Nat) (ns : List Pl.Nd) (f t : Nat) (k : Int) (F T : Nat → Bool), TR w b o bk bn bl ns → BRow w f ((List.range ns.length).map F) → BRow w t ((List.range ns.length).map T) → Pl.isLink k = true → Calls Tryz.prog 134 #[.agg #[.slice (some ⟨b, o, none⟩) ns.length cap, .slice (some ⟨bk, 0, none⟩) ns.length ns.length, .slice (some ⟨bn, 0, none⟩) ns.length ns.length, .slice (some ⟨bl, 0, none⟩) ns.length ns.length], .slice (some ⟨f, 0, none⟩) ns.length ns.length, .int .i64 k, .slice (some ⟨t, 0, none⟩) ns.length ns.length] w fun e w' => ∃ gB, e = .returned (.slice (some ⟨gB, 0, none⟩) ns.length ns.length) ∧ w.heap.size ≤ gB ∧ BRow w' gB ((List.range ns.length).map fun n => T n && (fromL ns k n).any F) ∧ Below w.heap.size w w'
theorem on7 {W W' : World} {p1 p2 p3 p4 p5 p6 p7 : Addr} {u1 u2 u3 u4 u5 u6 u7 : Value} (h : W.cell? p1 = some u1 ∧ W.cell? p2 = some u2 ∧ W.cell? p3 = some u3 ∧ W.cell? p4 = some u4 ∧ W.cell? p5 = some u5 ∧ W.cell? p6 = some u6 ∧ W.cell? p7 = some u7) (hb : Below W.heap.size W W') : W'.cell? p1 = some u1 ∧ W'.cell? p2 = some u2 ∧ W'.cell? p3 = some u3 ∧ W'.cell? p4 = some u4 ∧ W'.cell? p5 = some u5 ∧ W'.cell? p6 = some u6 ∧ W'.cell? p7 = some u7 :=
  ⟨cell_on hb h.1, cell_on hb h.2.1, cell_on hb h.2.2.1, cell_on hb h.2.2.2.1, cell_on hb h.2.2.2.2.1, cell_on hb h.2.2.2.2.2.1, cell_on hb h.2.2.2.2.2.2⟩
theorem blk4c {W : World} {N : Nat} {T : TypeId} {u0 u1 u2 u3 : Value} (h : W.heap[N]? = some (.cells #[u0, u1, u2, u3] T)) : W.cell? ⟨N, 0, none⟩ = some u0 ∧ W.cell? ⟨N, 1, none⟩ = some u1 ∧ W.cell? ⟨N, 2, none⟩ = some u2 ∧ W.cell? ⟨N, 3, none⟩ = some u3 := by
  refine ⟨?_, ?_, ?_, ?_⟩ <;> simp [World.cell?, h]
set_option maxRecDepth 100000 in
set_option maxHeartbeats 8000000 in
theorem ofPath_up {α : Type} {A : MemL α} (hA : IsL A) {g : List Pl.Nd → List α → Nat → Bool} {R : List α → Prop} (hS : OFS A g R) (hG : GOON) : OFP A g R := by
  intro w b o cap bk bn bl ns vs vk p hT hSt hK hp
  obtain ⟨as_, cs, rfl⟩ := hSt.form
  obtain ⟨ak, ck, rfl⟩ := hK.form
  have h1 := hp.1
  obtain ⟨-, bs, os, rfl, hcells⟩ := RowAt.at hSt (by omega)
  have hb1 := on_alloc w (.cells #[.slice (some ⟨b, o, none⟩) ns.length cap, .slice (some ⟨bk, 0, none⟩) ns.length ns.length, .slice (some ⟨bn, 0, none⟩) ns.length ns.length, .slice (some ⟨bl, 0, none⟩) ns.length ns.length] 92)
  have hb2 := on_alloc (w.alloc (.cells #[.slice (some ⟨b, o, none⟩) ns.length cap, .slice (some ⟨bk, 0, none⟩) ns.length ns.length, .slice (some ⟨bn, 0, none⟩) ns.length ns.length, .slice (some ⟨bl, 0, none⟩) ns.length ns.length] 92)) (.cells #[.slice (some ⟨bs, os, none⟩) p.steps.length cs, .slice ak p.links.length ck] 64)
  have e1 := World.alloc_heap_new w (.cells #[.slice (some ⟨b, o, none⟩) ns.length cap, .slice (some ⟨bk, 0, none⟩) ns.length ns.length, .slice (some ⟨bn, 0, none⟩) ns.length ns.length, .slice (some ⟨bl, 0, none⟩) ns.length ns.length] 92)
  have e2 := World.alloc_heap_new (w.alloc (.cells #[.slice (some ⟨b, o, none⟩) ns.length cap, .slice (some ⟨bk, 0, none⟩) ns.length ns.length, .slice (some ⟨bn, 0, none⟩) ns.length ns.length, .slice (some ⟨bl, 0, none⟩) ns.length ns.length] 92)) (.cells #[.slice (some ⟨bs, os, none⟩) p.steps.length cs, .slice ak p.links.length ck] 64)
  simp only [World.size_alloc] at e2
  have HB : Hid (Below w.heap.size w ((w.alloc (.cells #[.slice (some ⟨b, o, none⟩) ns.length cap, .slice (some ⟨bk, 0, none⟩) ns.length ns.length, .slice (some ⟨bn, 0, none⟩) ns.length ns.length, .slice (some ⟨bl, 0, none⟩) ns.length ns.length] 92)).alloc (.cells #[.slice (some ⟨bs, os, none⟩) p.steps.length cs, .slice ak p.links.length ck] 64))) := below_trans hb1 hb2
  have HX : Hid (((w.alloc (.cells #[.slice (some ⟨b, o, none⟩) ns.length cap, .slice (some ⟨bk, 0, none⟩) ns.length ns.length, .slice (some ⟨bn, 0, none⟩) ns.length ns.length, .slice (some ⟨bl, 0, none⟩) ns.length ns.length] 92)).alloc (.cells #[.slice (some ⟨bs, os, none⟩) p.steps.length cs, .slice ak p.links.length ck] 64)).heap[w.heap.size]? = some (.cells #[.slice (some ⟨b, o, none⟩) ns.length cap, .slice (some ⟨bk, 0, none⟩) ns.length ns.length, .slice (some ⟨bn, 0, none⟩) ns.length ns.length, .slice (some ⟨bl, 0, none⟩) ns.length ns.length] 92)) := (hb2.block _ (by simp)).trans e1
  have HY : Hid (((w.alloc (.cells #[.slice (some ⟨b, o, none⟩) ns.length cap, .slice (some ⟨bk, 0, none⟩) ns.length ns.length, .slice (some ⟨bn, 0, none⟩) ns.length ns.length, .slice (some ⟨bl, 0, none⟩) ns.length ns.length] 92)).alloc (.cells #[.slice (some ⟨bs, os, none⟩) p.steps.length cs, .slice ak p.links.length ck] 64)).heap[w.heap.size + 1]? = some (.cells #[.slice (some ⟨bs, os, none⟩) p.steps.length cs, .slice ak p.links.length ck] 64)) := e2
  have HCE : Hid (∀ j (h : j < p.steps.length), StpAt A w bs (os + j * 2) p.steps[j]) := hcells
  have HKR : Hid (RowAt IntAt 1 w (.slice ak p.links.length ck) p.links) := hK
  have HT : Hid (TR w b o bk bn bl ns) := hT
  have HOS : Hid (OFS A g R) := hS
  have HGO : Hid GOON := hG
  have HIA : Hid (IsL A) := hA
  have HRS : Hid (∀ s ∈ p.steps, RS R s) := hp.2.2
  have HLK : Hid (∀ k ∈ p.links, Pl.isLink k = true) := hp.2.1
  have HLN : Hid (p.links.length + 1 = p.steps.length) := h1.2.2
  have hk4 : p.links.length ≤ 4 := by omega
  have hs1 : 0 < p.steps.length := by omega
  have HLOW : Hid (Pl.Low ns ns.length) := hT.rd.low
  clear hT hSt hK hp hS hG hA hb1 hb2 e1 e2 hcells h1
  obtain ⟨x0, x1, x2, x3⟩ := blk4c HX.out
  obtain ⟨y0, y1⟩ := blk2d HY.out
  obtain ⟨vt, s0, s1, hrow⟩ := HCE.out 0 hs1
  obtain ⟨at_, ct, rfl⟩ := hrow.form
  have HC : Hid (Calls Tryz.prog 133 _ _ _) := HOS.out (((w.alloc (.cells #[.slice (some ⟨b, o, none⟩) ns.length cap, .slice (some ⟨bk, 0, none⟩) ns.length ns.length, .slice (some ⟨bn, 0, none⟩) ns.length ns.length, .slice (some ⟨bl, 0, none⟩) ns.length ns.length] 92)).alloc (.cells #[.slice (some ⟨bs, os, none⟩) p.steps.length cs, .slice ak p.links.length ck] 64)).drew) b o cap bk bn bl ns _ p.steps[0] ((HT.out.on HB.out).on (Below.refl _ _).drew) (hrow.map fun b o x hx => hx.on HIA.out HB.out.drew) (HRS.out _ (List.getElem_mem hs1))
  have HST0 : Hid (stpAt p 0 = p.steps[0]) := by
    unfold Hid stpAt
    rw [List.getElem?_eq_getElem hs1]
    rfl
  rw [Nat.zero_mul, Nat.add_zero] at s0 s1
  have z0 := cell_on HB.out s0
  have z1 := cell_on HB.out s1
  generalize p.steps[0] = st0 at *
  obtain ⟨tag, tests⟩ := st0
  dsimp only at HC z0 z1
  have i0 : (0 : Int) < (p.steps.length : Int) := by omega
  clear s0 s1 hrow
  go_enter Tryz.func99, Tryz.ntmps99
  go_wp2_with fail
  generalize (w.alloc (.cells #[.slice (some ⟨b, o, none⟩) ns.length cap, .slice (some ⟨bk, 0, none⟩) ns.length ns.length, .slice (some ⟨bn, 0, none⟩) ns.length ns.length, .slice (some ⟨bl, 0, none⟩) ns.length ns.length] 92)).alloc (.cells #[.slice (some ⟨bs, os, none⟩) p.steps.length cs, .slice ak p.links.length ck] 64) = W0 at *
  have S0 : W0.drew.cell? ⟨w.heap.size, 0, none⟩ = some (.slice (some ⟨b, o, none⟩) ns.length cap) ∧ W0.drew.cell? ⟨w.heap.size, 1, none⟩ = some (.slice (some ⟨bk, 0, none⟩) ns.length ns.length) ∧ W0.drew.cell? ⟨w.heap.size, 2, none⟩ = some (.slice (some ⟨bn, 0, none⟩) ns.length ns.length) ∧ W0.drew.cell? ⟨w.heap.size, 3, none⟩ = some (.slice (some ⟨bl, 0, none⟩) ns.length ns.length) ∧ W0.drew.cell? ⟨w.heap.size + 1, 0, none⟩ = some (.slice (some ⟨bs, os, none⟩) p.steps.length cs) ∧ W0.drew.cell? ⟨bs, os, none⟩ = some (.string ⟨tag.toArray⟩) ∧ W0.drew.cell? ⟨bs, os + 1, none⟩ = some (.slice at_ tests.length ct) := ⟨x0, x1, x2, x3, y0, z0, z1⟩
  clear x0 x1 x2 x3 y0 z0 z1
  go_cut [5] (fun v wx => ∃ gB, v = .slice (some ⟨gB, 0, none⟩) ns.length ns.length ∧ w.heap.size ≤ gB ∧ Hid (BRow wx gB ((List.range ns.length).map (pthF ns (g ns) p 0))) ∧ Hid (Below W0.heap.size W0 wx))
  case first =>
    go_region_held3 (fun w' => w'.cell? ⟨w.heap.size, 0, none⟩ = some (.slice (some ⟨b, o, none⟩) ns.length cap) ∧ w'.cell? ⟨w.heap.size, 1, none⟩ = some (.slice (some ⟨bk, 0, none⟩) ns.length ns.length) ∧ w'.cell? ⟨w.heap.size, 2, none⟩ = some (.slice (some ⟨bn, 0, none⟩) ns.length ns.length) ∧ w'.cell? ⟨w.heap.size, 3, none⟩ = some (.slice (some ⟨bl, 0, none⟩) ns.length ns.length) ∧ w'.cell? ⟨w.heap.size + 1, 0, none⟩ = some (.slice (some ⟨bs, os, none⟩) p.steps.length cs) ∧ w'.cell? ⟨bs, os, none⟩ = some (.string ⟨tag.toArray⟩) ∧ w'.cell? ⟨bs, os + 1, none⟩ = some (.slice at_ tests.length ct)) (first | with_reducible assumption | exact on7 (by with_reducible assumption) (by with_reducible assumption))
      (first | (go_at_call 133; refine HC.out.mono ?_; rintro e w2 ⟨gB, rfl, hgB, hrow2, hb2⟩))
    all_goals
      go_wp2_with fail
      go_meet
      refine ⟨gB, rfl, Nat.le_trans HB.out.size hgB, ?_, below_trans (Below.refl _ W0).drew hb2⟩
      show BRow _ gB ((List.range ns.length).map (stpM ns (g ns) (stpAt p 0)))
      rw [HST0.out]
      exact hrow2
  case rest =>
    obtain ⟨gB0, rfl, hg0, HR0, HB0⟩ := hcut
    clear S0 HC
    have c1 := (cell_on HB0.out (blk2d HY.out).2)
    go_wp2_with fail
    go_loopw [5, 17] (fun v i wr => ∃ (j gB : Nat), j ≤ p.links.length ∧ i = .int .i64 j ∧ v = .slice (some ⟨gB, 0, none⟩) ns.length ns.length ∧ w.heap.size ≤ gB ∧ Hid (BRow wr gB ((List.range ns.length).map (pthF ns (g ns) p j))) ∧ Hid (Below W0.heap.size W0 wr)) (fun _ i _ => p.links.length - (intOf i).toNat)
    case atStart => exact ⟨0, gB0, Nat.zero_le _, rfl, rfl, hg0, HR0, HB0⟩
    case round =>
      obtain ⟨j, gB, hj, rfl, rfl, hgj, HR, HBR⟩ := hrel
      clear HR0 HB0 c1
      have HBW : Hid (Below w.heap.size w wr) := below_trans HB.out HBR.out
      by_cases hlt : j < p.links.length
      · obtain ⟨-, bq, oq, rfl, hkc⟩ := RowAt.at HKR.out (by omega)
        have lc : wr.cell? ⟨bq, oq + j, none⟩ = some (.int .i64 p.links[j]) := by
          have h1 := hkc j hlt
          unfold IntAt at h1
          rw [Nat.mul_one] at h1
          exact cell_on HBW.out h1
        have hjs : j + 1 < p.steps.length := by have := HLN.out; omega
        obtain ⟨vt, s0, s1, hrow⟩ := HCE.out (j + 1) hjs
        obtain ⟨at_, ct, rfl⟩ := hrow.form
        have HC : Hid (Calls Tryz.prog 133 _ _ _) := HOS.out wr.drew b o cap bk bn bl ns _ p.steps[j + 1] (HT.out.on HBW.out.drew) (hrow.map fun b o x hx => hx.on HIA.out HBW.out.drew) (HRS.out _ (List.getElem_mem hjs))
        have HSTJ : Hid (stpAt p (j + 1) = p.steps[j + 1]) := by
          unfold Hid stpAt
          rw [List.getElem?_eq_getElem hjs]
          rfl
        have hlk := HLK.out p.links[j] (List.getElem_mem hlt)
        have HLJ : Hid (lnkAt p j = p.links[j]) := by
          unfold Hid lnkAt
          rw [List.getElem?_eq_getElem hlt]
          rfl
        generalize p.links[j] = lk at *
        generalize p.steps[j + 1] = stj at *
        obtain ⟨tag, tests⟩ := stj
        dsimp only at HC s0 s1
        obtain ⟨x0, x1, x2, x3⟩ := blk4c HX.out
        obtain ⟨y0, y1⟩ := blk2d HY.out
        have S0 : wr.drew.cell? ⟨w.heap.size, 0, none⟩ = some (.slice (some ⟨b, o, none⟩) ns.length cap) ∧ wr.drew.cell? ⟨w.heap.size, 1, none⟩ = some (.slice (some ⟨bk, 0, none⟩) ns.length ns.length) ∧ wr.drew.cell? ⟨w.heap.size, 2, none⟩ = some (.slice (some ⟨bn, 0, none⟩) ns.length ns.length) ∧ wr.drew.cell? ⟨w.heap.size, 3, none⟩ = some (.slice (some ⟨bl, 0, none⟩) ns.length ns.length) ∧ wr.drew.cell? ⟨w.heap.size + 1, 0, none⟩ = some (.slice (some ⟨bs, os, none⟩) p.steps.length cs) ∧ wr.drew.cell? ⟨bs, os + (j + 1) * 2, none⟩ = some (.string ⟨tag.toArray⟩) ∧ wr.drew.cell? ⟨bs, os + (j + 1) * 2 + 1, none⟩ = some (.slice at_ tests.length ct) := ⟨cell_on HBR.out.drew x0, cell_on HBR.out.drew x1, cell_on HBR.out.drew x2, cell_on HBR.out.drew x3, cell_on HBR.out.drew y0, cell_on HBW.out.drew s0, cell_on HBW.out.drew s1⟩
        have HGC : Hid (∀ W tB, Below wr.drew.heap.size wr.drew W → BRow W tB ((List.range ns.length).map (stpM ns (g ns) ⟨tag, tests⟩)) → Calls Tryz.prog 134 #[.agg #[.slice (some ⟨b, o, none⟩) ns.length cap, .slice (some ⟨bk, 0, none⟩) ns.length ns.length, .slice (some ⟨bn, 0, none⟩) ns.length ns.length, .slice (some ⟨bl, 0, none⟩) ns.length ns.length], .slice (some ⟨gB, 0, none⟩) ns.length ns.length, .int .i64 lk, .slice (some ⟨tB, 0, none⟩) ns.length ns.length] W fun e w' => ∃ gC, e = .returned (.slice (some ⟨gC, 0, none⟩) ns.length ns.length) ∧ W.heap.size ≤ gC ∧ BRow w' gC ((List.range ns.length).map fun n => stpM ns (g ns) ⟨tag, tests⟩ n && (fromL ns lk n).any (pthF ns (g ns) p j)) ∧ Below W.heap.size W w') := fun W tB hW hr => HGO.out W b o cap bk bn bl ns gB tB lk _ _ ((HT.out.on HBW.out.drew).on hW) (BRow.on (w := wr.drew) HR.out hW) hr hlk
        have j1 : (0 : Int) ≤ (j : Int) := by omega
        have j2 : (j : Int) < (p.links.length : Int) := by omega
        have j3 : IntKind.i64.wrap ((j : Int) + 1) = ((j + 1 : Nat) : Int) := by rw [IntWalk.i64_in _ ⟨by omega, by omega⟩]; omega
        have j4 : (0 : Int) ≤ ((j + 1 : Nat) : Int) := by omega
        have j5 : ((j + 1 : Nat) : Int) < (p.steps.length : Int) := by omega
        have j6 : (j : Int) + 1 < (p.steps.length : Int) := by omega
        have j7 : IntKind.i64.wrap ((j : Int) + 1) = (j : Int) + 1 := IntWalk.i64_in _ ⟨by omega, by omega⟩
        have j8 : (0 : Int) ≤ (j : Int) + 1 := by omega
        have j9 : ((j : Int) + 1).toNat = j + 1 := by omega
        clear s0 s1 hrow hkc x0 x1 x2 x3 y0 y1 j3
        go_wp2_with fail
        clear lc
        go_region_held3 (fun w' => w'.cell? ⟨w.heap.size, 0, none⟩ = some (.slice (some ⟨b, o, none⟩) ns.length cap) ∧ w'.cell? ⟨w.heap.size, 1, none⟩ = some (.slice (some ⟨bk, 0, none⟩) ns.length ns.length) ∧ w'.cell? ⟨w.heap.size, 2, none⟩ = some (.slice (some ⟨bn, 0, none⟩) ns.length ns.length) ∧ w'.cell? ⟨w.heap.size, 3, none⟩ = some (.slice (some ⟨bl, 0, none⟩) ns.length ns.length) ∧ w'.cell? ⟨w.heap.size + 1, 0, none⟩ = some (.slice (some ⟨bs, os, none⟩) p.steps.length cs) ∧ w'.cell? ⟨bs, os + (j + 1) * 2, none⟩ = some (.string ⟨tag.toArray⟩) ∧ w'.cell? ⟨bs, os + (j + 1) * 2 + 1, none⟩ = some (.slice at_ tests.length ct)) (first | with_reducible assumption | exact on7 (by with_reducible assumption) (by with_reducible assumption))
          (first | (go_at_call 133; refine HC.out.mono ?_; rintro e w2 ⟨tB, rfl, htB, hrow2, hb2⟩) | (go_at_call 134; refine (HGC.out _ _ hb2 hrow2).mono ?_; rintro e w3 ⟨gC, rfl, hgC, hrow3, hb3⟩))
        all_goals
          have HR3 : Hid (BRow w3 gC ((List.range ns.length).map (pthF ns (g ns) p (j + 1)))) := by
            have e : pthF ns (g ns) p (j + 1) = fun n => stpM ns (g ns) ⟨tag, tests⟩ n && (fromL ns lk n).any (pthF ns (g ns) p j) := by
              funext n
              show (stpM ns (g ns) (stpAt p (j + 1)) n && (fromL ns (lnkAt p j) n).any (pthF ns (g ns) p j)) = _
              rw [HSTJ.out, HLJ.out]
            unfold Hid
            rw [e]
            exact hrow3
          have hgw : w.heap.size ≤ gC := Nat.le_trans (Nat.le_trans HBW.out.size hb2.size) hgC
          have HB3 : Hid (Below W0.heap.size W0 w3) := below_trans HBR.out.drew (below_trans hb2 hb3)
          clear hrow2 hrow3 hb2 hb3 S0
          go_wp2
          exact ⟨⟨j + 1, gC, by omega, by go_num, rfl, hgw, HR3, HB3⟩, by simp [intOf]; omega⟩
      · have hjl : j = p.steps.length - 1 := by have := HLN.out; omega
        have HRF : Hid (BRow wr gB ((List.range ns.length).map (pthM ns (g ns) p (p.steps.length - 1)))) := by
          have e : (List.range ns.length).map (pthF ns (g ns) p j) = (List.range ns.length).map (pthM ns (g ns) p (p.steps.length - 1)) := by
            apply List.map_congr_left
            intro n hn
            rw [← hjl]
            exact pthF_eq HLOW.out HLK.out j (by omega) n (by simpa using hn)
          unfold Hid
          rw [← e]
          exact HR.out
        go_wp2
        go_ret
        exact ⟨gB, rfl, hgj, HRF.out, HBW.out⟩
end Go.Proofs.YtephhllfodlfbaaGreatDoor
