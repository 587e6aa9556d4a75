/-
  What is found of lists; Matches.
-/
import Derived.Test.YtagobgjlhdbhmaaDoorMaV
import Derived.Test.YtagobgjlhdbhmaaDoorMaK
import Derived.Test.YtagobgjlhdbhmaaDoorAsk
import Derived.Test.YtagobgjlhdbhmaaDoorRows
import Derived.Lib.LaidTab
import Derived.Stop.LaidErr
import Derived.OpenShut
import Derived.LaidLaws
import Derived.Shelf.Vars
namespace Go.Proofs.YtagobgjlhdbhmaaDoor
open Go.RowKit

theorem oFL_z : OFL ZAt (fun ns => m0 ns) R0 := fun _ _ _ _ _ _ _ _ _ _ _ _ h => h.elim
theorem oFL_up {α : Type} {A : MemL α} (hA : IsL A) {g : List Pl.Nd → List α → Nat → Bool} {R : List α → Prop} (h : OFL A g R) : OFL (LstAt A) (fun ns => lstM ns (g ns)) (RL R) :=
  ofList_up hA (ofPath_up hA (ofStep_up hA (asking_up hA h (asking_has hA h over_any) (attrs_up con_any hasWord_any))) goOn_any)
theorem ofList_any : OFL A3 (fun ns => m3 ns) R3 := oFL_up isL_2 (oFL_up isL_1 (oFL_up isL_z oFL_z))
theorem rd_of {w : World} {b o : Nat} {ns : List Pl.Nd} (h : Pl.checkDoc ns = 0) (hc : ∀ i (h : i < ns.length), NdAt w b (o + i * 5) ns[i]) : RD w b o ns := by
  obtain ⟨-, h2, h3, h4⟩ := (Pl.check_iff ns).1 h
  refine ⟨hc, h2, fun k hk => ?_, fun x hx => ?_⟩
  · have := h4 k hk
    by_cases h0 : k = 0
    · have := this.1 h0
      omega
    · have := this.2 (by omega)
      omega
  · exact (by obtain ⟨i, hi, rfl⟩ := List.getElem_of_mem hx; exact (okTo_right (check_zero h).2.2 hi hi).1)
theorem matchErr_zero {ns : List Pl.Nd} {l : List Pl.D3} {n : Int} (h : matchErr ns l n = 0) : Pl.checkDoc ns = 0 ∧ chkList l = 0 ∧ ∃ k : Nat, n = k ∧ k < ns.length := by
  unfold matchErr at h
  split at h
  · split at h
    · exact ⟨by assumption, by assumption, (checkAt_zero h).2⟩
    · omega
  · omega
/-- a document that is handed in, laid open -/
theorem doc_parts {w : World} {v : Value} {ns : List Pl.Nd} (h : DocAt w v ns) (hc : Pl.checkDoc ns = 0) : ∃ b o cap, v = .slice (some ⟨b, o, none⟩) ns.length cap ∧ RD w b o ns ∧ ns.length ≤ cap ∧ 1 ≤ ns.length ∧ Pl.GoodTo ns ns.length := by
  obtain ⟨⟨a, cap, rfl, h1⟩, ⟨a', l', c', e, hlc, -⟩, -⟩ := h
  injection e with e1 e2 e3
  subst e1 e2 e3
  obtain ⟨g1, g2, g3, g4⟩ := (Pl.check_iff ns).1 hc
  rcases h1 with h0 | ⟨b, o, rfl, hcs⟩
  · subst h0
    simp at g1
  · exact ⟨b, o, cap, rfl, rd_of hc hcs, hlc, g1, g4⟩
def matB (ns : List Pl.Nd) (l : List Pl.D3) (n : Int) : Bool := if matchErr ns l n = 0 then m3 ns l n.toNat else false
set_option maxRecDepth 100000 in
set_option maxHeartbeats 2000000 in
theorem matches_call (v u : Value) (ns : List Pl.Nd) (l : List Pl.D3) (n : Int) (w : World) (hv : DocAt w v ns) (hl : A3 w u l) (hF : FormsAt w) (hG : Glob w) :
    Calls Tryd.prog 4 #[.agg #[v], u, .int .i64 n] w fun e w' => e = .returned (.tuple #[.bool (matB ns l n), .int .i64 (matchErr ns l n)]) ∧ Below w.heap.size w w' := by
  obtain ⟨av, cv, rfl, -⟩ := id hv.1
  obtain ⟨al, cl, rfl, -⟩ := isL_3.form hl
  have HB : Hid (Below w.heap.size w (w.alloc (.cells #[.slice av ns.length cv] 24))) := on_alloc _ _
  have c0 : (w.alloc (.cells #[.slice av ns.length cv] 24)).cell? ⟨w.heap.size, 0, none⟩ = some (.slice av ns.length cv) := by simp [go_sem]
  have HC1 : Hid (Calls Tryd.prog 9 _ _ _) := mcheckAt_any (.slice av ns.length cv) (.slice al l.length cl) ns l n _ hv.2.2 (hv.1.on HB.out) (isL_3.on hl HB.out) (hF.on HB.out)
  have HV : Hid (DocAt w (.slice av ns.length cv) ns) := hv
  have HL : Hid (A3 w (.slice al l.length cl) l) := hl
  have HG : Hid (Glob w) := hG
  have HZ : Hid (matchErr ns l n = 0 → Pl.checkDoc ns = 0 ∧ chkList l = 0 ∧ ∃ k : Nat, n = k ∧ k < ns.length) := matchErr_zero
  have HMB : Hid (matB ns l n = if matchErr ns l n = 0 then m3 ns l n.toNat else false) := rfl
  clear hv hl hF hG
  generalize matB ns l n = mb at *
  generalize matchErr ns l n = me at *
  go_enter Tryd.func4, Tryd.ntmps4
  go_wp2_with fail
  refine HC1.out.mono ?_
  rintro e w1 ⟨rfl, hb1⟩
  have HB1 : Hid (Below w.heap.size w w1) := below_trans HB.out hb1
  have c1 := cell_on hb1 c0
  clear hb1 c0
  by_cases h1 : me = 0
  · subst h1
    rw [if_pos rfl] at HMB
    obtain ⟨z1, z2, k, rfl, hk⟩ := HZ.out rfl
    obtain ⟨b, o, cap, e, hRD, hcap, hN, hgd⟩ := doc_parts HV.out z1
    injection e with e1 e2 e3
    subst e1 e3
    have HC2 : Hid (Calls Tryd.prog 10 _ _ _) := grow_call w1 b o cv ns (HG.out.on HB1.out) (hRD.on HB1.out) hN hgd hcap
    have HR3 : Hid (R3 l) := (R3_iff l).2 z2
    have i1 : (0 : Int) ≤ (k : Int) := by omega
    have i2 : (k : Int) < (ns.length : Int) := by omega
    clear z1 z2 hRD hN hgd hcap HZ
    go_wp2_with fail
    refine HC2.out.mono ?_
    rintro e w2 ⟨bk, bn, bl, rfl, hTR, hb2⟩
    have HB2 : Hid (Below w.heap.size w w2) := below_trans HB1.out hb2
    have HC3 : Hid (Calls Tryd.prog 11 _ _ _) := ofList_any w2 b o cv bk bn bl ns _ l hTR (isL_3.on HL.out HB2.out) HR3.out
    clear hTR hb2 c1
    go_wp2_with fail
    refine HC3.out.mono ?_
    rintro e w3 ⟨gB, rfl, -, hrow, hb3⟩
    have HB3 : Hid (Below w.heap.size w w3) := below_trans HB2.out hb3
    have c3 : w3.cell? ⟨gB, k, none⟩ = some (.bool mb) := by
      have := hrow.cell (i := k) (by simpa using hk)
      rw [HMB.out]
      simpa using this
    clear hrow hb3
    go_wp2
    go_ret2
    exact ⟨rfl, HB3.out⟩
  · rw [if_neg h1] at HMB
    have b1 : (me == 0) = false := by simpa using h1
    have hmb : mb = false := HMB.out
    subst hmb
    clear h1
    go_wp2
    go_ret2
    exact ⟨rfl, HB1.out⟩
end Go.Proofs.YtagobgjlhdbhmaaDoor
/-
  All, and Nearest.
-/
namespace Go.Proofs.YtagobgjlhdbhmaaDoor
open Go.RowKit Go.Shelf

attribute [local go_sem] Oper.semAt_some

def allA (ns : List Pl.Nd) (l : List Pl.D3) : List Nat := if chkBoth ns l = 0 then allTo (m3 ns l) ns.length else []
theorem chkBoth_zero {ns : List Pl.Nd} {l : List Pl.D3} (h : chkBoth ns l = 0) : Pl.checkDoc ns = 0 ∧ chkList l = 0 := by
  unfold chkBoth at h
  split at h
  · exact ⟨by assumption, h⟩
  · omega
theorem intsF_nil (B : Nat) (w : World) : IntsF B w (.slice none 0 0) [] := ⟨none, 0, rfl, Or.inl rfl⟩
set_option maxRecDepth 100000 in
set_option maxHeartbeats 2000000 in
theorem all_call (v u : Value) (ns : List Pl.Nd) (l : List Pl.D3) (w : World) (hv : DocAt w v ns) (hl : A3 w u l) (hF : FormsAt w) (hG : Glob w) :
    Calls Tryd.prog 7 #[.agg #[v], u] w fun e w' => ∃ x, e = .returned (.tuple #[x, .int .i64 (chkBoth ns l)]) ∧ IntsF w.heap.size w' x (allA ns l) ∧ Below w.heap.size w w' := by
  obtain ⟨av, cv, rfl, -⟩ := id hv.1
  obtain ⟨al, cl, rfl, -⟩ := isL_3.form hl
  have HB : Hid (Below w.heap.size w (w.alloc (.cells #[.slice av ns.length cv] 24))) := on_alloc _ _
  have c0 : (w.alloc (.cells #[.slice av ns.length cv] 24)).cell? ⟨w.heap.size, 0, none⟩ = some (.slice av ns.length cv) := by simp [go_sem]
  have HC1 : Hid (Calls Tryd.prog 15 _ _ _) := mcheck_any (.slice av ns.length cv) (.slice al l.length cl) ns l _ hv.2.2 (hv.1.on HB.out) (isL_3.on hl HB.out) (hF.on HB.out)
  have HV : Hid (DocAt w (.slice av ns.length cv) ns) := hv
  have HL : Hid (A3 w (.slice al l.length cl) l) := hl
  have HG : Hid (Glob w) := hG
  have HZ : Hid (chkBoth ns l = 0 → Pl.checkDoc ns = 0 ∧ chkList l = 0) := chkBoth_zero
  have HMB : Hid (allA ns l = if chkBoth ns l = 0 then allTo (m3 ns l) ns.length else []) := rfl
  clear hv hl hF hG
  generalize allA ns l = mb at *
  generalize chkBoth ns l = me at *
  obtain ⟨i0, hi, hz0, hz1, hz2⟩ := info_parts Tryd.info3
  go_enter Tryd.func7, Tryd.ntmps7
  go_wp2_with fail
  refine HC1.out.mono ?_
  rintro e w1 ⟨rfl, hb1⟩
  have HB1 : Hid (Below w.heap.size w w1) := below_trans HB.out hb1
  have c1 := cell_on hb1 c0
  clear hb1 c0
  by_cases h1 : me = 0
  · subst h1
    rw [if_pos rfl] at HMB
    obtain ⟨z1, z2⟩ := HZ.out rfl
    obtain ⟨b, o, cap, e, hRD, hcap, hN, hgd⟩ := doc_parts HV.out z1
    injection e with e1 e2 e3
    subst e1 e3
    have HC2 : Hid (Calls Tryd.prog 10 _ _ _) := grow_call w1 b o cv ns (HG.out.on HB1.out) (hRD.on HB1.out) hN hgd hcap
    have HR3 : Hid (R3 l) := (R3_iff l).2 z2
    have h64 := hRD.n64
    clear z1 z2 hRD hN hgd hcap HZ
    go_wp2_with fail
    refine HC2.out.mono ?_
    rintro e w2 ⟨bk, bn, bl, rfl, hTR, hb2⟩
    have HB2 : Hid (Below w.heap.size w w2) := below_trans HB1.out hb2
    have HC3 : Hid (Calls Tryd.prog 11 _ _ _) := ofList_any w2 b o cv bk bn bl ns _ l hTR (isL_3.on HL.out HB2.out) HR3.out
    clear hTR hb2 c1 HC2
    go_wp2_with fail
    refine HC3.out.mono ?_
    rintro e w3 ⟨gB, rfl, -, hrow, hb3⟩
    have HB3 : Hid (Below w.heap.size w w3) := below_trans HB2.out hb3
    obtain ⟨q, hq⟩ : ∃ q, q = m3 ns l := ⟨_, rfl⟩
    rw [← hq] at HMB
    have HRW : Hid (BRow w3 gB ((List.range ns.length).map q)) := by
      rw [hq]
      exact hrow
    clear hrow hb3 HC3 hq
    go_wp2_with fail
    go_loopw [7, 22] (fun v i wr => ∃ k : Nat, k ≤ ns.length ∧ i = .int .i64 k ∧ Hid (wr.ownsRow w3.heap.size 3 1 v (allTo q k).length (natCells (allTo q k))) ∧ Hid (Below w3.heap.size w3 wr)) (fun _ i _ => ns.length - (intOf i).toNat)
    case atStart => exact ⟨0, Nat.zero_le _, rfl, World.ownsRow_nil _ _ _ _, Below.refl _ _⟩
    case round =>
      obtain ⟨k, hk, rfl, HOWN, HBB⟩ := hrel
      by_cases hlt : k < ns.length
      · have c3 : wr.cell? ⟨gB, k, none⟩ = some (.bool (q k)) := by
          have := (HRW.out.on HBB.out).cell (i := k) (by simpa using hlt)
          simpa using this
        have hkl := allTo_len q k
        have i1 : (0 : Int) ≤ (k : Int) := by omega
        have i2 : (k : Int) < (ns.length : Int) := by omega
        cases hqk : q k with
        | true =>
          have HK : Hid (allTo q (k + 1) = allTo q k ++ [k]) := allTo_hit q k hqk
          rw [hqk] at c3
          have hown : wr.ownsRow w3.heap.size 3 1 u7 (allTo q k).length (natCells (allTo q k)) := HOWN.out
          have hB : Below w3.heap.size w3 wr := HBB.out
          clear hqk
          go_wp2_with (at_builtin; refine wpList_append_own _ rfl _ _ 35 rfl w3.heap.size 3 i0 (.int .i64 0) 1 8 Tryd.underlying35 hi hz0 hz1 hz2 rfl (by decide) _ _ _ rfl (hown.alloc _) ⟨wr.heap.size, 0, none⟩ 1 1 [.int .i64 k] rfl rfl ?c1 ?c2 ?c3 ?c4 ?c5 ?_)
          case c1 =>
            intro j u hj
            match j, hj with
            | 0, hj => simp at hj; subst hj; simp [Addr.add, go_sem]
          case c2 => intro u hu; simp at hu; subst hu; rfl
          case c3 => unfold maxLen; omega
          case c4 => omega
          case c5 => have := hB.size; simp; omega
          intro v' w1 hown' hgrow _
          have HB1 : Hid (Below w3.heap.size w3 w1) := (hB.alloc hB.size _).grown hgrow (by have := hB.size; simp; omega) (fun g hg => by have := (World.ownsRow.lt hown g hg).1; omega)
          have HOW1 : Hid (w1.ownsRow w3.heap.size 3 1 v' (allTo q (k + 1)).length (natCells (allTo q (k + 1)))) := by
            unfold Hid
            rw [HK.out]
            simpa [natCells] using hown'
          clear hgrow hown hown' hB
          go_wp2
          exact ⟨⟨k + 1, hlt, by go_num, HOW1, HB1⟩, by simp [intOf]; omega⟩
        | false =>
          have HK : Hid (allTo q (k + 1) = allTo q k) := allTo_miss q k hqk
          rw [hqk] at c3
          have HOW2 : Hid (wr.ownsRow w3.heap.size 3 1 u7 (allTo q (k + 1)).length (natCells (allTo q (k + 1)))) := by
            unfold Hid
            rw [HK.out]
            exact HOWN.out
          clear hqk
          go_wp2
          exact ⟨⟨k + 1, hlt, by go_num, HOW2, HBB⟩, by simp [intOf]; omega⟩
      · have hkl : k = ns.length := by omega
        have HF : Hid (IntsF w.heap.size wr u7 mb) := by
          have h1 := intsF_of_row HOWN.out
          rw [hkl, ← HMB.out] at h1
          exact h1.mono HB3.out.size
        have HBF : Hid (Below w.heap.size w wr) := below_trans HB3.out HBB.out
        clear hkl
        go_wp2
        go_ret2
        exact ⟨_, rfl, HF.out, HBF.out⟩
  · rw [if_neg h1] at HMB
    have b1 : (me == 0) = false := by simpa using h1
    have hmb : mb = [] := HMB.out
    subst hmb
    clear h1
    go_wp2
    go_ret2
    exact ⟨_, rfl, intsF_nil _ _, HB1.out⟩
end Go.Proofs.YtagobgjlhdbhmaaDoor
/-
  Nearest.
-/
namespace Go.Proofs.YtagobgjlhdbhmaaDoor
open Go.RowKit Go.Shelf

attribute [local go_sem] Oper.semAt_some

def nearA (ns : List Pl.Nd) (l : List Pl.D3) (n : Int) : Option Nat := if matchErr ns l n = 0 then (nearL ns n.toNat).find? (m3 ns l) else none
/-- the boxes of what is answered -/
structure NB (w W : World) (x : Int) (y : Bool) (z : Int) : Prop where
  bel : Below w.heap.size w W
  b1 : Boxed W (w.heap.size + 1) 3 (.int .i64 x)
  b2 : Boxed W (w.heap.size + 2) 4 (.bool y)
  b3 : Boxed W (w.heap.size + 3) 26 (.int .i64 z)
section
variable {w W W' : World} {x z : Int} {y : Bool}
theorem NB.on (h : NB w W x y z) (hb : Below W.heap.size W W') : NB w W' x y z := ⟨below_trans h.bel hb, (hb.block _ h.b1.lt).trans h.b1, (hb.block _ h.b2.lt).trans h.b2, (hb.block _ h.b3.lt).trans h.b3⟩
theorem NB.turns {X : Nat → Prop} {M : Nat} (h : NB w W x y z) (hX : ∀ r, X r → w.heap.size + 4 ≤ r) (hM : w.heap.size ≤ M) (ht : Turns X M W W') : NB w W' x y z := by
  have hn : ∀ k, k < w.heap.size + 4 → ¬ X k := fun k hk hx => by have := hX k hx; omega
  exact ⟨ht.below hM (fun r hr => by have := hX r hr; omega) h.bel h.bel.size, ht.cells h.b1 rfl (hn _ (by omega)), ht.cells h.b2 rfl (hn _ (by omega)), ht.cells h.b3 rfl (hn _ (by omega))⟩
theorem NB.set (h : NB w W x y z) (x' : Int) (y' : Bool) (z' : Int) : NB w (((W.setCell ⟨w.heap.size + 1, 0, none⟩ (.int .i64 x')).setCell ⟨w.heap.size + 2, 0, none⟩ (.bool y')).setCell ⟨w.heap.size + 3, 0, none⟩ (.int .i64 z')) x' y' z' :=
  ⟨((h.bel.setCell (p := ⟨w.heap.size + 1, 0, none⟩) (by simp) _).setCell (p := ⟨w.heap.size + 2, 0, none⟩) (by simp) _).setCell (p := ⟨w.heap.size + 3, 0, none⟩) (by simp) _,
   ((h.b1.set _).other (by omega) _).other (by omega) _, ((h.b2.other (by omega) _).set _).other (by omega) _, ((h.b3.other (by omega) _).other (by omega) _).set _⟩
theorem NB.new (w : World) (ob : Obj) : NB w ((((w.alloc ob).alloc (.cells #[.int .i64 0] 3)).alloc (.cells #[.bool false] 4)).alloc (.cells #[.int .i64 0] 26)) 0 false 0 := by
  have h1 := ((Boxed.new (w.alloc ob) 3 (.int .i64 0)).alloc (.cells #[.bool false] 4)).alloc (.cells #[.int .i64 0] 26)
  have h2 := (Boxed.new ((w.alloc ob).alloc (.cells #[.int .i64 0] 3)) 4 (.bool false)).alloc (.cells #[.int .i64 0] 26)
  have h3 := Boxed.new (((w.alloc ob).alloc (.cells #[.int .i64 0] 3)).alloc (.cells #[.bool false] 4)) 26 (.int .i64 0)
  simp only [World.size_alloc] at h1 h2 h3
  exact ⟨below_trans (below_trans (below_trans (on_alloc _ _) (on_alloc _ _)) (on_alloc _ _)) (on_alloc _ _), h1, h2, h3⟩
/-- cells of the answer in a later world in which blocks of cells lie as they lay -/
theorem NB.cells (h : NB w W x y z) (hc : ∀ (k : Nat) (o : Obj), W.heap[k]? = some o → o.isCells = true → W'.heap[k]? = some o) : W'.cell? ⟨w.heap.size + 1, 0, none⟩ = some (.int .i64 x) ∧ W'.cell? ⟨w.heap.size + 2, 0, none⟩ = some (.bool y) ∧ W'.cell? ⟨w.heap.size + 3, 0, none⟩ = some (.int .i64 z) :=
  ⟨Boxed.cell (hc _ _ h.b1 rfl), Boxed.cell (hc _ _ h.b2 rfl), Boxed.cell (hc _ _ h.b3 rfl)⟩
end
theorem keeps3 (W : World) (p q r : Addr) (x y z : Value) : KeepsOthers W (((W.setCell p x).setCell q y).setCell r z) := ((KeepsOthers.setCell W p x).trans (KeepsOthers.setCell _ q y)).trans (KeepsOthers.setCell _ r z)
theorem any_find {q : Nat → Bool} {L : List Nat} (h : L.any q = false) : L.find? q = none := by
  rw [List.find?_eq_none]
  intro x hx hq
  rw [List.any_eq_false] at h
  exact h x hx hq
set_option maxRecDepth 100000 in
set_option maxHeartbeats 4000000 in
theorem nearest_call (v u : Value) (ns : List Pl.Nd) (l : List Pl.D3) (n : Int) (w : World) (hv : DocAt w v ns) (hl : A3 w u l) (hF : FormsAt w) (hG : Glob w) :
    Calls Tryd.prog 8 #[.agg #[v], u, .int .i64 n] w fun e w' => e = .returned (.tuple #[.int .i64 ((nearA ns l n).getD 0 : Nat), .bool (nearA ns l n).isSome, .int .i64 (matchErr ns l n)]) ∧ Below w.heap.size w w' := by
  obtain ⟨av, cv, rfl, -⟩ := id hv.1
  obtain ⟨al, cl, rfl, -⟩ := isL_3.form hl
  have HNB : Hid (NB w ((((w.alloc (.cells #[.slice av ns.length cv] 24)).alloc (.cells #[.int .i64 0] 3)).alloc (.cells #[.bool false] 4)).alloc (.cells #[.int .i64 0] 26)) 0 false 0) := NB.new w _
  have c0 : ((((w.alloc (.cells #[.slice av ns.length cv] 24)).alloc (.cells #[.int .i64 0] 3)).alloc (.cells #[.bool false] 4)).alloc (.cells #[.int .i64 0] 26)).cell? ⟨w.heap.size, 0, none⟩ = some (.slice av ns.length cv) := by simp [go_sem]
  have HC1 : Hid (Calls Tryd.prog 9 _ _ _) := mcheckAt_any (.slice av ns.length cv) (.slice al l.length cl) ns l n ((((w.alloc (.cells #[.slice av ns.length cv] 24)).alloc (.cells #[.int .i64 0] 3)).alloc (.cells #[.bool false] 4)).alloc (.cells #[.int .i64 0] 26)) hv.2.2 (hv.1.on HNB.out.bel) (isL_3.on hl HNB.out.bel) (hF.on HNB.out.bel)
  have HV : Hid (DocAt w (.slice av ns.length cv) ns) := hv
  have HL : Hid (A3 w (.slice al l.length cl) l) := hl
  have HG : Hid (Glob w) := hG
  have HZ : Hid (matchErr ns l n = 0 → Pl.checkDoc ns = 0 ∧ chkList l = 0 ∧ ∃ k : Nat, n = k ∧ k < ns.length) := matchErr_zero
  have HMB : Hid (nearA ns l n = if matchErr ns l n = 0 then (nearL ns n.toNat).find? (m3 ns l) else none) := rfl
  clear hv hl hF hG
  generalize nearA ns l n = mb at *
  generalize matchErr ns l n = me at *
  refine (callsIn_wide (n := 6)).1 ?_
  refine callsIn_of_wp_marks Tryd.func8 rfl trivial ?_ rfl
  simp only [Tryd.ntmps8, List.size_toArray, List.length_cons, List.length_nil, Nat.reduceAdd, Nat.reduceSub, Array.replicate_succ, Array.replicate_zero, List.push_toArray, List.append_toArray, List.nil_append, List.cons_append]
  gi_wp2_with fail
  generalize ((((w.alloc (.cells #[.slice av ns.length cv] 24)).alloc (.cells #[.int .i64 0] 3)).alloc (.cells #[.bool false] 4)).alloc (.cells #[.int .i64 0] 26)) = W0 at *
  rw [show w.heap.size + 1 + 1 + 1 = w.heap.size + 3 from rfl, show w.heap.size + 1 + 1 = w.heap.size + 2 from rfl]
  refine ⟨trivial, (callsIn_wide.2 HC1.out).mono ?_⟩
  rintro e w1 ⟨rfl, hb1⟩
  have HN1 : Hid (NB w w1 0 false 0) := HNB.out.on hb1
  have c1 := cell_on hb1 c0
  clear hb1 c0 HNB HC1
  by_cases h1 : me = 0
  · subst h1
    rw [if_pos rfl] at HMB
    obtain ⟨z1, z2, n0, rfl, hn0⟩ := HZ.out rfl
    obtain ⟨b, o, cap, e, hRD, hcap, hN, hgd⟩ := doc_parts HV.out z1
    injection e with e1 e2 e3
    subst e1 e3
    have HC2 : Hid (Calls Tryd.prog 10 _ _ _) := grow_call w1 b o cv ns (HG.out.on HN1.out.bel) (hRD.on HN1.out.bel) hN hgd hcap
    have HR3 : Hid (R3 l) := (R3_iff l).2 z2
    have i1 : (0 : Int) ≤ (n0 : Int) := by omega
    have i2 : (n0 : Int) < (ns.length : Int) := by omega
    have hbw : b < w.heap.size := by
      obtain ⟨vc, va, m0, -⟩ := hRD.at_ n0 hn0
      obtain ⟨ob, hob, -⟩ := cells_of_cell m0
      exact (Array.getElem?_eq_some_iff.1 hob).1
    clear z1 z2 hRD hN hgd hcap HZ
    gi_wp2_with fail
    refine ⟨trivial, (callsIn_wide.2 HC2.out).mono ?_⟩
    rintro e w2 ⟨bk, bn, bl, rfl, hTR, hb2⟩
    have hba := on_alloc w2 (.cells #[.slice (some ⟨b, o, none⟩) ns.length cv, .slice (some ⟨bk, 0, none⟩) ns.length ns.length, .slice (some ⟨bn, 0, none⟩) ns.length ns.length, .slice (some ⟨bl, 0, none⟩) ns.length ns.length] 48)
    have HT3 : Hid (TR (w2.alloc (.cells #[.slice (some ⟨b, o, none⟩) ns.length cv, .slice (some ⟨bk, 0, none⟩) ns.length ns.length, .slice (some ⟨bn, 0, none⟩) ns.length ns.length, .slice (some ⟨bl, 0, none⟩) ns.length ns.length] 48)) b o bk bn bl ns) := hTR.on hba
    have HN3 : Hid (NB w (w2.alloc (.cells #[.slice (some ⟨b, o, none⟩) ns.length cv, .slice (some ⟨bk, 0, none⟩) ns.length ns.length, .slice (some ⟨bn, 0, none⟩) ns.length ns.length, .slice (some ⟨bl, 0, none⟩) ns.length ns.length] 48)) 0 false 0) := (HN1.out.on hb2).on hba
    have HX3 : Hid ((w2.alloc (.cells #[.slice (some ⟨b, o, none⟩) ns.length cv, .slice (some ⟨bk, 0, none⟩) ns.length ns.length, .slice (some ⟨bn, 0, none⟩) ns.length ns.length, .slice (some ⟨bl, 0, none⟩) ns.length ns.length] 48)).heap[w2.heap.size]? = some (.cells #[.slice (some ⟨b, o, none⟩) ns.length cv, .slice (some ⟨bk, 0, none⟩) ns.length ns.length, .slice (some ⟨bn, 0, none⟩) ns.length ns.length, .slice (some ⟨bl, 0, none⟩) ns.length ns.length] 48)) := World.alloc_heap_new _ _
    obtain ⟨y0, y1, y2, y3⟩ := blk4c HX3.out
    have HC3 : Hid (Calls Tryd.prog 11 _ _ _) := ofList_any _ b o cv bk bn bl ns _ l HT3.out (isL_3.on HL.out HN3.out.bel) HR3.out
    clear hTR hb2 c1 hba HC2 HN1
    gi_wp2_with fail
    generalize w2.alloc (.cells #[.slice (some ⟨b, o, none⟩) ns.length cv, .slice (some ⟨bk, 0, none⟩) ns.length ns.length, .slice (some ⟨bn, 0, none⟩) ns.length ns.length, .slice (some ⟨bl, 0, none⟩) ns.length ns.length] 48) = w3 at *
    refine ⟨trivial, (callsIn_wide.2 HC3.out).mono ?_⟩
    rintro e w4 ⟨gB, rfl, hgB, hrow, hb4⟩
    obtain ⟨q, hq⟩ : ∃ q, q = m3 ns l := ⟨_, rfl⟩
    have hbf := on_alloc w4 (.cells #[.slice (some ⟨gB, 0, none⟩) ns.length ns.length] 46)
    have HT5 : Hid (TR (w4.alloc (.cells #[.slice (some ⟨gB, 0, none⟩) ns.length ns.length] 46)) b o bk bn bl ns) := (HT3.out.on hb4).on hbf
    have HN5 : Hid (NB w (w4.alloc (.cells #[.slice (some ⟨gB, 0, none⟩) ns.length ns.length] 46)) 0 false 0) := (HN3.out.on hb4).on hbf
    have HX5 : Hid ((w4.alloc (.cells #[.slice (some ⟨gB, 0, none⟩) ns.length ns.length] 46)).heap[w2.heap.size]? = some (.cells #[.slice (some ⟨b, o, none⟩) ns.length cv, .slice (some ⟨bk, 0, none⟩) ns.length ns.length, .slice (some ⟨bn, 0, none⟩) ns.length ns.length, .slice (some ⟨bl, 0, none⟩) ns.length ns.length] 48)) := blkOn hbf (blkOn hb4 HX3.out)
    have HF5 : Hid (Boxed (w4.alloc (.cells #[.slice (some ⟨gB, 0, none⟩) ns.length ns.length] 46)) w4.heap.size 46 (.slice (some ⟨gB, 0, none⟩) ns.length ns.length)) := Boxed.new _ _ _
    have HRW : Hid (BRow (w4.alloc (.cells #[.slice (some ⟨gB, 0, none⟩) ns.length ns.length] 46)) gB ((List.range ns.length).map q)) := by
      rw [hq]
      exact hrow.on hbf
    rw [← hq] at HMB
    clear y0 y1 y2 y3 hrow hb4 hbf HC3 hq HT3 HN3 HX3
    obtain ⟨y0, y1, y2, y3⟩ := blk4c HX5.out
    have f0 := HF5.out.cell
    have r0 : (w4.alloc (.cells #[.slice (some ⟨gB, 0, none⟩) ns.length ns.length] 46)).cell? ⟨gB, n0, none⟩ = some (.bool (q n0)) := by
      have := HRW.out.cell (i := n0) (by simpa using hn0)
      simpa using this
    have a1 := HN5.out.b1.cell
    have a2 := HN5.out.b2.cell
    have a3 := HN5.out.b3.cell
    have g1 := HN5.out.b1.frozen
    have g2 := HN5.out.b2.frozen
    have g3 := HN5.out.b3.frozen
    have HNF : Hid (mb = if q n0 = true then some n0 else (aboveL ns n0).find? q) := by
      unfold Hid
      rw [HMB.out]
      unfold nearL
      rw [Int.toNat_natCast, List.find?_cons]
      cases q n0 <;> rfl
    have hw4 : w2.heap.size < w4.heap.size + 1 := by have := (Array.getElem?_eq_some_iff.1 HX5.out).1; simpa using this
    have hw2 : w.heap.size + 4 ≤ w4.heap.size + 1 := by have := HN5.out.b3.lt; simp at this; omega
    have hs5 : (w4.alloc (.cells #[.slice (some ⟨gB, 0, none⟩) ns.length ns.length] 46)).heap.size = w4.heap.size + 1 := by simp
    cases hqn : q n0 with
    | true =>
      rw [hqn] at r0
      rw [hqn, if_pos rfl] at HNF
      have HN6 : Hid (NB w ((((w4.alloc (.cells #[.slice (some ⟨gB, 0, none⟩) ns.length ns.length] 46)).setCell ⟨w.heap.size + 1, 0, none⟩ (.int .i64 n0)).setCell ⟨w.heap.size + 2, 0, none⟩ (.bool true)).setCell ⟨w.heap.size + 3, 0, none⟩ (.int .i64 0)) n0 true 0) := HN5.out.set n0 true 0
      have hmb : mb = some n0 := HNF.out
      subst hmb
      clear hqn
      gi_wp2
      obtain ⟨k1, k2, k3⟩ := HN6.out.cells (fun _ _ h _ => h)
      refine ⟨.tuple #[.int .i64 n0, .bool true, .int .i64 0], ?_, rfl, HN6.out.bel⟩
      simp [results, Tryd.results8, go_sem, k1, k2, k3]
    | false =>
      rw [hqn] at r0
      rw [hqn, if_neg (by simp)] at HNF
      clear hqn
      gi_wp2_with (refine ⟨trivial, ?_⟩; gi_at_call 16; refine (callsIn_wide.2 (above_call _ _ _ _ _ _)).mono ?_; rintro e w' ⟨rfl, rfl⟩)
      have HGO : Hid (Goes ns 20 #[.pointer (some ⟨(w4.heap.size + 1), 0, none⟩), .pointer (some ⟨(w4.heap.size + 1) + 1, 0, none⟩)] (KpS ns (w4.heap.size + 1) b o cv) (aboveL ns n0) (boxed2  (w4.alloc (.cells #[.slice (some ⟨gB, 0, none⟩) ns.length ns.length] 46))  (.slice (some ⟨b, o, none⟩) ns.length cv) (.slice (some ⟨bk, 0, none⟩) ns.length ns.length) (.slice (some ⟨bn, 0, none⟩) ns.length ns.length) (.slice (some ⟨bl, 0, none⟩) ns.length ns.length) n0)) := by
        have := above_goes (cap := cv) HT5.out n0 hn0
        rw [hs5] at this
        exact this
      have hbx := boxed2_on  (w4.alloc (.cells #[.slice (some ⟨gB, 0, none⟩) ns.length ns.length] 46))  (.slice (some ⟨b, o, none⟩) ns.length cv) (.slice (some ⟨bk, 0, none⟩) ns.length ns.length) (.slice (some ⟨bn, 0, none⟩) ns.length ns.length) (.slice (some ⟨bl, 0, none⟩) ns.length ns.length) n0
      have HN6 : Hid (NB w (boxed2  (w4.alloc (.cells #[.slice (some ⟨gB, 0, none⟩) ns.length ns.length] 46))  (.slice (some ⟨b, o, none⟩) ns.length cv) (.slice (some ⟨bk, 0, none⟩) ns.length ns.length) (.slice (some ⟨bn, 0, none⟩) ns.length ns.length) (.slice (some ⟨bl, 0, none⟩) ns.length ns.length) n0) 0 false 0) := HN5.out.on hbx
      have HF6 : Hid (Boxed (boxed2  (w4.alloc (.cells #[.slice (some ⟨gB, 0, none⟩) ns.length ns.length] 46))  (.slice (some ⟨b, o, none⟩) ns.length cv) (.slice (some ⟨bk, 0, none⟩) ns.length ns.length) (.slice (some ⟨bn, 0, none⟩) ns.length ns.length) (.slice (some ⟨bl, 0, none⟩) ns.length ns.length) n0) w4.heap.size 46 (.slice (some ⟨gB, 0, none⟩) ns.length ns.length)) := (hbx.block _ HF5.out.lt).trans HF5.out
      have HR6 : Hid (BRow (boxed2  (w4.alloc (.cells #[.slice (some ⟨gB, 0, none⟩) ns.length ns.length] 46))  (.slice (some ⟨b, o, none⟩) ns.length cv) (.slice (some ⟨bk, 0, none⟩) ns.length ns.length) (.slice (some ⟨bn, 0, none⟩) ns.length ns.length) (.slice (some ⟨bl, 0, none⟩) ns.length ns.length) n0) gB ((List.range ns.length).map q)) := HRW.out.on hbx
      have hsz : w4.heap.size + 1 ≤ (boxed2  (w4.alloc (.cells #[.slice (some ⟨gB, 0, none⟩) ns.length ns.length] 46))  (.slice (some ⟨b, o, none⟩) ns.length cv) (.slice (some ⟨bk, 0, none⟩) ns.length ns.length) (.slice (some ⟨bn, 0, none⟩) ns.length ns.length) (.slice (some ⟨bl, 0, none⟩) ns.length ns.length) n0).heap.size := by have h := hbx.size; rw [hs5] at h; exact h
      have hgl : gB < w4.heap.size + 1 := by have h := HRW.out.lt; rw [hs5] at h; exact h
      have hw3 : w3.heap.size ≤ gB := hgB
      clear hbx y0 y1 y2 y3 f0 r0 a1 a2 a3 g1 g2 g3 HRW HF5 HN5 HX5 HT5
      generalize boxed2  (w4.alloc (.cells #[.slice (some ⟨gB, 0, none⟩) ns.length ns.length] 46))  (.slice (some ⟨b, o, none⟩) ns.length cv) (.slice (some ⟨bk, 0, none⟩) ns.length ns.length) (.slice (some ⟨bn, 0, none⟩) ns.length ns.length) (.slice (some ⟨bl, 0, none⟩) ns.length ns.length) n0 = W6 at *
      refine range_own (n := 6) (gf := 20) (lb := #[.pointer (some ⟨(w4.heap.size + 1), 0, none⟩), .pointer (some ⟨(w4.heap.size + 1) + 1, 0, none⟩)]) rfl (enters_of Tryd.func20 (by kernel_rfl) rfl) HGO.out (fun r h => h.elim) (fun h1 h2 h => h2 (h1 h)) (fun W l ob o' _ hl ho h => Sees.put o' hl ho h) (fun _ => rfl)
        (fun pre W => (NB w W 0 false 0 ∧ Boxed W w4.heap.size 46 (.slice (some ⟨gB, 0, none⟩) ns.length ns.length)) ∧ BRow W gB ((List.range ns.length).map q) ∧ (pre.map Subtype.val).any q = false)
        (fun c pre W => c = .ret ∧ ∃ (x : NU ns) (p : List (NU ns)), pre = p ++ [x] ∧ (p.map Subtype.val).any q = false ∧ q x.1 = true ∧ NB w W x.1 true 0)
        (fun s A A' h ht => ⟨⟨h.1.1.turns (fun r h => h.elim) (by omega) ht, ht.cells h.1.2 rfl (fun h => h)⟩, ht.cells h.2.1 rfl (fun h => h), h.2.2⟩)
        (fun c s A A' h ht => ⟨h.1, by
          obtain ⟨x, p, h1, h2, h3, h4⟩ := h.2
          exact ⟨x, p, h1, h2, h3, h4.turns (fun r h => h.elim) (by omega) ht⟩⟩)
        ⟨⟨HN6.out, HF6.out⟩, HR6.out, rfl⟩
        (fun x a' W => a' = { tmps := #[.agg #[.slice (some ⟨b, o, none⟩) ns.length cv], .slice al l.length cl, .int .i64 n0, .pointer (some ⟨w.heap.size, 0, none⟩), undef, undef, .pointer (some ⟨w.heap.size + 1, 0, none⟩), .pointer (some ⟨w.heap.size + 2, 0, none⟩), .pointer (some ⟨w.heap.size + 3, 0, none⟩), .int .i64 0, .pointer (some ⟨w2.heap.size, 0, none⟩), .pointer (some ⟨w4.heap.size, 0, none⟩), .int .i64 x.1, .agg #[.slice (some ⟨b, o, none⟩) ns.length cv], .slice al l.length cl, .int .i64 n0, .int .i64 0, .int .i64 0, .bool false, undef, .pointer (some ⟨w.heap.size, 0, none⟩), .slice (some ⟨b, o, none⟩) ns.length cv, .agg #[.slice (some ⟨b, o, none⟩) ns.length cv, .slice (some ⟨bk, 0, none⟩) ns.length ns.length, .slice (some ⟨bn, 0, none⟩) ns.length ns.length, .slice (some ⟨bl, 0, none⟩) ns.length ns.length], .agg #[.slice (some ⟨b, o, none⟩) ns.length cv, .slice (some ⟨bk, 0, none⟩) ns.length ns.length, .slice (some ⟨bn, 0, none⟩) ns.length ns.length, .slice (some ⟨bl, 0, none⟩) ns.length ns.length], .slice al l.length cl, .slice (some ⟨gB, 0, none⟩) ns.length ns.length, .slice (some ⟨gB, 0, none⟩) ns.length ns.length, .int .i64 n0, .pointer (some ⟨gB, n0, none⟩), .bool false, undef, .agg #[.slice (some ⟨b, o, none⟩) ns.length cv, .slice (some ⟨bk, 0, none⟩) ns.length ns.length, .slice (some ⟨bn, 0, none⟩) ns.length ns.length, .slice (some ⟨bl, 0, none⟩) ns.length ns.length], .int .i64 n0, .func (.func 20) #[] #[.pointer (some ⟨w4.heap.size + 1, 0, none⟩), .pointer (some ⟨w4.heap.size + 1 + 1, 0, none⟩)], .int .i64 x.1, undef, undef, undef, undef, undef], defers := [] }) (fun x a' W l ob o' _ _ _ h => h) ?assign ?body ?done ?stop
      case assign =>
        rintro lo pre x W K hI hK
        dsimp only
        gi_wp2
        exact hK _ _ (KeepsFrom.refl _ _) (fun h => h) hI rfl
      case body =>
        rintro lo pre x a' W hl ⟨⟨hNB, hFB⟩, hRW, hp⟩ rfl
        obtain ⟨xn, hxn⟩ := x
        dsimp only at *
        have f0 := hFB.cell
        have r0 : W.cell? ⟨gB, xn, none⟩ = some (.bool (q xn)) := by
          have := hRW.cell (i := xn) (by simpa using hxn)
          simpa using this
        have a1 := hNB.b1.cell
        have a2 := hNB.b2.cell
        have a3 := hNB.b3.cell
        have g1 := hNB.b1.frozen
        have g2 := hNB.b2.frozen
        have g3 := hNB.b3.frozen
        have j1 : (0 : Int) ≤ (xn : Int) := by omega
        have j2 : (xn : Int) < (ns.length : Int) := by omega
        have HI : Hid ((NB w W 0 false 0 ∧ Boxed W w4.heap.size 46 (.slice (some ⟨gB, 0, none⟩) ns.length ns.length)) ∧ BRow W gB ((List.range ns.length).map q) ∧ (pre.map Subtype.val).any q = false) := ⟨⟨hNB, hFB⟩, hRW, hp⟩
        clear hNB hFB hRW hp
        cases hqx : q xn with
        | true =>
          rw [hqx] at r0
          have HN7 : Hid (NB w (((W.setCell ⟨w.heap.size + 1, 0, none⟩ (.int .i64 xn)).setCell ⟨w.heap.size + 2, 0, none⟩ (.bool true)).setCell ⟨w.heap.size + 3, 0, none⟩ (.int .i64 0)) xn true 0) := HI.out.1.1.set xn true 0
          gi_wp2
          exact ⟨(keeps3 _ _ _ _ _ _ _).from _, rfl, ⟨xn, hxn⟩, pre, rfl, HI.out.2.2, hqx, HN7.out⟩
        | false =>
          rw [hqx] at r0
          gi_wp2
          exact ⟨KeepsFrom.refl _ _, fun h => h, HI.out.1, HI.out.2.1, by rw [List.map_append, List.any_append, HI.out.2.2]; simp [hqx]⟩
      case done =>
        rintro D ys W hD hys ⟨⟨hNB, hFB⟩, hRW, hp⟩ hK
        have hmb : mb = none := by
          rw [HNF.out, ← hys]
          exact any_find hp
        have a1 := hNB.b1.cell
        have a2 := hNB.b2.cell
        have a3 := hNB.b3.cell
        have g1 := hNB.b1.frozen
        have g2 := hNB.b2.frozen
        have g3 := hNB.b3.frozen
        have HN7 : Hid (NB w (((W.setCell ⟨w.heap.size + 1, 0, none⟩ (.int .i64 0)).setCell ⟨w.heap.size + 2, 0, none⟩ (.bool false)).setCell ⟨w.heap.size + 3, 0, none⟩ (.int .i64 0)) 0 false 0) := hNB.set 0 false 0
        subst hmb
        clear hp hys hNB hFB hRW
        gi_wp2
        refine leaves_marks2 (Nat.le_refl w.heap.size) [D] _ (by simp) (fun E hE => ?_) fun W' hb hc => ⟨.tuple #[.int .i64 0, .bool false, .int .i64 0], ?_, rfl, HN7.out.bel.trans hb⟩
        · rcases List.mem_singleton.1 hE with rfl
          exact ⟨by omega, (keeps3 _ _ _ _ _ _ _).same _ _ hK rfl⟩
        · obtain ⟨k1, k2, k3⟩ := HN7.out.cells hc
          simp [results, Tryd.results8, go_sem, k1, k2, k3]
      case stop =>
        rintro D c pre W hD hpre ⟨rfl, x, p, rfl, hp, hqx, hNB⟩ hK
        have hmb : mb = some x.1 := by
          obtain ⟨r, hr⟩ := hpre
          rw [HNF.out, ← hr, List.map_append, List.append_assoc, List.find?_append, any_find hp]
          simp [hqx]
        have HN7 : Hid (NB w W x.1 true 0) := hNB
        subst hmb
        clear hp hpre hNB
        gi_wp2
        refine leaves_marks2 (Nat.le_refl w.heap.size) [D] _ (by simp) (fun E hE => ?_) fun W' hb hc => ⟨.tuple #[.int .i64 x.1, .bool true, .int .i64 0], ?_, rfl, HN7.out.bel.trans hb⟩
        · rcases List.mem_singleton.1 hE with rfl
          exact ⟨by omega, hK⟩
        · obtain ⟨k1, k2, k3⟩ := HN7.out.cells hc
          simp [results, Tryd.results8, go_sem, k1, k2, k3]
  · rw [if_neg h1] at HMB
    have b1 : (me == 0) = false := by simpa using h1
    have hmb : mb = none := HMB.out
    have a1 := HN1.out.b1.cell
    have a2 := HN1.out.b2.cell
    have a3 := HN1.out.b3.cell
    have g1 := HN1.out.b1.frozen
    have g2 := HN1.out.b2.frozen
    have g3 := HN1.out.b3.frozen
    have HN6 : Hid (NB w (((w1.setCell ⟨w.heap.size + 1, 0, none⟩ (.int .i64 0)).setCell ⟨w.heap.size + 2, 0, none⟩ (.bool false)).setCell ⟨w.heap.size + 3, 0, none⟩ (.int .i64 me)) 0 false me) := HN1.out.set 0 false me
    subst hmb
    clear h1
    gi_wp2
    obtain ⟨k1, k2, k3⟩ := HN6.out.cells (fun _ _ h _ => h)
    refine ⟨.tuple #[.int .i64 0, .bool false, .int .i64 me], ?_, rfl, HN6.out.bel⟩
    simp [results, Tryd.results8, go_sem, k1, k2, k3]
end Go.Proofs.YtagobgjlhdbhmaaDoor
/-
  What is the same is told the same.
-/
namespace Go.Proofs.YtagobgjlhdbhmaaDoor
open Go.RowKit

set_option maxHeartbeats 2000000 in
theorem sameInts_eq (v1 v2 : Value) (ks : List Int) (w : World) (hl : ks.length ≤ 64) (h1 : IntsAt w v1 ks) (h2 : IntsAt w v2 ks) :
    Calls Tryd.prog 14 #[v1, v2] w fun e w' => e = .returned (.bool true) ∧ Below w.heap.size w w' := by
  obtain ⟨a1, c1, rfl, h1⟩ := h1
  obtain ⟨a2, c2, rfl, h2⟩ := h2
  have H1 : Hid _ := h1
  have H2 : Hid _ := h2
  clear h1 h2
  go_enter Tryd.func14, Tryd.ntmps14
  go_wp2
  go_loopw [5] (fun i wr => ∃ k : Nat, k ≤ ks.length ∧ i = .int .i64 k ∧ Below w.heap.size w wr) (fun i _ => ks.length - (intOf i).toNat)
  case atStart => exact ⟨0, Nat.zero_le _, rfl, Below.refl _ _⟩
  case round =>
    obtain ⟨k, hk, rfl, hB⟩ := hrel
    by_cases hlt : k < ks.length
    · rcases H1.out with h0 | ⟨b, o, rfl, hc⟩
      · subst h0; simp at hlt
      rcases H2.out with h0 | ⟨b2, o2, rfl, hc2⟩
      · subst h0; simp at hlt
      have n0 : wr.cell? ⟨b, o + k, none⟩ = some (.int .i64 ks[k]) := cell_on hB (hc k hlt)
      have n1 : wr.cell? ⟨b2, o2 + k, none⟩ = some (.int .i64 ks[k]) := cell_on hB (hc2 k hlt)
      have i1 : (0 : Int) ≤ (k : Int) := by omega
      have i2 : (k : Int) < (ks.length : Int) := by omega
      clear hc hc2
      generalize ks[k] = u at *
      go_wp2
      go_quiet (fail)
      go_wp2
      exact ⟨⟨k + 1, hlt, by go_num, below_drewN hB _⟩, by simp [intOf]; omega⟩
    · have hkl : k = ks.length := by omega
      subst hkl
      go_wp2
      go_ret
      exact ⟨rfl, hB⟩
end Go.Proofs.YtagobgjlhdbhmaaDoor
/-
  The same documents are told the same.
-/
namespace Go.Proofs.YtagobgjlhdbhmaaDoor
open Go.RowKit

theorem dozen_on {w W w' : World} {p0 p1 p2 p3 p4 p5 p6 p7 p8 p9 p10 p11 : Addr} {v0 v1 v2 v3 v4 v5 v6 v7 v8 v9 v10 v11 : Value} (h : W.cell? p0 = some v0 ∧ W.cell? p1 = some v1 ∧ W.cell? p2 = some v2 ∧ W.cell? p3 = some v3 ∧ W.cell? p4 = some v4 ∧ W.cell? p5 = some v5 ∧ W.cell? p6 = some v6 ∧ W.cell? p7 = some v7 ∧ W.cell? p8 = some v8 ∧ W.cell? p9 = some v9 ∧ W.cell? p10 = some v10 ∧ W.cell? p11 = some v11 ∧ Below w.heap.size w W) (hb : Below W.heap.size W w') : w'.cell? p0 = some v0 ∧ w'.cell? p1 = some v1 ∧ w'.cell? p2 = some v2 ∧ w'.cell? p3 = some v3 ∧ w'.cell? p4 = some v4 ∧ w'.cell? p5 = some v5 ∧ w'.cell? p6 = some v6 ∧ w'.cell? p7 = some v7 ∧ w'.cell? p8 = some v8 ∧ w'.cell? p9 = some v9 ∧ w'.cell? p10 = some v10 ∧ w'.cell? p11 = some v11 ∧ Below w.heap.size w w' :=
  ⟨cell_on hb h.1, cell_on hb h.2.1, cell_on hb h.2.2.1, cell_on hb h.2.2.2.1, cell_on hb h.2.2.2.2.1, cell_on hb h.2.2.2.2.2.1, cell_on hb h.2.2.2.2.2.2.1, cell_on hb h.2.2.2.2.2.2.2.1, cell_on hb h.2.2.2.2.2.2.2.2.1, cell_on hb h.2.2.2.2.2.2.2.2.2.1, cell_on hb h.2.2.2.2.2.2.2.2.2.2.1, cell_on hb h.2.2.2.2.2.2.2.2.2.2.2.1, below_trans h.2.2.2.2.2.2.2.2.2.2.2.2 hb⟩
theorem dozen_last {w W : World} {p0 p1 p2 p3 p4 p5 p6 p7 p8 p9 p10 p11 : Addr} {v0 v1 v2 v3 v4 v5 v6 v7 v8 v9 v10 v11 : Value} (h : W.cell? p0 = some v0 ∧ W.cell? p1 = some v1 ∧ W.cell? p2 = some v2 ∧ W.cell? p3 = some v3 ∧ W.cell? p4 = some v4 ∧ W.cell? p5 = some v5 ∧ W.cell? p6 = some v6 ∧ W.cell? p7 = some v7 ∧ W.cell? p8 = some v8 ∧ W.cell? p9 = some v9 ∧ W.cell? p10 = some v10 ∧ W.cell? p11 = some v11 ∧ Below w.heap.size w W) : W.cell? p0 = some v0 ∧ W.cell? p1 = some v1 ∧ Below w.heap.size w W := ⟨h.1, h.2.1, h.2.2.2.2.2.2.2.2.2.2.2.2⟩

end Go.Proofs.YtagobgjlhdbhmaaDoor
/-
  The small document.
-/
namespace Go.Proofs.YtagobgjlhdbhmaaDoor
open Go.RowKit

def smallNs : List Pl.Nd :=
  [⟨-1, [108, 105, 115, 116], [116, 111, 112], [], []⟩, ⟨0, [105, 116, 101, 109], [], [[97]], []⟩, ⟨0, [105, 116, 101, 109], [], [[98]], []⟩, ⟨2, [108, 105, 110, 107], [], [], [([116, 111], [111, 110, 101, 32, 116, 119, 111])]⟩, ⟨0, [105, 116, 101, 109], [], [[97]], []⟩]

theorem strs_nil (w : World) : StrsAt w (.slice none 0 0) [] := ⟨none, 0, rfl, Or.inl rfl⟩
theorem ats_nil (w : World) : AtsAt w (.slice none 0 0) [] := ⟨none, 0, rfl, Or.inl rfl⟩
theorem strs_one {w : World} {b c : Nat} {s : List UInt8} (h : w.cell? ⟨b, 0, none⟩ = some (.string ⟨s.toArray⟩)) : StrsAt w (.slice (some ⟨b, 0, none⟩) 1 c) [s] := by
  refine ⟨_, c, rfl, Or.inr ⟨b, 0, rfl, fun i hi => ?_⟩⟩
  match i, hi with
  | 0, _ => exact h
theorem ats_one {w : World} {b c : Nat} {s t : List UInt8} (h : w.cell? ⟨b, 0, none⟩ = some (.string ⟨s.toArray⟩)) (h2 : w.cell? ⟨b, 1, none⟩ = some (.string ⟨t.toArray⟩)) : AtsAt w (.slice (some ⟨b, 0, none⟩) 1 c) [(s, t)] := by
  refine ⟨_, c, rfl, Or.inr ⟨b, 0, rfl, fun i hi => ?_⟩⟩
  match i, hi with
  | 0, _ => exact ⟨h, h2⟩

set_option maxRecDepth 100000 in
set_option maxHeartbeats 4000000 in
theorem small_any (w : World) : Calls Tryd.prog 12 #[] w fun e w' => ∃ v, e = .returned (.agg #[v]) ∧ DocAt w' v smallNs ∧ Below w.heap.size w w' := by
  go_enter Tryd.func12, Tryd.ntmps12
  go_wp2
  refine bodyPost_ret (v := .agg #[.slice (some ⟨w.heap.size + 1 + 1 + 1 + 1 + 1, 0, none⟩) 5 5]) (by simp [results, Tryd.results12, go_sem]) rfl
    ⟨_, rfl, ⟨⟨_, 5, rfl, Or.inr ⟨_, 0, rfl, fun i hi => ?_⟩⟩, ⟨_, _, _, rfl, Nat.le_refl _, by decide⟩, by decide, fun i hi => ?_⟩, ?_⟩
  · match i, hi with
    | 0, _ => exact ⟨_, _, by simp [go_sem, smallNs], by simp [go_sem, smallNs], by simp [go_sem, smallNs], by simp [go_sem], by simp [go_sem], strs_nil _, ats_nil _⟩
    | 1, _ => exact ⟨.slice (some ⟨w.heap.size + 1, 0, none⟩) 1 1, .slice none 0 0, by simp [go_sem, smallNs], by simp [go_sem, smallNs], by simp [go_sem, smallNs], by simp [go_sem], by simp [go_sem], strs_one (by simp [go_sem]), ats_nil _⟩
    | 2, _ => exact ⟨.slice (some ⟨w.heap.size + 1 + 1, 0, none⟩) 1 1, .slice none 0 0, by simp [go_sem, smallNs], by simp [go_sem, smallNs], by simp [go_sem, smallNs], by simp [go_sem], by simp [go_sem], strs_one (by simp [go_sem]), ats_nil _⟩
    | 3, _ => exact ⟨.slice none 0 0, .slice (some ⟨w.heap.size + 1 + 1 + 1, 0, none⟩) 1 1, by simp [go_sem, smallNs], by simp [go_sem, smallNs], by simp [go_sem, smallNs], by simp [go_sem], by simp [go_sem], strs_nil _, ats_one (by simp [go_sem]) (by simp [go_sem])⟩
    | 4, _ => exact ⟨.slice (some ⟨w.heap.size + 1 + 1 + 1 + 1, 0, none⟩) 1 1, .slice none 0 0, by simp [go_sem, smallNs], by simp [go_sem, smallNs], by simp [go_sem, smallNs], by simp [go_sem], by simp [go_sem], strs_one (by simp [go_sem]), ats_nil _⟩
  · have h : ∀ x ∈ smallNs, x.cls.length ≤ 6 ∧ x.ats.length ≤ 4 := by decide
    have := h _ (List.getElem_mem hi)
    exact ⟨by unfold maxLen; omega, by unfold maxLen; omega⟩
  · exact below_trans (two_cells w _ _ _) (two_cells _ _ _ _)
end Go.Proofs.YtagobgjlhdbhmaaDoor
/-
  The list that the laws begin with; Test.
-/
namespace Go.Proofs.YtagobgjlhdbhmaaDoor
open Go.RowKit

def tt10 : Pl.Tst Pl.D1 := ⟨10, [], [], 0, 1, []⟩
def tt8 : Pl.Tst Pl.D1 := ⟨8, [116, 111], [116, 119, 111], 0, 0, []⟩
def inA : Pl.D2 := ⟨[⟨[], [tt10]⟩], []⟩
def inB : Pl.D2 := ⟨[⟨[], [tt8]⟩], []⟩
def lkA : Pl.D3 := ⟨[⟨[105, 116, 101, 109], [⟨13, [], [], 0, 0, [inA]⟩]⟩, ⟨[], [⟨15, [], [], 0, 0, [inB]⟩]⟩], [3]⟩
def lkB : Pl.D3 := ⟨[⟨[], [⟨2, [116, 111, 112], [], 0, 0, []⟩]⟩], []⟩
def lkL : List Pl.D3 := [lkA, lkB]
theorem row_one {β : Type} {E : World → Nat → Nat → β → Prop} {k : Nat} {W : World} {b : Nat} {x : β} (h : E W b 0 x) : RowAt E k W (.slice (some ⟨b, 0, none⟩) 1 1) [x] := by
  refine ⟨_, _, rfl, by unfold maxLen; simp, Or.inr ⟨b, 0, rfl, fun i hi => ?_⟩⟩
  match i, hi with
  | 0, _ => simpa using h
theorem row_two {β : Type} {E : World → Nat → Nat → β → Prop} {k : Nat} {W : World} {b : Nat} {x y : β} (h : E W b 0 x) (h2 : E W b k y) : RowAt E k W (.slice (some ⟨b, 0, none⟩) 2 2) [x, y] := by
  refine ⟨_, _, rfl, by unfold maxLen; simp, Or.inr ⟨b, 0, rfl, fun i hi => ?_⟩⟩
  match i, hi with
  | 0, _ => simpa using h
  | 1, _ => simpa using h2
set_option maxRecDepth 100000 in
set_option maxHeartbeats 8000000 in
theorem looked_any (w : World) : Calls Tryd.prog 13 #[] w fun e w' => ∃ a, e = .returned (.slice a 2 2) ∧ A3 w' (.slice a 2 2) lkL ∧ Below w.heap.size w w' := by
  go_enter Tryd.func13, Tryd.ntmps13
  go_wp2
  go_ret
  refine ⟨_, rfl, ?_, ?_⟩
  · rw [show lkL = [⟨[⟨[105, 116, 101, 109], [⟨13, [], [], 0, 0, [⟨[⟨[], [⟨10, [], [], 0, 1, []⟩]⟩], []⟩]⟩]⟩, ⟨[], [⟨15, [], [], 0, 0, [⟨[⟨[], [⟨8, [116, 111], [116, 119, 111], 0, 0, []⟩]⟩], []⟩]⟩]⟩], [3]⟩, ⟨[⟨[], [⟨2, [116, 111, 112], [], 0, 0, []⟩]⟩], []⟩] from rfl]
    exact row_two ⟨(.slice (some ⟨w.heap.size + 1 + 1 + 1 + 1 + 1 + 1 + 1 + 1, 0, none⟩) 2 2), (.slice (some ⟨w.heap.size + 1 + 1 + 1 + 1 + 1 + 1 + 1 + 1 + 1, 0, none⟩) 1 1), by simp [go_sem], by simp [go_sem], (row_two ⟨(.slice (some ⟨w.heap.size + 1 + 1 + 1, 0, none⟩) 1 1), by simp [go_sem], by simp [go_sem], (row_one ⟨(.slice (some ⟨w.heap.size + 1 + 1, 0, none⟩) 1 1), by simp [go_sem], by simp [go_sem], by simp [go_sem], by simp [go_sem], by simp [go_sem], by simp [go_sem], (row_one ⟨(.slice (some ⟨w.heap.size + 1, 0, none⟩) 1 1), (.slice none 0 0), by simp [go_sem], by simp [go_sem], (row_one ⟨(.slice (some ⟨w.heap.size, 0, none⟩) 1 1), by simp [go_sem], by simp [go_sem], (row_one ⟨(.slice none 0 0), by simp [go_sem], by simp [go_sem], by simp [go_sem], by simp [go_sem], by simp [go_sem], by simp [go_sem], (isL_1.nil _)⟩)⟩), (RowAt.nil _ _ _)⟩)⟩)⟩ ⟨(.slice (some ⟨w.heap.size + 1 + 1 + 1 + 1 + 1 + 1 + 1, 0, none⟩) 1 1), by simp [go_sem], by simp [go_sem], (row_one ⟨(.slice (some ⟨w.heap.size + 1 + 1 + 1 + 1 + 1 + 1, 0, none⟩) 1 1), by simp [go_sem], by simp [go_sem], by simp [go_sem], by simp [go_sem], by simp [go_sem], by simp [go_sem], (row_one ⟨(.slice (some ⟨w.heap.size + 1 + 1 + 1 + 1 + 1, 0, none⟩) 1 1), (.slice none 0 0), by simp [go_sem], by simp [go_sem], (row_one ⟨(.slice (some ⟨w.heap.size + 1 + 1 + 1 + 1, 0, none⟩) 1 1), by simp [go_sem], by simp [go_sem], (row_one ⟨(.slice none 0 0), by simp [go_sem], by simp [go_sem], by simp [go_sem], by simp [go_sem], by simp [go_sem], by simp [go_sem], (isL_1.nil _)⟩)⟩), (RowAt.nil _ _ _)⟩)⟩)⟩), (row_one (by simp [IntAt, go_sem]))⟩ ⟨(.slice (some ⟨w.heap.size + 1 + 1 + 1 + 1 + 1 + 1 + 1 + 1 + 1 + 1 + 1, 0, none⟩) 1 1), (.slice none 0 0), by simp [go_sem], by simp [go_sem], (row_one ⟨(.slice (some ⟨w.heap.size + 1 + 1 + 1 + 1 + 1 + 1 + 1 + 1 + 1 + 1, 0, none⟩) 1 1), by simp [go_sem], by simp [go_sem], (row_one ⟨(.slice none 0 0), by simp [go_sem], by simp [go_sem], by simp [go_sem], by simp [go_sem], by simp [go_sem], by simp [go_sem], (isL_2.nil _)⟩)⟩), (RowAt.nil _ _ _)⟩
  · repeat (first | exact Below.refl _ _ | refine Below.alloc ?_ (by simp; omega) _ | refine Below.alloc ?_ (by simp) _)
/-- a list with one test alone -/
def oneL (t : Pl.Tst Pl.D2) : List Pl.D3 := [⟨[⟨[], [t]⟩], []⟩]
theorem one_m3 (ns : List Pl.Nd) (t : Pl.Tst Pl.D2) (n : Nat) : m3 ns (oneL t) n = tstM ns (m2 ns) t n := by
  unfold m3 lstM oneL
  simp [pthM, stpM, stpAt]
theorem one_at {W : World} {bt bs bp : Nat} {x : Value} {t : Pl.Tst Pl.D2} (h1 : W.heap[bt]? = some (.cells #[.int .i64 t.kind, .string ⟨t.name.toArray⟩, .string ⟨t.value.toArray⟩, .int .i64 t.a, .int .i64 t.b, x] 34)) (h2 : W.heap[bs]? = some (.cells #[.string ⟨#[]⟩, .slice (some ⟨bt, 0, none⟩) 1 1] 56)) (h3 : W.heap[bp]? = some (.cells #[.slice (some ⟨bs, 0, none⟩) 1 1, .slice none 0 0] 59)) (hx : A2 W x t.list) : A3 W (.slice (some ⟨bp, 0, none⟩) 1 1) (oneL t) := by
  obtain ⟨a0, a1, a2, a3, a4, a5⟩ := blk6c h1
  obtain ⟨b0, b1⟩ := blk2d h2
  obtain ⟨c0, c1⟩ := blk2d h3
  exact row_one ⟨_, _, c0, c1, row_one ⟨_, b0, b1, row_one ⟨_, a0, a1, a2, a3, a4, a5, hx⟩⟩, RowAt.nil _ _ _⟩
theorem chain4 (w : World) (O0 O1 O2 O3 : Obj) : ((((w.alloc O0).alloc O1).alloc O2).alloc O3).heap[w.heap.size + 1]? = some O1 ∧ ((((w.alloc O0).alloc O1).alloc O2).alloc O3).heap[w.heap.size + 1 + 1]? = some O2 ∧ ((((w.alloc O0).alloc O1).alloc O2).alloc O3).heap[w.heap.size + 1 + 1 + 1]? = some O3 ∧ Below w.heap.size w ((((w.alloc O0).alloc O1).alloc O2).alloc O3) := by
  have b1 := on_alloc w O0
  have b2 := on_alloc (w.alloc O0) O1
  have b3 := on_alloc ((w.alloc O0).alloc O1) O2
  have b4 := on_alloc (((w.alloc O0).alloc O1).alloc O2) O3
  have e1 := World.alloc_heap_new (w.alloc O0) O1
  have e2 := World.alloc_heap_new ((w.alloc O0).alloc O1) O2
  have e3 := World.alloc_heap_new (((w.alloc O0).alloc O1).alloc O2) O3
  have f2 := blkOn b4 e2
  have f1 := blkOn b4 (blkOn b3 e1)
  simp only [World.size_alloc] at f1 f2 e3
  exact ⟨f1, f2, e3, below_trans b1 (below_trans b2 (below_trans b3 b4))⟩
theorem chain6 (w : World) (O0 O1 O2 O3 O4 O5 : Obj) : ((((((w.alloc O0).alloc O1).alloc O2).alloc O3).alloc O4).alloc O5).heap[w.heap.size + 1 + 1]? = some O2 ∧ ((((((w.alloc O0).alloc O1).alloc O2).alloc O3).alloc O4).alloc O5).heap[w.heap.size + 1 + 1 + 1 + 1]? = some O4 ∧ ((((((w.alloc O0).alloc O1).alloc O2).alloc O3).alloc O4).alloc O5).heap[w.heap.size + 1 + 1 + 1 + 1 + 1]? = some O5 ∧ Below w.heap.size w ((((((w.alloc O0).alloc O1).alloc O2).alloc O3).alloc O4).alloc O5) := by
  have b1 := on_alloc w O0
  have b2 := on_alloc (w.alloc O0) O1
  have b3 := on_alloc ((w.alloc O0).alloc O1) O2
  have b4 := on_alloc (((w.alloc O0).alloc O1).alloc O2) O3
  have b5 := on_alloc ((((w.alloc O0).alloc O1).alloc O2).alloc O3) O4
  have b6 := on_alloc (((((w.alloc O0).alloc O1).alloc O2).alloc O3).alloc O4) O5
  have e2 := World.alloc_heap_new ((w.alloc O0).alloc O1) O2
  have e4 := World.alloc_heap_new ((((w.alloc O0).alloc O1).alloc O2).alloc O3) O4
  have e5 := World.alloc_heap_new (((((w.alloc O0).alloc O1).alloc O2).alloc O3).alloc O4) O5
  have f4 := blkOn b6 e4
  have f2 := blkOn b6 (blkOn b5 (blkOn b4 e2))
  simp only [World.size_alloc] at f2 f4 e5
  exact ⟨f2, f4, e5, below_trans b1 (below_trans b2 (below_trans b3 (below_trans b4 (below_trans b5 b6))))⟩
set_option maxRecDepth 100000 in
set_option maxHeartbeats 4000000 in
theorem test_call (v x : Value) (ns : List Pl.Nd) (t : Pl.Tst Pl.D2) (n : Int) (w : World) (hv : DocAt w v ns) (hx : A2 w x t.list) (hF : FormsAt w) (hG : Glob w) :
    Calls Tryd.prog 6 #[.agg #[v], .agg #[.int .i64 t.kind, .string ⟨t.name.toArray⟩, .string ⟨t.value.toArray⟩, .int .i64 t.a, .int .i64 t.b, x], .int .i64 n] w fun e w' => e = .returned (.tuple #[.bool (matB ns (oneL t) n), .int .i64 (matchErr ns (oneL t) n)]) ∧ Below w.heap.size w w' := by
  obtain ⟨ax, cx, rfl, -⟩ := isL_2.form hx
  obtain ⟨av, cv, rfl, -⟩ := id hv.1
  have HX : Hid (A2 w (.slice ax t.list.length cx) t.list) := hx
  have HV : Hid (DocAt w (.slice av ns.length cv) ns) := hv
  have HG : Hid (Glob w) := hG
  have HF : Hid (FormsAt w) := hF
  clear hx hv hG hF
  go_enter Tryd.func6, Tryd.ntmps6
  go_wp2_with fail
  obtain ⟨f2, f4, f5, hb⟩ := chain6 w (.cells #[.slice av ns.length cv] 24) (.cells #[.int .i64 t.kind, .string ⟨t.name.toArray⟩, .string ⟨t.value.toArray⟩, .int .i64 t.a, .int .i64 t.b, .slice ax t.list.length cx] 34) (.cells #[.int .i64 t.kind, .string ⟨t.name.toArray⟩, .string ⟨t.value.toArray⟩, .int .i64 t.a, .int .i64 t.b, .slice ax t.list.length cx] 34) (.cells #[.string ⟨#[]⟩, .slice (some ⟨w.heap.size + 1 + 1, 0, none⟩) 1 1] 56) (.cells #[.string ⟨#[]⟩, .slice (some ⟨w.heap.size + 1 + 1, 0, none⟩) 1 1] 56) (.cells #[.slice (some ⟨w.heap.size + 1 + 1 + 1 + 1, 0, none⟩) 1 1, .slice none 0 0] 59)
  refine (matches_call _ _ ns (oneL t) n _ (HV.out.on hb) (one_at f2 f4 f5 (isL_2.on HX.out hb)) (HF.out.on hb) (HG.out.on hb)).mono ?_
  rintro e w2 ⟨rfl, hb2⟩
  have HB2 : Hid (Below w.heap.size w w2) := below_trans hb hb2
  clear f2 f4 f5 hb hb2
  go_wp2
  go_ret2
  exact ⟨rfl, HB2.out⟩
end Go.Proofs.YtagobgjlhdbhmaaDoor
/-
  What the laws of matching begin with.
-/
namespace Go.Proofs.YtagobgjlhdbhmaaDoor
open Go.RowKit

def tt9 : Pl.Tst Pl.D2 := ⟨9, [], [], 2, 1, []⟩
theorem sm_chk : chkBoth smallNs lkL = 0 := by kernel_rfl
theorem sm_all : allA smallNs lkL = [0, 2] := by kernel_rfl
theorem sm_err2 : matchErr smallNs lkL 2 = 0 := by kernel_rfl
theorem sm_mat2 : matB smallNs lkL 2 = true := by kernel_rfl
theorem sm_err3 : matchErr smallNs lkL 3 = 0 := by kernel_rfl
theorem sm_near : nearA smallNs lkL 3 = some 2 := by kernel_rfl
theorem sm_errt : matchErr smallNs (oneL tt9) 4 = 0 := by kernel_rfl
theorem sm_test : matB smallNs (oneL tt9) 4 = true := by kernel_rfl
/-- what the program's road needs of the variables -/
structure Laid (w : World) : Prop where
  forms : FormsAt w
  glob : Glob w
theorem Laid.on {w w' : World} (h : Laid w) (hb : Below w.heap.size w w') : Laid w' := ⟨h.forms.on hb, h.glob.on hb⟩
section
variable (W : World) (v u : Value) (hv : DocAt W v smallNs) (hu : A3 W u lkL) (hL : Laid W)
include hv hu hL
theorem bg_all : Calls Tryd.prog 7 #[.agg #[v], u] W fun e w' => ∃ a c, e = .returned (.tuple #[.slice a 2 c, .int .i64 0]) ∧ IntsAt w' (.slice a 2 c) [0, 2] ∧ Below W.heap.size W w' := by
  refine (all_call v u smallNs lkL W hv hu hL.forms hL.glob).mono ?_
  rintro e w' ⟨x, rfl, hx, hb⟩
  rw [sm_all] at hx
  have h1 := hx.ints
  obtain ⟨a, c, rfl, -⟩ := id hx
  rw [sm_chk]
  exact ⟨a, c, rfl, h1, hb⟩
theorem bg_mat : Calls Tryd.prog 4 #[.agg #[v], u, .int .i64 2] W fun e w' => e = .returned (.tuple #[.bool true, .int .i64 0]) ∧ Below W.heap.size W w' := by
  have := matches_call v u smallNs lkL 2 W hv hu hL.forms hL.glob
  rw [sm_err2, sm_mat2] at this
  exact this
theorem bg_near : Calls Tryd.prog 8 #[.agg #[v], u, .int .i64 3] W fun e w' => e = .returned (.tuple #[.int .i64 2, .bool true, .int .i64 0]) ∧ Below W.heap.size W w' := by
  have := nearest_call v u smallNs lkL 3 W hv hu hL.forms hL.glob
  rw [sm_err3, sm_near] at this
  exact this
end
theorem bg_test (W : World) (v : Value) (hv : DocAt W v smallNs) (hL : Laid W) : Calls Tryd.prog 6 #[.agg #[v], .agg #[.int .i64 9, .string ⟨#[]⟩, .string ⟨#[]⟩, .int .i64 2, .int .i64 1, .slice none 0 0], .int .i64 4] W fun e w' => e = .returned (.tuple #[.bool true, .int .i64 0]) ∧ Below W.heap.size W w' := by
  have := test_call v (.slice none 0 0) smallNs tt9 4 W hv (isL_2.nil _) hL.forms hL.glob
  rw [sm_errt, sm_test] at this
  exact this
set_option maxRecDepth 100000 in
set_option maxHeartbeats 4000000 in
theorem begun_any (w : World) (hL : Laid w) : Calls Tryd.prog 5 #[] w fun e w' => e = .returned (.bool true) ∧ Below w.heap.size w w' := by
  have HL : Hid (Laid w) := hL
  clear hL
  go_enter Tryd.func5, Tryd.ntmps5
  go_wp2_with fail
  refine (small_any _).mono ?_
  rintro e w1 ⟨v1, rfl, hd1, hb1⟩
  have HB1 : Hid (Below w.heap.size w w1) := hb1
  have HD1 : Hid (DocAt w1 v1 smallNs) := hd1
  obtain ⟨a1, c1, rfl, -⟩ := id hd1.1
  clear hd1 hb1
  go_wp2_with fail
  refine (looked_any _).mono ?_
  rintro e w2 ⟨a2, rfl, hl2, hb2⟩
  have HB2 : Hid (Below w.heap.size w w2) := below_trans HB1.out hb2
  have HC2 : Hid (Calls Tryd.prog 7 _ _ _) := bg_all w2 _ _ (HD1.out.on hb2) hl2 (HL.out.on HB2.out)
  clear hl2 hb2 HB1 HD1
  go_wp2_with fail
  refine HC2.out.mono ?_
  rintro e w3 ⟨ax, cx, rfl, hx, hb3⟩
  have HB3 : Hid (Below w.heap.size w w3) := below_trans HB2.out hb3
  have HX3 : Hid (IntsAt w3 (.slice ax 2 cx) [0, 2]) := hx
  clear hx hb3 HB2 HC2
  go_wp2_with fail
  refine (small_any _).mono ?_
  rintro e w4 ⟨v4, rfl, hd4, hb4⟩
  have HB4 : Hid (Below w.heap.size w w4) := below_trans HB3.out hb4
  have HX4 : Hid (IntsAt w4 (.slice ax 2 cx) [0, 2]) := HX3.out.on hb4
  have HD4 : Hid (DocAt w4 v4 smallNs) := hd4
  obtain ⟨a4, c4, rfl, -⟩ := id hd4.1
  clear hd4 hb4 HB3 HX3
  go_wp2_with fail
  refine (looked_any _).mono ?_
  rintro e w5 ⟨a5, rfl, hl5, hb5⟩
  have HB5 : Hid (Below w.heap.size w w5) := below_trans HB4.out hb5
  have HX5 : Hid (IntsAt w5 (.slice ax 2 cx) [0, 2]) := HX4.out.on hb5
  have HC5 : Hid (Calls Tryd.prog 4 _ _ _) := bg_mat w5 _ _ (HD4.out.on hb5) hl5 (HL.out.on HB5.out)
  clear hl5 hb5 HB4 HX4 HD4
  go_wp2_with fail
  refine HC5.out.mono ?_
  rintro e w6 ⟨rfl, hb6⟩
  have HB6 : Hid (Below w.heap.size w w6) := below_trans HB5.out hb6
  have HX6 : Hid (IntsAt w6 (.slice ax 2 cx) [0, 2]) := HX5.out.on hb6
  clear hb6 HB5 HX5 HC5
  go_wp2_with fail
  refine (small_any _).mono ?_
  rintro e w7 ⟨v7, rfl, hd7, hb7⟩
  have HB7 : Hid (Below w.heap.size w w7) := below_trans HB6.out hb7
  have HX7 : Hid (IntsAt w7 (.slice ax 2 cx) [0, 2]) := HX6.out.on hb7
  have HD7 : Hid (DocAt w7 v7 smallNs) := hd7
  obtain ⟨a7, c7, rfl, -⟩ := id hd7.1
  clear hd7 hb7 HB6 HX6
  go_wp2_with fail
  refine (looked_any _).mono ?_
  rintro e w8 ⟨a8, rfl, hl8, hb8⟩
  have HB8 : Hid (Below w.heap.size w w8) := below_trans HB7.out hb8
  have HX8 : Hid (IntsAt w8 (.slice ax 2 cx) [0, 2]) := HX7.out.on hb8
  have HC8 : Hid (Calls Tryd.prog 8 _ _ _) := bg_near w8 _ _ (HD7.out.on hb8) hl8 (HL.out.on HB8.out)
  clear hl8 hb8 HB7 HX7 HD7
  go_wp2_with fail
  refine HC8.out.mono ?_
  rintro e w9 ⟨rfl, hb9⟩
  have HB9 : Hid (Below w.heap.size w w9) := below_trans HB8.out hb9
  have HX9 : Hid (IntsAt w9 (.slice ax 2 cx) [0, 2]) := HX8.out.on hb9
  clear hb9 HB8 HX8 HC8
  go_wp2_with fail
  refine (small_any _).mono ?_
  rintro e w10 ⟨v10, rfl, hd10, hb10⟩
  have HB10 : Hid (Below w.heap.size w w10) := below_trans HB9.out hb10
  have HX10 : Hid (IntsAt w10 (.slice ax 2 cx) [0, 2]) := HX9.out.on hb10
  obtain ⟨a10, c10, rfl, -⟩ := id hd10.1
  have HC10 : Hid (Calls Tryd.prog 6 _ _ _) := bg_test w10 _ hd10 (HL.out.on HB10.out)
  clear hd10 hb10 HB9 HX9
  go_wp2_with fail
  refine HC10.out.mono ?_
  rintro e w11 ⟨rfl, hb11⟩
  have HB11 : Hid (Below w.heap.size w w11) := below_trans HB10.out hb11
  have hba := on_alloc w11 (.cells #[.int .i64 0, .int .i64 2] 3)
  have HX11 : Hid (IntsAt (w11.alloc (.cells #[.int .i64 0, .int .i64 2] 3)) (.slice ax 2 cx) [0, 2]) := (HX10.out.on hb11).on hba
  have HY11 : Hid (IntsAt (w11.alloc (.cells #[.int .i64 0, .int .i64 2] 3)) (.slice (some ⟨w11.heap.size, 0, none⟩) 2 2) [0, 2]) := by
    obtain ⟨y0, y1⟩ := blk2d (World.alloc_heap_new w11 (.cells #[.int .i64 0, .int .i64 2] 3))
    refine ⟨_, _, rfl, Or.inr ⟨w11.heap.size, 0, rfl, fun i hi => ?_⟩⟩
    match i, hi with
    | 0, _ => exact y0
    | 1, _ => exact y1
  have HB12 : Hid (Below w.heap.size w (w11.alloc (.cells #[.int .i64 0, .int .i64 2] 3))) := below_trans HB11.out hba
  have HC12 : Hid (Calls Tryd.prog 14 _ _ _) := sameInts_eq _ _ [0, 2] _ (by simp) HX11.out HY11.out
  clear hb11 hba HB10 HX10 HC10 HX11 HY11
  go_wp2_with fail
  refine HC12.out.mono ?_
  rintro e w12 ⟨rfl, hb12⟩
  have HB13 : Hid (Below w.heap.size w w12) := below_trans HB12.out hb12
  clear hb12
  go_wp2
  go_ret
  exact ⟨rfl, HB13.out⟩
end Go.Proofs.YtagobgjlhdbhmaaDoor
/-
  MatchTells: the law.
-/
namespace Go.Proofs.YtagobgjlhdbhmaaDoor
open Go.RowKit

theorem matchErr_first (ns : List Pl.Nd) (l : List Pl.D3) : matchErr ns l 0 = chkBoth ns l := by
  rw [matchErr_eq]
  by_cases h : chkBoth ns l = 0
  · rw [if_pos h, h]
    have h1 := ((Pl.check_iff ns).1 (chkBoth_zero h).1).1
    rw [if_pos (by unfold hasB; simp; omega)]
  · rw [if_neg h]
theorem matchErr_both {ns : List Pl.Nd} {l : List Pl.D3} {n : Int} (h : matchErr ns l n = 0) : chkBoth ns l = 0 := by
  rw [matchErr_eq] at h
  by_cases hc : chkBoth ns l = 0
  · exact hc
  · rw [if_neg hc] at h
    exact absurd h hc
theorem allA_len (ns : List Pl.Nd) (l : List Pl.D3) : ((allA ns l).map fun (k : Nat) => (k : Int)).length ≤ 64 := by
  unfold allA
  by_cases h : chkBoth ns l = 0
  · rw [if_pos h, List.length_map]
    have h1 := ((Pl.check_iff ns).1 (chkBoth_zero h).1).2.1
    exact Nat.le_trans (allTo_len _ _) h1
  · rw [if_neg h]
    simp
theorem all_form (v u : Value) (ns : List Pl.Nd) (l : List Pl.D3) (W : World) (hv : DocAt W v ns) (hl : A3 W u l) (hL : Laid W) :
    Calls Tryd.prog 7 #[.agg #[v], u] W fun e w' => ∃ a c, e = .returned (.tuple #[.slice a (allA ns l).length c, .int .i64 (chkBoth ns l)]) ∧ IntsAt w' (.slice a (allA ns l).length c) ((allA ns l).map fun (k : Nat) => (k : Int)) ∧ Below W.heap.size W w' := by
  refine (all_call v u ns l W hv hl hL.forms hL.glob).mono ?_
  rintro e w' ⟨x, rfl, hx, hb⟩
  have h1 := hx.ints
  obtain ⟨a, c, rfl, -⟩ := id hx
  exact ⟨a, c, rfl, h1, hb⟩
end Go.Proofs.YtagobgjlhdbhmaaDoor
/-
  MatchTests: the law.
-/
namespace Go.Proofs.YtagobgjlhdbhmaaDoor
open Go.RowKit

theorem one_right {t : Pl.Tst Pl.D2} (h : chkList (oneL t) = 0) : RT R2 t := by
  have h1 := (R3_iff (oneL t)).2 h
  have h2 := h1.2 _ (List.mem_singleton.2 rfl)
  have h3 := h2.2.2 _ (List.mem_singleton.2 rfl)
  exact h3.2.2 _ (List.mem_singleton.2 rfl)
end Go.Proofs.YtagobgjlhdbhmaaDoor
/-
  What the row's list of laid variables gives; a world in which they hold what they are laid with.
-/
namespace Go.Proofs.YtagobgjlhdbhmaaDoor
open Go.RowKit

theorem cl4 : Tryd.prog.cellsOf 4 = 1 := by kernel_rfl
theorem cl151 : Tryd.prog.cellsOf 90 = 7 := by kernel_rfl
theorem cl152 : Tryd.prog.cellsOf 91 = 112 := by kernel_rfl
theorem list7 {α : Type} {l : List α} (h : l.length = 7) : ∃ a b c d e f g, l = [a, b, c, d, e, f, g] := by
  match l, h with
  | [a, b, c, d, e, f, g], _ => exact ⟨a, b, c, d, e, f, g, rfl⟩
section
variable {H : Type} {enc : TypeId × Value → H} {W : World} {base : Nat} {sp : Nat → Bool} {held : Bool} {fuel : Nat} {cs : List Value} {p : List MemPlace}
theorem form_vals {a b c d : Bool} {e f g : List UInt8} (h : DataW.trod enc Tryd.prog W base sp held fuel 90 cs = some (.agg [.lit (.bool a), .lit (.bool b), .lit (.bool c), .lit (.bool d), .lit (.string e), .lit (.string f), .lit (.string g)], p)) :
    cs = [.bool a, .bool b, .bool c, .bool d, .string ⟨e.toArray⟩, .string ⟨f.toArray⟩, .string ⟨g.toArray⟩] := by
  obtain ⟨xs, m, _, hx, hl, hlen, hf⟩ := DataW.trod_struct Tryd.underlying90 h
  rw [cl151] at hl
  obtain ⟨v0, v1, v2, v3, v4, v5, v6, rfl⟩ := list7 hl
  obtain ⟨y0, y1, y2, y3, y4, y5, y6, rfl⟩ := list7 hlen
  have f0 : DataW.trod enc Tryd.prog W base sp held m 4 (([v0, v1, v2, v3, v4, v5, v6].drop 0).take (Tryd.prog.cellsOf 4)) = some y0 := hf 0 _ rfl
  rw [cl4] at f0
  replace f0 : DataW.trod enc Tryd.prog W base sp held m 4 [v0] = some y0 := f0
  have f1 : DataW.trod enc Tryd.prog W base sp held m 4 (([v0, v1, v2, v3, v4, v5, v6].drop 1).take (Tryd.prog.cellsOf 4)) = some y1 := hf 1 _ rfl
  rw [cl4] at f1
  replace f1 : DataW.trod enc Tryd.prog W base sp held m 4 [v1] = some y1 := f1
  have f2 : DataW.trod enc Tryd.prog W base sp held m 4 (([v0, v1, v2, v3, v4, v5, v6].drop 2).take (Tryd.prog.cellsOf 4)) = some y2 := hf 2 _ rfl
  rw [cl4] at f2
  replace f2 : DataW.trod enc Tryd.prog W base sp held m 4 [v2] = some y2 := f2
  have f3 : DataW.trod enc Tryd.prog W base sp held m 4 (([v0, v1, v2, v3, v4, v5, v6].drop 3).take (Tryd.prog.cellsOf 4)) = some y3 := hf 3 _ rfl
  rw [cl4] at f3
  replace f3 : DataW.trod enc Tryd.prog W base sp held m 4 [v3] = some y3 := f3
  have f4 : DataW.trod enc Tryd.prog W base sp held m 9 (([v0, v1, v2, v3, v4, v5, v6].drop 4).take (Tryd.prog.cellsOf 9)) = some y4 := hf 4 _ rfl
  rw [cl9] at f4
  replace f4 : DataW.trod enc Tryd.prog W base sp held m 9 [v4] = some y4 := f4
  have f5 : DataW.trod enc Tryd.prog W base sp held m 9 (([v0, v1, v2, v3, v4, v5, v6].drop 5).take (Tryd.prog.cellsOf 9)) = some y5 := hf 5 _ rfl
  rw [cl9] at f5
  replace f5 : DataW.trod enc Tryd.prog W base sp held m 9 [v5] = some y5 := f5
  have f6 : DataW.trod enc Tryd.prog W base sp held m 9 (([v0, v1, v2, v3, v4, v5, v6].drop 6).take (Tryd.prog.cellsOf 9)) = some y6 := hf 6 _ rfl
  rw [cl9] at f6
  replace f6 : DataW.trod enc Tryd.prog W base sp held m 9 [v6] = some y6 := f6
  obtain ⟨b0, e0, rfl⟩ := DataW.trod_bool Tryd.underlying4 f0
  obtain ⟨b1, e1, rfl⟩ := DataW.trod_bool Tryd.underlying4 f1
  obtain ⟨b2, e2, rfl⟩ := DataW.trod_bool Tryd.underlying4 f2
  obtain ⟨b3, e3, rfl⟩ := DataW.trod_bool Tryd.underlying4 f3
  obtain ⟨s4, e4, rfl, _⟩ := DataW.trod_string Tryd.underlying9 f4
  obtain ⟨s5, e5, rfl, _⟩ := DataW.trod_string Tryd.underlying9 f5
  obtain ⟨s6, e6, rfl, _⟩ := DataW.trod_string Tryd.underlying9 f6
  injection e0 with e0 _
  injection e1 with e1 _
  injection e2 with e2 _
  injection e3 with e3 _
  injection e4 with e4 _
  injection e5 with e5 _
  injection e6 with e6 _
  subst e0 e1 e2 e3 e4 e5 e6
  have hx1 := congrArg Prod.fst hx
  simp only [List.map_cons, List.map_nil, DataW.agg.injEq, List.cons.injEq, DataW.lit.injEq, Lit.bool.injEq, Lit.string.injEq, and_true] at hx1
  obtain ⟨rfl, rfl, rfl, rfl, rfl, rfl, rfl⟩ := hx1
  simp
end
def fD (k : Nat) : DataW Unit := .agg [.lit (.bool (Pl.kName k)), .lit (.bool (Pl.kValue k)), .lit (.bool (Pl.kNth k)), .lit (.bool (Pl.kList k)), .lit (.string (fBegin k)), .lit (.string (fSign k)), .lit (.string (fEnd k))]
theorem forms_data : (Rows.laid_pathfindery_path_forms : DataW Unit) = .agg ((List.range 16).map fD) := by kernel_rfl
theorem gForms : Tryd.prog.globalNamed "pathfindery/path.forms" = some 0 := by kernel_rfl
theorem tForms : (Tryd.prog.globals[0]?).map (·.type) = some 91 := by kernel_rfl
theorem at_k {xs : List (DataW Unit × List MemPlace)} {n : Nat} {g : Nat → DataW Unit} (h : xs.map (·.1) = (List.range n).map g) {k : Nat} (hk : k < n) : ∃ p, xs[k]? = some (g k, p) := by
  have : (xs.map (·.1))[k]? = some (g k) := by rw [h]; simp [hk]
  rw [List.getElem?_map, Option.map_eq_some_iff] at this
  obtain ⟨⟨y, p⟩, h1, h2⟩ := this
  exact ⟨p, by rw [h1]; simp only at h2; rw [h2]⟩
theorem forms_of {W : World} {r : List (String × DataW Unit)} (h : laidMet Tryd.prog (("pathfindery/path.forms", Rows.laid_pathfindery_path_forms) :: r) W) : FormsAt W := by
  rw [forms_data] at h
  obtain ⟨ps, ⟨g, t, cs, fuel, p, q, hg, ht, hvar, hd, _, _⟩, _⟩ := h
  obtain rfl := Option.some.inj (gForms.symm.trans hg)
  obtain rfl := Option.some.inj (tForms.symm.trans ht)
  obtain ⟨xs, m, _, hx, hl, hlen, hf⟩ := DataW.trod_array Tryd.underlying91 hd
  have hx1 := congrArg Prod.fst hx
  simp only [DataW.agg.injEq] at hx1
  intro k hk
  obtain ⟨p', hk'⟩ := at_k hx1.symm (k := k) (by omega)
  have hf' := hf k (by omega)
  rw [hk', cl151] at hf'
  have hv := form_vals hf'
  have hget : ∀ (j : Nat), j < 7 → W.cell? ⟨0, k * 7 + j, none⟩ = ((cs.toList.drop (k * 7)).take 7)[j]? := by
    intro j hj
    rw [World.var?_cell gForms hvar, List.getElem?_take_of_lt hj, List.getElem?_drop, Array.getElem?_toList]
  rw [hv] at hget
  exact ⟨hget 0 (by omega), hget 1 (by omega), hget 2 (by omega), hget 3 (by omega), hget 4 (by omega), hget 5 (by omega), hget 6 (by omega)⟩
theorem laid_of {W : World} (h : laidMet Tryd.prog [("unicode/utf8.acceptRanges", Rows.laid_unicode_utf8_acceptRanges), ("pathfindery/path.forms", Rows.laid_pathfindery_path_forms), ("unicode/utf8.first", Rows.laid_unicode_utf8_first)] W) (hS : W.ShapedOpen Tryd.prog) : Laid W :=
  ⟨forms_of (laidMet.tail h), cell_of_shapedOpen_int (g := 1) (t := 3) (zero := #[.int .i64 0]) hS (of_decide_eq_true (by kernel_rfl)) (by kernel_rfl) rfl (by kernel_rfl) (by kernel_rfl) Tryd.underlying3⟩
theorem ownTryd : ownKnob Tryd.prog.godebug = none := by kernel_rfl
theorem laidOutTryd : laidOutB Tryd.prog = true := by kernel_rfl
def filled (vs : List Value) : Obj → Obj
  | .cells _ t frozen => .cells vs.toArray t frozen
  | o => o
def ranges : List Value := ([128, 191, 160, 191, 128, 159, 144, 191, 128, 143, 0, 0, 0, 0, 0, 0, 0, 0, 0, 0, 0, 0, 0, 0, 0, 0, 0, 0, 0, 0, 0, 0] : List Int).map fun z => Value.int .u8 z
def firsts : List Value := Go.Pinned.utf8FirstZ.map fun (z : Nat) => Value.int .u8 (z : Int)
def formsV : List Value := (List.range 16).flatMap fun (k : Nat) => [.bool (Pl.kName k), .bool (Pl.kValue k), .bool (Pl.kNth k), .bool (Pl.kList k), .string ⟨(fBegin k).toArray⟩, .string ⟨(fSign k).toArray⟩, .string ⟨(fEnd k).toArray⟩]
def laidIn (w : World) : World := { w with heap := ((w.heap.modify 0 (filled formsV)).modify 2 (filled firsts)).modify 3 (filled ranges) }
end Go.Proofs.YtagobgjlhdbhmaaDoor
