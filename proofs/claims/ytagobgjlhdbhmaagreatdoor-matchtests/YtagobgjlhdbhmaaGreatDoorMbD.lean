/-
  What is found of lists; Matches.
-/
import Derived.Test.YtagobgjlhdbhmaaGreatDoorMaV
import Derived.Test.YtagobgjlhdbhmaaGreatDoorMaK
import Derived.Test.YtagobgjlhdbhmaaGreatDoorAsk
import Derived.Test.YtagobgjlhdbhmaaGreatDoorRows
import Derived.Lib.LaidTab
import Derived.Stop.LaidErr
import Derived.OpenShut
import Derived.LaidLaws
import Derived.Shelf.Vars
namespace Go.Proofs.YtagobgjlhdbhmaaGreatDoor
open Go.RowKit

theorem oFL_z : OFL ZAt (fun ns => m0 ns) R0 := fun _ _ _ _ _ _ _ _ _ _ _ _ h => h.elim
theorem oFL_up {α : Type} {A : MemL α} (hA : IsL A) {g : List Pl.Nd → List α → Nat → Bool} {R : List α → Prop} (h : OFL A g R) : OFL (LstAt A) (fun ns => lstM ns (g ns)) (RL R) :=
  ofList_up hA (ofPath_up hA (ofStep_up hA (asking_up hA h (asking_has hA h over_any) (attrs_up con_any hasWord_any))) goOn_any)
theorem ofList_any : OFL A3 (fun ns => m3 ns) R3 := oFL_up isL_2 (oFL_up isL_1 (oFL_up isL_z oFL_z))
theorem rd_of {w : World} {b o : Nat} {ns : List Pl.Nd} (h : Pl.checkDoc ns = 0) (hc : ∀ i (h : i < ns.length), NdAt w b (o + i * 5) ns[i]) : RD w b o ns := by
  obtain ⟨-, h2, h3, h4⟩ := (Pl.check_iff ns).1 h
  refine ⟨hc, h2, fun k hk => ?_, fun x hx => ?_⟩
  · have := h4 k hk
    by_cases h0 : k = 0
    · have := this.1 h0
      omega
    · have := this.2 (by omega)
      omega
  · exact (by obtain ⟨i, hi, rfl⟩ := List.getElem_of_mem hx; exact (okTo_right (check_zero h).2.2 hi hi).1)
theorem matchErr_zero {ns : List Pl.Nd} {l : List Pl.D3} {n : Int} (h : matchErr ns l n = 0) : Pl.checkDoc ns = 0 ∧ chkList l = 0 ∧ ∃ k : Nat, n = k ∧ k < ns.length := by
  unfold matchErr at h
  split at h
  · split at h
    · exact ⟨by assumption, by assumption, (checkAt_zero h).2⟩
    · omega
  · omega
/-- a document that is handed in, laid open -/
theorem doc_parts {w : World} {v : Value} {ns : List Pl.Nd} (h : DocAt w v ns) (hc : Pl.checkDoc ns = 0) : ∃ b o cap, v = .slice (some ⟨b, o, none⟩) ns.length cap ∧ RD w b o ns ∧ ns.length ≤ cap ∧ 1 ≤ ns.length ∧ Pl.GoodTo ns ns.length := by
  obtain ⟨⟨a, cap, rfl, h1⟩, ⟨a', l', c', e, hlc, -⟩, -⟩ := h
  injection e with e1 e2 e3
  subst e1 e2 e3
  obtain ⟨g1, g2, g3, g4⟩ := (Pl.check_iff ns).1 hc
  rcases h1 with h0 | ⟨b, o, rfl, hcs⟩
  · subst h0
    simp at g1
  · exact ⟨b, o, cap, rfl, rd_of hc hcs, hlc, g1, g4⟩
def matB (ns : List Pl.Nd) (l : List Pl.D3) (n : Int) : Bool := if matchErr ns l n = 0 then m3 ns l n.toNat else false
set_option maxRecDepth 100000 in
set_option maxHeartbeats 2000000 in
theorem matches_call (v u : Value) (ns : List Pl.Nd) (l : List Pl.D3) (n : Int) (w : World) (hv : DocAt w v ns) (hl : A3 w u l) (hF : FormsAt w) (hG : Glob w) :
    Calls Tryz.prog 13 #[.agg #[v], u, .int .i64 n] w fun e w' => e = .returned (.tuple #[.bool (matB ns l n), .int .i64 (matchErr ns l n)]) ∧ Below w.heap.size w w' := by
  obtain ⟨av, cv, rfl, -⟩ := id hv.1
  obtain ⟨al, cl, rfl, -⟩ := isL_3.form hl
  have HB : Hid (Below w.heap.size w (w.alloc (.cells #[.slice av ns.length cv] 24))) := on_alloc _ _
  have c0 : (w.alloc (.cells #[.slice av ns.length cv] 24)).cell? ⟨w.heap.size, 0, none⟩ = some (.slice av ns.length cv) := by simp [go_sem]
  have HC1 : Hid (Calls Tryz.prog 40 _ _ _) := mcheckAt_any (.slice av ns.length cv) (.slice al l.length cl) ns l n _ hv.2.2 (hv.1.on HB.out) (isL_3.on hl HB.out) (hF.on HB.out)
  have HV : Hid (DocAt w (.slice av ns.length cv) ns) := hv
  have HL : Hid (A3 w (.slice al l.length cl) l) := hl
  have HG : Hid (Glob w) := hG
  have HZ : Hid (matchErr ns l n = 0 → Pl.checkDoc ns = 0 ∧ chkList l = 0 ∧ ∃ k : Nat, n = k ∧ k < ns.length) := matchErr_zero
  have HMB : Hid (matB ns l n = if matchErr ns l n = 0 then m3 ns l n.toNat else false) := rfl
  clear hv hl hF hG
  generalize matB ns l n = mb at *
  generalize matchErr ns l n = me at *
  go_enter Tryz.func13, Tryz.ntmps13
  go_wp2_with fail
  refine HC1.out.mono ?_
  rintro e w1 ⟨rfl, hb1⟩
  have HB1 : Hid (Below w.heap.size w w1) := below_trans HB.out hb1
  have c1 := cell_on hb1 c0
  clear hb1 c0
  by_cases h1 : me = 0
  · subst h1
    rw [if_pos rfl] at HMB
    obtain ⟨z1, z2, k, rfl, hk⟩ := HZ.out rfl
    obtain ⟨b, o, cap, e, hRD, hcap, hN, hgd⟩ := doc_parts HV.out z1
    injection e with e1 e2 e3
    subst e1 e3
    have HC2 : Hid (Calls Tryz.prog 41 _ _ _) := grow_call w1 b o cv ns (HG.out.on HB1.out) (hRD.on HB1.out) hN hgd hcap
    have HR3 : Hid (R3 l) := (R3_iff l).2 z2
    have i1 : (0 : Int) ≤ (k : Int) := by omega
    have i2 : (k : Int) < (ns.length : Int) := by omega
    clear z1 z2 hRD hN hgd hcap HZ
    go_wp2_with fail
    refine HC2.out.mono ?_
    rintro e w2 ⟨bk, bn, bl, rfl, hTR, hb2⟩
    have HB2 : Hid (Below w.heap.size w w2) := below_trans HB1.out hb2
    have HC3 : Hid (Calls Tryz.prog 42 _ _ _) := ofList_any w2 b o cv bk bn bl ns _ l hTR (isL_3.on HL.out HB2.out) HR3.out
    clear hTR hb2 c1
    go_wp2_with fail
    refine HC3.out.mono ?_
    rintro e w3 ⟨gB, rfl, -, hrow, hb3⟩
    have HB3 : Hid (Below w.heap.size w w3) := below_trans HB2.out hb3
    have c3 : w3.cell? ⟨gB, k, none⟩ = some (.bool mb) := by
      have := hrow.cell (i := k) (by simpa using hk)
      rw [HMB.out]
      simpa using this
    clear hrow hb3
    go_wp2
    go_ret2
    exact ⟨rfl, HB3.out⟩
  · rw [if_neg h1] at HMB
    have b1 : (me == 0) = false := by simpa using h1
    have hmb : mb = false := HMB.out
    subst hmb
    clear h1
    go_wp2
    go_ret2
    exact ⟨rfl, HB1.out⟩
end Go.Proofs.YtagobgjlhdbhmaaGreatDoor
/-
  All, and Nearest.
-/
namespace Go.Proofs.YtagobgjlhdbhmaaGreatDoor
open Go.RowKit Go.Shelf

attribute [local go_sem] Oper.semAt_some

def allA (ns : List Pl.Nd) (l : List Pl.D3) : List Nat := if chkBoth ns l = 0 then allTo (m3 ns l) ns.length else []
theorem chkBoth_zero {ns : List Pl.Nd} {l : List Pl.D3} (h : chkBoth ns l = 0) : Pl.checkDoc ns = 0 ∧ chkList l = 0 := by
  unfold chkBoth at h
  split at h
  · exact ⟨by assumption, h⟩
  · omega
theorem intsF_nil (B : Nat) (w : World) : IntsF B w (.slice none 0 0) [] := ⟨none, 0, rfl, Or.inl rfl⟩
set_option maxRecDepth 100000 in
set_option maxHeartbeats 2000000 in
theorem all_call (v u : Value) (ns : List Pl.Nd) (l : List Pl.D3) (w : World) (hv : DocAt w v ns) (hl : A3 w u l) (hF : FormsAt w) (hG : Glob w) :
    Calls Tryz.prog 14 #[.agg #[v], u] w fun e w' => ∃ x, e = .returned (.tuple #[x, .int .i64 (chkBoth ns l)]) ∧ IntsF w.heap.size w' x (allA ns l) ∧ Below w.heap.size w w' := by
  obtain ⟨av, cv, rfl, -⟩ := id hv.1
  obtain ⟨al, cl, rfl, -⟩ := isL_3.form hl
  have HB : Hid (Below w.heap.size w (w.alloc (.cells #[.slice av ns.length cv] 24))) := on_alloc _ _
  have c0 : (w.alloc (.cells #[.slice av ns.length cv] 24)).cell? ⟨w.heap.size, 0, none⟩ = some (.slice av ns.length cv) := by simp [go_sem]
  have HC1 : Hid (Calls Tryz.prog 43 _ _ _) := mcheck_any (.slice av ns.length cv) (.slice al l.length cl) ns l _ hv.2.2 (hv.1.on HB.out) (isL_3.on hl HB.out) (hF.on HB.out)
  have HV : Hid (DocAt w (.slice av ns.length cv) ns) := hv
  have HL : Hid (A3 w (.slice al l.length cl) l) := hl
  have HG : Hid (Glob w) := hG
  have HZ : Hid (chkBoth ns l = 0 → Pl.checkDoc ns = 0 ∧ chkList l = 0) := chkBoth_zero
  have HMB : Hid (allA ns l = if chkBoth ns l = 0 then allTo (m3 ns l) ns.length else []) := rfl
  clear hv hl hF hG
  generalize allA ns l = mb at *
  generalize chkBoth ns l = me at *
  obtain ⟨i0, hi, hz0, hz1, hz2⟩ := info_parts Tryz.info3
  go_enter Tryz.func14, Tryz.ntmps14
  go_wp2_with fail
  refine HC1.out.mono ?_
  rintro e w1 ⟨rfl, hb1⟩
  have HB1 : Hid (Below w.heap.size w w1) := below_trans HB.out hb1
  have c1 := cell_on hb1 c0
  clear hb1 c0
  by_cases h1 : me = 0
  · subst h1
    rw [if_pos rfl] at HMB
    obtain ⟨z1, z2⟩ := HZ.out rfl
    obtain ⟨b, o, cap, e, hRD, hcap, hN, hgd⟩ := doc_parts HV.out z1
    injection e with e1 e2 e3
    subst e1 e3
    have HC2 : Hid (Calls Tryz.prog 41 _ _ _) := grow_call w1 b o cv ns (HG.out.on HB1.out) (hRD.on HB1.out) hN hgd hcap
    have HR3 : Hid (R3 l) := (R3_iff l).2 z2
    have h64 := hRD.n64
    clear z1 z2 hRD hN hgd hcap HZ
    go_wp2_with fail
    refine HC2.out.mono ?_
    rintro e w2 ⟨bk, bn, bl, rfl, hTR, hb2⟩
    have HB2 : Hid (Below w.heap.size w w2) := below_trans HB1.out hb2
    have HC3 : Hid (Calls Tryz.prog 42 _ _ _) := ofList_any w2 b o cv bk bn bl ns _ l hTR (isL_3.on HL.out HB2.out) HR3.out
    clear hTR hb2 c1 HC2
    go_wp2_with fail
    refine HC3.out.mono ?_
    rintro e w3 ⟨gB, rfl, -, hrow, hb3⟩
    have HB3 : Hid (Below w.heap.size w w3) := below_trans HB2.out hb3
    obtain ⟨q, hq⟩ : ∃ q, q = m3 ns l := ⟨_, rfl⟩
    rw [← hq] at HMB
    have HRW : Hid (BRow w3 gB ((List.range ns.length).map q)) := by
      rw [hq]
      exact hrow
    clear hrow hb3 HC3 hq
    go_wp2_with fail
    go_loopw [7, 22] (fun v i wr => ∃ k : Nat, k ≤ ns.length ∧ i = .int .i64 k ∧ Hid (wr.ownsRow w3.heap.size 3 1 v (allTo q k).length (natCells (allTo q k))) ∧ Hid (Below w3.heap.size w3 wr)) (fun _ i _ => ns.length - (intOf i).toNat)
    case atStart => exact ⟨0, Nat.zero_le _, rfl, World.ownsRow_nil _ _ _ _, Below.refl _ _⟩
    case round =>
      obtain ⟨k, hk, rfl, HOWN, HBB⟩ := hrel
      by_cases hlt : k < ns.length
      · have c3 : wr.cell? ⟨gB, k, none⟩ = some (.bool (q k)) := by
          have := (HRW.out.on HBB.out).cell (i := k) (by simpa using hlt)
          simpa using this
        have hkl := allTo_len q k
        have i1 : (0 : Int) ≤ (k : Int) := by omega
        have i2 : (k : Int) < (ns.length : Int) := by omega
        cases hqk : q k with
        | true =>
          have HK : Hid (allTo q (k + 1) = allTo q k ++ [k]) := allTo_hit q k hqk
          rw [hqk] at c3
          have hown : wr.ownsRow w3.heap.size 3 1 u7 (allTo q k).length (natCells (allTo q k)) := HOWN.out
          have hB : Below w3.heap.size w3 wr := HBB.out
          clear hqk
          go_wp2_with (at_builtin; refine wpList_append_own _ rfl _ _ 38 rfl w3.heap.size 3 i0 (.int .i64 0) 1 8 Tryz.underlying38 hi hz0 hz1 hz2 rfl (by decide) _ _ _ rfl (hown.alloc _) ⟨wr.heap.size, 0, none⟩ 1 1 [.int .i64 k] rfl rfl ?c1 ?c2 ?c3 ?c4 ?c5 ?_)
          case c1 =>
            intro j u hj
            match j, hj with
            | 0, hj => simp at hj; subst hj; simp [Addr.add, go_sem]
          case c2 => intro u hu; simp at hu; subst hu; rfl
          case c3 => unfold maxLen; omega
          case c4 => omega
          case c5 => have := hB.size; simp; omega
          intro v' w1 hown' hgrow _
          have HB1 : Hid (Below w3.heap.size w3 w1) := (hB.alloc hB.size _).grown hgrow (by have := hB.size; simp; omega) (fun g hg => by have := (World.ownsRow.lt hown g hg).1; omega)
          have HOW1 : Hid (w1.ownsRow w3.heap.size 3 1 v' (allTo q (k + 1)).length (natCells (allTo q (k + 1)))) := by
            unfold Hid
            rw [HK.out]
            simpa [natCells] using hown'
          clear hgrow hown hown' hB
          go_wp2
          exact ⟨⟨k + 1, hlt, by go_num, HOW1, HB1⟩, by simp [intOf]; omega⟩
        | false =>
          have HK : Hid (allTo q (k + 1) = allTo q k) := allTo_miss q k hqk
          rw [hqk] at c3
          have HOW2 : Hid (wr.ownsRow w3.heap.size 3 1 u7 (allTo q (k + 1)).length (natCells (allTo q (k + 1)))) := by
            unfold Hid
            rw [HK.out]
            exact HOWN.out
          clear hqk
          go_wp2
          exact ⟨⟨k + 1, hlt, by go_num, HOW2, HBB⟩, by simp [intOf]; omega⟩
      · have hkl : k = ns.length := by omega
        have HF : Hid (IntsF w.heap.size wr u7 mb) := by
          have h1 := intsF_of_row HOWN.out
          rw [hkl, ← HMB.out] at h1
          exact h1.mono HB3.out.size
        have HBF : Hid (Below w.heap.size w wr) := below_trans HB3.out HBB.out
        clear hkl
        go_wp2
        go_ret2
        exact ⟨_, rfl, HF.out, HBF.out⟩
  · rw [if_neg h1] at HMB
    have b1 : (me == 0) = false := by simpa using h1
    have hmb : mb = [] := HMB.out
    subst hmb
    clear h1
    go_wp2
    go_ret2
    exact ⟨_, rfl, intsF_nil _ _, HB1.out⟩
end Go.Proofs.YtagobgjlhdbhmaaGreatDoor
/-
  Nearest.
-/
namespace Go.Proofs.YtagobgjlhdbhmaaGreatDoor
open Go.RowKit Go.Shelf

attribute [local go_sem] Oper.semAt_some

def nearA (ns : List Pl.Nd) (l : List Pl.D3) (n : Int) : Option Nat := if matchErr ns l n = 0 then (nearL ns n.toNat).find? (m3 ns l) else none
/-- the boxes of what is answered -/
structure NB (w W : World) (x : Int) (y : Bool) (z : Int) : Prop where
  bel : Below w.heap.size w W
  b1 : Boxed W (w.heap.size + 1) 3 (.int .i64 x)
  b2 : Boxed W (w.heap.size + 2) 4 (.bool y)
  b3 : Boxed W (w.heap.size + 3) 30 (.int .i64 z)
section
variable {w W W' : World} {x z : Int} {y : Bool}
theorem NB.on (h : NB w W x y z) (hb : Below W.heap.size W W') : NB w W' x y z := ⟨below_trans h.bel hb, (hb.block _ h.b1.lt).trans h.b1, (hb.block _ h.b2.lt).trans h.b2, (hb.block _ h.b3.lt).trans h.b3⟩
theorem NB.turns {X : Nat → Prop} {M : Nat} (h : NB w W x y z) (hX : ∀ r, X r → w.heap.size + 4 ≤ r) (hM : w.heap.size ≤ M) (ht : Turns X M W W') : NB w W' x y z := by
  have hn : ∀ k, k < w.heap.size + 4 → ¬ X k := fun k hk hx => by have := hX k hx; omega
  exact ⟨ht.below hM (fun r hr => by have := hX r hr; omega) h.bel h.bel.size, ht.cells h.b1 rfl (hn _ (by omega)), ht.cells h.b2 rfl (hn _ (by omega)), ht.cells h.b3 rfl (hn _ (by omega))⟩
theorem NB.set (h : NB w W x y z) (x' : Int) (y' : Bool) (z' : Int) : NB w (((W.setCell ⟨w.heap.size + 1, 0, none⟩ (.int .i64 x')).setCell ⟨w.heap.size + 2, 0, none⟩ (.bool y')).setCell ⟨w.heap.size + 3, 0, none⟩ (.int .i64 z')) x' y' z' :=
  ⟨((h.bel.setCell (p := ⟨w.heap.size + 1, 0, none⟩) (by simp) _).setCell (p := ⟨w.heap.size + 2, 0, none⟩) (by simp) _).setCell (p := ⟨w.heap.size + 3, 0, none⟩) (by simp) _,
   ((h.b1.set _).other (by omega) _).other (by omega) _, ((h.b2.other (by omega) _).set _).other (by omega) _, ((h.b3.other (by omega) _).other (by omega) _).set _⟩
theorem NB.new (w : World) (ob : Obj) : NB w ((((w.alloc ob).alloc (.cells #[.int .i64 0] 3)).alloc (.cells #[.bool false] 4)).alloc (.cells #[.int .i64 0] 30)) 0 false 0 := by
  have h1 := ((Boxed.new (w.alloc ob) 3 (.int .i64 0)).alloc (.cells #[.bool false] 4)).alloc (.cells #[.int .i64 0] 30)
  have h2 := (Boxed.new ((w.alloc ob).alloc (.cells #[.int .i64 0] 3)) 4 (.bool false)).alloc (.cells #[.int .i64 0] 30)
  have h3 := Boxed.new (((w.alloc ob).alloc (.cells #[.int .i64 0] 3)).alloc (.cells #[.bool false] 4)) 30 (.int .i64 0)
  simp only [World.size_alloc] at h1 h2 h3
  exact ⟨below_trans (below_trans (below_trans (on_alloc _ _) (on_alloc _ _)) (on_alloc _ _)) (on_alloc _ _), h1, h2, h3⟩
/-- cells of the answer in a later world in which blocks of cells lie as they lay -/
theorem NB.cells (h : NB w W x y z) (hc : ∀ (k : Nat) (o : Obj), W.heap[k]? = some o → o.isCells = true → W'.heap[k]? = some o) : W'.cell? ⟨w.heap.size + 1, 0, none⟩ = some (.int .i64 x) ∧ W'.cell? ⟨w.heap.size + 2, 0, none⟩ = some (.bool y) ∧ W'.cell? ⟨w.heap.size + 3, 0, none⟩ = some (.int .i64 z) :=
  ⟨Boxed.cell (hc _ _ h.b1 rfl), Boxed.cell (hc _ _ h.b2 rfl), Boxed.cell (hc _ _ h.b3 rfl)⟩
end
theorem keeps3 (W : World) (p q r : Addr) (x y z : Value) : KeepsOthers W (((W.setCell p x).setCell q y).setCell r z) := ((KeepsOthers.setCell W p x).trans (KeepsOthers.setCell _ q y)).trans (KeepsOthers.setCell _ r z)
theorem any_find {q : Nat → Bool} {L : List Nat} (h : L.any q = false) : L.find? q = none := by
  rw [List.find?_eq_none]
  intro x hx hq
  rw [List.any_eq_false] at h
  exact h x hx hq
set_option maxRecDepth 100000 in
set_option maxHeartbeats 4000000 in
theorem nearest_call (v u : Value) (ns : List Pl.Nd) (l : List Pl.D3) (n : Int) (w : World) (hv : DocAt w v ns) (hl : A3 w u l) (hF : FormsAt w) (hG : Glob w) :
    Calls Tryz.prog 15 #[.agg #[v], u, .int .i64 n] w fun e w' => e = .returned (.tuple #[.int .i64 ((nearA ns l n).getD 0 : Nat), .bool (nearA ns l n).isSome, .int .i64 (matchErr ns l n)]) ∧ Below w.heap.size w w' := by
  obtain ⟨av, cv, rfl, -⟩ := id hv.1
  obtain ⟨al, cl, rfl, -⟩ := isL_3.form hl
  have HNB : Hid (NB w ((((w.alloc (.cells #[.slice av ns.length cv] 24)).alloc (.cells #[.int .i64 0] 3)).alloc (.cells #[.bool false] 4)).alloc (.cells #[.int .i64 0] 30)) 0 false 0) := NB.new w _
  have c0 : ((((w.alloc (.cells #[.slice av ns.length cv] 24)).alloc (.cells #[.int .i64 0] 3)).alloc (.cells #[.bool false] 4)).alloc (.cells #[.int .i64 0] 30)).cell? ⟨w.heap.size, 0, none⟩ = some (.slice av ns.length cv) := by simp [go_sem]
  have HC1 : Hid (Calls Tryz.prog 40 _ _ _) := mcheckAt_any (.slice av ns.length cv) (.slice al l.length cl) ns l n ((((w.alloc (.cells #[.slice av ns.length cv] 24)).alloc (.cells #[.int .i64 0] 3)).alloc (.cells #[.bool false] 4)).alloc (.cells #[.int .i64 0] 30)) hv.2.2 (hv.1.on HNB.out.bel) (isL_3.on hl HNB.out.bel) (hF.on HNB.out.bel)
  have HV : Hid (DocAt w (.slice av ns.length cv) ns) := hv
  have HL : Hid (A3 w (.slice al l.length cl) l) := hl
  have HG : Hid (Glob w) := hG
  have HZ : Hid (matchErr ns l n = 0 → Pl.checkDoc ns = 0 ∧ chkList l = 0 ∧ ∃ k : Nat, n = k ∧ k < ns.length) := matchErr_zero
  have HMB : Hid (nearA ns l n = if matchErr ns l n = 0 then (nearL ns n.toNat).find? (m3 ns l) else none) := rfl
  clear hv hl hF hG
  generalize nearA ns l n = mb at *
  generalize matchErr ns l n = me at *
  refine (callsIn_wide (n := 6)).1 ?_
  refine callsIn_of_wp_marks Tryz.func15 rfl trivial ?_ rfl
  simp only [Tryz.ntmps15, List.size_toArray, List.length_cons, List.length_nil, Nat.reduceAdd, Nat.reduceSub, Array.replicate_succ, Array.replicate_zero, List.push_toArray, List.append_toArray, List.nil_append, List.cons_append]
  gi_wp2_with fail
  generalize ((((w.alloc (.cells #[.slice av ns.length cv] 24)).alloc (.cells #[.int .i64 0] 3)).alloc (.cells #[.bool false] 4)).alloc (.cells #[.int .i64 0] 30)) = W0 at *
  rw [show w.heap.size + 1 + 1 + 1 = w.heap.size + 3 from rfl, show w.heap.size + 1 + 1 = w.heap.size + 2 from rfl]
  refine ⟨trivial, (callsIn_wide.2 HC1.out).mono ?_⟩
  rintro e w1 ⟨rfl, hb1⟩
  have HN1 : Hid (NB w w1 0 false 0) := HNB.out.on hb1
  have c1 := cell_on hb1 c0
  clear hb1 c0 HNB HC1
  by_cases h1 : me = 0
  · subst h1
    rw [if_pos rfl] at HMB
    obtain ⟨z1, z2, n0, rfl, hn0⟩ := HZ.out rfl
    obtain ⟨b, o, cap, e, hRD, hcap, hN, hgd⟩ := doc_parts HV.out z1
    injection e with e1 e2 e3
    subst e1 e3
    have HC2 : Hid (Calls Tryz.prog 41 _ _ _) := grow_call w1 b o cv ns (HG.out.on HN1.out.bel) (hRD.on HN1.out.bel) hN hgd hcap
    have HR3 : Hid (R3 l) := (R3_iff l).2 z2
    have i1 : (0 : Int) ≤ (n0 : Int) := by omega
    have i2 : (n0 : Int) < (ns.length : Int) := by omega
    have hbw : b < w.heap.size := by
      obtain ⟨vc, va, m0, -⟩ := hRD.at_ n0 hn0
      obtain ⟨ob, hob, -⟩ := cells_of_cell m0
      exact (Array.getElem?_eq_some_iff.1 hob).1
    clear z1 z2 hRD hN hgd hcap HZ
    gi_wp2_with fail
    refine ⟨trivial, (callsIn_wide.2 HC2.out).mono ?_⟩
    rintro e w2 ⟨bk, bn, bl, rfl, hTR, hb2⟩
    have hba := on_alloc w2 (.cells #[.slice (some ⟨b, o, none⟩) ns.length cv, .slice (some ⟨bk, 0, none⟩) ns.length ns.length, .slice (some ⟨bn, 0, none⟩) ns.length ns.length, .slice (some ⟨bl, 0, none⟩) ns.length ns.length] 88)
    have HT3 : Hid (TR (w2.alloc (.cells #[.slice (some ⟨b, o, none⟩) ns.length cv, .slice (some ⟨bk, 0, none⟩) ns.length ns.length, .slice (some ⟨bn, 0, none⟩) ns.length ns.length, .slice (some ⟨bl, 0, none⟩) ns.length ns.length] 88)) b o bk bn bl ns) := hTR.on hba
    have HN3 : Hid (NB w (w2.alloc (.cells #[.slice (some ⟨b, o, none⟩) ns.length cv, .slice (some ⟨bk, 0, none⟩) ns.length ns.length, .slice (some ⟨bn, 0, none⟩) ns.length ns.length, .slice (some ⟨bl, 0, none⟩) ns.length ns.length] 88)) 0 false 0) := (HN1.out.on hb2).on hba
    have HX3 : Hid ((w2.alloc (.cells #[.slice (some ⟨b, o, none⟩) ns.length cv, .slice (some ⟨bk, 0, none⟩) ns.length ns.length, .slice (some ⟨bn, 0, none⟩) ns.length ns.length, .slice (some ⟨bl, 0, none⟩) ns.length ns.length] 88)).heap[w2.heap.size]? = some (.cells #[.slice (some ⟨b, o, none⟩) ns.length cv, .slice (some ⟨bk, 0, none⟩) ns.length ns.length, .slice (some ⟨bn, 0, none⟩) ns.length ns.length, .slice (some ⟨bl, 0, none⟩) ns.length ns.length] 88)) := World.alloc_heap_new _ _
    obtain ⟨y0, y1, y2, y3⟩ := blk4c HX3.out
    have HC3 : Hid (Calls Tryz.prog 42 _ _ _) := ofList_any _ b o cv bk bn bl ns _ l HT3.out (isL_3.on HL.out HN3.out.bel) HR3.out
    clear hTR hb2 c1 hba HC2 HN1
    gi_wp2_with fail
    generalize w2.alloc (.cells #[.slice (some ⟨b, o, none⟩) ns.length cv, .slice (some ⟨bk, 0, none⟩) ns.length ns.length, .slice (some ⟨bn, 0, none⟩) ns.length ns.length, .slice (some ⟨bl, 0, none⟩) ns.length ns.length] 88) = w3 at *
    refine ⟨trivial, (callsIn_wide.2 HC3.out).mono ?_⟩
    rintro e w4 ⟨gB, rfl, hgB, hrow, hb4⟩
    obtain ⟨q, hq⟩ : ∃ q, q = m3 ns l := ⟨_, rfl⟩
    have hbf := on_alloc w4 (.cells #[.slice (some ⟨gB, 0, none⟩) ns.length ns.length] 86)
    have HT5 : Hid (TR (w4.alloc (.cells #[.slice (some ⟨gB, 0, none⟩) ns.length ns.length] 86)) b o bk bn bl ns) := (HT3.out.on hb4).on hbf
    have HN5 : Hid (NB w (w4.alloc (.cells #[.slice (some ⟨gB, 0, none⟩) ns.length ns.length] 86)) 0 false 0) := (HN3.out.on hb4).on hbf
    have HX5 : Hid ((w4.alloc (.cells #[.slice (some ⟨gB, 0, none⟩) ns.length ns.length] 86)).heap[w2.heap.size]? = some (.cells #[.slice (some ⟨b, o, none⟩) ns.length cv, .slice (some ⟨bk, 0, none⟩) ns.length ns.length, .slice (some ⟨bn, 0, none⟩) ns.length ns.length, .slice (some ⟨bl, 0, none⟩) ns.length ns.length] 88)) := blkOn hbf (blkOn hb4 HX3.out)
    have HF5 : Hid (Boxed (w4.alloc (.cells #[.slice (some ⟨gB, 0, none⟩) ns.length ns.length] 86)) w4.heap.size 86 (.slice (some ⟨gB, 0, none⟩) ns.length ns.length)) := Boxed.new _ _ _
    have HRW : Hid (BRow (w4.alloc (.cells #[.slice (some ⟨gB, 0, none⟩) ns.length ns.length] 86)) gB ((List.range ns.length).map q)) := by
      rw [hq]
      exact hrow.on hbf
    rw [← hq] at HMB
    clear y0 y1 y2 y3 hrow hb4 hbf HC3 hq HT3 HN3 HX3
    obtain ⟨y0, y1, y2, y3⟩ := blk4c HX5.out
    have f0 := HF5.out.cell
    have r0 : (w4.alloc (.cells #[.slice (some ⟨gB, 0, none⟩) ns.length ns.length] 86)).cell? ⟨gB, n0, none⟩ = some (.bool (q n0)) := by
      have := HRW.out.cell (i := n0) (by simpa using hn0)
      simpa using this
    have a1 := HN5.out.b1.cell
    have a2 := HN5.out.b2.cell
    have a3 := HN5.out.b3.cell
    have g1 := HN5.out.b1.frozen
    have g2 := HN5.out.b2.frozen
    have g3 := HN5.out.b3.frozen
    have HNF : Hid (mb = if q n0 = true then some n0 else (aboveL ns n0).find? q) := by
      unfold Hid
      rw [HMB.out]
      unfold nearL
      rw [Int.toNat_natCast, List.find?_cons]
      cases q n0 <;> rfl
    have hw4 : w2.heap.size < w4.heap.size + 1 := by have := (Array.getElem?_eq_some_iff.1 HX5.out).1; simpa using this
    have hw2 : w.heap.size + 4 ≤ w4.heap.size + 1 := by have := HN5.out.b3.lt; simp at this; omega
    have hs5 : (w4.alloc (.cells #[.slice (some ⟨gB, 0, none⟩) ns.length ns.length] 86)).heap.size = w4.heap.size + 1 := by simp
    cases hqn : q n0 with
    | true =>
      rw [hqn] at r0
      rw [hqn, if_pos rfl] at HNF
      have HN6 : Hid (NB w ((((w4.alloc (.cells #[.slice (some ⟨gB, 0, none⟩) ns.length ns.length] 86)).setCell ⟨w.heap.size + 1, 0, none⟩ (.int .i64 n0)).setCell ⟨w.heap.size + 2, 0, none⟩ (.bool true)).setCell ⟨w.heap.size + 3, 0, none⟩ (.int .i64 0)) n0 true 0) := HN5.out.set n0 true 0
      have hmb : mb = some n0 := HNF.out
      subst hmb
      clear hqn
      gi_wp2
      obtain ⟨k1, k2, k3⟩ := HN6.out.cells (fun _ _ h _ => h)
      refine ⟨.tuple #[.int .i64 n0, .bool true, .int .i64 0], ?_, rfl, HN6.out.bel⟩
      simp [results, Tryz.results15, go_sem, k1, k2, k3]
    | false =>
      rw [hqn] at r0
      rw [hqn, if_neg (by simp)] at HNF
      clear hqn
      gi_wp2_with (refine ⟨trivial, ?_⟩; gi_at_call 44; refine (callsIn_wide.2 (above_call _ _ _ _ _ _)).mono ?_; rintro e w' ⟨rfl, rfl⟩)
      have HGO : Hid (Goes ns 65 #[.pointer (some ⟨(w4.heap.size + 1), 0, none⟩), .pointer (some ⟨(w4.heap.size + 1) + 1, 0, none⟩)] (KpS ns (w4.heap.size + 1) b o cv) (aboveL ns n0) (boxed2  (w4.alloc (.cells #[.slice (some ⟨gB, 0, none⟩) ns.length ns.length] 86))  (.slice (some ⟨b, o, none⟩) ns.length cv) (.slice (some ⟨bk, 0, none⟩) ns.length ns.length) (.slice (some ⟨bn, 0, none⟩) ns.length ns.length) (.slice (some ⟨bl, 0, none⟩) ns.length ns.length) n0)) := by
        have := above_goes (cap := cv) HT5.out n0 hn0
        rw [hs5] at this
        exact this
      have hbx := boxed2_on  (w4.alloc (.cells #[.slice (some ⟨gB, 0, none⟩) ns.length ns.length] 86))  (.slice (some ⟨b, o, none⟩) ns.length cv) (.slice (some ⟨bk, 0, none⟩) ns.length ns.length) (.slice (some ⟨bn, 0, none⟩) ns.length ns.length) (.slice (some ⟨bl, 0, none⟩) ns.length ns.length) n0
      have HN6 : Hid (NB w (boxed2  (w4.alloc (.cells #[.slice (some ⟨gB, 0, none⟩) ns.length ns.length] 86))  (.slice (some ⟨b, o, none⟩) ns.length cv) (.slice (some ⟨bk, 0, none⟩) ns.length ns.length) (.slice (some ⟨bn, 0, none⟩) ns.length ns.length) (.slice (some ⟨bl, 0, none⟩) ns.length ns.length) n0) 0 false 0) := HN5.out.on hbx
      have HF6 : Hid (Boxed (boxed2  (w4.alloc (.cells #[.slice (some ⟨gB, 0, none⟩) ns.length ns.length] 86))  (.slice (some ⟨b, o, none⟩) ns.length cv) (.slice (some ⟨bk, 0, none⟩) ns.length ns.length) (.slice (some ⟨bn, 0, none⟩) ns.length ns.length) (.slice (some ⟨bl, 0, none⟩) ns.length ns.length) n0) w4.heap.size 86 (.slice (some ⟨gB, 0, none⟩) ns.length ns.length)) := (hbx.block _ HF5.out.lt).trans HF5.out
      have HR6 : Hid (BRow (boxed2  (w4.alloc (.cells #[.slice (some ⟨gB, 0, none⟩) ns.length ns.length] 86))  (.slice (some ⟨b, o, none⟩) ns.length cv) (.slice (some ⟨bk, 0, none⟩) ns.length ns.length) (.slice (some ⟨bn, 0, none⟩) ns.length ns.length) (.slice (some ⟨bl, 0, none⟩) ns.length ns.length) n0) gB ((List.range ns.length).map q)) := HRW.out.on hbx
      have hsz : w4.heap.size + 1 ≤ (boxed2  (w4.alloc (.cells #[.slice (some ⟨gB, 0, none⟩) ns.length ns.length] 86))  (.slice (some ⟨b, o, none⟩) ns.length cv) (.slice (some ⟨bk, 0, none⟩) ns.length ns.length) (.slice (some ⟨bn, 0, none⟩) ns.length ns.length) (.slice (some ⟨bl, 0, none⟩) ns.length ns.length) n0).heap.size := by have h := hbx.size; rw [hs5] at h; exact h
      have hgl : gB < w4.heap.size + 1 := by have h := HRW.out.lt; rw [hs5] at h; exact h
      have hw3 : w3.heap.size ≤ gB := hgB
      clear hbx y0 y1 y2 y3 f0 r0 a1 a2 a3 g1 g2 g3 HRW HF5 HN5 HX5 HT5
      generalize boxed2  (w4.alloc (.cells #[.slice (some ⟨gB, 0, none⟩) ns.length ns.length] 86))  (.slice (some ⟨b, o, none⟩) ns.length cv) (.slice (some ⟨bk, 0, none⟩) ns.length ns.length) (.slice (some ⟨bn, 0, none⟩) ns.length ns.length) (.slice (some ⟨bl, 0, none⟩) ns.length ns.length) n0 = W6 at *
      refine range_own (n := 6) (gf := 65) (lb := #[.pointer (some ⟨(w4.heap.size + 1), 0, none⟩), .pointer (some ⟨(w4.heap.size + 1) + 1, 0, none⟩)]) rfl (enters_of Tryz.func65 (by kernel_rfl) rfl) HGO.out (fun r h => h.elim) (fun h1 h2 h => h2 (h1 h)) (fun W l ob o' _ hl ho h => Sees.put o' hl ho h) (fun _ => rfl)
        (fun pre W => (NB w W 0 false 0 ∧ Boxed W w4.heap.size 86 (.slice (some ⟨gB, 0, none⟩) ns.length ns.length)) ∧ BRow W gB ((List.range ns.length).map q) ∧ (pre.map Subtype.val).any q = false)
        (fun c pre W => c = .ret ∧ ∃ (x : NU ns) (p : List (NU ns)), pre = p ++ [x] ∧ (p.map Subtype.val).any q = false ∧ q x.1 = true ∧ NB w W x.1 true 0)
        (fun s A A' h ht => ⟨⟨h.1.1.turns (fun r h => h.elim) (by omega) ht, ht.cells h.1.2 rfl (fun h => h)⟩, ht.cells h.2.1 rfl (fun h => h), h.2.2⟩)
        (fun c s A A' h ht => ⟨h.1, by
          obtain ⟨x, p, h1, h2, h3, h4⟩ := h.2
          exact ⟨x, p, h1, h2, h3, h4.turns (fun r h => h.elim) (by omega) ht⟩⟩)
        ⟨⟨HN6.out, HF6.out⟩, HR6.out, rfl⟩
        (fun x a' W => a' = { tmps := #[.agg #[.slice (some ⟨b, o, none⟩) ns.length cv], .slice al l.length cl, .int .i64 n0, .pointer (some ⟨w.heap.size, 0, none⟩), undef, undef, .pointer (some ⟨w.heap.size + 1, 0, none⟩), .pointer (some ⟨w.heap.size + 2, 0, none⟩), .pointer (some ⟨w.heap.size + 3, 0, none⟩), .int .i64 0, .pointer (some ⟨w2.heap.size, 0, none⟩), .pointer (some ⟨w4.heap.size, 0, none⟩), .int .i64 x.1, .agg #[.slice (some ⟨b, o, none⟩) ns.length cv], .slice al l.length cl, .int .i64 n0, .int .i64 0, .int .i64 0, .bool false, undef, .pointer (some ⟨w.heap.size, 0, none⟩), .slice (some ⟨b, o, none⟩) ns.length cv, .agg #[.slice (some ⟨b, o, none⟩) ns.length cv, .slice (some ⟨bk, 0, none⟩) ns.length ns.length, .slice (some ⟨bn, 0, none⟩) ns.length ns.length, .slice (some ⟨bl, 0, none⟩) ns.length ns.length], .agg #[.slice (some ⟨b, o, none⟩) ns.length cv, .slice (some ⟨bk, 0, none⟩) ns.length ns.length, .slice (some ⟨bn, 0, none⟩) ns.length ns.length, .slice (some ⟨bl, 0, none⟩) ns.length ns.length], .slice al l.length cl, .slice (some ⟨gB, 0, none⟩) ns.length ns.length, .slice (some ⟨gB, 0, none⟩) ns.length ns.length, .int .i64 n0, .pointer (some ⟨gB, n0, none⟩), .bool false, undef, .agg #[.slice (some ⟨b, o, none⟩) ns.length cv, .slice (some ⟨bk, 0, none⟩) ns.length ns.length, .slice (some ⟨bn, 0, none⟩) ns.length ns.length, .slice (some ⟨bl, 0, none⟩) ns.length ns.length], .int .i64 n0, .func (.func 65) #[] #[.pointer (some ⟨w4.heap.size + 1, 0, none⟩), .pointer (some ⟨w4.heap.size + 1 + 1, 0, none⟩)], .int .i64 x.1, undef, undef, undef, undef, undef], defers := [] }) (fun x a' W l ob o' _ _ _ h => h) ?assign ?body ?done ?stop
      case assign =>
        rintro lo pre x W K hI hK
        dsimp only
        gi_wp2
        exact hK _ _ (KeepsFrom.refl _ _) (fun h => h) hI rfl
      case body =>
        rintro lo pre x a' W hl ⟨⟨hNB, hFB⟩, hRW, hp⟩ rfl
        obtain ⟨xn, hxn⟩ := x
        dsimp only at *
        have f0 := hFB.cell
        have r0 : W.cell? ⟨gB, xn, none⟩ = some (.bool (q xn)) := by
          have := hRW.cell (i := xn) (by simpa using hxn)
          simpa using this
        have a1 := hNB.b1.cell
        have a2 := hNB.b2.cell
        have a3 := hNB.b3.cell
        have g1 := hNB.b1.frozen
        have g2 := hNB.b2.frozen
        have g3 := hNB.b3.frozen
        have j1 : (0 : Int) ≤ (xn : Int) := by omega
        have j2 : (xn : Int) < (ns.length : Int) := by omega
        have HI : Hid ((NB w W 0 false 0 ∧ Boxed W w4.heap.size 86 (.slice (some ⟨gB, 0, none⟩) ns.length ns.length)) ∧ BRow W gB ((List.range ns.length).map q) ∧ (pre.map Subtype.val).any q = false) := ⟨⟨hNB, hFB⟩, hRW, hp⟩
        clear hNB hFB hRW hp
        cases hqx : q xn with
        | true =>
          rw [hqx] at r0
          have HN7 : Hid (NB w (((W.setCell ⟨w.heap.size + 1, 0, none⟩ (.int .i64 xn)).setCell ⟨w.heap.size + 2, 0, none⟩ (.bool true)).setCell ⟨w.heap.size + 3, 0, none⟩ (.int .i64 0)) xn true 0) := HI.out.1.1.set xn true 0
          gi_wp2
          exact ⟨(keeps3 _ _ _ _ _ _ _).from _, rfl, ⟨xn, hxn⟩, pre, rfl, HI.out.2.2, hqx, HN7.out⟩
        | false =>
          rw [hqx] at r0
          gi_wp2
          exact ⟨KeepsFrom.refl _ _, fun h => h, HI.out.1, HI.out.2.1, by rw [List.map_append, List.any_append, HI.out.2.2]; simp [hqx]⟩
      case done =>
        rintro D ys W hD hys ⟨⟨hNB, hFB⟩, hRW, hp⟩ hK
        have hmb : mb = none := by
          rw [HNF.out, ← hys]
          exact any_find hp
        have a1 := hNB.b1.cell
        have a2 := hNB.b2.cell
        have a3 := hNB.b3.cell
        have g1 := hNB.b1.frozen
        have g2 := hNB.b2.frozen
        have g3 := hNB.b3.frozen
        have HN7 : Hid (NB w (((W.setCell ⟨w.heap.size + 1, 0, none⟩ (.int .i64 0)).setCell ⟨w.heap.size + 2, 0, none⟩ (.bool false)).setCell ⟨w.heap.size + 3, 0, none⟩ (.int .i64 0)) 0 false 0) := hNB.set 0 false 0
        subst hmb
        clear hp hys hNB hFB hRW
        gi_wp2
        refine leaves_marks2 (Nat.le_refl w.heap.size) [D] _ (by simp) (fun E hE => ?_) fun W' hb hc => ⟨.tuple #[.int .i64 0, .bool false, .int .i64 0], ?_, rfl, HN7.out.bel.trans hb⟩
        · rcases List.mem_singleton.1 hE with rfl
          exact ⟨by omega, (keeps3 _ _ _ _ _ _ _).same _ _ hK rfl⟩
        · obtain ⟨k1, k2, k3⟩ := HN7.out.cells hc
          simp [results, Tryz.results15, go_sem, k1, k2, k3]
      case stop =>
        rintro D c pre W hD hpre ⟨rfl, x, p, rfl, hp, hqx, hNB⟩ hK
        have hmb : mb = some x.1 := by
          obtain ⟨r, hr⟩ := hpre
          rw [HNF.out, ← hr, List.map_append, List.append_assoc, List.find?_append, any_find hp]
          simp [hqx]
        have HN7 : Hid (NB w W x.1 true 0) := hNB
        subst hmb
        clear hp hpre hNB
        gi_wp2
        refine leaves_marks2 (Nat.le_refl w.heap.size) [D] _ (by simp) (fun E hE => ?_) fun W' hb hc => ⟨.tuple #[.int .i64 x.1, .bool true, .int .i64 0], ?_, rfl, HN7.out.bel.trans hb⟩
        · rcases List.mem_singleton.1 hE with rfl
          exact ⟨by omega, hK⟩
        · obtain ⟨k1, k2, k3⟩ := HN7.out.cells hc
          simp [results, Tryz.results15, go_sem, k1, k2, k3]
  · rw [if_neg h1] at HMB
    have b1 : (me == 0) = false := by simpa using h1
    have hmb : mb = none := HMB.out
    have a1 := HN1.out.b1.cell
    have a2 := HN1.out.b2.cell
    have a3 := HN1.out.b3.cell
    have g1 := HN1.out.b1.frozen
    have g2 := HN1.out.b2.frozen
    have g3 := HN1.out.b3.frozen
    have HN6 : Hid (NB w (((w1.setCell ⟨w.heap.size + 1, 0, none⟩ (.int .i64 0)).setCell ⟨w.heap.size + 2, 0, none⟩ (.bool false)).setCell ⟨w.heap.size + 3, 0, none⟩ (.int .i64 me)) 0 false me) := HN1.out.set 0 false me
    subst hmb
    clear h1
    gi_wp2
    obtain ⟨k1, k2, k3⟩ := HN6.out.cells (fun _ _ h _ => h)
    refine ⟨.tuple #[.int .i64 0, .bool false, .int .i64 me], ?_, rfl, HN6.out.bel⟩
    simp [results, Tryz.results15, go_sem, k1, k2, k3]
end Go.Proofs.YtagobgjlhdbhmaaGreatDoor
/-
  What is the same is told the same.
-/
namespace Go.Proofs.YtagobgjlhdbhmaaGreatDoor
open Go.RowKit

set_option maxHeartbeats 2000000 in
theorem sameInts_eq (v1 v2 : Value) (ks : List Int) (w : World) (hl : ks.length ≤ 64) (h1 : IntsAt w v1 ks) (h2 : IntsAt w v2 ks) :
    Calls Tryz.prog 19 #[v1, v2] w fun e w' => e = .returned (.bool true) ∧ Below w.heap.size w w' := by
  obtain ⟨a1, c1, rfl, h1⟩ := h1
  obtain ⟨a2, c2, rfl, h2⟩ := h2
  have H1 : Hid _ := h1
  have H2 : Hid _ := h2
  clear h1 h2
  go_enter Tryz.func19, Tryz.ntmps19
  go_wp2
  go_loopw [5] (fun i wr => ∃ k : Nat, k ≤ ks.length ∧ i = .int .i64 k ∧ Below w.heap.size w wr) (fun i _ => ks.length - (intOf i).toNat)
  case atStart => exact ⟨0, Nat.zero_le _, rfl, Below.refl _ _⟩
  case round =>
    obtain ⟨k, hk, rfl, hB⟩ := hrel
    by_cases hlt : k < ks.length
    · rcases H1.out with h0 | ⟨b, o, rfl, hc⟩
      · subst h0; simp at hlt
      rcases H2.out with h0 | ⟨b2, o2, rfl, hc2⟩
      · subst h0; simp at hlt
      have n0 : wr.cell? ⟨b, o + k, none⟩ = some (.int .i64 ks[k]) := cell_on hB (hc k hlt)
      have n1 : wr.cell? ⟨b2, o2 + k, none⟩ = some (.int .i64 ks[k]) := cell_on hB (hc2 k hlt)
      have i1 : (0 : Int) ≤ (k : Int) := by omega
      have i2 : (k : Int) < (ks.length : Int) := by omega
      clear hc hc2
      generalize ks[k] = u at *
      go_wp2
      go_quiet (fail)
      go_wp2
      exact ⟨⟨k + 1, hlt, by go_num, below_drewN hB _⟩, by simp [intOf]; omega⟩
    · have hkl : k = ks.length := by omega
      subst hkl
      go_wp2
      go_ret
      exact ⟨rfl, hB⟩
end Go.Proofs.YtagobgjlhdbhmaaGreatDoor
/-
  The same documents are told the same.
-/
namespace Go.Proofs.YtagobgjlhdbhmaaGreatDoor
open Go.RowKit

theorem dozen_on {w W w' : World} {p0 p1 p2 p3 p4 p5 p6 p7 p8 p9 p10 p11 : Addr} {v0 v1 v2 v3 v4 v5 v6 v7 v8 v9 v10 v11 : Value} (h : W.cell? p0 = some v0 ∧ W.cell? p1 = some v1 ∧ W.cell? p2 = some v2 ∧ W.cell? p3 = some v3 ∧ W.cell? p4 = some v4 ∧ W.cell? p5 = some v5 ∧ W.cell? p6 = some v6 ∧ W.cell? p7 = some v7 ∧ W.cell? p8 = some v8 ∧ W.cell? p9 = some v9 ∧ W.cell? p10 = some v10 ∧ W.cell? p11 = some v11 ∧ Below w.heap.size w W) (hb : Below W.heap.size W w') : w'.cell? p0 = some v0 ∧ w'.cell? p1 = some v1 ∧ w'.cell? p2 = some v2 ∧ w'.cell? p3 = some v3 ∧ w'.cell? p4 = some v4 ∧ w'.cell? p5 = some v5 ∧ w'.cell? p6 = some v6 ∧ w'.cell? p7 = some v7 ∧ w'.cell? p8 = some v8 ∧ w'.cell? p9 = some v9 ∧ w'.cell? p10 = some v10 ∧ w'.cell? p11 = some v11 ∧ Below w.heap.size w w' :=
  ⟨cell_on hb h.1, cell_on hb h.2.1, cell_on hb h.2.2.1, cell_on hb h.2.2.2.1, cell_on hb h.2.2.2.2.1, cell_on hb h.2.2.2.2.2.1, cell_on hb h.2.2.2.2.2.2.1, cell_on hb h.2.2.2.2.2.2.2.1, cell_on hb h.2.2.2.2.2.2.2.2.1, cell_on hb h.2.2.2.2.2.2.2.2.2.1, cell_on hb h.2.2.2.2.2.2.2.2.2.2.1, cell_on hb h.2.2.2.2.2.2.2.2.2.2.2.1, below_trans h.2.2.2.2.2.2.2.2.2.2.2.2 hb⟩
theorem dozen_last {w W : World} {p0 p1 p2 p3 p4 p5 p6 p7 p8 p9 p10 p11 : Addr} {v0 v1 v2 v3 v4 v5 v6 v7 v8 v9 v10 v11 : Value} (h : W.cell? p0 = some v0 ∧ W.cell? p1 = some v1 ∧ W.cell? p2 = some v2 ∧ W.cell? p3 = some v3 ∧ W.cell? p4 = some v4 ∧ W.cell? p5 = some v5 ∧ W.cell? p6 = some v6 ∧ W.cell? p7 = some v7 ∧ W.cell? p8 = some v8 ∧ W.cell? p9 = some v9 ∧ W.cell? p10 = some v10 ∧ W.cell? p11 = some v11 ∧ Below w.heap.size w W) : W.cell? p0 = some v0 ∧ W.cell? p1 = some v1 ∧ Below w.heap.size w W := ⟨h.1, h.2.1, h.2.2.2.2.2.2.2.2.2.2.2.2⟩

end Go.Proofs.YtagobgjlhdbhmaaGreatDoor
/-
  The small document.
-/
namespace Go.Proofs.YtagobgjlhdbhmaaGreatDoor
open Go.RowKit

def smallNs : List Pl.Nd :=
  [⟨-1, [108, 105, 115, 116], [116, 111, 112], [], []⟩, ⟨0, [105, 116, 101, 109], [], [[97]], []⟩, ⟨0, [105, 116, 101, 109], [], [[98]], []⟩, ⟨2, [108, 105, 110, 107], [], [], [([116, 111], [111, 110, 101, 32, 116, 119, 111])]⟩, ⟨0, [105, 116, 101, 109], [], [[97]], []⟩]

theorem strs_nil (w : World) : StrsAt w (.slice none 0 0) [] := ⟨none, 0, rfl, Or.inl rfl⟩
theorem ats_nil (w : World) : AtsAt w (.slice none 0 0) [] := ⟨none, 0, rfl, Or.inl rfl⟩
theorem strs_one {w : World} {b c : Nat} {s : List UInt8} (h : w.cell? ⟨b, 0, none⟩ = some (.string ⟨s.toArray⟩)) : StrsAt w (.slice (some ⟨b, 0, none⟩) 1 c) [s] := by
  refine ⟨_, c, rfl, Or.inr ⟨b, 0, rfl, fun i hi => ?_⟩⟩
  match i, hi with
  | 0, _ => exact h
theorem ats_one {w : World} {b c : Nat} {s t : List UInt8} (h : w.cell? ⟨b, 0, none⟩ = some (.string ⟨s.toArray⟩)) (h2 : w.cell? ⟨b, 1, none⟩ = some (.string ⟨t.toArray⟩)) : AtsAt w (.slice (some ⟨b, 0, none⟩) 1 c) [(s, t)] := by
  refine ⟨_, c, rfl, Or.inr ⟨b, 0, rfl, fun i hi => ?_⟩⟩
  match i, hi with
  | 0, _ => exact ⟨h, h2⟩

set_option maxRecDepth 100000 in
set_option maxHeartbeats 4000000 in
theorem small_any (w : World) : Calls Tryz.prog 30 #[] w fun e w' => ∃ v, e = .returned (.agg #[v]) ∧ DocAt w' v smallNs ∧ Below w.heap.size w w' := by
  go_enter Tryz.func30, Tryz.ntmps30
  go_wp2
  refine bodyPost_ret (v := .agg #[.slice (some ⟨w.heap.size + 1 + 1 + 1 + 1 + 1, 0, none⟩) 5 5]) (by simp [results, Tryz.results30, go_sem]) rfl
    ⟨_, rfl, ⟨⟨_, 5, rfl, Or.inr ⟨_, 0, rfl, fun i hi => ?_⟩⟩, ⟨_, _, _, rfl, Nat.le_refl _, by decide⟩, by decide, fun i hi => ?_⟩, ?_⟩
  · match i, hi with
    | 0, _ => exact ⟨_, _, by simp [go_sem, smallNs], by simp [go_sem, smallNs], by simp [go_sem, smallNs], by simp [go_sem], by simp [go_sem], strs_nil _, ats_nil _⟩
    | 1, _ => exact ⟨.slice (some ⟨w.heap.size + 1, 0, none⟩) 1 1, .slice none 0 0, by simp [go_sem, smallNs], by simp [go_sem, smallNs], by simp [go_sem, smallNs], by simp [go_sem], by simp [go_sem], strs_one (by simp [go_sem]), ats_nil _⟩
    | 2, _ => exact ⟨.slice (some ⟨w.heap.size + 1 + 1, 0, none⟩) 1 1, .slice none 0 0, by simp [go_sem, smallNs], by simp [go_sem, smallNs], by simp [go_sem, smallNs], by simp [go_sem], by simp [go_sem], strs_one (by simp [go_sem]), ats_nil _⟩
    | 3, _ => exact ⟨.slice none 0 0, .slice (some ⟨w.heap.size + 1 + 1 + 1, 0, none⟩) 1 1, by simp [go_sem, smallNs], by simp [go_sem, smallNs], by simp [go_sem, smallNs], by simp [go_sem], by simp [go_sem], strs_nil _, ats_one (by simp [go_sem]) (by simp [go_sem])⟩
    | 4, _ => exact ⟨.slice (some ⟨w.heap.size + 1 + 1 + 1 + 1, 0, none⟩) 1 1, .slice none 0 0, by simp [go_sem, smallNs], by simp [go_sem, smallNs], by simp [go_sem, smallNs], by simp [go_sem], by simp [go_sem], strs_one (by simp [go_sem]), ats_nil _⟩
  · have h : ∀ x ∈ smallNs, x.cls.length ≤ 6 ∧ x.ats.length ≤ 4 := by decide
    have := h _ (List.getElem_mem hi)
    exact ⟨by unfold maxLen; omega, by unfold maxLen; omega⟩
  · exact below_trans (two_cells w _ _ _) (two_cells _ _ _ _)
end Go.Proofs.YtagobgjlhdbhmaaGreatDoor
/-
  The list that the laws begin with; Test.
-/
namespace Go.Proofs.YtagobgjlhdbhmaaGreatDoor
open Go.RowKit

def tt10 : Pl.Tst Pl.D1 := ⟨10, [], [], 0, 1, []⟩
def tt8 : Pl.Tst Pl.D1 := ⟨8, [116, 111], [116, 119, 111], 0, 0, []⟩
def inA : Pl.D2 := ⟨[⟨[], [tt10]⟩], []⟩
def inB : Pl.D2 := ⟨[⟨[], [tt8]⟩], []⟩
def lkA : Pl.D3 := ⟨[⟨[105, 116, 101, 109], [⟨13, [], [], 0, 0, [inA]⟩]⟩, ⟨[], [⟨15, [], [], 0, 0, [inB]⟩]⟩], [3]⟩
def lkB : Pl.D3 := ⟨[⟨[], [⟨2, [116, 111, 112], [], 0, 0, []⟩]⟩], []⟩
def lkL : List Pl.D3 := [lkA, lkB]
theorem row_one {β : Type} {E : World → Nat → Nat → β → Prop} {k : Nat} {W : World} {b : Nat} {x : β} (h : E W b 0 x) : RowAt E k W (.slice (some ⟨b, 0, none⟩) 1 1) [x] := by
  refine ⟨_, _, rfl, by unfold maxLen; simp, Or.inr ⟨b, 0, rfl, fun i hi => ?_⟩⟩
  match i, hi with
  | 0, _ => simpa using h
theorem row_two {β : Type} {E : World → Nat → Nat → β → Prop} {k : Nat} {W : World} {b : Nat} {x y : β} (h : E W b 0 x) (h2 : E W b k y) : RowAt E k W (.slice (some ⟨b, 0, none⟩) 2 2) [x, y] := by
  refine ⟨_, _, rfl, by unfold maxLen; simp, Or.inr ⟨b, 0, rfl, fun i hi => ?_⟩⟩
  match i, hi with
  | 0, _ => simpa using h
  | 1, _ => simpa using h2
set_option maxRecDepth 100000 in
set_option maxHeartbeats 8000000 in
theorem looked_any (w : World) : Calls Tryz.prog 31 #[] w fun e w' => ∃ a, e = .returned (.slice a 2 2) ∧ A3 w' (.slice a 2 2) lkL ∧ Below w.heap.size w w' := by
  go_enter Tryz.func31, Tryz.ntmps31
  go_wp2
  go_ret
  refine ⟨_, rfl, ?_, ?_⟩
  · rw [show lkL = [⟨[⟨[105, 116, 101, 109], [⟨13, [], [], 0, 0, [⟨[⟨[], [⟨10, [], [], 0, 1, []⟩]⟩], []⟩]⟩]⟩, ⟨[], [⟨15, [], [], 0, 0, [⟨[⟨[], [⟨8, [116, 111], [116, 119, 111], 0, 0, []⟩]⟩], []⟩]⟩]⟩], [3]⟩, ⟨[⟨[], [⟨2, [116, 111, 112], [], 0, 0, []⟩]⟩], []⟩] from rfl]
    exact row_two ⟨(.slice (some ⟨w.heap.size + 1 + 1 + 1 + 1 + 1 + 1 + 1 + 1, 0, none⟩) 2 2), (.slice (some ⟨w.heap.size + 1 + 1 + 1 + 1 + 1 + 1 + 1 + 1 + 1, 0, none⟩) 1 1), by simp [go_sem], by simp [go_sem], (row_two ⟨(.slice (some ⟨w.heap.size + 1 + 1 + 1, 0, none⟩) 1 1), by simp [go_sem], by simp [go_sem], (row_one ⟨(.slice (some ⟨w.heap.size + 1 + 1, 0, none⟩) 1 1), by simp [go_sem], by simp [go_sem], by simp [go_sem], by simp [go_sem], by simp [go_sem], by simp [go_sem], (row_one ⟨(.slice (some ⟨w.heap.size + 1, 0, none⟩) 1 1), (.slice none 0 0), by simp [go_sem], by simp [go_sem], (row_one ⟨(.slice (some ⟨w.heap.size, 0, none⟩) 1 1), by simp [go_sem], by simp [go_sem], (row_one ⟨(.slice none 0 0), by simp [go_sem], by simp [go_sem], by simp [go_sem], by simp [go_sem], by simp [go_sem], by simp [go_sem], (isL_1.nil _)⟩)⟩), (RowAt.nil _ _ _)⟩)⟩)⟩ ⟨(.slice (some ⟨w.heap.size + 1 + 1 + 1 + 1 + 1 + 1 + 1, 0, none⟩) 1 1), by simp [go_sem], by simp [go_sem], (row_one ⟨(.slice (some ⟨w.heap.size + 1 + 1 + 1 + 1 + 1 + 1, 0, none⟩) 1 1), by simp [go_sem], by simp [go_sem], by simp [go_sem], by simp [go_sem], by simp [go_sem], by simp [go_sem], (row_one ⟨(.slice (some ⟨w.heap.size + 1 + 1 + 1 + 1 + 1, 0, none⟩) 1 1), (.slice none 0 0), by simp [go_sem], by simp [go_sem], (row_one ⟨(.slice (some ⟨w.heap.size + 1 + 1 + 1 + 1, 0, none⟩) 1 1), by simp [go_sem], by simp [go_sem], (row_one ⟨(.slice none 0 0), by simp [go_sem], by simp [go_sem], by simp [go_sem], by simp [go_sem], by simp [go_sem], by simp [go_sem], (isL_1.nil _)⟩)⟩), (RowAt.nil _ _ _)⟩)⟩)⟩), (row_one (by simp [IntAt, go_sem]))⟩ ⟨(.slice (some ⟨w.heap.size + 1 + 1 + 1 + 1 + 1 + 1 + 1 + 1 + 1 + 1 + 1, 0, none⟩) 1 1), (.slice none 0 0), by simp [go_sem], by simp [go_sem], (row_one ⟨(.slice (some ⟨w.heap.size + 1 + 1 + 1 + 1 + 1 + 1 + 1 + 1 + 1 + 1, 0, none⟩) 1 1), by simp [go_sem], by simp [go_sem], (row_one ⟨(.slice none 0 0), by simp [go_sem], by simp [go_sem], by simp [go_sem], by simp [go_sem], by simp [go_sem], by simp [go_sem], (isL_2.nil _)⟩)⟩), (RowAt.nil _ _ _)⟩
  · repeat (first | exact Below.refl _ _ | refine Below.alloc ?_ (by simp; omega) _ | refine Below.alloc ?_ (by simp) _)
/-- a list with one test alone -/
def oneL (t : Pl.Tst Pl.D2) : List Pl.D3 := [⟨[⟨[], [t]⟩], []⟩]
theorem one_m3 (ns : List Pl.Nd) (t : Pl.Tst Pl.D2) (n : Nat) : m3 ns (oneL t) n = tstM ns (m2 ns) t n := by
  unfold m3 lstM oneL
  simp [pthM, stpM, stpAt]
theorem one_at {W : World} {bt bs bp : Nat} {x : Value} {t : Pl.Tst Pl.D2} (h1 : W.heap[bt]? = some (.cells #[.int .i64 t.kind, .string ⟨t.name.toArray⟩, .string ⟨t.value.toArray⟩, .int .i64 t.a, .int .i64 t.b, x] 29)) (h2 : W.heap[bs]? = some (.cells #[.string ⟨#[]⟩, .slice (some ⟨bt, 0, none⟩) 1 1] 67)) (h3 : W.heap[bp]? = some (.cells #[.slice (some ⟨bs, 0, none⟩) 1 1, .slice none 0 0] 70)) (hx : A2 W x t.list) : A3 W (.slice (some ⟨bp, 0, none⟩) 1 1) (oneL t) := by
  obtain ⟨a0, a1, a2, a3, a4, a5⟩ := blk6c h1
  obtain ⟨b0, b1⟩ := blk2d h2
  obtain ⟨c0, c1⟩ := blk2d h3
  exact row_one ⟨_, _, c0, c1, row_one ⟨_, b0, b1, row_one ⟨_, a0, a1, a2, a3, a4, a5, hx⟩⟩, RowAt.nil _ _ _⟩
theorem chain4 (w : World) (O0 O1 O2 O3 : Obj) : ((((w.alloc O0).alloc O1).alloc O2).alloc O3).heap[w.heap.size + 1]? = some O1 ∧ ((((w.alloc O0).alloc O1).alloc O2).alloc O3).heap[w.heap.size + 1 + 1]? = some O2 ∧ ((((w.alloc O0).alloc O1).alloc O2).alloc O3).heap[w.heap.size + 1 + 1 + 1]? = some O3 ∧ Below w.heap.size w ((((w.alloc O0).alloc O1).alloc O2).alloc O3) := by
  have b1 := on_alloc w O0
  have b2 := on_alloc (w.alloc O0) O1
  have b3 := on_alloc ((w.alloc O0).alloc O1) O2
  have b4 := on_alloc (((w.alloc O0).alloc O1).alloc O2) O3
  have e1 := World.alloc_heap_new (w.alloc O0) O1
  have e2 := World.alloc_heap_new ((w.alloc O0).alloc O1) O2
  have e3 := World.alloc_heap_new (((w.alloc O0).alloc O1).alloc O2) O3
  have f2 := blkOn b4 e2
  have f1 := blkOn b4 (blkOn b3 e1)
  simp only [World.size_alloc] at f1 f2 e3
  exact ⟨f1, f2, e3, below_trans b1 (below_trans b2 (below_trans b3 b4))⟩
theorem chain6 (w : World) (O0 O1 O2 O3 O4 O5 : Obj) : ((((((w.alloc O0).alloc O1).alloc O2).alloc O3).alloc O4).alloc O5).heap[w.heap.size + 1 + 1]? = some O2 ∧ ((((((w.alloc O0).alloc O1).alloc O2).alloc O3).alloc O4).alloc O5).heap[w.heap.size + 1 + 1 + 1 + 1]? = some O4 ∧ ((((((w.alloc O0).alloc O1).alloc O2).alloc O3).alloc O4).alloc O5).heap[w.heap.size + 1 + 1 + 1 + 1 + 1]? = some O5 ∧ Below w.heap.size w ((((((w.alloc O0).alloc O1).alloc O2).alloc O3).alloc O4).alloc O5) := by
  have b1 := on_alloc w O0
  have b2 := on_alloc (w.alloc O0) O1
  have b3 := on_alloc ((w.alloc O0).alloc O1) O2
  have b4 := on_alloc (((w.alloc O0).alloc O1).alloc O2) O3
  have b5 := on_alloc ((((w.alloc O0).alloc O1).alloc O2).alloc O3) O4
  have b6 := on_alloc (((((w.alloc O0).alloc O1).alloc O2).alloc O3).alloc O4) O5
  have e2 := World.alloc_heap_new ((w.alloc O0).alloc O1) O2
  have e4 := World.alloc_heap_new ((((w.alloc O0).alloc O1).alloc O2).alloc O3) O4
  have e5 := World.alloc_heap_new (((((w.alloc O0).alloc O1).alloc O2).alloc O3).alloc O4) O5
  have f4 := blkOn b6 e4
  have f2 := blkOn b6 (blkOn b5 (blkOn b4 e2))
  simp only [World.size_alloc] at f2 f4 e5
  exact ⟨f2, f4, e5, below_trans b1 (below_trans b2 (below_trans b3 (below_trans b4 (below_trans b5 b6))))⟩
set_option maxRecDepth 100000 in
set_option maxHeartbeats 4000000 in
theorem one_call (x : Value) (t : Pl.Tst Pl.D2) (w : World) (hx : A2 w x t.list) :
    Calls Tryz.prog 10 #[.agg #[.int .i64 t.kind, .string ⟨t.name.toArray⟩, .string ⟨t.value.toArray⟩, .int .i64 t.a, .int .i64 t.b, x]] w fun e w' => ∃ a, e = .returned (.slice a 1 1) ∧ A3 w' (.slice a 1 1) (oneL t) ∧ Below w.heap.size w w' := by
  obtain ⟨ax, cx, rfl, -⟩ := isL_2.form hx
  have HX : Hid (A2 w (.slice ax t.list.length cx) t.list) := hx
  clear hx
  go_enter Tryz.func10, Tryz.ntmps10
  go_wp2_with fail
  go_ret
  obtain ⟨f1, f2, f3, hb⟩ := chain4 w _ _ _ _
  exact ⟨_, rfl, one_at f1 f2 f3 (isL_2.on HX.out hb), hb⟩
set_option maxRecDepth 100000 in
set_option maxHeartbeats 4000000 in
theorem test_call (v x : Value) (ns : List Pl.Nd) (t : Pl.Tst Pl.D2) (n : Int) (w : World) (hv : DocAt w v ns) (hx : A2 w x t.list) (hF : FormsAt w) (hG : Glob w) :
    Calls Tryz.prog 8 #[.agg #[v], .agg #[.int .i64 t.kind, .string ⟨t.name.toArray⟩, .string ⟨t.value.toArray⟩, .int .i64 t.a, .int .i64 t.b, x], .int .i64 n] w fun e w' => e = .returned (.tuple #[.bool (matB ns (oneL t) n), .int .i64 (matchErr ns (oneL t) n)]) ∧ Below w.heap.size w w' := by
  obtain ⟨ax, cx, rfl, -⟩ := isL_2.form hx
  obtain ⟨av, cv, rfl, -⟩ := id hv.1
  have HX : Hid (A2 w (.slice ax t.list.length cx) t.list) := hx
  have HV : Hid (DocAt w (.slice av ns.length cv) ns) := hv
  have HG : Hid (Glob w) := hG
  have HF : Hid (FormsAt w) := hF
  clear hx hv hG hF
  go_enter Tryz.func8, Tryz.ntmps8
  go_wp2_with fail
  obtain ⟨f2, f4, f5, hb⟩ := chain6 w (.cells #[.slice av ns.length cv] 24) (.cells #[.int .i64 t.kind, .string ⟨t.name.toArray⟩, .string ⟨t.value.toArray⟩, .int .i64 t.a, .int .i64 t.b, .slice ax t.list.length cx] 29) (.cells #[.int .i64 t.kind, .string ⟨t.name.toArray⟩, .string ⟨t.value.toArray⟩, .int .i64 t.a, .int .i64 t.b, .slice ax t.list.length cx] 29) (.cells #[.string ⟨#[]⟩, .slice (some ⟨w.heap.size + 1 + 1, 0, none⟩) 1 1] 67) (.cells #[.string ⟨#[]⟩, .slice (some ⟨w.heap.size + 1 + 1, 0, none⟩) 1 1] 67) (.cells #[.slice (some ⟨w.heap.size + 1 + 1 + 1 + 1, 0, none⟩) 1 1, .slice none 0 0] 70)
  refine (matches_call _ _ ns (oneL t) n _ (HV.out.on hb) (one_at f2 f4 f5 (isL_2.on HX.out hb)) (HF.out.on hb) (HG.out.on hb)).mono ?_
  rintro e w2 ⟨rfl, hb2⟩
  have HB2 : Hid (Below w.heap.size w w2) := below_trans hb hb2
  clear f2 f4 f5 hb hb2
  go_wp2
  go_ret2
  exact ⟨rfl, HB2.out⟩
end Go.Proofs.YtagobgjlhdbhmaaGreatDoor
/-
  What the laws of matching begin with.
-/
namespace Go.Proofs.YtagobgjlhdbhmaaGreatDoor
open Go.RowKit

def tt9 : Pl.Tst Pl.D2 := ⟨9, [], [], 2, 1, []⟩
theorem sm_chk : chkBoth smallNs lkL = 0 := by kernel_rfl
theorem sm_all : allA smallNs lkL = [0, 2] := by kernel_rfl
theorem sm_err2 : matchErr smallNs lkL 2 = 0 := by kernel_rfl
theorem sm_mat2 : matB smallNs lkL 2 = true := by kernel_rfl
theorem sm_err3 : matchErr smallNs lkL 3 = 0 := by kernel_rfl
theorem sm_near : nearA smallNs lkL 3 = some 2 := by kernel_rfl
theorem sm_errt : matchErr smallNs (oneL tt9) 4 = 0 := by kernel_rfl
theorem sm_test : matB smallNs (oneL tt9) 4 = true := by kernel_rfl
/-- what the program's road needs of the variables -/
structure Laid (w : World) : Prop where
  forms : FormsAt w
  glob : Glob w
theorem Laid.on {w w' : World} (h : Laid w) (hb : Below w.heap.size w w') : Laid w' := ⟨h.forms.on hb, h.glob.on hb⟩
section
variable (W : World) (v u : Value) (hv : DocAt W v smallNs) (hu : A3 W u lkL) (hL : Laid W)
include hv hu hL
theorem bg_all : Calls Tryz.prog 14 #[.agg #[v], u] W fun e w' => ∃ a c, e = .returned (.tuple #[.slice a 2 c, .int .i64 0]) ∧ IntsAt w' (.slice a 2 c) [0, 2] ∧ Below W.heap.size W w' := by
  refine (all_call v u smallNs lkL W hv hu hL.forms hL.glob).mono ?_
  rintro e w' ⟨x, rfl, hx, hb⟩
  rw [sm_all] at hx
  have h1 := hx.ints
  obtain ⟨a, c, rfl, -⟩ := id hx
  rw [sm_chk]
  exact ⟨a, c, rfl, h1, hb⟩
theorem bg_mat : Calls Tryz.prog 13 #[.agg #[v], u, .int .i64 2] W fun e w' => e = .returned (.tuple #[.bool true, .int .i64 0]) ∧ Below W.heap.size W w' := by
  have := matches_call v u smallNs lkL 2 W hv hu hL.forms hL.glob
  rw [sm_err2, sm_mat2] at this
  exact this
theorem bg_near : Calls Tryz.prog 15 #[.agg #[v], u, .int .i64 3] W fun e w' => e = .returned (.tuple #[.int .i64 2, .bool true, .int .i64 0]) ∧ Below W.heap.size W w' := by
  have := nearest_call v u smallNs lkL 3 W hv hu hL.forms hL.glob
  rw [sm_err3, sm_near] at this
  exact this
end
theorem bg_test (W : World) (v : Value) (hv : DocAt W v smallNs) (hL : Laid W) : Calls Tryz.prog 8 #[.agg #[v], .agg #[.int .i64 9, .string ⟨#[]⟩, .string ⟨#[]⟩, .int .i64 2, .int .i64 1, .slice none 0 0], .int .i64 4] W fun e w' => e = .returned (.tuple #[.bool true, .int .i64 0]) ∧ Below W.heap.size W w' := by
  have := test_call v (.slice none 0 0) smallNs tt9 4 W hv (isL_2.nil _) hL.forms hL.glob
  rw [sm_errt, sm_test] at this
  exact this
set_option maxRecDepth 100000 in
set_option maxHeartbeats 4000000 in
theorem begun_any (w : World) (hL : Laid w) : Calls Tryz.prog 11 #[] w fun e w' => e = .returned (.bool true) ∧ Below w.heap.size w w' := by
  have HL : Hid (Laid w) := hL
  clear hL
  go_enter Tryz.func11, Tryz.ntmps11
  go_wp2_with fail
  refine (small_any _).mono ?_
  rintro e w1 ⟨v1, rfl, hd1, hb1⟩
  have HB1 : Hid (Below w.heap.size w w1) := hb1
  have HD1 : Hid (DocAt w1 v1 smallNs) := hd1
  obtain ⟨a1, c1, rfl, -⟩ := id hd1.1
  clear hd1 hb1
  go_wp2_with fail
  refine (looked_any _).mono ?_
  rintro e w2 ⟨a2, rfl, hl2, hb2⟩
  have HB2 : Hid (Below w.heap.size w w2) := below_trans HB1.out hb2
  have HC2 : Hid (Calls Tryz.prog 14 _ _ _) := bg_all w2 _ _ (HD1.out.on hb2) hl2 (HL.out.on HB2.out)
  clear hl2 hb2 HB1 HD1
  go_wp2_with fail
  refine HC2.out.mono ?_
  rintro e w3 ⟨ax, cx, rfl, hx, hb3⟩
  have HB3 : Hid (Below w.heap.size w w3) := below_trans HB2.out hb3
  have HX3 : Hid (IntsAt w3 (.slice ax 2 cx) [0, 2]) := hx
  clear hx hb3 HB2 HC2
  go_wp2_with fail
  refine (small_any _).mono ?_
  rintro e w4 ⟨v4, rfl, hd4, hb4⟩
  have HB4 : Hid (Below w.heap.size w w4) := below_trans HB3.out hb4
  have HX4 : Hid (IntsAt w4 (.slice ax 2 cx) [0, 2]) := HX3.out.on hb4
  have HD4 : Hid (DocAt w4 v4 smallNs) := hd4
  obtain ⟨a4, c4, rfl, -⟩ := id hd4.1
  clear hd4 hb4 HB3 HX3
  go_wp2_with fail
  refine (looked_any _).mono ?_
  rintro e w5 ⟨a5, rfl, hl5, hb5⟩
  have HB5 : Hid (Below w.heap.size w w5) := below_trans HB4.out hb5
  have HX5 : Hid (IntsAt w5 (.slice ax 2 cx) [0, 2]) := HX4.out.on hb5
  have HC5 : Hid (Calls Tryz.prog 13 _ _ _) := bg_mat w5 _ _ (HD4.out.on hb5) hl5 (HL.out.on HB5.out)
  clear hl5 hb5 HB4 HX4 HD4
  go_wp2_with fail
  refine HC5.out.mono ?_
  rintro e w6 ⟨rfl, hb6⟩
  have HB6 : Hid (Below w.heap.size w w6) := below_trans HB5.out hb6
  have HX6 : Hid (IntsAt w6 (.slice ax 2 cx) [0, 2]) := HX5.out.on hb6
  clear hb6 HB5 HX5 HC5
  go_wp2_with fail
  refine (small_any _).mono ?_
  rintro e w7 ⟨v7, rfl, hd7, hb7⟩
  have HB7 : Hid (Below w.heap.size w w7) := below_trans HB6.out hb7
  have HX7 : Hid (IntsAt w7 (.slice ax 2 cx) [0, 2]) := HX6.out.on hb7
  have HD7 : Hid (DocAt w7 v7 smallNs) := hd7
  obtain ⟨a7, c7, rfl, -⟩ := id hd7.1
  clear hd7 hb7 HB6 HX6
  go_wp2_with fail
  refine (looked_any _).mono ?_
  rintro e w8 ⟨a8, rfl, hl8, hb8⟩
  have HB8 : Hid (Below w.heap.size w w8) := below_trans HB7.out hb8
  have HX8 : Hid (IntsAt w8 (.slice ax 2 cx) [0, 2]) := HX7.out.on hb8
  have HC8 : Hid (Calls Tryz.prog 15 _ _ _) := bg_near w8 _ _ (HD7.out.on hb8) hl8 (HL.out.on HB8.out)
  clear hl8 hb8 HB7 HX7 HD7
  go_wp2_with fail
  refine HC8.out.mono ?_
  rintro e w9 ⟨rfl, hb9⟩
  have HB9 : Hid (Below w.heap.size w w9) := below_trans HB8.out hb9
  have HX9 : Hid (IntsAt w9 (.slice ax 2 cx) [0, 2]) := HX8.out.on hb9
  clear hb9 HB8 HX8 HC8
  go_wp2_with fail
  refine (small_any _).mono ?_
  rintro e w10 ⟨v10, rfl, hd10, hb10⟩
  have HB10 : Hid (Below w.heap.size w w10) := below_trans HB9.out hb10
  have HX10 : Hid (IntsAt w10 (.slice ax 2 cx) [0, 2]) := HX9.out.on hb10
  obtain ⟨a10, c10, rfl, -⟩ := id hd10.1
  have HC10 : Hid (Calls Tryz.prog 8 _ _ _) := bg_test w10 _ hd10 (HL.out.on HB10.out)
  clear hd10 hb10 HB9 HX9
  go_wp2_with fail
  refine HC10.out.mono ?_
  rintro e w11 ⟨rfl, hb11⟩
  have HB11 : Hid (Below w.heap.size w w11) := below_trans HB10.out hb11
  have hba := on_alloc w11 (.cells #[.int .i64 0, .int .i64 2] 3)
  have HX11 : Hid (IntsAt (w11.alloc (.cells #[.int .i64 0, .int .i64 2] 3)) (.slice ax 2 cx) [0, 2]) := (HX10.out.on hb11).on hba
  have HY11 : Hid (IntsAt (w11.alloc (.cells #[.int .i64 0, .int .i64 2] 3)) (.slice (some ⟨w11.heap.size, 0, none⟩) 2 2) [0, 2]) := by
    obtain ⟨y0, y1⟩ := blk2d (World.alloc_heap_new w11 (.cells #[.int .i64 0, .int .i64 2] 3))
    refine ⟨_, _, rfl, Or.inr ⟨w11.heap.size, 0, rfl, fun i hi => ?_⟩⟩
    match i, hi with
    | 0, _ => exact y0
    | 1, _ => exact y1
  have HB12 : Hid (Below w.heap.size w (w11.alloc (.cells #[.int .i64 0, .int .i64 2] 3))) := below_trans HB11.out hba
  have HC12 : Hid (Calls Tryz.prog 19 _ _ _) := sameInts_eq _ _ [0, 2] _ (by simp) HX11.out HY11.out
  clear hb11 hba HB10 HX10 HC10 HX11 HY11
  go_wp2_with fail
  refine HC12.out.mono ?_
  rintro e w12 ⟨rfl, hb12⟩
  have HB13 : Hid (Below w.heap.size w w12) := below_trans HB12.out hb12
  clear hb12
  go_wp2
  go_ret
  exact ⟨rfl, HB13.out⟩
end Go.Proofs.YtagobgjlhdbhmaaGreatDoor
/-
  MatchTells: the law.
-/
namespace Go.Proofs.YtagobgjlhdbhmaaGreatDoor
open Go.RowKit

theorem matchErr_first (ns : List Pl.Nd) (l : List Pl.D3) : matchErr ns l 0 = chkBoth ns l := by
  rw [matchErr_eq]
  by_cases h : chkBoth ns l = 0
  · rw [if_pos h, h]
    have h1 := ((Pl.check_iff ns).1 (chkBoth_zero h).1).1
    rw [if_pos (by unfold hasB; simp; omega)]
  · rw [if_neg h]
theorem matchErr_both {ns : List Pl.Nd} {l : List Pl.D3} {n : Int} (h : matchErr ns l n = 0) : chkBoth ns l = 0 := by
  rw [matchErr_eq] at h
  by_cases hc : chkBoth ns l = 0
  · exact hc
  · rw [if_neg hc] at h
    exact absurd h hc
theorem allA_len (ns : List Pl.Nd) (l : List Pl.D3) : ((allA ns l).map fun (k : Nat) => (k : Int)).length ≤ 64 := by
  unfold allA
  by_cases h : chkBoth ns l = 0
  · rw [if_pos h, List.length_map]
    have h1 := ((Pl.check_iff ns).1 (chkBoth_zero h).1).2.1
    exact Nat.le_trans (allTo_len _ _) h1
  · rw [if_neg h]
    simp
theorem all_form (v u : Value) (ns : List Pl.Nd) (l : List Pl.D3) (W : World) (hv : DocAt W v ns) (hl : A3 W u l) (hL : Laid W) :
    Calls Tryz.prog 14 #[.agg #[v], u] W fun e w' => ∃ a c, e = .returned (.tuple #[.slice a (allA ns l).length c, .int .i64 (chkBoth ns l)]) ∧ IntsAt w' (.slice a (allA ns l).length c) ((allA ns l).map fun (k : Nat) => (k : Int)) ∧ Below W.heap.size W w' := by
  refine (all_call v u ns l W hv hl hL.forms hL.glob).mono ?_
  rintro e w' ⟨x, rfl, hx, hb⟩
  have h1 := hx.ints
  obtain ⟨a, c, rfl, -⟩ := id hx
  exact ⟨a, c, rfl, h1, hb⟩
theorem allOf_form (b o cap : Nat) (ns : List Pl.Nd) (u : Value) (l : List Pl.D3) (W : World) (hd : RD W b o ns) (hl : A3 W u l) (hC : chkBoth ns l = 0) :
    Calls Tryz.prog 16 #[.agg #[.slice (some ⟨b, o, none⟩) ns.length cap], u] W fun e w' => ∃ a c, e = .returned (.slice a (allA ns l).length c) ∧ IntsAt w' (.slice a (allA ns l).length c) ((allA ns l).map fun (k : Nat) => (k : Int)) ∧ Below W.heap.size W w' := by
  have e1 : allA ns l = allTo (m3 ns l) ns.length := by
    unfold allA
    rw [if_pos hC]
  refine (allOf_any b o cap ns u l W hd hl ((R3_iff l).2 (chkBoth_zero hC).2)).mono ?_
  rintro e w' ⟨x, rfl, hx, hb⟩
  rw [← e1] at hx
  have h1 := hx.ints
  obtain ⟨a, c, rfl, -⟩ := id hx
  exact ⟨a, c, rfl, h1, hb⟩
set_option maxRecDepth 100000 in
set_option maxHeartbeats 4000000 in
theorem tells_yes (v u : Value) (ns : List Pl.Nd) (l : List Pl.D3) (n : Int) (w : World) (hv : DocAt w v ns) (hl : A3 w u l) (hL : Laid w) (hE0 : matchErr ns l n = 0) :
    Calls Tryz.prog 4 #[.agg #[v], u, .int .i64 n] w fun e w' => e = .returned (.bool true) ∧ Below w.heap.size w w' := by
  have hC0 : chkBoth ns l = 0 := matchErr_both hE0
  obtain ⟨-, -, k, rfl, hk⟩ := matchErr_zero hE0
  obtain ⟨b, o, cv, rfl, hRD, -, -, -⟩ := doc_parts hv (chkBoth_zero hC0).1
  obtain ⟨al, cl, rfl, -⟩ := isL_3.form hl
  have HB0 : Hid (Below w.heap.size w (w.alloc (.cells #[.slice (some ⟨b, o, none⟩) ns.length cv] 24))) := on_alloc _ _
  have c0 : (w.alloc (.cells #[.slice (some ⟨b, o, none⟩) ns.length cv] 24)).cell? ⟨w.heap.size, 0, none⟩ = some (.slice (some ⟨b, o, none⟩) ns.length cv) := by simp [go_sem]
  have H13 : Hid (∀ W, Below w.heap.size w W → Calls Tryz.prog 13 #[.agg #[.slice (some ⟨b, o, none⟩) ns.length cv], .slice al l.length cl, .int .i64 k] W fun e w' => e = .returned (.tuple #[.bool (matB ns l k), .int .i64 (matchErr ns l k)]) ∧ Below W.heap.size W w') := fun W hW => matches_call _ _ ns l _ W (hv.on hW) (isL_3.on hl hW) (hL.forms.on hW) (hL.glob.on hW)
  have H14 : Hid (∀ W, Below w.heap.size w W → Calls Tryz.prog 14 #[.agg #[.slice (some ⟨b, o, none⟩) ns.length cv], .slice al l.length cl] W fun e w' => ∃ a c, e = .returned (.tuple #[.slice a (allA ns l).length c, .int .i64 (chkBoth ns l)]) ∧ IntsAt w' (.slice a (allA ns l).length c) ((allA ns l).map fun (k : Nat) => (k : Int)) ∧ Below W.heap.size W w') := fun W hW => all_form _ _ ns l W (hv.on hW) (isL_3.on hl hW) (hL.on hW)
  have H15 : Hid (∀ W, Below w.heap.size w W → Calls Tryz.prog 15 #[.agg #[.slice (some ⟨b, o, none⟩) ns.length cv], .slice al l.length cl, .int .i64 k] W fun e w' => e = .returned (.tuple #[.int .i64 ((nearA ns l k).getD 0 : Nat), .bool (nearA ns l k).isSome, .int .i64 (matchErr ns l k)]) ∧ Below W.heap.size W w') := fun W hW => nearest_call _ _ ns l _ W (hv.on hW) (isL_3.on hl hW) (hL.forms.on hW) (hL.glob.on hW)
  have H9 : Hid (∀ W, Below w.heap.size w W → Calls Tryz.prog 9 #[.agg #[.slice (some ⟨b, o, none⟩) ns.length cv], .slice al l.length cl, .int .i64 k] W fun e w' => e = .returned (.int .i64 (matchErr ns l k)) ∧ Below W.heap.size W w') := fun W hW => matchError_any _ _ ns l _ W hv.2.2 (hv.1.on hW) (isL_3.on hl hW)
  have H90 : Hid (∀ W, Below w.heap.size w W → Calls Tryz.prog 9 #[.agg #[.slice (some ⟨b, o, none⟩) ns.length cv], .slice al l.length cl, .int .i64 0] W fun e w' => e = .returned (.int .i64 (chkBoth ns l)) ∧ Below W.heap.size W w') := fun W hW => by
    have := matchError_any _ _ ns l 0 W hv.2.2 (hv.1.on hW) (isL_3.on hl hW)
    rw [matchErr_first] at this
    exact this
  have H11 : Hid (∀ W, Below w.heap.size w W → Calls Tryz.prog 11 #[] W fun e w' => e = .returned (.bool true) ∧ Below W.heap.size W w') := fun W hW => begun_any W (hL.on hW)
  have H64 : Hid (((allA ns l).map fun (k : Nat) => (k : Int)).length ≤ 64) := allA_len ns l
  have H16 : Hid (∀ W, Below w.heap.size w W → Calls Tryz.prog 16 #[.agg #[.slice (some ⟨b, o, none⟩) ns.length cv], .slice al l.length cl] W fun e w' => ∃ a c, e = .returned (.slice a (allA ns l).length c) ∧ IntsAt w' (.slice a (allA ns l).length c) ((allA ns l).map fun (k : Nat) => (k : Int)) ∧ Below W.heap.size W w') := fun W hW => allOf_form b o cv ns _ l W (hRD.on hW) (isL_3.on hl hW) hC0
  have eN : nearA ns l k = (nearL ns k).find? (m3 ns l) := by unfold nearA; rw [if_pos hE0]; rfl
  have eM : matB ns l k = m3 ns l k := by unfold matB; rw [if_pos hE0]; rfl
  have H17 : Hid (∀ W, Below w.heap.size w W → Calls Tryz.prog 17 #[.agg #[.slice (some ⟨b, o, none⟩) ns.length cv], .slice al l.length cl, .int .i64 k] W fun e w' => e = .returned (.tuple #[.int .i64 ((nearA ns l k).getD 0 : Nat), .bool (nearA ns l k).isSome]) ∧ Below W.heap.size W w') := fun W hW => by
    rw [eN]
    exact nearestOf_any b o cv ns _ l k W (hRD.on hW) hk (isL_3.on hl hW) ((R3_iff l).2 (chkBoth_zero hC0).2)
  have H18 : Hid (∀ W, Below w.heap.size w W → Calls Tryz.prog 18 #[.agg #[.slice (some ⟨b, o, none⟩) ns.length cv], .slice al l.length cl, .int .i64 k] W fun e w' => e = .returned (.bool (matB ns l k)) ∧ Below W.heap.size W w') := fun W hW => by
    rw [eM]
    exact matchesOf_any W b o cv ns _ l k (hRD.on hW) hk (isL_3.on hl hW) ((R3_iff l).2 (chkBoth_zero hC0).2)
  clear eN eM
  rw [hC0] at H14 H90
  rw [hE0] at H13 H15 H9
  clear hv hl hL hC0 hE0 hRD
  generalize allA ns l = aL at *
  generalize matB ns l k = mb at *
  generalize (nearA ns l k).getD 0 = nn at *
  generalize (nearA ns l k).isSome = nh at *
  go_enter Tryz.func4, Tryz.ntmps4
  go_wp2_with fail
  refine (H13.out _ HB0.out).mono ?_
  rintro e w1 ⟨rfl, hb1⟩
  have HB1 : Hid (Below w.heap.size w w1) := below_trans HB0.out hb1
  have c1 := cell_on hb1 c0
  clear hb1 c0 HB0
  go_wp2_with fail
  refine (H14.out _ HB1.out).mono ?_
  rintro e w2 ⟨ax, cx, rfl, hx, hb2⟩
  have HB2 : Hid (Below w.heap.size w w2) := below_trans HB1.out hb2
  have c2 := cell_on hb2 c1
  have HX2 : Hid (IntsAt w2 (.slice ax aL.length cx) (aL.map fun (k : Nat) => (k : Int))) := hx
  clear hx
  clear hb2 c1 HB1
  go_wp2_with fail
  refine (H15.out _ HB2.out).mono ?_
  rintro e w3 ⟨rfl, hb3⟩
  have HB3 : Hid (Below w.heap.size w w3) := below_trans HB2.out hb3
  have c3 := cell_on hb3 c2
  have HX3 : Hid (IntsAt w3 (.slice ax aL.length cx) (aL.map fun (k : Nat) => (k : Int))) := HX2.out.on hb3
  clear HX2
  clear hb3 c2 HB2
  go_wp2_with fail
  refine (H9.out _ HB3.out).mono ?_
  rintro e w4 ⟨rfl, hb4⟩
  have HB4 : Hid (Below w.heap.size w w4) := below_trans HB3.out hb4
  have c4 := cell_on hb4 c3
  have HX4 : Hid (IntsAt w4 (.slice ax aL.length cx) (aL.map fun (k : Nat) => (k : Int))) := HX3.out.on hb4
  clear HX3
  clear hb4 c3 HB3
  go_wp2_with fail
  refine (H90.out _ HB4.out).mono ?_
  rintro e w5 ⟨rfl, hb5⟩
  have HB5 : Hid (Below w.heap.size w w5) := below_trans HB4.out hb5
  have c5 := cell_on hb5 c4
  have HX5 : Hid (IntsAt w5 (.slice ax aL.length cx) (aL.map fun (k : Nat) => (k : Int))) := HX4.out.on hb5
  clear HX4
  clear hb5 c4 HB4
  go_wp2_with fail
  refine (H16.out _ HB5.out).mono ?_
  rintro e w6 ⟨ay, cy, rfl, hy, hb6⟩
  have HB6 : Hid (Below w.heap.size w w6) := below_trans HB5.out hb6
  have c6 := cell_on hb6 c5
  have HX6 : Hid (IntsAt w6 (.slice ax aL.length cx) (aL.map fun (k : Nat) => (k : Int))) := HX5.out.on hb6
  clear HX5
  have HY6 : Hid (IntsAt w6 (.slice ay aL.length cy) (aL.map fun (k : Nat) => (k : Int))) := hy
  clear hy
  clear hb6 c5 HB5
  go_wp2_with fail
  refine (H17.out _ HB6.out).mono ?_
  rintro e w7 ⟨rfl, hb7⟩
  have HB7 : Hid (Below w.heap.size w w7) := below_trans HB6.out hb7
  have c7 := cell_on hb7 c6
  have HX7 : Hid (IntsAt w7 (.slice ax aL.length cx) (aL.map fun (k : Nat) => (k : Int))) := HX6.out.on hb7
  clear HX6
  have HY7 : Hid (IntsAt w7 (.slice ay aL.length cy) (aL.map fun (k : Nat) => (k : Int))) := HY6.out.on hb7
  clear HY6
  clear hb7 c6 HB6
  go_wp2_with fail
  refine (H11.out _ HB7.out).mono ?_
  rintro e w8 ⟨rfl, hb8⟩
  have HB8 : Hid (Below w.heap.size w w8) := below_trans HB7.out hb8
  have c8 := cell_on hb8 c7
  have HX8 : Hid (IntsAt w8 (.slice ax aL.length cx) (aL.map fun (k : Nat) => (k : Int))) := HX7.out.on hb8
  clear HX7
  have HY8 : Hid (IntsAt w8 (.slice ay aL.length cy) (aL.map fun (k : Nat) => (k : Int))) := HY7.out.on hb8
  clear HY7
  clear hb8 c7 HB7
  go_wp2_with fail
  refine (H18.out _ HB8.out).mono ?_
  rintro e w9 ⟨rfl, hb9⟩
  have HB9 : Hid (Below w.heap.size w w9) := below_trans HB8.out hb9
  have c9 := cell_on hb9 c8
  have HX9 : Hid (IntsAt w9 (.slice ax aL.length cx) (aL.map fun (k : Nat) => (k : Int))) := HX8.out.on hb9
  clear HX8
  have HY9 : Hid (IntsAt w9 (.slice ay aL.length cy) (aL.map fun (k : Nat) => (k : Int))) := HY8.out.on hb9
  clear HY8
  clear hb9 c8 HB8
  go_wp2_with fail
  refine (sameInts_eq _ _ (aL.map fun (k : Nat) => (k : Int)) _ H64.out HX9.out HY9.out).mono ?_
  rintro e w10 ⟨rfl, hb10⟩
  have HB10 : Hid (Below w.heap.size w w10) := below_trans HB9.out hb10
  clear hb10
  go_wp2
  go_ret
  exact ⟨rfl, HB10.out⟩
set_option maxRecDepth 100000 in
set_option maxHeartbeats 4000000 in
theorem tells_off (v u : Value) (ns : List Pl.Nd) (l : List Pl.D3) (n : Int) (w : World) (hv : DocAt w v ns) (hl : A3 w u l) (hL : Laid w) (hC0 : chkBoth ns l = 0) (hE0 : ¬ matchErr ns l n = 0) :
    Calls Tryz.prog 4 #[.agg #[v], u, .int .i64 n] w fun e w' => e = .returned (.bool true) ∧ Below w.heap.size w w' := by
  obtain ⟨b, o, cv, rfl, hRD, -, -, -⟩ := doc_parts hv (chkBoth_zero hC0).1
  obtain ⟨al, cl, rfl, -⟩ := isL_3.form hl
  have HB0 : Hid (Below w.heap.size w (w.alloc (.cells #[.slice (some ⟨b, o, none⟩) ns.length cv] 24))) := on_alloc _ _
  have c0 : (w.alloc (.cells #[.slice (some ⟨b, o, none⟩) ns.length cv] 24)).cell? ⟨w.heap.size, 0, none⟩ = some (.slice (some ⟨b, o, none⟩) ns.length cv) := by simp [go_sem]
  have H13 : Hid (∀ W, Below w.heap.size w W → Calls Tryz.prog 13 #[.agg #[.slice (some ⟨b, o, none⟩) ns.length cv], .slice al l.length cl, .int .i64 n] W fun e w' => e = .returned (.tuple #[.bool (matB ns l n), .int .i64 (matchErr ns l n)]) ∧ Below W.heap.size W w') := fun W hW => matches_call _ _ ns l _ W (hv.on hW) (isL_3.on hl hW) (hL.forms.on hW) (hL.glob.on hW)
  have H14 : Hid (∀ W, Below w.heap.size w W → Calls Tryz.prog 14 #[.agg #[.slice (some ⟨b, o, none⟩) ns.length cv], .slice al l.length cl] W fun e w' => ∃ a c, e = .returned (.tuple #[.slice a (allA ns l).length c, .int .i64 (chkBoth ns l)]) ∧ IntsAt w' (.slice a (allA ns l).length c) ((allA ns l).map fun (k : Nat) => (k : Int)) ∧ Below W.heap.size W w') := fun W hW => all_form _ _ ns l W (hv.on hW) (isL_3.on hl hW) (hL.on hW)
  have H15 : Hid (∀ W, Below w.heap.size w W → Calls Tryz.prog 15 #[.agg #[.slice (some ⟨b, o, none⟩) ns.length cv], .slice al l.length cl, .int .i64 n] W fun e w' => e = .returned (.tuple #[.int .i64 ((nearA ns l n).getD 0 : Nat), .bool (nearA ns l n).isSome, .int .i64 (matchErr ns l n)]) ∧ Below W.heap.size W w') := fun W hW => nearest_call _ _ ns l _ W (hv.on hW) (isL_3.on hl hW) (hL.forms.on hW) (hL.glob.on hW)
  have H9 : Hid (∀ W, Below w.heap.size w W → Calls Tryz.prog 9 #[.agg #[.slice (some ⟨b, o, none⟩) ns.length cv], .slice al l.length cl, .int .i64 n] W fun e w' => e = .returned (.int .i64 (matchErr ns l n)) ∧ Below W.heap.size W w') := fun W hW => matchError_any _ _ ns l _ W hv.2.2 (hv.1.on hW) (isL_3.on hl hW)
  have H90 : Hid (∀ W, Below w.heap.size w W → Calls Tryz.prog 9 #[.agg #[.slice (some ⟨b, o, none⟩) ns.length cv], .slice al l.length cl, .int .i64 0] W fun e w' => e = .returned (.int .i64 (chkBoth ns l)) ∧ Below W.heap.size W w') := fun W hW => by
    have := matchError_any _ _ ns l 0 W hv.2.2 (hv.1.on hW) (isL_3.on hl hW)
    rw [matchErr_first] at this
    exact this
  have H11 : Hid (∀ W, Below w.heap.size w W → Calls Tryz.prog 11 #[] W fun e w' => e = .returned (.bool true) ∧ Below W.heap.size W w') := fun W hW => begun_any W (hL.on hW)
  have H64 : Hid (((allA ns l).map fun (k : Nat) => (k : Int)).length ≤ 64) := allA_len ns l
  have H16 : Hid (∀ W, Below w.heap.size w W → Calls Tryz.prog 16 #[.agg #[.slice (some ⟨b, o, none⟩) ns.length cv], .slice al l.length cl] W fun e w' => ∃ a c, e = .returned (.slice a (allA ns l).length c) ∧ IntsAt w' (.slice a (allA ns l).length c) ((allA ns l).map fun (k : Nat) => (k : Int)) ∧ Below W.heap.size W w') := fun W hW => allOf_form b o cv ns _ l W (hRD.on hW) (isL_3.on hl hW) hC0
  have eN : nearA ns l n = none := by unfold nearA; rw [if_neg hE0]
  have eM : matB ns l n = false := by unfold matB; rw [if_neg hE0]
  rw [eN] at H15
  rw [eM] at H13
  clear eN eM
  rw [hC0] at H14 H90
  have hEb : (matchErr ns l n == 0) = false := by simpa using hE0
  clear hv hl hL hC0 hE0 hRD
  generalize allA ns l = aL at *
  generalize matchErr ns l n = E at *
  go_enter Tryz.func4, Tryz.ntmps4
  go_wp2_with fail
  refine (H13.out _ HB0.out).mono ?_
  rintro e w1 ⟨rfl, hb1⟩
  have HB1 : Hid (Below w.heap.size w w1) := below_trans HB0.out hb1
  have c1 := cell_on hb1 c0
  clear hb1 c0 HB0
  go_wp2_with fail
  refine (H14.out _ HB1.out).mono ?_
  rintro e w2 ⟨ax, cx, rfl, hx, hb2⟩
  have HB2 : Hid (Below w.heap.size w w2) := below_trans HB1.out hb2
  have c2 := cell_on hb2 c1
  have HX2 : Hid (IntsAt w2 (.slice ax aL.length cx) (aL.map fun (k : Nat) => (k : Int))) := hx
  clear hx
  clear hb2 c1 HB1
  go_wp2_with fail
  refine (H15.out _ HB2.out).mono ?_
  rintro e w3 ⟨rfl, hb3⟩
  have HB3 : Hid (Below w.heap.size w w3) := below_trans HB2.out hb3
  have c3 := cell_on hb3 c2
  have HX3 : Hid (IntsAt w3 (.slice ax aL.length cx) (aL.map fun (k : Nat) => (k : Int))) := HX2.out.on hb3
  clear HX2
  clear hb3 c2 HB2
  go_wp2_with fail
  refine (H9.out _ HB3.out).mono ?_
  rintro e w4 ⟨rfl, hb4⟩
  have HB4 : Hid (Below w.heap.size w w4) := below_trans HB3.out hb4
  have c4 := cell_on hb4 c3
  have HX4 : Hid (IntsAt w4 (.slice ax aL.length cx) (aL.map fun (k : Nat) => (k : Int))) := HX3.out.on hb4
  clear HX3
  clear hb4 c3 HB3
  go_wp2_with fail
  refine (H90.out _ HB4.out).mono ?_
  rintro e w5 ⟨rfl, hb5⟩
  have HB5 : Hid (Below w.heap.size w w5) := below_trans HB4.out hb5
  have c5 := cell_on hb5 c4
  have HX5 : Hid (IntsAt w5 (.slice ax aL.length cx) (aL.map fun (k : Nat) => (k : Int))) := HX4.out.on hb5
  clear HX4
  clear hb5 c4 HB4
  go_wp2_with fail
  refine (H16.out _ HB5.out).mono ?_
  rintro e w6 ⟨ay, cy, rfl, hy, hb6⟩
  have HB6 : Hid (Below w.heap.size w w6) := below_trans HB5.out hb6
  have c6 := cell_on hb6 c5
  have HX6 : Hid (IntsAt w6 (.slice ax aL.length cx) (aL.map fun (k : Nat) => (k : Int))) := HX5.out.on hb6
  clear HX5
  have HY6 : Hid (IntsAt w6 (.slice ay aL.length cy) (aL.map fun (k : Nat) => (k : Int))) := hy
  clear hy
  clear hb6 c5 HB5
  go_wp2_with fail
  refine (H11.out _ HB6.out).mono ?_
  rintro e w7 ⟨rfl, hb7⟩
  have HB7 : Hid (Below w.heap.size w w7) := below_trans HB6.out hb7
  have c7 := cell_on hb7 c6
  have HX7 : Hid (IntsAt w7 (.slice ax aL.length cx) (aL.map fun (k : Nat) => (k : Int))) := HX6.out.on hb7
  clear HX6
  have HY7 : Hid (IntsAt w7 (.slice ay aL.length cy) (aL.map fun (k : Nat) => (k : Int))) := HY6.out.on hb7
  clear HY6
  clear hb7 c6 HB6
  go_wp2_with fail
  refine (sameInts_eq _ _ (aL.map fun (k : Nat) => (k : Int)) _ H64.out HX7.out HY7.out).mono ?_
  rintro e w8 ⟨rfl, hb8⟩
  have HB8 : Hid (Below w.heap.size w w8) := below_trans HB7.out hb8
  clear hb8
  go_wp2
  go_ret
  exact ⟨rfl, HB8.out⟩
set_option maxRecDepth 100000 in
set_option maxHeartbeats 4000000 in
theorem tells_no (v u : Value) (ns : List Pl.Nd) (l : List Pl.D3) (n : Int) (w : World) (hv : DocAt w v ns) (hl : A3 w u l) (hL : Laid w) (hC0 : ¬ chkBoth ns l = 0) :
    Calls Tryz.prog 4 #[.agg #[v], u, .int .i64 n] w fun e w' => e = .returned (.bool true) ∧ Below w.heap.size w w' := by
  have hE0 : ¬ matchErr ns l n = 0 := fun h => hC0 (matchErr_both h)
  obtain ⟨av, cv, rfl, -⟩ := id hv.1
  obtain ⟨al, cl, rfl, -⟩ := isL_3.form hl
  have HB0 : Hid (Below w.heap.size w (w.alloc (.cells #[.slice av ns.length cv] 24))) := on_alloc _ _
  have c0 : (w.alloc (.cells #[.slice av ns.length cv] 24)).cell? ⟨w.heap.size, 0, none⟩ = some (.slice av ns.length cv) := by simp [go_sem]
  have H13 : Hid (∀ W, Below w.heap.size w W → Calls Tryz.prog 13 #[.agg #[.slice av ns.length cv], .slice al l.length cl, .int .i64 n] W fun e w' => e = .returned (.tuple #[.bool (matB ns l n), .int .i64 (matchErr ns l n)]) ∧ Below W.heap.size W w') := fun W hW => matches_call _ _ ns l _ W (hv.on hW) (isL_3.on hl hW) (hL.forms.on hW) (hL.glob.on hW)
  have H14 : Hid (∀ W, Below w.heap.size w W → Calls Tryz.prog 14 #[.agg #[.slice av ns.length cv], .slice al l.length cl] W fun e w' => ∃ a c, e = .returned (.tuple #[.slice a (allA ns l).length c, .int .i64 (chkBoth ns l)]) ∧ IntsAt w' (.slice a (allA ns l).length c) ((allA ns l).map fun (k : Nat) => (k : Int)) ∧ Below W.heap.size W w') := fun W hW => all_form _ _ ns l W (hv.on hW) (isL_3.on hl hW) (hL.on hW)
  have H15 : Hid (∀ W, Below w.heap.size w W → Calls Tryz.prog 15 #[.agg #[.slice av ns.length cv], .slice al l.length cl, .int .i64 n] W fun e w' => e = .returned (.tuple #[.int .i64 ((nearA ns l n).getD 0 : Nat), .bool (nearA ns l n).isSome, .int .i64 (matchErr ns l n)]) ∧ Below W.heap.size W w') := fun W hW => nearest_call _ _ ns l _ W (hv.on hW) (isL_3.on hl hW) (hL.forms.on hW) (hL.glob.on hW)
  have H9 : Hid (∀ W, Below w.heap.size w W → Calls Tryz.prog 9 #[.agg #[.slice av ns.length cv], .slice al l.length cl, .int .i64 n] W fun e w' => e = .returned (.int .i64 (matchErr ns l n)) ∧ Below W.heap.size W w') := fun W hW => matchError_any _ _ ns l _ W hv.2.2 (hv.1.on hW) (isL_3.on hl hW)
  have H90 : Hid (∀ W, Below w.heap.size w W → Calls Tryz.prog 9 #[.agg #[.slice av ns.length cv], .slice al l.length cl, .int .i64 0] W fun e w' => e = .returned (.int .i64 (chkBoth ns l)) ∧ Below W.heap.size W w') := fun W hW => by
    have := matchError_any _ _ ns l 0 W hv.2.2 (hv.1.on hW) (isL_3.on hl hW)
    rw [matchErr_first] at this
    exact this
  have H11 : Hid (∀ W, Below w.heap.size w W → Calls Tryz.prog 11 #[] W fun e w' => e = .returned (.bool true) ∧ Below W.heap.size W w') := fun W hW => begun_any W (hL.on hW)
  have H64 : Hid (((allA ns l).map fun (k : Nat) => (k : Int)).length ≤ 64) := allA_len ns l
  have hA : allA ns l = [] := by unfold allA; rw [if_neg hC0]
  have eN : nearA ns l n = none := by unfold nearA; rw [if_neg hE0]
  have eM : matB ns l n = false := by unfold matB; rw [if_neg hE0]
  rw [eN] at H15
  rw [eM] at H13
  clear eN eM
  rw [hA] at H14 H64
  have hCb : (chkBoth ns l == 0) = false := by simpa using hC0
  have hEb : (matchErr ns l n == 0) = false := by simpa using hE0
  clear hv hl hL hC0 hE0 hA
  generalize chkBoth ns l = C at *
  generalize matchErr ns l n = E at *
  go_enter Tryz.func4, Tryz.ntmps4
  go_wp2_with fail
  refine (H13.out _ HB0.out).mono ?_
  rintro e w1 ⟨rfl, hb1⟩
  have HB1 : Hid (Below w.heap.size w w1) := below_trans HB0.out hb1
  have c1 := cell_on hb1 c0
  clear hb1 c0 HB0
  go_wp2_with fail
  refine (H14.out _ HB1.out).mono ?_
  rintro e w2 ⟨ax, cx, rfl, hx, hb2⟩
  have HB2 : Hid (Below w.heap.size w w2) := below_trans HB1.out hb2
  have c2 := cell_on hb2 c1
  have HX2 : Hid (IntsAt w2 (.slice ax 0 cx) []) := hx
  clear hx
  clear hb2 c1 HB1
  go_wp2_with fail
  refine (H15.out _ HB2.out).mono ?_
  rintro e w3 ⟨rfl, hb3⟩
  have HB3 : Hid (Below w.heap.size w w3) := below_trans HB2.out hb3
  have c3 := cell_on hb3 c2
  have HX3 : Hid (IntsAt w3 (.slice ax 0 cx) []) := HX2.out.on hb3
  clear HX2
  clear hb3 c2 HB2
  go_wp2_with fail
  refine (H9.out _ HB3.out).mono ?_
  rintro e w4 ⟨rfl, hb4⟩
  have HB4 : Hid (Below w.heap.size w w4) := below_trans HB3.out hb4
  have c4 := cell_on hb4 c3
  have HX4 : Hid (IntsAt w4 (.slice ax 0 cx) []) := HX3.out.on hb4
  clear HX3
  clear hb4 c3 HB3
  go_wp2_with fail
  refine (H90.out _ HB4.out).mono ?_
  rintro e w5 ⟨rfl, hb5⟩
  have HB5 : Hid (Below w.heap.size w w5) := below_trans HB4.out hb5
  have c5 := cell_on hb5 c4
  have HX5 : Hid (IntsAt w5 (.slice ax 0 cx) []) := HX4.out.on hb5
  clear HX4
  clear hb5 c4 HB4
  go_wp2_with fail
  refine (H11.out _ HB5.out).mono ?_
  rintro e w6 ⟨rfl, hb6⟩
  have HB6 : Hid (Below w.heap.size w w6) := below_trans HB5.out hb6
  have c6 := cell_on hb6 c5
  have HX6 : Hid (IntsAt w6 (.slice ax 0 cx) []) := HX5.out.on hb6
  clear HX5
  clear hb6 c5 HB5
  go_wp2_with fail
  refine (sameInts_eq _ _ [] _ H64.out HX6.out ⟨none, 0, rfl, Or.inl rfl⟩).mono ?_
  rintro e w7 ⟨rfl, hb7⟩
  have HB7 : Hid (Below w.heap.size w w7) := below_trans HB6.out hb7
  clear hb7
  go_wp2
  go_ret
  exact ⟨rfl, HB7.out⟩
theorem tells_law (v u : Value) (ns : List Pl.Nd) (l : List Pl.D3) (n : Int) (w : World) (hv : DocAt w v ns) (hl : A3 w u l) (hL : Laid w) :
    Calls Tryz.prog 4 #[.agg #[v], u, .int .i64 n] w fun e w' => e = .returned (.bool true) ∧ Below w.heap.size w w' := by
  by_cases hE : matchErr ns l n = 0
  · exact tells_yes v u ns l n w hv hl hL hE
  · by_cases hC : chkBoth ns l = 0
    · exact tells_off v u ns l n w hv hl hL hC hE
    · exact tells_no v u ns l n w hv hl hL hC
end Go.Proofs.YtagobgjlhdbhmaaGreatDoor
/-
  MatchTests: the law.
-/
namespace Go.Proofs.YtagobgjlhdbhmaaGreatDoor
open Go.RowKit

theorem rMs_2 : RMs A2 (fun ns => m2 ns) R2 := rMs_up isL_1 (rMs_up isL_z rMs_z)
theorem one_right {t : Pl.Tst Pl.D2} (h : chkList (oneL t) = 0) : RT R2 t := by
  have h1 := (R3_iff (oneL t)).2 h
  have h2 := h1.2 _ (List.mem_singleton.2 rfl)
  have h3 := h2.2.2 _ (List.mem_singleton.2 rfl)
  exact h3.2.2 _ (List.mem_singleton.2 rfl)
set_option maxRecDepth 100000 in
set_option maxHeartbeats 4000000 in
theorem tests_yes (v x : Value) (ns : List Pl.Nd) (t : Pl.Tst Pl.D2) (n : Int) (w : World) (hv : DocAt w v ns) (hx : A2 w x t.list) (hL : Laid w) (hE0 : matchErr ns (oneL t) n = 0) :
    Calls Tryz.prog 3 #[.agg #[v], .agg #[.int .i64 t.kind, .string ⟨t.name.toArray⟩, .string ⟨t.value.toArray⟩, .int .i64 t.a, .int .i64 t.b, x], .int .i64 n] w fun e w' => e = .returned (.bool true) ∧ Below w.heap.size w w' := by
  obtain ⟨hz1, hz2, k, rfl, hk⟩ := matchErr_zero hE0
  obtain ⟨b, o, cv, rfl, hRD, -, -, -⟩ := doc_parts hv hz1
  obtain ⟨ax, cx, rfl, -⟩ := isL_2.form hx
  have hb0 : Below w.heap.size w ((w.alloc (.cells #[.slice (some ⟨b, o, none⟩) ns.length cv] 24)).alloc (.cells #[.int .i64 t.kind, .string ⟨t.name.toArray⟩, .string ⟨t.value.toArray⟩, .int .i64 t.a, .int .i64 t.b, .slice ax t.list.length cx] 29)) := below_trans (on_alloc _ _) (on_alloc _ _)
  have HB0 : Hid (Below w.heap.size w ((w.alloc (.cells #[.slice (some ⟨b, o, none⟩) ns.length cv] 24)).alloc (.cells #[.int .i64 t.kind, .string ⟨t.name.toArray⟩, .string ⟨t.value.toArray⟩, .int .i64 t.a, .int .i64 t.b, .slice ax t.list.length cx] 29))) := hb0
  have HS : Hid (((w.alloc (.cells #[.slice (some ⟨b, o, none⟩) ns.length cv] 24)).alloc (.cells #[.int .i64 t.kind, .string ⟨t.name.toArray⟩, .string ⟨t.value.toArray⟩, .int .i64 t.a, .int .i64 t.b, .slice ax t.list.length cx] 29)).cell? ⟨w.heap.size, 0, none⟩ = some (.slice (some ⟨b, o, none⟩) ns.length cv) ∧ ((w.alloc (.cells #[.slice (some ⟨b, o, none⟩) ns.length cv] 24)).alloc (.cells #[.int .i64 t.kind, .string ⟨t.name.toArray⟩, .string ⟨t.value.toArray⟩, .int .i64 t.a, .int .i64 t.b, .slice ax t.list.length cx] 29)).cell? ⟨w.heap.size + 1, 0, none⟩ = some (.int .i64 t.kind) ∧ ((w.alloc (.cells #[.slice (some ⟨b, o, none⟩) ns.length cv] 24)).alloc (.cells #[.int .i64 t.kind, .string ⟨t.name.toArray⟩, .string ⟨t.value.toArray⟩, .int .i64 t.a, .int .i64 t.b, .slice ax t.list.length cx] 29)).cell? ⟨w.heap.size + 1, 1, none⟩ = some (.string ⟨t.name.toArray⟩) ∧ ((w.alloc (.cells #[.slice (some ⟨b, o, none⟩) ns.length cv] 24)).alloc (.cells #[.int .i64 t.kind, .string ⟨t.name.toArray⟩, .string ⟨t.value.toArray⟩, .int .i64 t.a, .int .i64 t.b, .slice ax t.list.length cx] 29)).cell? ⟨w.heap.size + 1, 2, none⟩ = some (.string ⟨t.value.toArray⟩) ∧ ((w.alloc (.cells #[.slice (some ⟨b, o, none⟩) ns.length cv] 24)).alloc (.cells #[.int .i64 t.kind, .string ⟨t.name.toArray⟩, .string ⟨t.value.toArray⟩, .int .i64 t.a, .int .i64 t.b, .slice ax t.list.length cx] 29)).cell? ⟨w.heap.size + 1, 3, none⟩ = some (.int .i64 t.a) ∧ ((w.alloc (.cells #[.slice (some ⟨b, o, none⟩) ns.length cv] 24)).alloc (.cells #[.int .i64 t.kind, .string ⟨t.name.toArray⟩, .string ⟨t.value.toArray⟩, .int .i64 t.a, .int .i64 t.b, .slice ax t.list.length cx] 29)).cell? ⟨w.heap.size + 1, 4, none⟩ = some (.int .i64 t.b) ∧ ((w.alloc (.cells #[.slice (some ⟨b, o, none⟩) ns.length cv] 24)).alloc (.cells #[.int .i64 t.kind, .string ⟨t.name.toArray⟩, .string ⟨t.value.toArray⟩, .int .i64 t.a, .int .i64 t.b, .slice ax t.list.length cx] 29)).cell? ⟨w.heap.size + 1, 5, none⟩ = some (.slice ax t.list.length cx)) := by
    have e1 := (Boxed.new w 24 (.slice (some ⟨b, o, none⟩) ns.length cv)).alloc (.cells #[.int .i64 t.kind, .string ⟨t.name.toArray⟩, .string ⟨t.value.toArray⟩, .int .i64 t.a, .int .i64 t.b, .slice ax t.list.length cx] 29)
    have e2 := World.alloc_heap_new (w.alloc (.cells #[.slice (some ⟨b, o, none⟩) ns.length cv] 24)) (.cells #[.int .i64 t.kind, .string ⟨t.name.toArray⟩, .string ⟨t.value.toArray⟩, .int .i64 t.a, .int .i64 t.b, .slice ax t.list.length cx] 29)
    rw [World.size_alloc] at e2
    exact ⟨e1.cell, blk6c e2⟩
  have H8 : Hid (∀ W, Below w.heap.size w W → Calls Tryz.prog 8 #[.agg #[.slice (some ⟨b, o, none⟩) ns.length cv], .agg #[.int .i64 t.kind, .string ⟨t.name.toArray⟩, .string ⟨t.value.toArray⟩, .int .i64 t.a, .int .i64 t.b, .slice ax t.list.length cx], .int .i64 k] W fun e w' => e = .returned (.tuple #[.bool (matB ns (oneL t) k), .int .i64 (matchErr ns (oneL t) k)]) ∧ Below W.heap.size W w') := fun W hW => test_call _ _ ns t _ W (hv.on hW) (isL_2.on hx hW) (hL.forms.on hW) (hL.glob.on hW)
  have H10 : Hid (∀ W, Below w.heap.size w W → (W.cell? ⟨w.heap.size, 0, none⟩ = some (.slice (some ⟨b, o, none⟩) ns.length cv) ∧ W.cell? ⟨w.heap.size + 1, 0, none⟩ = some (.int .i64 t.kind) ∧ W.cell? ⟨w.heap.size + 1, 1, none⟩ = some (.string ⟨t.name.toArray⟩) ∧ W.cell? ⟨w.heap.size + 1, 2, none⟩ = some (.string ⟨t.value.toArray⟩) ∧ W.cell? ⟨w.heap.size + 1, 3, none⟩ = some (.int .i64 t.a) ∧ W.cell? ⟨w.heap.size + 1, 4, none⟩ = some (.int .i64 t.b) ∧ W.cell? ⟨w.heap.size + 1, 5, none⟩ = some (.slice ax t.list.length cx)) → Calls Tryz.prog 10 #[.agg #[.int .i64 t.kind, .string ⟨t.name.toArray⟩, .string ⟨t.value.toArray⟩, .int .i64 t.a, .int .i64 t.b, .slice ax t.list.length cx]] W fun e w' => ∃ a, e = .returned (.slice a 1 1) ∧ A3 w' (.slice a 1 1) (oneL t) ∧ (w'.cell? ⟨w.heap.size, 0, none⟩ = some (.slice (some ⟨b, o, none⟩) ns.length cv) ∧ w'.cell? ⟨w.heap.size + 1, 0, none⟩ = some (.int .i64 t.kind) ∧ w'.cell? ⟨w.heap.size + 1, 1, none⟩ = some (.string ⟨t.name.toArray⟩) ∧ w'.cell? ⟨w.heap.size + 1, 2, none⟩ = some (.string ⟨t.value.toArray⟩) ∧ w'.cell? ⟨w.heap.size + 1, 3, none⟩ = some (.int .i64 t.a) ∧ w'.cell? ⟨w.heap.size + 1, 4, none⟩ = some (.int .i64 t.b) ∧ w'.cell? ⟨w.heap.size + 1, 5, none⟩ = some (.slice ax t.list.length cx)) ∧ Below w.heap.size w w' ∧ Below W.heap.size W w') := fun W hW hS => (one_call _ t W (isL_2.on hx hW)).mono (fun e w' h => by
    obtain ⟨a, he, ha, hb⟩ := h
    exact ⟨a, he, ha, on7 hS hb, below_trans hW hb, hb⟩)
  have H9 : Hid (∀ W a, Below w.heap.size w W → A3 W (.slice a 1 1) (oneL t) → (W.cell? ⟨w.heap.size, 0, none⟩ = some (.slice (some ⟨b, o, none⟩) ns.length cv) ∧ W.cell? ⟨w.heap.size + 1, 0, none⟩ = some (.int .i64 t.kind) ∧ W.cell? ⟨w.heap.size + 1, 1, none⟩ = some (.string ⟨t.name.toArray⟩) ∧ W.cell? ⟨w.heap.size + 1, 2, none⟩ = some (.string ⟨t.value.toArray⟩) ∧ W.cell? ⟨w.heap.size + 1, 3, none⟩ = some (.int .i64 t.a) ∧ W.cell? ⟨w.heap.size + 1, 4, none⟩ = some (.int .i64 t.b) ∧ W.cell? ⟨w.heap.size + 1, 5, none⟩ = some (.slice ax t.list.length cx)) → Calls Tryz.prog 9 #[.agg #[.slice (some ⟨b, o, none⟩) ns.length cv], .slice a 1 1, .int .i64 k] W fun e w' => e = .returned (.int .i64 (matchErr ns (oneL t) k)) ∧ (w'.cell? ⟨w.heap.size, 0, none⟩ = some (.slice (some ⟨b, o, none⟩) ns.length cv) ∧ w'.cell? ⟨w.heap.size + 1, 0, none⟩ = some (.int .i64 t.kind) ∧ w'.cell? ⟨w.heap.size + 1, 1, none⟩ = some (.string ⟨t.name.toArray⟩) ∧ w'.cell? ⟨w.heap.size + 1, 2, none⟩ = some (.string ⟨t.value.toArray⟩) ∧ w'.cell? ⟨w.heap.size + 1, 3, none⟩ = some (.int .i64 t.a) ∧ w'.cell? ⟨w.heap.size + 1, 4, none⟩ = some (.int .i64 t.b) ∧ w'.cell? ⟨w.heap.size + 1, 5, none⟩ = some (.slice ax t.list.length cx)) ∧ Below w.heap.size w w' ∧ Below W.heap.size W w') := fun W a hW ha hS => (matchError_any _ _ ns (oneL t) _ W hv.2.2 (hv.1.on hW) ha).mono (fun e w' h => by
    obtain ⟨he, hb⟩ := h
    exact ⟨he, on7 hS hb, below_trans hW hb, hb⟩)
  have H11 : Hid (∀ W, Below w.heap.size w W → Calls Tryz.prog 11 #[] W fun e w' => e = .returned (.bool true) ∧ Below W.heap.size W w') := fun W hW => begun_any W (hL.on hW)
  have eM : matB ns (oneL t) k = tstM ns (m2 ns) t k := by unfold matB; rw [if_pos hE0]; exact one_m3 ns t k
  have H12 : Hid (∀ W, Below w.heap.size w W → Calls Tryz.prog 12 #[.agg #[.slice (some ⟨b, o, none⟩) ns.length cv], .agg #[.int .i64 t.kind, .string ⟨t.name.toArray⟩, .string ⟨t.value.toArray⟩, .int .i64 t.a, .int .i64 t.b, .slice ax t.list.length cx], .int .i64 k] W fun e w' => e = .returned (.bool (matB ns (oneL t) k)) ∧ Below W.heap.size W w') := fun W hW => by
    rw [eM]
    exact passes_any isL_2 rMs_2 b o cv ns _ t k W (hRD.on hW) hk ⟨_, rfl, isL_2.on hx hW⟩ (one_right hz2)
  rw [hE0] at H8 H9
  clear eM hz1 hz2 hRD
  clear hv hx hL hE0 hb0
  obtain ⟨c0, t0, t1, t2, t3, t4, t5⟩ := HS.out
  generalize matB ns (oneL t) k = mb at *
  go_enter Tryz.func3, Tryz.ntmps3
  go_wp2_with fail
  generalize (w.alloc (.cells #[.slice (some ⟨b, o, none⟩) ns.length cv] 24)).alloc (.cells #[.int .i64 t.kind, .string ⟨t.name.toArray⟩, .string ⟨t.value.toArray⟩, .int .i64 t.a, .int .i64 t.b, .slice ax t.list.length cx] 29) = W0 at *
  refine (H8.out _ HB0.out).mono ?_
  rintro e w1 ⟨rfl, hb1⟩
  have HB1 : Hid (Below w.heap.size w w1) := below_trans HB0.out hb1
  have S1 : w1.cell? ⟨w.heap.size, 0, none⟩ = some (.slice (some ⟨b, o, none⟩) ns.length cv) ∧ w1.cell? ⟨w.heap.size + 1, 0, none⟩ = some (.int .i64 t.kind) ∧ w1.cell? ⟨w.heap.size + 1, 1, none⟩ = some (.string ⟨t.name.toArray⟩) ∧ w1.cell? ⟨w.heap.size + 1, 2, none⟩ = some (.string ⟨t.value.toArray⟩) ∧ w1.cell? ⟨w.heap.size + 1, 3, none⟩ = some (.int .i64 t.a) ∧ w1.cell? ⟨w.heap.size + 1, 4, none⟩ = some (.int .i64 t.b) ∧ w1.cell? ⟨w.heap.size + 1, 5, none⟩ = some (.slice ax t.list.length cx) := on7 HS.out hb1
  have S0 : w1.drew.cell? ⟨w.heap.size, 0, none⟩ = some (.slice (some ⟨b, o, none⟩) ns.length cv) ∧ w1.drew.cell? ⟨w.heap.size + 1, 0, none⟩ = some (.int .i64 t.kind) ∧ w1.drew.cell? ⟨w.heap.size + 1, 1, none⟩ = some (.string ⟨t.name.toArray⟩) ∧ w1.drew.cell? ⟨w.heap.size + 1, 2, none⟩ = some (.string ⟨t.value.toArray⟩) ∧ w1.drew.cell? ⟨w.heap.size + 1, 3, none⟩ = some (.int .i64 t.a) ∧ w1.drew.cell? ⟨w.heap.size + 1, 4, none⟩ = some (.int .i64 t.b) ∧ w1.drew.cell? ⟨w.heap.size + 1, 5, none⟩ = some (.slice ax t.list.length cx) := on7 S1 ((Below.refl _ w1).drew)
  have HBD : Hid (Below w.heap.size w w1.drew) := HB1.out.drew
  clear c0 t0 t1 t2 t3 t4 t5 HS hb1 HB0 S1
  go_wp2_with fail
  go_cut [9] (fun s wx => s = .int .i64 0 ∧ (wx.cell? ⟨w.heap.size, 0, none⟩ = some (.slice (some ⟨b, o, none⟩) ns.length cv) ∧ wx.cell? ⟨w.heap.size + 1, 0, none⟩ = some (.int .i64 t.kind) ∧ wx.cell? ⟨w.heap.size + 1, 1, none⟩ = some (.string ⟨t.name.toArray⟩) ∧ wx.cell? ⟨w.heap.size + 1, 2, none⟩ = some (.string ⟨t.value.toArray⟩) ∧ wx.cell? ⟨w.heap.size + 1, 3, none⟩ = some (.int .i64 t.a) ∧ wx.cell? ⟨w.heap.size + 1, 4, none⟩ = some (.int .i64 t.b) ∧ wx.cell? ⟨w.heap.size + 1, 5, none⟩ = some (.slice ax t.list.length cx)) ∧ Hid (Below w.heap.size w wx))
  case first =>
    go_region_held3 (fun w' => w'.cell? ⟨w.heap.size, 0, none⟩ = some (.slice (some ⟨b, o, none⟩) ns.length cv) ∧ w'.cell? ⟨w.heap.size + 1, 0, none⟩ = some (.int .i64 t.kind) ∧ w'.cell? ⟨w.heap.size + 1, 1, none⟩ = some (.string ⟨t.name.toArray⟩) ∧ w'.cell? ⟨w.heap.size + 1, 2, none⟩ = some (.string ⟨t.value.toArray⟩) ∧ w'.cell? ⟨w.heap.size + 1, 3, none⟩ = some (.int .i64 t.a) ∧ w'.cell? ⟨w.heap.size + 1, 4, none⟩ = some (.int .i64 t.b) ∧ w'.cell? ⟨w.heap.size + 1, 5, none⟩ = some (.slice ax t.list.length cx)) (first | with_reducible assumption | exact on7 S0 (Below.refl _ _) | exact on7 S2 (Below.refl _ _) | exact on7 S3 (Below.refl _ _))
      (first | (go_at_call 10; refine (H10.out _ ?_ ?_).mono ?_; exact HBD.out; exact S0; rintro e w2 ⟨a2, rfl, ha2, S2, HB2, hb2⟩) | (go_at_call 9; refine (H9.out _ _ ?_ ?_ ?_).mono ?_; exact HB2; exact ha2; exact S2; rintro e w3 ⟨rfl, S3, HB3, hb3⟩))
    all_goals
      go_wp2_with fail
      go_meet
      exact ⟨rfl, S3, HB3⟩
  case rest =>
    obtain ⟨rfl, HSC, HBC⟩ := hcut
    clear S0 HBD HB1
    obtain ⟨c0, t0, t1, t2, t3, t4, t5⟩ := HSC
    go_wp2_with fail
    refine (H11.out _ HBC.out).mono ?_
    rintro e w4 ⟨rfl, hb4⟩
    have HB4 : Hid (Below w.heap.size w w4) := below_trans HBC.out hb4
    have S4 : w4.cell? ⟨w.heap.size, 0, none⟩ = some (.slice (some ⟨b, o, none⟩) ns.length cv) ∧ w4.cell? ⟨w.heap.size + 1, 0, none⟩ = some (.int .i64 t.kind) ∧ w4.cell? ⟨w.heap.size + 1, 1, none⟩ = some (.string ⟨t.name.toArray⟩) ∧ w4.cell? ⟨w.heap.size + 1, 2, none⟩ = some (.string ⟨t.value.toArray⟩) ∧ w4.cell? ⟨w.heap.size + 1, 3, none⟩ = some (.int .i64 t.a) ∧ w4.cell? ⟨w.heap.size + 1, 4, none⟩ = some (.int .i64 t.b) ∧ w4.cell? ⟨w.heap.size + 1, 5, none⟩ = some (.slice ax t.list.length cx) := on7 ⟨c0, t0, t1, t2, t3, t4, t5⟩ hb4
    clear c0 t0 t1 t2 t3 t4 t5 hb4
    obtain ⟨c0, t0, t1, t2, t3, t4, t5⟩ := S4
    go_wp2_with fail
    refine (H12.out _ HB4.out).mono ?_
    rintro e w5 ⟨rfl, hb5⟩
    have HB5 : Hid (Below w.heap.size w w5) := below_trans HB4.out hb5
    clear hb5
    go_wp2
    go_ret
    exact ⟨rfl, HB5.out⟩
set_option maxRecDepth 100000 in
set_option maxHeartbeats 4000000 in
theorem tests_no (v x : Value) (ns : List Pl.Nd) (t : Pl.Tst Pl.D2) (n : Int) (w : World) (hv : DocAt w v ns) (hx : A2 w x t.list) (hL : Laid w) (hE0 : ¬ matchErr ns (oneL t) n = 0) :
    Calls Tryz.prog 3 #[.agg #[v], .agg #[.int .i64 t.kind, .string ⟨t.name.toArray⟩, .string ⟨t.value.toArray⟩, .int .i64 t.a, .int .i64 t.b, x], .int .i64 n] w fun e w' => e = .returned (.bool true) ∧ Below w.heap.size w w' := by
  obtain ⟨av, cv, rfl, -⟩ := id hv.1
  obtain ⟨ax, cx, rfl, -⟩ := isL_2.form hx
  have hb0 : Below w.heap.size w ((w.alloc (.cells #[.slice av ns.length cv] 24)).alloc (.cells #[.int .i64 t.kind, .string ⟨t.name.toArray⟩, .string ⟨t.value.toArray⟩, .int .i64 t.a, .int .i64 t.b, .slice ax t.list.length cx] 29)) := below_trans (on_alloc _ _) (on_alloc _ _)
  have HB0 : Hid (Below w.heap.size w ((w.alloc (.cells #[.slice av ns.length cv] 24)).alloc (.cells #[.int .i64 t.kind, .string ⟨t.name.toArray⟩, .string ⟨t.value.toArray⟩, .int .i64 t.a, .int .i64 t.b, .slice ax t.list.length cx] 29))) := hb0
  have HS : Hid (((w.alloc (.cells #[.slice av ns.length cv] 24)).alloc (.cells #[.int .i64 t.kind, .string ⟨t.name.toArray⟩, .string ⟨t.value.toArray⟩, .int .i64 t.a, .int .i64 t.b, .slice ax t.list.length cx] 29)).cell? ⟨w.heap.size, 0, none⟩ = some (.slice av ns.length cv) ∧ ((w.alloc (.cells #[.slice av ns.length cv] 24)).alloc (.cells #[.int .i64 t.kind, .string ⟨t.name.toArray⟩, .string ⟨t.value.toArray⟩, .int .i64 t.a, .int .i64 t.b, .slice ax t.list.length cx] 29)).cell? ⟨w.heap.size + 1, 0, none⟩ = some (.int .i64 t.kind) ∧ ((w.alloc (.cells #[.slice av ns.length cv] 24)).alloc (.cells #[.int .i64 t.kind, .string ⟨t.name.toArray⟩, .string ⟨t.value.toArray⟩, .int .i64 t.a, .int .i64 t.b, .slice ax t.list.length cx] 29)).cell? ⟨w.heap.size + 1, 1, none⟩ = some (.string ⟨t.name.toArray⟩) ∧ ((w.alloc (.cells #[.slice av ns.length cv] 24)).alloc (.cells #[.int .i64 t.kind, .string ⟨t.name.toArray⟩, .string ⟨t.value.toArray⟩, .int .i64 t.a, .int .i64 t.b, .slice ax t.list.length cx] 29)).cell? ⟨w.heap.size + 1, 2, none⟩ = some (.string ⟨t.value.toArray⟩) ∧ ((w.alloc (.cells #[.slice av ns.length cv] 24)).alloc (.cells #[.int .i64 t.kind, .string ⟨t.name.toArray⟩, .string ⟨t.value.toArray⟩, .int .i64 t.a, .int .i64 t.b, .slice ax t.list.length cx] 29)).cell? ⟨w.heap.size + 1, 3, none⟩ = some (.int .i64 t.a) ∧ ((w.alloc (.cells #[.slice av ns.length cv] 24)).alloc (.cells #[.int .i64 t.kind, .string ⟨t.name.toArray⟩, .string ⟨t.value.toArray⟩, .int .i64 t.a, .int .i64 t.b, .slice ax t.list.length cx] 29)).cell? ⟨w.heap.size + 1, 4, none⟩ = some (.int .i64 t.b) ∧ ((w.alloc (.cells #[.slice av ns.length cv] 24)).alloc (.cells #[.int .i64 t.kind, .string ⟨t.name.toArray⟩, .string ⟨t.value.toArray⟩, .int .i64 t.a, .int .i64 t.b, .slice ax t.list.length cx] 29)).cell? ⟨w.heap.size + 1, 5, none⟩ = some (.slice ax t.list.length cx)) := by
    have e1 := (Boxed.new w 24 (.slice av ns.length cv)).alloc (.cells #[.int .i64 t.kind, .string ⟨t.name.toArray⟩, .string ⟨t.value.toArray⟩, .int .i64 t.a, .int .i64 t.b, .slice ax t.list.length cx] 29)
    have e2 := World.alloc_heap_new (w.alloc (.cells #[.slice av ns.length cv] 24)) (.cells #[.int .i64 t.kind, .string ⟨t.name.toArray⟩, .string ⟨t.value.toArray⟩, .int .i64 t.a, .int .i64 t.b, .slice ax t.list.length cx] 29)
    rw [World.size_alloc] at e2
    exact ⟨e1.cell, blk6c e2⟩
  have H8 : Hid (∀ W, Below w.heap.size w W → Calls Tryz.prog 8 #[.agg #[.slice av ns.length cv], .agg #[.int .i64 t.kind, .string ⟨t.name.toArray⟩, .string ⟨t.value.toArray⟩, .int .i64 t.a, .int .i64 t.b, .slice ax t.list.length cx], .int .i64 n] W fun e w' => e = .returned (.tuple #[.bool (matB ns (oneL t) n), .int .i64 (matchErr ns (oneL t) n)]) ∧ Below W.heap.size W w') := fun W hW => test_call _ _ ns t _ W (hv.on hW) (isL_2.on hx hW) (hL.forms.on hW) (hL.glob.on hW)
  have H10 : Hid (∀ W, Below w.heap.size w W → (W.cell? ⟨w.heap.size, 0, none⟩ = some (.slice av ns.length cv) ∧ W.cell? ⟨w.heap.size + 1, 0, none⟩ = some (.int .i64 t.kind) ∧ W.cell? ⟨w.heap.size + 1, 1, none⟩ = some (.string ⟨t.name.toArray⟩) ∧ W.cell? ⟨w.heap.size + 1, 2, none⟩ = some (.string ⟨t.value.toArray⟩) ∧ W.cell? ⟨w.heap.size + 1, 3, none⟩ = some (.int .i64 t.a) ∧ W.cell? ⟨w.heap.size + 1, 4, none⟩ = some (.int .i64 t.b) ∧ W.cell? ⟨w.heap.size + 1, 5, none⟩ = some (.slice ax t.list.length cx)) → Calls Tryz.prog 10 #[.agg #[.int .i64 t.kind, .string ⟨t.name.toArray⟩, .string ⟨t.value.toArray⟩, .int .i64 t.a, .int .i64 t.b, .slice ax t.list.length cx]] W fun e w' => ∃ a, e = .returned (.slice a 1 1) ∧ A3 w' (.slice a 1 1) (oneL t) ∧ (w'.cell? ⟨w.heap.size, 0, none⟩ = some (.slice av ns.length cv) ∧ w'.cell? ⟨w.heap.size + 1, 0, none⟩ = some (.int .i64 t.kind) ∧ w'.cell? ⟨w.heap.size + 1, 1, none⟩ = some (.string ⟨t.name.toArray⟩) ∧ w'.cell? ⟨w.heap.size + 1, 2, none⟩ = some (.string ⟨t.value.toArray⟩) ∧ w'.cell? ⟨w.heap.size + 1, 3, none⟩ = some (.int .i64 t.a) ∧ w'.cell? ⟨w.heap.size + 1, 4, none⟩ = some (.int .i64 t.b) ∧ w'.cell? ⟨w.heap.size + 1, 5, none⟩ = some (.slice ax t.list.length cx)) ∧ Below w.heap.size w w' ∧ Below W.heap.size W w') := fun W hW hS => (one_call _ t W (isL_2.on hx hW)).mono (fun e w' h => by
    obtain ⟨a, he, ha, hb⟩ := h
    exact ⟨a, he, ha, on7 hS hb, below_trans hW hb, hb⟩)
  have H9 : Hid (∀ W a, Below w.heap.size w W → A3 W (.slice a 1 1) (oneL t) → (W.cell? ⟨w.heap.size, 0, none⟩ = some (.slice av ns.length cv) ∧ W.cell? ⟨w.heap.size + 1, 0, none⟩ = some (.int .i64 t.kind) ∧ W.cell? ⟨w.heap.size + 1, 1, none⟩ = some (.string ⟨t.name.toArray⟩) ∧ W.cell? ⟨w.heap.size + 1, 2, none⟩ = some (.string ⟨t.value.toArray⟩) ∧ W.cell? ⟨w.heap.size + 1, 3, none⟩ = some (.int .i64 t.a) ∧ W.cell? ⟨w.heap.size + 1, 4, none⟩ = some (.int .i64 t.b) ∧ W.cell? ⟨w.heap.size + 1, 5, none⟩ = some (.slice ax t.list.length cx)) → Calls Tryz.prog 9 #[.agg #[.slice av ns.length cv], .slice a 1 1, .int .i64 n] W fun e w' => e = .returned (.int .i64 (matchErr ns (oneL t) n)) ∧ (w'.cell? ⟨w.heap.size, 0, none⟩ = some (.slice av ns.length cv) ∧ w'.cell? ⟨w.heap.size + 1, 0, none⟩ = some (.int .i64 t.kind) ∧ w'.cell? ⟨w.heap.size + 1, 1, none⟩ = some (.string ⟨t.name.toArray⟩) ∧ w'.cell? ⟨w.heap.size + 1, 2, none⟩ = some (.string ⟨t.value.toArray⟩) ∧ w'.cell? ⟨w.heap.size + 1, 3, none⟩ = some (.int .i64 t.a) ∧ w'.cell? ⟨w.heap.size + 1, 4, none⟩ = some (.int .i64 t.b) ∧ w'.cell? ⟨w.heap.size + 1, 5, none⟩ = some (.slice ax t.list.length cx)) ∧ Below w.heap.size w w' ∧ Below W.heap.size W w') := fun W a hW ha hS => (matchError_any _ _ ns (oneL t) _ W hv.2.2 (hv.1.on hW) ha).mono (fun e w' h => by
    obtain ⟨he, hb⟩ := h
    exact ⟨he, on7 hS hb, below_trans hW hb, hb⟩)
  have H11 : Hid (∀ W, Below w.heap.size w W → Calls Tryz.prog 11 #[] W fun e w' => e = .returned (.bool true) ∧ Below W.heap.size W w') := fun W hW => begun_any W (hL.on hW)
  have eM : matB ns (oneL t) n = false := by unfold matB; rw [if_neg hE0]
  rw [eM] at H8
  clear eM
  have hEb : (matchErr ns (oneL t) n == 0) = false := by simpa using hE0
  clear hv hx hL hE0 hb0
  obtain ⟨c0, t0, t1, t2, t3, t4, t5⟩ := HS.out
  generalize matchErr ns (oneL t) n = E at *
  go_enter Tryz.func3, Tryz.ntmps3
  go_wp2_with fail
  generalize (w.alloc (.cells #[.slice av ns.length cv] 24)).alloc (.cells #[.int .i64 t.kind, .string ⟨t.name.toArray⟩, .string ⟨t.value.toArray⟩, .int .i64 t.a, .int .i64 t.b, .slice ax t.list.length cx] 29) = W0 at *
  refine (H8.out _ HB0.out).mono ?_
  rintro e w1 ⟨rfl, hb1⟩
  have HB1 : Hid (Below w.heap.size w w1) := below_trans HB0.out hb1
  have S1 : w1.cell? ⟨w.heap.size, 0, none⟩ = some (.slice av ns.length cv) ∧ w1.cell? ⟨w.heap.size + 1, 0, none⟩ = some (.int .i64 t.kind) ∧ w1.cell? ⟨w.heap.size + 1, 1, none⟩ = some (.string ⟨t.name.toArray⟩) ∧ w1.cell? ⟨w.heap.size + 1, 2, none⟩ = some (.string ⟨t.value.toArray⟩) ∧ w1.cell? ⟨w.heap.size + 1, 3, none⟩ = some (.int .i64 t.a) ∧ w1.cell? ⟨w.heap.size + 1, 4, none⟩ = some (.int .i64 t.b) ∧ w1.cell? ⟨w.heap.size + 1, 5, none⟩ = some (.slice ax t.list.length cx) := on7 HS.out hb1
  have S0 : w1.drew.cell? ⟨w.heap.size, 0, none⟩ = some (.slice av ns.length cv) ∧ w1.drew.cell? ⟨w.heap.size + 1, 0, none⟩ = some (.int .i64 t.kind) ∧ w1.drew.cell? ⟨w.heap.size + 1, 1, none⟩ = some (.string ⟨t.name.toArray⟩) ∧ w1.drew.cell? ⟨w.heap.size + 1, 2, none⟩ = some (.string ⟨t.value.toArray⟩) ∧ w1.drew.cell? ⟨w.heap.size + 1, 3, none⟩ = some (.int .i64 t.a) ∧ w1.drew.cell? ⟨w.heap.size + 1, 4, none⟩ = some (.int .i64 t.b) ∧ w1.drew.cell? ⟨w.heap.size + 1, 5, none⟩ = some (.slice ax t.list.length cx) := on7 S1 ((Below.refl _ w1).drew)
  have HBD : Hid (Below w.heap.size w w1.drew) := HB1.out.drew
  clear c0 t0 t1 t2 t3 t4 t5 HS hb1 HB0 S1
  go_wp2_with fail
  go_cut [9] (fun s wx => s = .int .i64 E ∧ (wx.cell? ⟨w.heap.size, 0, none⟩ = some (.slice av ns.length cv) ∧ wx.cell? ⟨w.heap.size + 1, 0, none⟩ = some (.int .i64 t.kind) ∧ wx.cell? ⟨w.heap.size + 1, 1, none⟩ = some (.string ⟨t.name.toArray⟩) ∧ wx.cell? ⟨w.heap.size + 1, 2, none⟩ = some (.string ⟨t.value.toArray⟩) ∧ wx.cell? ⟨w.heap.size + 1, 3, none⟩ = some (.int .i64 t.a) ∧ wx.cell? ⟨w.heap.size + 1, 4, none⟩ = some (.int .i64 t.b) ∧ wx.cell? ⟨w.heap.size + 1, 5, none⟩ = some (.slice ax t.list.length cx)) ∧ Hid (Below w.heap.size w wx))
  case first =>
    go_region_held3 (fun w' => w'.cell? ⟨w.heap.size, 0, none⟩ = some (.slice av ns.length cv) ∧ w'.cell? ⟨w.heap.size + 1, 0, none⟩ = some (.int .i64 t.kind) ∧ w'.cell? ⟨w.heap.size + 1, 1, none⟩ = some (.string ⟨t.name.toArray⟩) ∧ w'.cell? ⟨w.heap.size + 1, 2, none⟩ = some (.string ⟨t.value.toArray⟩) ∧ w'.cell? ⟨w.heap.size + 1, 3, none⟩ = some (.int .i64 t.a) ∧ w'.cell? ⟨w.heap.size + 1, 4, none⟩ = some (.int .i64 t.b) ∧ w'.cell? ⟨w.heap.size + 1, 5, none⟩ = some (.slice ax t.list.length cx)) (first | with_reducible assumption | exact on7 S0 (Below.refl _ _) | exact on7 S2 (Below.refl _ _) | exact on7 S3 (Below.refl _ _))
      (first | (go_at_call 10; refine (H10.out _ ?_ ?_).mono ?_; exact HBD.out; exact S0; rintro e w2 ⟨a2, rfl, ha2, S2, HB2, hb2⟩) | (go_at_call 9; refine (H9.out _ _ ?_ ?_ ?_).mono ?_; exact HB2; exact ha2; exact S2; rintro e w3 ⟨rfl, S3, HB3, hb3⟩))
    all_goals
      go_wp2_with fail
      go_meet
      exact ⟨rfl, S3, HB3⟩
  case rest =>
    obtain ⟨rfl, HSC, HBC⟩ := hcut
    clear S0 HBD HB1
    obtain ⟨c0, t0, t1, t2, t3, t4, t5⟩ := HSC
    go_wp2_with fail
    refine (H11.out _ HBC.out).mono ?_
    rintro e w4 ⟨rfl, hb4⟩
    have HB4 : Hid (Below w.heap.size w w4) := below_trans HBC.out hb4
    have S4 : w4.cell? ⟨w.heap.size, 0, none⟩ = some (.slice av ns.length cv) ∧ w4.cell? ⟨w.heap.size + 1, 0, none⟩ = some (.int .i64 t.kind) ∧ w4.cell? ⟨w.heap.size + 1, 1, none⟩ = some (.string ⟨t.name.toArray⟩) ∧ w4.cell? ⟨w.heap.size + 1, 2, none⟩ = some (.string ⟨t.value.toArray⟩) ∧ w4.cell? ⟨w.heap.size + 1, 3, none⟩ = some (.int .i64 t.a) ∧ w4.cell? ⟨w.heap.size + 1, 4, none⟩ = some (.int .i64 t.b) ∧ w4.cell? ⟨w.heap.size + 1, 5, none⟩ = some (.slice ax t.list.length cx) := on7 ⟨c0, t0, t1, t2, t3, t4, t5⟩ hb4
    clear c0 t0 t1 t2 t3 t4 t5 hb4
    obtain ⟨c0, t0, t1, t2, t3, t4, t5⟩ := S4
    go_wp2
    go_ret
    exact ⟨rfl, HB4.out⟩
theorem tests_law (v x : Value) (ns : List Pl.Nd) (t : Pl.Tst Pl.D2) (n : Int) (w : World) (hv : DocAt w v ns) (hx : A2 w x t.list) (hL : Laid w) :
    Calls Tryz.prog 3 #[.agg #[v], .agg #[.int .i64 t.kind, .string ⟨t.name.toArray⟩, .string ⟨t.value.toArray⟩, .int .i64 t.a, .int .i64 t.b, x], .int .i64 n] w fun e w' => e = .returned (.bool true) ∧ Below w.heap.size w w' := by
  by_cases hE : matchErr ns (oneL t) n = 0
  · exact tests_yes v x ns t n w hv hx hL hE
  · exact tests_no v x ns t n w hv hx hL hE
end Go.Proofs.YtagobgjlhdbhmaaGreatDoor
/-
  What the row's list of laid variables gives; a world in which they hold what they are laid with.
-/
namespace Go.Proofs.YtagobgjlhdbhmaaGreatDoor
open Go.RowKit

theorem cl4 : Tryz.prog.cellsOf 4 = 1 := by kernel_rfl
theorem cl151 : Tryz.prog.cellsOf 151 = 7 := by kernel_rfl
theorem cl152 : Tryz.prog.cellsOf 152 = 112 := by kernel_rfl
theorem list7 {α : Type} {l : List α} (h : l.length = 7) : ∃ a b c d e f g, l = [a, b, c, d, e, f, g] := by
  match l, h with
  | [a, b, c, d, e, f, g], _ => exact ⟨a, b, c, d, e, f, g, rfl⟩
section
variable {H : Type} {enc : TypeId × Value → H} {W : World} {base : Nat} {sp : Nat → Bool} {held : Bool} {fuel : Nat} {cs : List Value} {p : List MemPlace}
theorem form_vals {a b c d : Bool} {e f g : List UInt8} (h : DataW.trod enc Tryz.prog W base sp held fuel 151 cs = some (.agg [.lit (.bool a), .lit (.bool b), .lit (.bool c), .lit (.bool d), .lit (.string e), .lit (.string f), .lit (.string g)], p)) :
    cs = [.bool a, .bool b, .bool c, .bool d, .string ⟨e.toArray⟩, .string ⟨f.toArray⟩, .string ⟨g.toArray⟩] := by
  obtain ⟨xs, m, _, hx, hl, hlen, hf⟩ := DataW.trod_struct Tryz.underlying151 h
  rw [cl151] at hl
  obtain ⟨v0, v1, v2, v3, v4, v5, v6, rfl⟩ := list7 hl
  obtain ⟨y0, y1, y2, y3, y4, y5, y6, rfl⟩ := list7 hlen
  have f0 : DataW.trod enc Tryz.prog W base sp held m 4 (([v0, v1, v2, v3, v4, v5, v6].drop 0).take (Tryz.prog.cellsOf 4)) = some y0 := hf 0 _ rfl
  rw [cl4] at f0
  replace f0 : DataW.trod enc Tryz.prog W base sp held m 4 [v0] = some y0 := f0
  have f1 : DataW.trod enc Tryz.prog W base sp held m 4 (([v0, v1, v2, v3, v4, v5, v6].drop 1).take (Tryz.prog.cellsOf 4)) = some y1 := hf 1 _ rfl
  rw [cl4] at f1
  replace f1 : DataW.trod enc Tryz.prog W base sp held m 4 [v1] = some y1 := f1
  have f2 : DataW.trod enc Tryz.prog W base sp held m 4 (([v0, v1, v2, v3, v4, v5, v6].drop 2).take (Tryz.prog.cellsOf 4)) = some y2 := hf 2 _ rfl
  rw [cl4] at f2
  replace f2 : DataW.trod enc Tryz.prog W base sp held m 4 [v2] = some y2 := f2
  have f3 : DataW.trod enc Tryz.prog W base sp held m 4 (([v0, v1, v2, v3, v4, v5, v6].drop 3).take (Tryz.prog.cellsOf 4)) = some y3 := hf 3 _ rfl
  rw [cl4] at f3
  replace f3 : DataW.trod enc Tryz.prog W base sp held m 4 [v3] = some y3 := f3
  have f4 : DataW.trod enc Tryz.prog W base sp held m 9 (([v0, v1, v2, v3, v4, v5, v6].drop 4).take (Tryz.prog.cellsOf 9)) = some y4 := hf 4 _ rfl
  rw [cl9] at f4
  replace f4 : DataW.trod enc Tryz.prog W base sp held m 9 [v4] = some y4 := f4
  have f5 : DataW.trod enc Tryz.prog W base sp held m 9 (([v0, v1, v2, v3, v4, v5, v6].drop 5).take (Tryz.prog.cellsOf 9)) = some y5 := hf 5 _ rfl
  rw [cl9] at f5
  replace f5 : DataW.trod enc Tryz.prog W base sp held m 9 [v5] = some y5 := f5
  have f6 : DataW.trod enc Tryz.prog W base sp held m 9 (([v0, v1, v2, v3, v4, v5, v6].drop 6).take (Tryz.prog.cellsOf 9)) = some y6 := hf 6 _ rfl
  rw [cl9] at f6
  replace f6 : DataW.trod enc Tryz.prog W base sp held m 9 [v6] = some y6 := f6
  obtain ⟨b0, e0, rfl⟩ := DataW.trod_bool Tryz.underlying4 f0
  obtain ⟨b1, e1, rfl⟩ := DataW.trod_bool Tryz.underlying4 f1
  obtain ⟨b2, e2, rfl⟩ := DataW.trod_bool Tryz.underlying4 f2
  obtain ⟨b3, e3, rfl⟩ := DataW.trod_bool Tryz.underlying4 f3
  obtain ⟨s4, e4, rfl, _⟩ := DataW.trod_string Tryz.underlying9 f4
  obtain ⟨s5, e5, rfl, _⟩ := DataW.trod_string Tryz.underlying9 f5
  obtain ⟨s6, e6, rfl, _⟩ := DataW.trod_string Tryz.underlying9 f6
  injection e0 with e0 _
  injection e1 with e1 _
  injection e2 with e2 _
  injection e3 with e3 _
  injection e4 with e4 _
  injection e5 with e5 _
  injection e6 with e6 _
  subst e0 e1 e2 e3 e4 e5 e6
  have hx1 := congrArg Prod.fst hx
  simp only [List.map_cons, List.map_nil, DataW.agg.injEq, List.cons.injEq, DataW.lit.injEq, Lit.bool.injEq, Lit.string.injEq, and_true] at hx1
  obtain ⟨rfl, rfl, rfl, rfl, rfl, rfl, rfl⟩ := hx1
  simp
end
def fD (k : Nat) : DataW Unit := .agg [.lit (.bool (Pl.kName k)), .lit (.bool (Pl.kValue k)), .lit (.bool (Pl.kNth k)), .lit (.bool (Pl.kList k)), .lit (.string (fBegin k)), .lit (.string (fSign k)), .lit (.string (fEnd k))]
theorem forms_data : (Rows.laid_pathfindery_path_forms : DataW Unit) = .agg ((List.range 16).map fD) := by kernel_rfl
theorem gForms : Tryz.prog.globalNamed "pathfindery/path.forms" = some 0 := by kernel_rfl
theorem tForms : (Tryz.prog.globals[0]?).map (·.type) = some 152 := by kernel_rfl
theorem at_k {xs : List (DataW Unit × List MemPlace)} {n : Nat} {g : Nat → DataW Unit} (h : xs.map (·.1) = (List.range n).map g) {k : Nat} (hk : k < n) : ∃ p, xs[k]? = some (g k, p) := by
  have : (xs.map (·.1))[k]? = some (g k) := by rw [h]; simp [hk]
  rw [List.getElem?_map, Option.map_eq_some_iff] at this
  obtain ⟨⟨y, p⟩, h1, h2⟩ := this
  exact ⟨p, by rw [h1]; simp only at h2; rw [h2]⟩
theorem forms_of {W : World} {r : List (String × DataW Unit)} (h : laidMet Tryz.prog (("pathfindery/path.forms", Rows.laid_pathfindery_path_forms) :: r) W) : FormsAt W := by
  rw [forms_data] at h
  obtain ⟨ps, ⟨g, t, cs, fuel, p, q, hg, ht, hvar, hd, _, _⟩, _⟩ := h
  obtain rfl := Option.some.inj (gForms.symm.trans hg)
  obtain rfl := Option.some.inj (tForms.symm.trans ht)
  obtain ⟨xs, m, _, hx, hl, hlen, hf⟩ := DataW.trod_array Tryz.underlying152 hd
  have hx1 := congrArg Prod.fst hx
  simp only [DataW.agg.injEq] at hx1
  intro k hk
  obtain ⟨p', hk'⟩ := at_k hx1.symm (k := k) (by omega)
  have hf' := hf k (by omega)
  rw [hk', cl151] at hf'
  have hv := form_vals hf'
  have hget : ∀ (j : Nat), j < 7 → W.cell? ⟨0, k * 7 + j, none⟩ = ((cs.toList.drop (k * 7)).take 7)[j]? := by
    intro j hj
    rw [World.var?_cell gForms hvar, List.getElem?_take_of_lt hj, List.getElem?_drop, Array.getElem?_toList]
  rw [hv] at hget
  exact ⟨hget 0 (by omega), hget 1 (by omega), hget 2 (by omega), hget 3 (by omega), hget 4 (by omega), hget 5 (by omega), hget 6 (by omega)⟩
theorem laid_of {W : World} (h : laidMet Tryz.prog [("unicode/utf8.acceptRanges", Rows.laid_unicode_utf8_acceptRanges), ("pathfindery/path.forms", Rows.laid_pathfindery_path_forms), ("unicode/utf8.first", Rows.laid_unicode_utf8_first)] W) (hS : W.ShapedOpen Tryz.prog) : Laid W :=
  ⟨forms_of (laidMet.tail h), cell_of_shapedOpen_int (g := 1) (t := 3) (zero := #[.int .i64 0]) hS (of_decide_eq_true (by kernel_rfl)) (by kernel_rfl) rfl (by kernel_rfl) (by kernel_rfl) Tryz.underlying3⟩
theorem ownTryz : ownKnob Tryz.prog.godebug = none := by kernel_rfl
theorem laidOutTryz : laidOutB Tryz.prog = true := by kernel_rfl
def filled (vs : List Value) : Obj → Obj
  | .cells _ t frozen => .cells vs.toArray t frozen
  | o => o
def ranges : List Value := ([128, 191, 160, 191, 128, 159, 144, 191, 128, 143, 0, 0, 0, 0, 0, 0, 0, 0, 0, 0, 0, 0, 0, 0, 0, 0, 0, 0, 0, 0, 0, 0] : List Int).map fun z => Value.int .u8 z
def firsts : List Value := Go.Pinned.utf8FirstZ.map fun (z : Nat) => Value.int .u8 (z : Int)
def formsV : List Value := (List.range 16).flatMap fun (k : Nat) => [.bool (Pl.kName k), .bool (Pl.kValue k), .bool (Pl.kNth k), .bool (Pl.kList k), .string ⟨(fBegin k).toArray⟩, .string ⟨(fSign k).toArray⟩, .string ⟨(fEnd k).toArray⟩]
def laidIn (w : World) : World := { w with heap := ((w.heap.modify 0 (filled formsV)).modify 2 (filled firsts)).modify 3 (filled ranges) }
end Go.Proofs.YtagobgjlhdbhmaaGreatDoor
