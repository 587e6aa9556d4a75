/-
  What is found of lists; Matches.
-/
import Derived.Test.YtephhllfodlfbaaGreatDoorMaV
import Derived.Test.YtephhllfodlfbaaGreatDoorMaK
import Derived.Test.YtephhllfodlfbaaGreatDoorRmD
import Derived.Test.YtephhllfodlfbaaGreatDoorRows
import Derived.Lib.LaidTab
import Derived.Stop.LaidErr
import Derived.OpenShut
import Derived.LaidLaws
import Derived.Shelf.Vars
namespace Go.Proofs.YtephhllfodlfbaaGreatDoor
open Go.RowKit

theorem oFL_z : OFL ZAt (fun ns => m0 ns) R0 := fun _ _ _ _ _ _ _ _ _ _ _ _ h => h.elim
theorem oFL_up {α : Type} {A : MemL α} (hA : IsL A) {g : List Pl.Nd → List α → Nat → Bool} {R : List α → Prop} (h : OFL A g R) : OFL (LstAt A) (fun ns => lstM ns (g ns)) (RL R) :=
  ofList_up hA (ofPath_up hA (ofStep_up hA (asking_up hA h (asking_has hA h over_any) (attrs_up con_any hasWord_any))) goOn_any)
theorem ofList_any : OFL A3 (fun ns => m3 ns) R3 := oFL_up isL_2 (oFL_up isL_1 (oFL_up isL_z oFL_z))
theorem rd_of {w : World} {b o : Nat} {ns : List Pl.Nd} (h : Pl.checkDoc ns = 0) (hc : ∀ i (h : i < ns.length), NdAt w b (o + i * 5) ns[i]) : RD w b o ns := by
  obtain ⟨-, h2, h3, h4⟩ := (Pl.check_iff ns).1 h
  refine ⟨hc, h2, fun k hk => ?_, fun x hx => ?_⟩
  · have := h4 k hk
    by_cases h0 : k = 0
    · have := this.1 h0
      omega
    · have := this.2 (by omega)
      omega
  · exact (by obtain ⟨i, hi, rfl⟩ := List.getElem_of_mem hx; exact (okTo_right (check_zero h).2.2 hi hi).1)
/-- a document that is handed in, laid open -/
theorem doc_parts {w : World} {v : Value} {ns : List Pl.Nd} (h : DocAt w v ns) (hc : Pl.checkDoc ns = 0) : ∃ b o cap, v = .slice (some ⟨b, o, none⟩) ns.length cap ∧ RD w b o ns ∧ ns.length ≤ cap ∧ 1 ≤ ns.length ∧ Pl.GoodTo ns ns.length := by
  obtain ⟨⟨a, cap, rfl, h1⟩, ⟨a', l', c', e, hlc, -⟩, -⟩ := h
  injection e with e1 e2 e3
  subst e1 e2 e3
  obtain ⟨g1, g2, g3, g4⟩ := (Pl.check_iff ns).1 hc
  rcases h1 with h0 | ⟨b, o, rfl, hcs⟩
  · subst h0
    simp at g1
  · exact ⟨b, o, cap, rfl, rd_of hc hcs, hlc, g1, g4⟩
end Go.Proofs.YtephhllfodlfbaaGreatDoor
/-
  All, and Nearest.
-/
namespace Go.Proofs.YtephhllfodlfbaaGreatDoor
open Go.RowKit Go.Shelf

attribute [local go_sem] Oper.semAt_some

def allA (ns : List Pl.Nd) (l : List Pl.D3) : List Nat := if chkBoth ns l = 0 then allTo (m3 ns l) ns.length else []
theorem chkBoth_zero {ns : List Pl.Nd} {l : List Pl.D3} (h : chkBoth ns l = 0) : Pl.checkDoc ns = 0 ∧ chkList l = 0 := by
  unfold chkBoth at h
  split at h
  · exact ⟨by assumption, h⟩
  · omega
theorem intsF_nil (B : Nat) (w : World) : IntsF B w (.slice none 0 0) [] := ⟨none, 0, rfl, Or.inl rfl⟩
set_option maxRecDepth 100000 in
set_option maxHeartbeats 2000000 in
theorem all_call (v u : Value) (ns : List Pl.Nd) (l : List Pl.D3) (w : World) (hv : DocAt w v ns) (hl : A3 w u l) (hF : FormsAt w) (hG : Glob w) :
    Calls Tryz.prog 12 #[.agg #[v], u] w fun e w' => ∃ x, e = .returned (.tuple #[x, .int .i64 (chkBoth ns l)]) ∧ IntsF w.heap.size w' x (allA ns l) ∧ Below w.heap.size w w' := by
  obtain ⟨av, cv, rfl, -⟩ := id hv.1
  obtain ⟨al, cl, rfl, -⟩ := isL_3.form hl
  have HB : Hid (Below w.heap.size w (w.alloc (.cells #[.slice av ns.length cv] 24))) := on_alloc _ _
  have c0 : (w.alloc (.cells #[.slice av ns.length cv] 24)).cell? ⟨w.heap.size, 0, none⟩ = some (.slice av ns.length cv) := by simp [go_sem]
  have HC1 : Hid (Calls Tryz.prog 46 _ _ _) := mcheck_any (.slice av ns.length cv) (.slice al l.length cl) ns l _ hv.2.2 (hv.1.on HB.out) (isL_3.on hl HB.out) (hF.on HB.out)
  have HV : Hid (DocAt w (.slice av ns.length cv) ns) := hv
  have HL : Hid (A3 w (.slice al l.length cl) l) := hl
  have HG : Hid (Glob w) := hG
  have HZ : Hid (chkBoth ns l = 0 → Pl.checkDoc ns = 0 ∧ chkList l = 0) := chkBoth_zero
  have HMB : Hid (allA ns l = if chkBoth ns l = 0 then allTo (m3 ns l) ns.length else []) := rfl
  clear hv hl hF hG
  generalize allA ns l = mb at *
  generalize chkBoth ns l = me at *
  obtain ⟨i0, hi, hz0, hz1, hz2⟩ := info_parts Tryz.info3
  go_enter Tryz.func12, Tryz.ntmps12
  go_wp2_with fail
  refine HC1.out.mono ?_
  rintro e w1 ⟨rfl, hb1⟩
  have HB1 : Hid (Below w.heap.size w w1) := below_trans HB.out hb1
  have c1 := cell_on hb1 c0
  clear hb1 c0
  by_cases h1 : me = 0
  · subst h1
    rw [if_pos rfl] at HMB
    obtain ⟨z1, z2⟩ := HZ.out rfl
    obtain ⟨b, o, cap, e, hRD, hcap, hN, hgd⟩ := doc_parts HV.out z1
    injection e with e1 e2 e3
    subst e1 e3
    have HC2 : Hid (Calls Tryz.prog 47 _ _ _) := grow_call w1 b o cv ns (HG.out.on HB1.out) (hRD.on HB1.out) hN hgd hcap
    have HR3 : Hid (R3 l) := (R3_iff l).2 z2
    have h64 := hRD.n64
    clear z1 z2 hRD hN hgd hcap HZ
    go_wp2_with fail
    refine HC2.out.mono ?_
    rintro e w2 ⟨bk, bn, bl, rfl, hTR, hb2⟩
    have HB2 : Hid (Below w.heap.size w w2) := below_trans HB1.out hb2
    have HC3 : Hid (Calls Tryz.prog 48 _ _ _) := ofList_any w2 b o cv bk bn bl ns _ l hTR (isL_3.on HL.out HB2.out) HR3.out
    clear hTR hb2 c1 HC2
    go_wp2_with fail
    refine HC3.out.mono ?_
    rintro e w3 ⟨gB, rfl, -, hrow, hb3⟩
    have HB3 : Hid (Below w.heap.size w w3) := below_trans HB2.out hb3
    obtain ⟨q, hq⟩ : ∃ q, q = m3 ns l := ⟨_, rfl⟩
    rw [← hq] at HMB
    have HRW : Hid (BRow w3 gB ((List.range ns.length).map q)) := by
      rw [hq]
      exact hrow
    clear hrow hb3 HC3 hq
    go_wp2_with fail
    go_loopw [7, 22] (fun v i wr => ∃ k : Nat, k ≤ ns.length ∧ i = .int .i64 k ∧ Hid (wr.ownsRow w3.heap.size 3 1 v (allTo q k).length (natCells (allTo q k))) ∧ Hid (Below w3.heap.size w3 wr)) (fun _ i _ => ns.length - (intOf i).toNat)
    case atStart => exact ⟨0, Nat.zero_le _, rfl, World.ownsRow_nil _ _ _ _, Below.refl _ _⟩
    case round =>
      obtain ⟨k, hk, rfl, HOWN, HBB⟩ := hrel
      by_cases hlt : k < ns.length
      · have c3 : wr.cell? ⟨gB, k, none⟩ = some (.bool (q k)) := by
          have := (HRW.out.on HBB.out).cell (i := k) (by simpa using hlt)
          simpa using this
        have hkl := allTo_len q k
        have i1 : (0 : Int) ≤ (k : Int) := by omega
        have i2 : (k : Int) < (ns.length : Int) := by omega
        cases hqk : q k with
        | true =>
          have HK : Hid (allTo q (k + 1) = allTo q k ++ [k]) := allTo_hit q k hqk
          rw [hqk] at c3
          have hown : wr.ownsRow w3.heap.size 3 1 u7 (allTo q k).length (natCells (allTo q k)) := HOWN.out
          have hB : Below w3.heap.size w3 wr := HBB.out
          clear hqk
          go_wp2_with (at_builtin; refine wpList_append_own _ rfl _ _ 40 rfl w3.heap.size 3 i0 (.int .i64 0) 1 8 Tryz.underlying40 hi hz0 hz1 hz2 rfl (by decide) _ _ _ rfl (hown.alloc _) ⟨wr.heap.size, 0, none⟩ 1 1 [.int .i64 k] rfl rfl ?c1 ?c2 ?c3 ?c4 ?c5 ?_)
          case c1 =>
            intro j u hj
            match j, hj with
            | 0, hj => simp at hj; subst hj; simp [Addr.add, go_sem]
          case c2 => intro u hu; simp at hu; subst hu; rfl
          case c3 => unfold maxLen; omega
          case c4 => omega
          case c5 => have := hB.size; simp; omega
          intro v' w1 hown' hgrow _
          have HB1 : Hid (Below w3.heap.size w3 w1) := (hB.alloc hB.size _).grown hgrow (by have := hB.size; simp; omega) (fun g hg => by have := (World.ownsRow.lt hown g hg).1; omega)
          have HOW1 : Hid (w1.ownsRow w3.heap.size 3 1 v' (allTo q (k + 1)).length (natCells (allTo q (k + 1)))) := by
            unfold Hid
            rw [HK.out]
            simpa [natCells] using hown'
          clear hgrow hown hown' hB
          go_wp2
          exact ⟨⟨k + 1, hlt, by go_num, HOW1, HB1⟩, by simp [intOf]; omega⟩
        | false =>
          have HK : Hid (allTo q (k + 1) = allTo q k) := allTo_miss q k hqk
          rw [hqk] at c3
          have HOW2 : Hid (wr.ownsRow w3.heap.size 3 1 u7 (allTo q (k + 1)).length (natCells (allTo q (k + 1)))) := by
            unfold Hid
            rw [HK.out]
            exact HOWN.out
          clear hqk
          go_wp2
          exact ⟨⟨k + 1, hlt, by go_num, HOW2, HBB⟩, by simp [intOf]; omega⟩
      · have hkl : k = ns.length := by omega
        have HF : Hid (IntsF w.heap.size wr u7 mb) := by
          have h1 := intsF_of_row HOWN.out
          rw [hkl, ← HMB.out] at h1
          exact h1.mono HB3.out.size
        have HBF : Hid (Below w.heap.size w wr) := below_trans HB3.out HBB.out
        clear hkl
        go_wp2
        go_ret2
        exact ⟨_, rfl, HF.out, HBF.out⟩
  · rw [if_neg h1] at HMB
    have b1 : (me == 0) = false := by simpa using h1
    have hmb : mb = [] := HMB.out
    subst hmb
    clear h1
    go_wp2
    go_ret2
    exact ⟨_, rfl, intsF_nil _ _, HB1.out⟩
end Go.Proofs.YtephhllfodlfbaaGreatDoor
/-
  Nearest.
-/
namespace Go.Proofs.YtephhllfodlfbaaGreatDoor
open Go.RowKit Go.Shelf

attribute [local go_sem] Oper.semAt_some

section
variable {w W W' : World} {x z : Int} {y : Bool}
end
end Go.Proofs.YtephhllfodlfbaaGreatDoor
/-
  What is the same is told the same.
-/
namespace Go.Proofs.YtephhllfodlfbaaGreatDoor
open Go.RowKit

set_option maxHeartbeats 2000000 in
theorem sameInts_eq (v1 v2 : Value) (ks : List Int) (w : World) (hl : ks.length ≤ 64) (h1 : IntsAt w v1 ks) (h2 : IntsAt w v2 ks) :
    Calls Tryz.prog 13 #[v1, v2] w fun e w' => e = .returned (.bool true) ∧ Below w.heap.size w w' := by
  obtain ⟨a1, c1, rfl, h1⟩ := h1
  obtain ⟨a2, c2, rfl, h2⟩ := h2
  have H1 : Hid _ := h1
  have H2 : Hid _ := h2
  clear h1 h2
  go_enter Tryz.func13, Tryz.ntmps13
  go_wp2
  go_loopw [5] (fun i wr => ∃ k : Nat, k ≤ ks.length ∧ i = .int .i64 k ∧ Below w.heap.size w wr) (fun i _ => ks.length - (intOf i).toNat)
  case atStart => exact ⟨0, Nat.zero_le _, rfl, Below.refl _ _⟩
  case round =>
    obtain ⟨k, hk, rfl, hB⟩ := hrel
    by_cases hlt : k < ks.length
    · rcases H1.out with h0 | ⟨b, o, rfl, hc⟩
      · subst h0; simp at hlt
      rcases H2.out with h0 | ⟨b2, o2, rfl, hc2⟩
      · subst h0; simp at hlt
      have n0 : wr.cell? ⟨b, o + k, none⟩ = some (.int .i64 ks[k]) := cell_on hB (hc k hlt)
      have n1 : wr.cell? ⟨b2, o2 + k, none⟩ = some (.int .i64 ks[k]) := cell_on hB (hc2 k hlt)
      have i1 : (0 : Int) ≤ (k : Int) := by omega
      have i2 : (k : Int) < (ks.length : Int) := by omega
      clear hc hc2
      generalize ks[k] = u at *
      go_wp2
      go_quiet (fail)
      go_wp2
      exact ⟨⟨k + 1, hlt, by go_num, below_drewN hB _⟩, by simp [intOf]; omega⟩
    · have hkl : k = ks.length := by omega
      subst hkl
      go_wp2
      go_ret
      exact ⟨rfl, hB⟩
end Go.Proofs.YtephhllfodlfbaaGreatDoor
/-
  The same documents are told the same.
-/
namespace Go.Proofs.YtephhllfodlfbaaGreatDoor
open Go.RowKit

end Go.Proofs.YtephhllfodlfbaaGreatDoor
/-
  The small document.
-/
namespace Go.Proofs.YtephhllfodlfbaaGreatDoor
open Go.RowKit

def smallNs : List Pl.Nd :=
  [⟨-1, [108, 105, 115, 116], [116, 111, 112], [], []⟩, ⟨0, [105, 116, 101, 109], [], [[97]], []⟩, ⟨0, [105, 116, 101, 109], [], [[98]], []⟩, ⟨2, [108, 105, 110, 107], [], [], [([116, 111], [111, 110, 101, 32, 116, 119, 111])]⟩, ⟨0, [105, 116, 101, 109], [], [[97]], []⟩]

end Go.Proofs.YtephhllfodlfbaaGreatDoor
/-
  The list that the laws begin with; Test.
-/
namespace Go.Proofs.YtephhllfodlfbaaGreatDoor
open Go.RowKit

def tt10 : Pl.Tst Pl.D1 := ⟨10, [], [], 0, 1, []⟩
def tt8 : Pl.Tst Pl.D1 := ⟨8, [116, 111], [116, 119, 111], 0, 0, []⟩
def inA : Pl.D2 := ⟨[⟨[], [tt10]⟩], []⟩
def inB : Pl.D2 := ⟨[⟨[], [tt8]⟩], []⟩
def lkA : Pl.D3 := ⟨[⟨[105, 116, 101, 109], [⟨13, [], [], 0, 0, [inA]⟩]⟩, ⟨[], [⟨15, [], [], 0, 0, [inB]⟩]⟩], [3]⟩
def lkB : Pl.D3 := ⟨[⟨[], [⟨2, [116, 111, 112], [], 0, 0, []⟩]⟩], []⟩
def lkL : List Pl.D3 := [lkA, lkB]
end Go.Proofs.YtephhllfodlfbaaGreatDoor
/-
  What the laws of matching begin with.
-/
namespace Go.Proofs.YtephhllfodlfbaaGreatDoor
open Go.RowKit

/-- what the program's road needs of the variables -/
structure Laid (w : World) : Prop where
  forms : FormsAt w
  glob : Glob w
theorem Laid.on {w w' : World} (h : Laid w) (hb : Below w.heap.size w w') : Laid w' := ⟨h.forms.on hb, h.glob.on hb⟩
section
variable (W : World) (v u : Value) (hv : DocAt W v smallNs) (hu : A3 W u lkL) (hL : Laid W)
include hv hu hL
end
end Go.Proofs.YtephhllfodlfbaaGreatDoor
/-
  MatchTells: the law.
-/
namespace Go.Proofs.YtephhllfodlfbaaGreatDoor
open Go.RowKit

theorem allA_len (ns : List Pl.Nd) (l : List Pl.D3) : ((allA ns l).map fun (k : Nat) => (k : Int)).length ≤ 64 := by
  unfold allA
  by_cases h : chkBoth ns l = 0
  · rw [if_pos h, List.length_map]
    have h1 := ((Pl.check_iff ns).1 (chkBoth_zero h).1).2.1
    exact Nat.le_trans (allTo_len _ _) h1
  · rw [if_neg h]
    simp
end Go.Proofs.YtephhllfodlfbaaGreatDoor
/-
  MatchTests: the law.
-/
namespace Go.Proofs.YtephhllfodlfbaaGreatDoor
open Go.RowKit

end Go.Proofs.YtephhllfodlfbaaGreatDoor
/-
  What the row's list of laid variables gives; a world in which they hold what they are laid with.
-/
namespace Go.Proofs.YtephhllfodlfbaaGreatDoor
open Go.RowKit

theorem cl4 : Tryz.prog.cellsOf 4 = 1 := by kernel_rfl
theorem cl151 : Tryz.prog.cellsOf 163 = 7 := by kernel_rfl
theorem list7 {α : Type} {l : List α} (h : l.length = 7) : ∃ a b c d e f g, l = [a, b, c, d, e, f, g] := by
  match l, h with
  | [a, b, c, d, e, f, g], _ => exact ⟨a, b, c, d, e, f, g, rfl⟩
section
variable {H : Type} {enc : TypeId × Value → H} {W : World} {base : Nat} {sp : Nat → Bool} {held : Bool} {fuel : Nat} {cs : List Value} {p : List MemPlace}
theorem form_vals {a b c d : Bool} {e f g : List UInt8} (h : DataW.trod enc Tryz.prog W base sp held fuel 163 cs = some (.agg [.lit (.bool a), .lit (.bool b), .lit (.bool c), .lit (.bool d), .lit (.string e), .lit (.string f), .lit (.string g)], p)) :
    cs = [.bool a, .bool b, .bool c, .bool d, .string ⟨e.toArray⟩, .string ⟨f.toArray⟩, .string ⟨g.toArray⟩] := by
  obtain ⟨xs, m, _, hx, hl, hlen, hf⟩ := DataW.trod_struct Tryz.underlying163 h
  rw [cl151] at hl
  obtain ⟨v0, v1, v2, v3, v4, v5, v6, rfl⟩ := list7 hl
  obtain ⟨y0, y1, y2, y3, y4, y5, y6, rfl⟩ := list7 hlen
  have f0 : DataW.trod enc Tryz.prog W base sp held m 4 (([v0, v1, v2, v3, v4, v5, v6].drop 0).take (Tryz.prog.cellsOf 4)) = some y0 := hf 0 _ rfl
  rw [cl4] at f0
  replace f0 : DataW.trod enc Tryz.prog W base sp held m 4 [v0] = some y0 := f0
  have f1 : DataW.trod enc Tryz.prog W base sp held m 4 (([v0, v1, v2, v3, v4, v5, v6].drop 1).take (Tryz.prog.cellsOf 4)) = some y1 := hf 1 _ rfl
  rw [cl4] at f1
  replace f1 : DataW.trod enc Tryz.prog W base sp held m 4 [v1] = some y1 := f1
  have f2 : DataW.trod enc Tryz.prog W base sp held m 4 (([v0, v1, v2, v3, v4, v5, v6].drop 2).take (Tryz.prog.cellsOf 4)) = some y2 := hf 2 _ rfl
  rw [cl4] at f2
  replace f2 : DataW.trod enc Tryz.prog W base sp held m 4 [v2] = some y2 := f2
  have f3 : DataW.trod enc Tryz.prog W base sp held m 4 (([v0, v1, v2, v3, v4, v5, v6].drop 3).take (Tryz.prog.cellsOf 4)) = some y3 := hf 3 _ rfl
  rw [cl4] at f3
  replace f3 : DataW.trod enc Tryz.prog W base sp held m 4 [v3] = some y3 := f3
  have f4 : DataW.trod enc Tryz.prog W base sp held m 9 (([v0, v1, v2, v3, v4, v5, v6].drop 4).take (Tryz.prog.cellsOf 9)) = some y4 := hf 4 _ rfl
  rw [cl9] at f4
  replace f4 : DataW.trod enc Tryz.prog W base sp held m 9 [v4] = some y4 := f4
  have f5 : DataW.trod enc Tryz.prog W base sp held m 9 (([v0, v1, v2, v3, v4, v5, v6].drop 5).take (Tryz.prog.cellsOf 9)) = some y5 := hf 5 _ rfl
  rw [cl9] at f5
  replace f5 : DataW.trod enc Tryz.prog W base sp held m 9 [v5] = some y5 := f5
  have f6 : DataW.trod enc Tryz.prog W base sp held m 9 (([v0, v1, v2, v3, v4, v5, v6].drop 6).take (Tryz.prog.cellsOf 9)) = some y6 := hf 6 _ rfl
  rw [cl9] at f6
  replace f6 : DataW.trod enc Tryz.prog W base sp held m 9 [v6] = some y6 := f6
  obtain ⟨b0, e0, rfl⟩ := DataW.trod_bool Tryz.underlying4 f0
  obtain ⟨b1, e1, rfl⟩ := DataW.trod_bool Tryz.underlying4 f1
  obtain ⟨b2, e2, rfl⟩ := DataW.trod_bool Tryz.underlying4 f2
  obtain ⟨b3, e3, rfl⟩ := DataW.trod_bool Tryz.underlying4 f3
  obtain ⟨s4, e4, rfl, _⟩ := DataW.trod_string Tryz.underlying9 f4
  obtain ⟨s5, e5, rfl, _⟩ := DataW.trod_string Tryz.underlying9 f5
  obtain ⟨s6, e6, rfl, _⟩ := DataW.trod_string Tryz.underlying9 f6
  injection e0 with e0 _
  injection e1 with e1 _
  injection e2 with e2 _
  injection e3 with e3 _
  injection e4 with e4 _
  injection e5 with e5 _
  injection e6 with e6 _
  subst e0 e1 e2 e3 e4 e5 e6
  have hx1 := congrArg Prod.fst hx
  simp only [List.map_cons, List.map_nil, DataW.agg.injEq, List.cons.injEq, DataW.lit.injEq, Lit.bool.injEq, Lit.string.injEq, and_true] at hx1
  obtain ⟨rfl, rfl, rfl, rfl, rfl, rfl, rfl⟩ := hx1
  simp
end
def fD (k : Nat) : DataW Unit := .agg [.lit (.bool (Pl.kName k)), .lit (.bool (Pl.kValue k)), .lit (.bool (Pl.kNth k)), .lit (.bool (Pl.kList k)), .lit (.string (fBegin k)), .lit (.string (fSign k)), .lit (.string (fEnd k))]
theorem forms_data : (Rows.laid_pathfindery_path_forms : DataW Unit) = .agg ((List.range 16).map fD) := by kernel_rfl
theorem gForms : Tryz.prog.globalNamed "pathfindery/path.forms" = some 0 := by kernel_rfl
theorem tForms : (Tryz.prog.globals[0]?).map (·.type) = some 164 := by kernel_rfl
theorem at_k {xs : List (DataW Unit × List MemPlace)} {n : Nat} {g : Nat → DataW Unit} (h : xs.map (·.1) = (List.range n).map g) {k : Nat} (hk : k < n) : ∃ p, xs[k]? = some (g k, p) := by
  have : (xs.map (·.1))[k]? = some (g k) := by rw [h]; simp [hk]
  rw [List.getElem?_map, Option.map_eq_some_iff] at this
  obtain ⟨⟨y, p⟩, h1, h2⟩ := this
  exact ⟨p, by rw [h1]; simp only at h2; rw [h2]⟩
theorem forms_of {W : World} {r : List (String × DataW Unit)} (h : laidMet Tryz.prog (("pathfindery/path.forms", Rows.laid_pathfindery_path_forms) :: r) W) : FormsAt W := by
  rw [forms_data] at h
  obtain ⟨ps, ⟨g, t, cs, fuel, p, q, hg, ht, hvar, hd, _, _⟩, _⟩ := h
  obtain rfl := Option.some.inj (gForms.symm.trans hg)
  obtain rfl := Option.some.inj (tForms.symm.trans ht)
  obtain ⟨xs, m, _, hx, hl, hlen, hf⟩ := DataW.trod_array Tryz.underlying164 hd
  have hx1 := congrArg Prod.fst hx
  simp only [DataW.agg.injEq] at hx1
  intro k hk
  obtain ⟨p', hk'⟩ := at_k hx1.symm (k := k) (by omega)
  have hf' := hf k (by omega)
  rw [hk', cl151] at hf'
  have hv := form_vals hf'
  have hget : ∀ (j : Nat), j < 7 → W.cell? ⟨0, k * 7 + j, none⟩ = ((cs.toList.drop (k * 7)).take 7)[j]? := by
    intro j hj
    rw [World.var?_cell gForms hvar, List.getElem?_take_of_lt hj, List.getElem?_drop, Array.getElem?_toList]
  rw [hv] at hget
  exact ⟨hget 0 (by omega), hget 1 (by omega), hget 2 (by omega), hget 3 (by omega), hget 4 (by omega), hget 5 (by omega), hget 6 (by omega)⟩
theorem laid_of {W : World} (h : laidMet Tryz.prog [("unicode/utf8.acceptRanges", Rows.laid_unicode_utf8_acceptRanges), ("pathfindery/path.forms", Rows.laid_pathfindery_path_forms), ("unicode/utf8.first", Rows.laid_unicode_utf8_first)] W) (hS : W.ShapedOpen Tryz.prog) : Laid W :=
  ⟨forms_of (laidMet.tail h), cell_of_shapedOpen_int (g := 1) (t := 3) (zero := #[.int .i64 0]) hS (of_decide_eq_true (by kernel_rfl)) (by kernel_rfl) rfl (by kernel_rfl) (by kernel_rfl) Tryz.underlying3⟩
theorem ownTryz : ownKnob Tryz.prog.godebug = none := by kernel_rfl
theorem laidOutTryz : laidOutB Tryz.prog = true := by kernel_rfl
def filled (vs : List Value) : Obj → Obj
  | .cells _ t frozen => .cells vs.toArray t frozen
  | o => o
def ranges : List Value := ([128, 191, 160, 191, 128, 159, 144, 191, 128, 143, 0, 0, 0, 0, 0, 0, 0, 0, 0, 0, 0, 0, 0, 0, 0, 0, 0, 0, 0, 0, 0, 0] : List Int).map fun z => Value.int .u8 z
def firsts : List Value := Go.Pinned.utf8FirstZ.map fun (z : Nat) => Value.int .u8 (z : Int)
def formsV : List Value := (List.range 16).flatMap fun (k : Nat) => [.bool (Pl.kName k), .bool (Pl.kValue k), .bool (Pl.kNth k), .bool (Pl.kList k), .string ⟨(fBegin k).toArray⟩, .string ⟨(fSign k).toArray⟩, .string ⟨(fEnd k).toArray⟩]
def laidIn (w : World) : World := { w with heap := ((w.heap.modify 0 (filled formsV)).modify 2 (filled firsts)).modify 3 (filled ranges) }
end Go.Proofs.YtephhllfodlfbaaGreatDoor
