/-
  live's inner calls: a document made a page, a page checked.
-/
import Derived.Test.YtephhllfodlfbaaGreatDoorLiy
import Derived.Test.YtephhllfodlfbaaGreatDoorVIdxU
import Derived.Deep.RegionLaw
import Derived.Test.YtephhllfodlfbaaGreatDoorRem
import Derived.Test.YtephhllfodlfbaaGreatDoorIdxM
import Derived.Test.YtephhllfodlfbaaGreatDoorMem
import Derived.Test.YtephhllfodlfbaaGreatDoorKids
import Derived.Test.YtephhllfodlfbaaGreatDoorTrek
import Derived.Test.YtephhllfodlfbaaGreatDoorVRem
import Derived.Test.YtephhllfodlfbaaGreatDoorVAsk
import Derived.Test.YtephhllfodlfbaaGreatDoorAsk
import Derived.Test.YtephhllfodlfbaaGreatDoorIsR
import Derived.Test.YtephhllfodlfbaaGreatDoorMbD
import Derived.Test.YtephhllfodlfbaaGreatDoorRcB
import Derived.Test.YtephhllfodlfbaaGreatDoorVPut
import Derived.Test.YtephhllfodlfbaaGreatDoorOwnD
import Derived.Test.YtephhllfodlfbaaGreatDoorMapK
import Derived.Test.YtephhllfodlfbaaGreatDoorFor
import Derived.Test.YtephhllfodlfbaaGreatDoorRmD
import Derived.Deep.RegionHeld3
import Derived.Test.YtephhllfodlfbaaGreatDoorAdd
import Derived.Test.YtephhllfodlfbaaGreatDoorFresh
import Derived.Test.YtephhllfodlfbaaGreatDoorMtQ
import Derived.Test.YtephhllfodlfbaaGreatDoorPut
namespace Go.Proofs.YtephhllfodlfbaaGreatDoor
open Go.RowKit

set_option maxRecDepth 100000 in
set_option maxHeartbeats 2000000 in
theorem pcheck_any (v : Value) (ns : List Pl.Nd) (l : List Pl.Er) (w : World) (hp : PgAt w v ns l) (hl : IxFit l) :
    Calls Tryz.prog 79 #[v] w fun e w' => e = .returned (.int .i64 (pageErr ns l)) ∧ Below w.heap.size w w' := by
  obtain ⟨a, c, a2, c2, rfl, hd, he⟩ := hp
  have hb0 := on_alloc w (.cells #[.slice a ns.length c, .slice a2 l.length c2] 32)
  have bS := Blk2.new w (.slice a ns.length c) (.slice a2 l.length c2)
  have HD : Hid (DocAt _ _ _) := hd.on hb0
  have HE : Hid (EnsAt _ _ _) := he.on hb0
  have HB0 : Hid (Below _ _ _) := hb0
  have HBS : Hid (Blk2 _ _ _ _) := bS
  have HL : Hid (IxFit _) := hl
  clear hd he hb0 bS hl
  have s0 := HBS.out.facts.1.1
  go_enter Tryz.func79, Tryz.ntmps79
  go_wp2_with fail
  generalize w.alloc (.cells #[.slice a ns.length c, .slice a2 l.length c2] 32) = w0 at *
  refine (build_any _ ns _ HD.out).mono ?_
  rintro e w1 ⟨u, rfl, hen, hb1⟩
  obtain ⟨au, cu, rfl⟩ := hen.form
  have HEN : Hid (EnsAt _ _ _) := hen
  have HE1 : Hid (EnsAt _ _ _) := EnsAt.on HE.out hb1
  have HB1 : Hid (Below w.heap.size w w1) := below_trans HB0.out hb1
  have t1 := (Blk2.on HBS.out hb1).facts.1.2
  clear hen hb1 s0
  cases hc : (Pl.checkDoc ns != 0) with
  | true =>
    have HA : Hid (pageErr ns l = Pl.checkDoc ns) := by
      have : ¬ Pl.checkDoc ns = 0 := by simpa using hc
      unfold Hid pageErr
      rw [if_neg this]
    generalize Pl.checkDoc ns = r at *
    go_wp2
    go_ret
    exact ⟨by rw [HA.out]; rfl, HB1.out⟩
  | false =>
    have HC0 : Hid (Pl.checkDoc ns = 0) := by unfold Hid; simpa using hc
    cases hs : sameE l (Pl.idxAns ns) with
    | true =>
      have HA : Hid (pageErr ns l = 0) := by
        have : l = Pl.idxAns ns := of_decide_eq_true hs
        unfold Hid pageErr
        rw [if_pos HC0.out, if_pos this]
      have hcon := sameIndex_any (.slice a2 l.length c2) (.slice au (Pl.idxAns ns).length cu) l (Pl.idxAns ns) w1 HL.out.1 HL.out.2 HE1.out HEN.out
      rw [hs] at hcon
      have HCON : Hid (Calls Tryz.prog 119 _ _ _) := hcon
      clear hcon
      generalize Pl.checkDoc ns = r at *
      generalize Pl.idxAns ns = li at *
      go_wp2_with fail
      refine HCON.out.mono ?_
      rintro e w2 ⟨rfl, hd2⟩
      have HB2 : Hid (Below w.heap.size w w2) := below_trans HB1.out hd2
      clear hd2
      go_wp2
      go_ret
      exact ⟨by rw [HA.out]; rfl, HB2.out⟩
    | false =>
      have HA : Hid (pageErr ns l = 1) := by
        have : ¬ l = Pl.idxAns ns := of_decide_eq_false hs
        unfold Hid pageErr
        rw [if_pos HC0.out, if_neg this]
      have hcon := sameIndex_any (.slice a2 l.length c2) (.slice au (Pl.idxAns ns).length cu) l (Pl.idxAns ns) w1 HL.out.1 HL.out.2 HE1.out HEN.out
      rw [hs] at hcon
      have HCON : Hid (Calls Tryz.prog 119 _ _ _) := hcon
      clear hcon
      generalize Pl.checkDoc ns = r at *
      generalize Pl.idxAns ns = li at *
      go_wp2_with fail
      refine HCON.out.mono ?_
      rintro e w2 ⟨rfl, hd2⟩
      have HB2 : Hid (Below w.heap.size w w2) := below_trans HB1.out hd2
      clear hd2
      go_wp2
      go_ret
      exact ⟨by rw [HA.out]; rfl, HB2.out⟩
end Go.Proofs.YtephhllfodlfbaaGreatDoor
/-
  live's change, whatever closure it is handed.
-/
namespace Go.Proofs.YtephhllfodlfbaaGreatDoor
open Go.RowKit

set_option maxRecDepth 100000 in
set_option maxHeartbeats 2000000 in
theorem change_any (v : Value) (ns : List Pl.Nd) (l : List Pl.Er) (F : Nat) (caps : Array Value) (E : Int) (ms : List Pl.Nd) (w : World) (hp : PgAt w v ns l) (hl : IxFit l) (hen : ∀ args W, (callFunc F args).run Tryz.prog W = .ok (.enter F args) W)
    (hcl : ∀ W dv, Below w.heap.size w W → DocAt W dv ns → Calls Tryz.prog F (#[.agg #[dv]] ++ caps) W fun e w' => ∃ v', e = .returned (.tuple #[.agg #[v'], .int .i64 E]) ∧ DocAt w' v' ms ∧ Below W.heap.size W w') :
    Calls Tryz.prog 33 #[v, .func (.func F) #[] caps] w fun e w' => ChSays (pageErr ns l) E ms w e w' := by
  have hpc : ∀ W, Below w.heap.size w W → Calls Tryz.prog 79 #[v] W fun e w' => e = .returned (.int .i64 (pageErr ns l)) ∧ Below W.heap.size W w' := fun W hW => pcheck_any v ns l W (hp.on hW) hl
  generalize pageErr ns l = r at hpc ⊢
  obtain ⟨a, c, a2, c2, rfl, hd, _⟩ := hp
  have HPC : Hid (∀ W, Below w.heap.size w W → Calls Tryz.prog 79 #[.agg #[.slice a ns.length c, .slice a2 l.length c2]] W fun e w' => e = .returned (.int .i64 r) ∧ Below W.heap.size W w') := hpc
  clear hpc
  have hb0 := boxes w (.cells #[.slice a ns.length c, .slice a2 l.length c2] 32) (.cells #[.slice none 0 0, .slice none 0 0] 32)
  have bR : Blk2 ((w.alloc (.cells #[.slice a ns.length c, .slice a2 l.length c2] 32)).alloc (.cells #[.slice none 0 0, .slice none 0 0] 32)) (w.heap.size + 1) (.slice none 0 0) (.slice none 0 0) := by
    have := Blk2.new (w.alloc (.cells #[.slice a ns.length c, .slice a2 l.length c2] 32)) (.slice none 0 0) (.slice none 0 0)
    simpa using this
  have bS : Blk2 ((w.alloc (.cells #[.slice a ns.length c, .slice a2 l.length c2] 32)).alloc (.cells #[.slice none 0 0, .slice none 0 0] 32)) w.heap.size (.slice a ns.length c) (.slice a2 l.length c2) := (Blk2.new w _ _).on (on_alloc _ _)
  have HB0 : Hid (Below _ _ _) := hb0
  have HBR : Hid (Blk2 _ _ _ _) := bR
  have HBS : Hid (Blk2 _ _ _ _) := bS
  have HD : Hid (DocAt w (.slice a ns.length c) ns) := hd
  have HCL : Hid (∀ W dv, Below w.heap.size w W → DocAt W dv ns → Calls Tryz.prog F (#[.agg #[dv]] ++ caps) W fun e w' => ∃ v', e = .returned (.tuple #[.agg #[v'], .int .i64 E]) ∧ DocAt w' v' ms ∧ Below W.heap.size W w') := hcl
  obtain ⟨⟨x0, x1⟩, _⟩ := bS.facts
  clear hd hb0 bR bS hl hcl
  go_enter Tryz.func33, Tryz.ntmps33
  go_wp2_with fail
  generalize (w.alloc (.cells #[.slice a ns.length c, .slice a2 l.length c2] 32)).alloc (.cells #[.slice none 0 0, .slice none 0 0] 32) = w0 at *
  refine (HPC.out _ HB0.out).mono ?_
  rintro e w1 ⟨rfl, hb1⟩
  have HB1 : Hid (Below w.heap.size w w1) := below_trans HB0.out hb1
  have HBR1 : Hid (Blk2 _ _ _ _) := Blk2.on HBR.out hb1
  obtain ⟨⟨y0, y1⟩, _⟩ := (Blk2.on HBS.out hb1).facts
  clear hb1 x0 x1
  cases hpe : (r != 0) with
  | true =>
    have HA : Hid (chErr r E ms = r ∧ chDoc r E ms = [] ∧ chIdx r E ms = []) := by
      have : ¬ r = 0 := by simpa using hpe
      unfold Hid chErr chDoc chIdx
      simp [this]
    obtain ⟨⟨r0, r1⟩, fR⟩ := HBR1.out.facts
    obtain ⟨p1, p2⟩ := PgAt.box (ns := []) (l := []) (DocAt.nil _) (EnsAt.nil _) HBR1.out
    obtain ⟨⟨q0, q1⟩, _⟩ := p2.facts
    simp only [List.length_nil] at p1 q0 q1
    have HP1 : Hid (PgAt _ _ _ _) := p1
    have HQ0 : Hid _ := q0
    have HQ1 : Hid _ := q1
    clear p1 p2 q0 q1
    go_wp2
    have q0 := HQ0.out
    have q1 := HQ1.out
    exact bodyPost_ret (v := .tuple #[.agg #[.slice none 0 0, .slice none 0 0], .int .i64 r]) (by simp [results, Tryz.results33, go_sem, q0, q1]) rfl
      ⟨_, by rw [HA.out.1], by rw [HA.out.2.1, HA.out.2.2]; exact HP1.out, (HB1.out.setCell (p := ⟨w.heap.size + 1, 0, none⟩) (by simp) _).setCell (p := ⟨w.heap.size + 1, 1, none⟩) (by simp) _⟩
  | false =>
    have HA : Hid (chErr r E ms = pgErr E ms ∧ chDoc r E ms = pgDoc E ms ∧ chIdx r E ms = pgIdx E ms) := by
      have : r = 0 := by simpa using hpe
      unfold Hid chErr chDoc chIdx
      simp [this]
    go_wp2_with fail
    refine (HCL.out w1 _ HB1.out (DocAt.on HD.out HB1.out)).mono ?_
    rintro e w2 ⟨v', rfl, hd2, hb2⟩
    obtain ⟨a3, c3, rfl⟩ := hd2.form
    have HD2 : Hid (DocAt _ _ _) := hd2
    have HB2 : Hid (Below w.heap.size w w2) := below_trans HB1.out hb2
    have HBR2 : Hid (Blk2 _ _ _ _) := Blk2.on HBR1.out hb2
    clear hd2 hb2
    go_wp2_with fail
    refine (indexed_any _ ms E _ HD2.out).mono ?_
    rintro e w3 ⟨v3, rfl, hp3, hb3⟩
    obtain ⟨a4, c4, a5, c5, rfl, hd4, he4⟩ := hp3
    have HB3 : Hid (Below w.heap.size w w3) := below_trans HB2.out hb3
    have bR3 := Blk2.on HBR2.out hb3
    obtain ⟨⟨r0, r1⟩, fR⟩ := bR3.facts
    obtain ⟨p1, p2⟩ := PgAt.box hd4 he4 bR3
    obtain ⟨⟨q0, q1⟩, _⟩ := p2.facts
    have HP1 : Hid (PgAt _ _ _ _) := p1
    have HQ0 : Hid _ := q0
    have HQ1 : Hid _ := q1
    clear p1 p2 q0 q1 hd4 he4 bR3 hb3
    generalize pgDoc E ms = D at *
    generalize pgIdx E ms = I at *
    generalize pgErr E ms = PE at *
    go_wp2
    have q0 := HQ0.out
    have q1 := HQ1.out
    exact bodyPost_ret (v := .tuple #[.agg #[.slice a4 D.length c4, .slice a5 I.length c5], .int .i64 PE]) (by simp [results, Tryz.results33, go_sem, q0, q1]) rfl
      ⟨_, by rw [HA.out.1], by rw [HA.out.2.1, HA.out.2.2]; exact HP1.out, (HB3.out.setCell (p := ⟨w.heap.size + 1, 0, none⟩) (by simp) _).setCell (p := ⟨w.heap.size + 1, 1, none⟩) (by simp) _⟩
end Go.Proofs.YtephhllfodlfbaaGreatDoor
/-
  live's calls: Open, Insert, Remove and Put.
-/
namespace Go.Proofs.YtephhllfodlfbaaGreatDoor
open Go.RowKit

theorem enter19 (args : Array Value) (W : World) : (callFunc 34 args).run Tryz.prog W = .ok (.enter 34 args) W := by simp [callFunc, go_sem, Tryz.func34, Tryz.f34]
theorem enter21 (args : Array Value) (W : World) : (callFunc 36 args).run Tryz.prog W = .ok (.enter 36 args) W := by simp [callFunc, go_sem, Tryz.func36, Tryz.f36]
theorem enter23 (args : Array Value) (W : World) : (callFunc 38 args).run Tryz.prog W = .ok (.enter 38 args) W := by simp [callFunc, go_sem, Tryz.func38, Tryz.f38]
set_option maxRecDepth 100000 in
set_option maxHeartbeats 2000000 in
theorem insCl (dv : Value) (ns : List Pl.Nd) (up at_ : Int) (N1 N2 N3 : Nat) (a3 : Option Addr) (c3 : Nat) (es : List Pl.Nd) (w : World) (hd : DocAt w dv ns) (h1 : w.cell? ⟨N1, 0, none⟩ = some (.int .i64 up)) (h2 : w.cell? ⟨N2, 0, none⟩ = some (.int .i64 at_)) (h3 : w.cell? ⟨N3, 0, none⟩ = some (.slice a3 es.length c3)) (hd2 : DocAt w (.slice a3 es.length c3) es) :
    Calls Tryz.prog 34 #[.agg #[dv], .pointer (some ⟨N1, 0, none⟩), .pointer (some ⟨N2, 0, none⟩), .pointer (some ⟨N3, 0, none⟩)] w fun e w' => ClSays (insErr ns up at_ es) (insOf ns up at_ es) w e w' := by
  obtain ⟨a, c, rfl⟩ := hd.form
  have hb0 := boxes w (.cells #[.slice a ns.length c] 24) (.cells #[.slice none 0 0] 24)
  have bR : Blk1 ((w.alloc (.cells #[.slice a ns.length c] 24)).alloc (.cells #[.slice none 0 0] 24)) (w.heap.size + 1) (.slice none 0 0) := by
    have := Blk1.new (w.alloc (.cells #[.slice a ns.length c] 24)) (.slice none 0 0)
    simpa using this
  have bS : Blk1 ((w.alloc (.cells #[.slice a ns.length c] 24)).alloc (.cells #[.slice none 0 0] 24)) w.heap.size (.slice a ns.length c) := (Blk1.new w _).on (on_alloc _ _)
  obtain ⟨x0, _⟩ := bS.facts
  have x1 := cell_on hb0 h1
  have x2 := cell_on hb0 h2
  have x3 := cell_on hb0 h3
  have HD2 : Hid (DocAt _ _ _) := hd2.on hb0
  clear h1 h2 h3 hd2
  have HD : Hid (DocAt _ _ _) := hd.on hb0
  have HB0 : Hid (Below _ _ _) := hb0
  have HBR : Hid (Blk1 _ _ _) := bR
  clear hd hb0 bR bS
  go_enter Tryz.func34, Tryz.ntmps34
  go_wp2_with fail
  generalize (w.alloc (.cells #[.slice a ns.length c] 24)).alloc (.cells #[.slice none 0 0] 24) = w0 at *
  refine (insert_any _ _ ns es up at_ _ HD.out HD2.out).mono ?_
  rintro e w1 ⟨v1, rfl, hd1, hb1⟩
  obtain ⟨a1, c1, rfl⟩ := hd1.form
  have bR1 := Blk1.on HBR.out hb1
  obtain ⟨r0, fR⟩ := bR1.facts
  have HD1 : Hid (DocAt (w1.setCell ⟨w.heap.size + 1, 0, none⟩ (.slice a1 (insOf ns up at_ es).length c1)) (.slice a1 (insOf ns up at_ es).length c1) (insOf ns up at_ es)) := hd1.sm bR1.sm
  have HQ0 : Hid _ := (bR1.set (.slice a1 (insOf ns up at_ es).length c1)).facts.1
  have HB1 : Hid (Below w.heap.size w w1) := below_trans HB0.out hb1
  clear hd1 hb1 bR1
  have Hgen : Hid (∃ D, D = insOf ns up at_ es) := ⟨_, rfl⟩
  generalize hD : insOf ns up at_ es = D at HD1 HQ0 ⊢
  generalize hE : insErr ns up at_ es = EE at *
  have HDe : Hid _ := hD
  have HEe : Hid _ := hE
  clear hD hE Hgen
  go_wp2
  have q0 := HQ0.out
  exact bodyPost_ret (v := .tuple #[.agg #[.slice a1 D.length c1], .int .i64 EE]) (by simp [results, Tryz.results34, go_sem, q0]) rfl
    ⟨_, by rw [HEe.out], by rw [HDe.out]; exact HD1.out, HB1.out.setCell (p := ⟨w.heap.size + 1, 0, none⟩) (by simp) _⟩
set_option maxRecDepth 100000 in
set_option maxHeartbeats 2000000 in
theorem remCl (dv : Value) (ns : List Pl.Nd) (n : Int) (N1 : Nat) (w : World) (hd : DocAt w dv ns) (h1 : w.cell? ⟨N1, 0, none⟩ = some (.int .i64 n)) :
    Calls Tryz.prog 36 #[.agg #[dv], .pointer (some ⟨N1, 0, none⟩)] w fun e w' => ClSays (remErr ns n) (remOf ns n) w e w' := by
  obtain ⟨a, c, rfl⟩ := hd.form
  have hb0 := boxes w (.cells #[.slice a ns.length c] 24) (.cells #[.slice none 0 0] 24)
  have bR : Blk1 ((w.alloc (.cells #[.slice a ns.length c] 24)).alloc (.cells #[.slice none 0 0] 24)) (w.heap.size + 1) (.slice none 0 0) := by
    have := Blk1.new (w.alloc (.cells #[.slice a ns.length c] 24)) (.slice none 0 0)
    simpa using this
  have bS : Blk1 ((w.alloc (.cells #[.slice a ns.length c] 24)).alloc (.cells #[.slice none 0 0] 24)) w.heap.size (.slice a ns.length c) := (Blk1.new w _).on (on_alloc _ _)
  obtain ⟨x0, _⟩ := bS.facts
  have x1 := cell_on hb0 h1
  clear h1
  have HD : Hid (DocAt _ _ _) := hd.on hb0
  have HB0 : Hid (Below _ _ _) := hb0
  have HBR : Hid (Blk1 _ _ _) := bR
  clear hd hb0 bR bS
  go_enter Tryz.func36, Tryz.ntmps36
  go_wp2_with fail
  generalize (w.alloc (.cells #[.slice a ns.length c] 24)).alloc (.cells #[.slice none 0 0] 24) = w0 at *
  refine (remove_any _ ns n _ HD.out).mono ?_
  rintro e w1 ⟨v1, rfl, hd1, hb1⟩
  obtain ⟨a1, c1, rfl⟩ := hd1.form
  have bR1 := Blk1.on HBR.out hb1
  obtain ⟨r0, fR⟩ := bR1.facts
  have HD1 : Hid (DocAt (w1.setCell ⟨w.heap.size + 1, 0, none⟩ (.slice a1 (remOf ns n).length c1)) (.slice a1 (remOf ns n).length c1) (remOf ns n)) := hd1.sm bR1.sm
  have HQ0 : Hid _ := (bR1.set (.slice a1 (remOf ns n).length c1)).facts.1
  have HB1 : Hid (Below w.heap.size w w1) := below_trans HB0.out hb1
  clear hd1 hb1 bR1
  have Hgen : Hid (∃ D, D = remOf ns n) := ⟨_, rfl⟩
  generalize hD : remOf ns n = D at HD1 HQ0 ⊢
  generalize hE : remErr ns n = EE at *
  have HDe : Hid _ := hD
  have HEe : Hid _ := hE
  clear hD hE Hgen
  go_wp2
  have q0 := HQ0.out
  exact bodyPost_ret (v := .tuple #[.agg #[.slice a1 D.length c1], .int .i64 EE]) (by simp [results, Tryz.results36, go_sem, q0]) rfl
    ⟨_, by rw [HEe.out], by rw [HDe.out]; exact HD1.out, HB1.out.setCell (p := ⟨w.heap.size + 1, 0, none⟩) (by simp) _⟩
set_option maxRecDepth 100000 in
set_option maxHeartbeats 2000000 in
theorem putCl (dv : Value) (ns : List Pl.Nd) (n : Int) (N1 N2 : Nat) (x : Pl.Nd) (ac aa : Option Addr) (cc ca : Nat) (w : World) (hd : DocAt w dv ns) (h1 : w.cell? ⟨N1, 0, none⟩ = some (.int .i64 n)) (hB : Blk w N2 (.int .i64 x.up) (.string ⟨x.tag.toArray⟩) (.string ⟨x.id.toArray⟩) (.slice ac x.cls.length cc) (.slice aa x.ats.length ca)) (hs : StrsAt w (.slice ac x.cls.length cc) x.cls) (ha : AtsAt w (.slice aa x.ats.length ca) x.ats) (hfx : Fits x) :
    Calls Tryz.prog 38 #[.agg #[dv], .pointer (some ⟨N1, 0, none⟩), .pointer (some ⟨N2, 0, none⟩)] w fun e w' => ClSays (putErr ns n x) (putOf ns n x) w e w' := by
  obtain ⟨a, c, rfl⟩ := hd.form
  have hb0 := boxes w (.cells #[.slice a ns.length c] 24) (.cells #[.slice none 0 0] 24)
  have bR : Blk1 ((w.alloc (.cells #[.slice a ns.length c] 24)).alloc (.cells #[.slice none 0 0] 24)) (w.heap.size + 1) (.slice none 0 0) := by
    have := Blk1.new (w.alloc (.cells #[.slice a ns.length c] 24)) (.slice none 0 0)
    simpa using this
  have bS : Blk1 ((w.alloc (.cells #[.slice a ns.length c] 24)).alloc (.cells #[.slice none 0 0] 24)) w.heap.size (.slice a ns.length c) := (Blk1.new w _).on (on_alloc _ _)
  obtain ⟨x0, _⟩ := bS.facts
  have x1 := cell_on hb0 h1
  obtain ⟨⟨y0, y1, y2, y3, y4⟩, _⟩ := (hB.on hb0).facts
  have HNV : Hid (NdV ((w.alloc (.cells #[.slice a ns.length c] 24)).alloc (.cells #[.slice none 0 0] 24)) (.agg #[.int .i64 x.up, .string ⟨x.tag.toArray⟩, .string ⟨x.id.toArray⟩, .slice ac x.cls.length cc, .slice aa x.ats.length ca]) x) := ⟨_, _, rfl, hs.on hb0, ha.on hb0⟩
  clear h1 hB hs ha
  have HD : Hid (DocAt _ _ _) := hd.on hb0
  have HB0 : Hid (Below _ _ _) := hb0
  have HBR : Hid (Blk1 _ _ _) := bR
  clear hd hb0 bR bS
  go_enter Tryz.func38, Tryz.ntmps38
  go_wp2_with fail
  generalize (w.alloc (.cells #[.slice a ns.length c] 24)).alloc (.cells #[.slice none 0 0] 24) = w0 at *
  refine (put_any _ _ ns n x _ HD.out HNV.out hfx).mono ?_
  rintro e w1 ⟨v1, rfl, hd1, hb1⟩
  obtain ⟨a1, c1, rfl⟩ := hd1.form
  have bR1 := Blk1.on HBR.out hb1
  obtain ⟨r0, fR⟩ := bR1.facts
  have HD1 : Hid (DocAt (w1.setCell ⟨w.heap.size + 1, 0, none⟩ (.slice a1 (putOf ns n x).length c1)) (.slice a1 (putOf ns n x).length c1) (putOf ns n x)) := hd1.sm bR1.sm
  have HQ0 : Hid _ := (bR1.set (.slice a1 (putOf ns n x).length c1)).facts.1
  have HB1 : Hid (Below w.heap.size w w1) := below_trans HB0.out hb1
  clear hd1 hb1 bR1
  have Hgen : Hid (∃ D, D = putOf ns n x) := ⟨_, rfl⟩
  generalize hD : putOf ns n x = D at HD1 HQ0 ⊢
  generalize hE : putErr ns n x = EE at *
  have HDe : Hid _ := hD
  have HEe : Hid _ := hE
  clear hD hE Hgen
  go_wp2
  have q0 := HQ0.out
  exact bodyPost_ret (v := .tuple #[.agg #[.slice a1 D.length c1], .int .i64 EE]) (by simp [results, Tryz.results38, go_sem, q0]) rfl
    ⟨_, by rw [HEe.out], by rw [HDe.out]; exact HD1.out, HB1.out.setCell (p := ⟨w.heap.size + 1, 0, none⟩) (by simp) _⟩
end Go.Proofs.YtephhllfodlfbaaGreatDoor
