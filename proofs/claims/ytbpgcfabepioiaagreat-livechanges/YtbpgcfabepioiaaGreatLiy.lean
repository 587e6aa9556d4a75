/-
  live's inner calls: a document made a page, a page checked.
-/
import Derived.Test.YtbpgcfabepioiaaGreatPag
import Derived.Test.YtbpgcfabepioiaaGreatIdxU
import Derived.Test.YtbpgcfabepioiaaGreatAsk
import Derived.Test.YtbpgcfabepioiaaGreatBox
namespace Go.Proofs.YtbpgcfabepioiaaGreat
open Go.RowKit

/-- what indexed answers -/
def IdxSays (err : Int) (ns : List Pl.Nd) (w : World) (e : Ending) (w' : World) : Prop :=
  ∃ v, e = .returned (.tuple #[v, .int .i64 (pgErr err ns)]) ∧ PgAt w' v (pgDoc err ns) (pgIdx err ns) ∧ Below w.heap.size w w'
theorem two_boxes (w : World) (o1 o2 : Obj) : ((w.alloc o1).alloc o2).heap.size = w.heap.size + 2 := by simp
set_option maxRecDepth 100000 in
set_option maxHeartbeats 2000000 in
theorem indexed_any (v : Value) (ns : List Pl.Nd) (err : Int) (w : World) (hd : DocAt w v ns) :
    Calls Tryz.prog 16 #[.agg #[v], .int .i64 err] w fun e w' => IdxSays err ns w e w' := by
  obtain ⟨a, c, rfl⟩ := hd.form
  have hb0 := boxes w (.cells #[.slice a ns.length c] 24) (.cells #[.slice none 0 0, .slice none 0 0] 27)
  have bR : Blk2 ((w.alloc (.cells #[.slice a ns.length c] 24)).alloc (.cells #[.slice none 0 0, .slice none 0 0] 27)) (w.heap.size + 1) (.slice none 0 0) (.slice none 0 0) := by
    have := Blk2.new (w.alloc (.cells #[.slice a ns.length c] 24)) (.slice none 0 0) (.slice none 0 0)
    simpa using this
  have bS : Blk1 ((w.alloc (.cells #[.slice a ns.length c] 24)).alloc (.cells #[.slice none 0 0, .slice none 0 0] 27)) w.heap.size (.slice a ns.length c) := (Blk1.new w _).on (on_alloc _ _)
  have hz := two_boxes w (.cells #[.slice a ns.length c] 24) (.cells #[.slice none 0 0, .slice none 0 0] 27)
  have HD : Hid (DocAt ((w.alloc (.cells #[.slice a ns.length c] 24)).alloc (.cells #[.slice none 0 0, .slice none 0 0] 27)) (.slice a ns.length c) ns) := hd.on hb0
  have HB0 : Hid (Below _ _ _) := hb0
  have HBR : Hid (Blk2 _ _ _ _) := bR
  have HBS : Hid (Blk1 _ _ _) := bS
  clear hd hb0 bR bS
  cases he : (err != 0) with
  | true =>
    have HA : Hid (pgErr err ns = err ∧ pgDoc err ns = [] ∧ pgIdx err ns = []) := by
      have : ¬ err = 0 := by simpa using he
      unfold Hid pgErr pgDoc pgIdx
      simp [this]
    obtain ⟨⟨r0, r1⟩, fR⟩ := HBR.out.facts
    go_enter Tryz.func16, Tryz.ntmps16
    go_wp2
    exact bodyPost_ret (v := .tuple #[.agg #[.slice none 0 0, .slice none 0 0], .int .i64 err]) (by simp [results, Tryz.results16, go_sem]) rfl
      ⟨_, by rw [HA.out.1], by rw [HA.out.2.1, HA.out.2.2]; exact PgAt.nil _, HB0.out⟩
  | false =>
    have he0 : err = 0 := by simpa using he
    have HA : Hid (pgErr err ns = Pl.checkDoc ns ∧ pgDoc err ns = (if Pl.checkDoc ns = 0 then ns else []) ∧ pgIdx err ns = Pl.idxAns ns) := by
      unfold Hid pgErr pgDoc pgIdx
      simp [he0]
    clear he0
    obtain ⟨s0, _⟩ := HBS.out.facts
    go_enter Tryz.func16, Tryz.ntmps16
    go_wp2_with fail
    generalize (w.alloc (.cells #[.slice a ns.length c] 24)).alloc (.cells #[.slice none 0 0, .slice none 0 0] 27) = w0 at *
    refine (build_any _ ns _ HD.out).mono ?_
    rintro e w1 ⟨u, rfl, hen, hb1⟩
    obtain ⟨au, cu, rfl⟩ := hen.form
    have HB1 : Hid (Below w.heap.size w w1) := below_trans HB0.out hb1
    have bR1 := Blk2.on HBR.out hb1
    have bS1 := Blk1.on HBS.out hb1
    have hd1 : DocAt w1 (.slice a ns.length c) ns := DocAt.on HD.out hb1
    obtain ⟨⟨r0, r1⟩, fR⟩ := bR1.facts
    obtain ⟨t0, _⟩ := bS1.facts
    cases hc : (Pl.checkDoc ns != 0) with
    | true =>
      have hc0 : ¬ Pl.checkDoc ns = 0 := by simpa using hc
      have HI : Hid (Pl.idxAns ns = []) := by unfold Hid Pl.idxAns; rw [if_neg hc0]
      have HDD : Hid ((if Pl.checkDoc ns = 0 then ns else []) = ([] : List Pl.Nd)) := if_neg hc0
      obtain ⟨p1, p2⟩ := PgAt.box (ns := []) (l := []) (DocAt.nil _) (EnsAt.nil _) bR1
      obtain ⟨⟨q0, q1⟩, _⟩ := p2.facts
      simp only [List.length_nil] at p1 q0 q1
      have HP1 : Hid (PgAt _ _ _ _) := p1
      have HQ0 : Hid _ := q0
      have HQ1 : Hid _ := q1
      clear p1 p2 q0 q1 hc0 hen hd1 bR1 bS1 hb1 s0
      generalize Pl.checkDoc ns = r at *
      go_wp2
      have q0 := HQ0.out
      have q1 := HQ1.out
      exact bodyPost_ret (v := .tuple #[.agg #[.slice none 0 0, .slice none 0 0], .int .i64 r]) (by simp [results, Tryz.results16, go_sem, q0, q1]) rfl
        ⟨_, by rw [HA.out.1], by rw [HA.out.2.1, HA.out.2.2, HI.out, HDD.out]; exact HP1.out, (HB1.out.setCell (p := ⟨w.heap.size + 1, 0, none⟩) (by simp) _).setCell (p := ⟨w.heap.size + 1, 1, none⟩) (by simp) _⟩
    | false =>
      have hc0 : Pl.checkDoc ns = 0 := by simpa using hc
      have HDD : Hid ((if Pl.checkDoc ns = 0 then ns else []) = ns) := if_pos hc0
      have HE0 : Hid (pgErr err ns = 0) := by rw [HA.out.1]; exact hc0
      obtain ⟨p1, p2⟩ := PgAt.box hd1 hen bR1
      obtain ⟨⟨q0, q1⟩, _⟩ := p2.facts
      have HP1 : Hid (PgAt _ _ _ _) := p1
      have HQ0 : Hid _ := q0
      have HQ1 : Hid _ := q1
      clear p1 p2 q0 q1 hc0 hen hd1 bR1 bS1 hb1 s0
      generalize Pl.checkDoc ns = r at *
      generalize Pl.idxAns ns = l at *
      go_wp2
      have q0 := HQ0.out
      have q1 := HQ1.out
      exact bodyPost_ret (v := .tuple #[.agg #[.slice a ns.length c, .slice au l.length cu], .int .i64 0]) (by simp [results, Tryz.results16, go_sem, q0, q1]) rfl
        ⟨_, by rw [HE0.out], by rw [HA.out.2.1, HA.out.2.2, HDD.out]; exact HP1.out, (HB1.out.setCell (p := ⟨w.heap.size + 1, 0, none⟩) (by simp) _).setCell (p := ⟨w.heap.size + 1, 1, none⟩) (by simp) _⟩
/-- an index that fits -/
def IxFit (l : List Pl.Er) : Prop := l.length ≤ maxLen ∧ ∀ e ∈ l, e.2.length ≤ maxLen
theorem ix_ans (ns : List Pl.Nd) : IxFit (Pl.idxAns ns) := ⟨by have := (idx_small ns).1; unfold maxLen; omega, fun e he => by have := (idx_small ns).2 e he; unfold maxLen; omega⟩
theorem ix_pg (err : Int) (ns : List Pl.Nd) : IxFit (pgIdx err ns) := by
  unfold pgIdx
  split
  · exact ix_ans ns
  · exact ⟨by simp, by simp⟩
set_option maxRecDepth 100000 in
set_option maxHeartbeats 2000000 in
theorem pcheck_any (v : Value) (ns : List Pl.Nd) (l : List Pl.Er) (w : World) (hp : PgAt w v ns l) (hl : IxFit l) :
    Calls Tryz.prog 46 #[v] w fun e w' => e = .returned (.int .i64 (pageErr ns l)) ∧ Below w.heap.size w w' := by
  obtain ⟨a, c, a2, c2, rfl, hd, he⟩ := hp
  have hb0 := on_alloc w (.cells #[.slice a ns.length c, .slice a2 l.length c2] 27)
  have bS := Blk2.new w (.slice a ns.length c) (.slice a2 l.length c2)
  have HD : Hid (DocAt _ _ _) := hd.on hb0
  have HE : Hid (EnsAt _ _ _) := he.on hb0
  have HB0 : Hid (Below _ _ _) := hb0
  have HBS : Hid (Blk2 _ _ _ _) := bS
  have HL : Hid (IxFit _) := hl
  clear hd he hb0 bS hl
  have s0 := HBS.out.facts.1.1
  go_enter Tryz.func46, Tryz.ntmps46
  go_wp2_with fail
  generalize w.alloc (.cells #[.slice a ns.length c, .slice a2 l.length c2] 27) = w0 at *
  refine (build_any _ ns _ HD.out).mono ?_
  rintro e w1 ⟨u, rfl, hen, hb1⟩
  obtain ⟨au, cu, rfl⟩ := hen.form
  have HEN : Hid (EnsAt _ _ _) := hen
  have HE1 : Hid (EnsAt _ _ _) := EnsAt.on HE.out hb1
  have HB1 : Hid (Below w.heap.size w w1) := below_trans HB0.out hb1
  have t1 := (Blk2.on HBS.out hb1).facts.1.2
  clear hen hb1 s0
  cases hc : (Pl.checkDoc ns != 0) with
  | true =>
    have HA : Hid (pageErr ns l = Pl.checkDoc ns) := by
      have : ¬ Pl.checkDoc ns = 0 := by simpa using hc
      unfold Hid pageErr
      rw [if_neg this]
    generalize Pl.checkDoc ns = r at *
    go_wp2
    go_ret
    exact ⟨by rw [HA.out]; rfl, HB1.out⟩
  | false =>
    have HC0 : Hid (Pl.checkDoc ns = 0) := by unfold Hid; simpa using hc
    cases hs : sameE l (Pl.idxAns ns) with
    | true =>
      have HA : Hid (pageErr ns l = 0) := by
        have : l = Pl.idxAns ns := of_decide_eq_true hs
        unfold Hid pageErr
        rw [if_pos HC0.out, if_pos this]
      have hcon := sameIndex_any (.slice a2 l.length c2) (.slice au (Pl.idxAns ns).length cu) l (Pl.idxAns ns) w1 HL.out.1 HL.out.2 HE1.out HEN.out
      rw [hs] at hcon
      have HCON : Hid (Calls Tryz.prog 64 _ _ _) := hcon
      clear hcon
      generalize Pl.checkDoc ns = r at *
      generalize Pl.idxAns ns = li at *
      go_wp2_with fail
      refine HCON.out.mono ?_
      rintro e w2 ⟨rfl, hd2⟩
      have HB2 : Hid (Below w.heap.size w w2) := below_trans HB1.out hd2
      clear hd2
      go_wp2
      go_ret
      exact ⟨by rw [HA.out]; rfl, HB2.out⟩
    | false =>
      have HA : Hid (pageErr ns l = 1) := by
        have : ¬ l = Pl.idxAns ns := of_decide_eq_false hs
        unfold Hid pageErr
        rw [if_pos HC0.out, if_neg this]
      have hcon := sameIndex_any (.slice a2 l.length c2) (.slice au (Pl.idxAns ns).length cu) l (Pl.idxAns ns) w1 HL.out.1 HL.out.2 HE1.out HEN.out
      rw [hs] at hcon
      have HCON : Hid (Calls Tryz.prog 64 _ _ _) := hcon
      clear hcon
      generalize Pl.checkDoc ns = r at *
      generalize Pl.idxAns ns = li at *
      go_wp2_with fail
      refine HCON.out.mono ?_
      rintro e w2 ⟨rfl, hd2⟩
      have HB2 : Hid (Below w.heap.size w w2) := below_trans HB1.out hd2
      clear hd2
      go_wp2
      go_ret
      exact ⟨by rw [HA.out]; rfl, HB2.out⟩
end Go.Proofs.YtbpgcfabepioiaaGreat
/-
  live's change, whatever closure it is handed.
-/
namespace Go.Proofs.YtbpgcfabepioiaaGreat
open Go.RowKit

/-- what a change answers: pe the page's error, E the change's, ms what it makes of the document -/
def chErr (pe E : Int) (ms : List Pl.Nd) : Int := if pe = 0 then pgErr E ms else pe
def chDoc (pe E : Int) (ms : List Pl.Nd) : List Pl.Nd := if pe = 0 then pgDoc E ms else []
def chIdx (pe E : Int) (ms : List Pl.Nd) : List Pl.Er := if pe = 0 then pgIdx E ms else []
theorem ix_ch (pe E : Int) (ms : List Pl.Nd) : IxFit (chIdx pe E ms) := by
  unfold chIdx
  split
  · exact ix_pg E ms
  · exact ⟨by simp, by simp⟩
def ChSays (pe E : Int) (ms : List Pl.Nd) (w : World) (e : Ending) (w' : World) : Prop :=
  ∃ v, e = .returned (.tuple #[v, .int .i64 (chErr pe E ms)]) ∧ PgAt w' v (chDoc pe E ms) (chIdx pe E ms) ∧ Below w.heap.size w w'
theorem PgAt.form {w : World} {v : Value} {ns : List Pl.Nd} {l : List Pl.Er} (h : PgAt w v ns l) : ∃ a c a2 c2, v = .agg #[.slice a ns.length c, .slice a2 l.length c2] := by
  obtain ⟨a, c, a2, c2, e, _, _⟩ := h
  exact ⟨a, c, a2, c2, e⟩
set_option maxRecDepth 100000 in
set_option maxHeartbeats 2000000 in
theorem change_any (v : Value) (ns : List Pl.Nd) (l : List Pl.Er) (F : Nat) (caps : Array Value) (E : Int) (ms : List Pl.Nd) (w : World) (hp : PgAt w v ns l) (hl : IxFit l) (hen : ∀ args W, (callFunc F args).run Tryz.prog W = .ok (.enter F args) W)
    (hcl : ∀ W dv, Below w.heap.size w W → DocAt W dv ns → Calls Tryz.prog F (#[.agg #[dv]] ++ caps) W fun e w' => ∃ v', e = .returned (.tuple #[.agg #[v'], .int .i64 E]) ∧ DocAt w' v' ms ∧ Below W.heap.size W w') :
    Calls Tryz.prog 18 #[v, .func (.func F) #[] caps] w fun e w' => ChSays (pageErr ns l) E ms w e w' := by
  have hpc : ∀ W, Below w.heap.size w W → Calls Tryz.prog 46 #[v] W fun e w' => e = .returned (.int .i64 (pageErr ns l)) ∧ Below W.heap.size W w' := fun W hW => pcheck_any v ns l W (hp.on hW) hl
  generalize pageErr ns l = r at hpc ⊢
  obtain ⟨a, c, a2, c2, rfl, hd, _⟩ := hp
  have HPC : Hid (∀ W, Below w.heap.size w W → Calls Tryz.prog 46 #[.agg #[.slice a ns.length c, .slice a2 l.length c2]] W fun e w' => e = .returned (.int .i64 r) ∧ Below W.heap.size W w') := hpc
  clear hpc
  have hb0 := boxes w (.cells #[.slice a ns.length c, .slice a2 l.length c2] 27) (.cells #[.slice none 0 0, .slice none 0 0] 27)
  have bR : Blk2 ((w.alloc (.cells #[.slice a ns.length c, .slice a2 l.length c2] 27)).alloc (.cells #[.slice none 0 0, .slice none 0 0] 27)) (w.heap.size + 1) (.slice none 0 0) (.slice none 0 0) := by
    have := Blk2.new (w.alloc (.cells #[.slice a ns.length c, .slice a2 l.length c2] 27)) (.slice none 0 0) (.slice none 0 0)
    simpa using this
  have bS : Blk2 ((w.alloc (.cells #[.slice a ns.length c, .slice a2 l.length c2] 27)).alloc (.cells #[.slice none 0 0, .slice none 0 0] 27)) w.heap.size (.slice a ns.length c) (.slice a2 l.length c2) := (Blk2.new w _ _).on (on_alloc _ _)
  have HB0 : Hid (Below _ _ _) := hb0
  have HBR : Hid (Blk2 _ _ _ _) := bR
  have HBS : Hid (Blk2 _ _ _ _) := bS
  have HD : Hid (DocAt w (.slice a ns.length c) ns) := hd
  have HCL : Hid (∀ W dv, Below w.heap.size w W → DocAt W dv ns → Calls Tryz.prog F (#[.agg #[dv]] ++ caps) W fun e w' => ∃ v', e = .returned (.tuple #[.agg #[v'], .int .i64 E]) ∧ DocAt w' v' ms ∧ Below W.heap.size W w') := hcl
  obtain ⟨⟨x0, x1⟩, _⟩ := bS.facts
  clear hd hb0 bR bS hl hcl
  go_enter Tryz.func18, Tryz.ntmps18
  go_wp2_with fail
  generalize (w.alloc (.cells #[.slice a ns.length c, .slice a2 l.length c2] 27)).alloc (.cells #[.slice none 0 0, .slice none 0 0] 27) = w0 at *
  refine (HPC.out _ HB0.out).mono ?_
  rintro e w1 ⟨rfl, hb1⟩
  have HB1 : Hid (Below w.heap.size w w1) := below_trans HB0.out hb1
  have HBR1 : Hid (Blk2 _ _ _ _) := Blk2.on HBR.out hb1
  obtain ⟨⟨y0, y1⟩, _⟩ := (Blk2.on HBS.out hb1).facts
  clear hb1 x0 x1
  cases hpe : (r != 0) with
  | true =>
    have HA : Hid (chErr r E ms = r ∧ chDoc r E ms = [] ∧ chIdx r E ms = []) := by
      have : ¬ r = 0 := by simpa using hpe
      unfold Hid chErr chDoc chIdx
      simp [this]
    obtain ⟨⟨r0, r1⟩, fR⟩ := HBR1.out.facts
    obtain ⟨p1, p2⟩ := PgAt.box (ns := []) (l := []) (DocAt.nil _) (EnsAt.nil _) HBR1.out
    obtain ⟨⟨q0, q1⟩, _⟩ := p2.facts
    simp only [List.length_nil] at p1 q0 q1
    have HP1 : Hid (PgAt _ _ _ _) := p1
    have HQ0 : Hid _ := q0
    have HQ1 : Hid _ := q1
    clear p1 p2 q0 q1
    go_wp2
    have q0 := HQ0.out
    have q1 := HQ1.out
    exact bodyPost_ret (v := .tuple #[.agg #[.slice none 0 0, .slice none 0 0], .int .i64 r]) (by simp [results, Tryz.results18, go_sem, q0, q1]) rfl
      ⟨_, by rw [HA.out.1], by rw [HA.out.2.1, HA.out.2.2]; exact HP1.out, (HB1.out.setCell (p := ⟨w.heap.size + 1, 0, none⟩) (by simp) _).setCell (p := ⟨w.heap.size + 1, 1, none⟩) (by simp) _⟩
  | false =>
    have HA : Hid (chErr r E ms = pgErr E ms ∧ chDoc r E ms = pgDoc E ms ∧ chIdx r E ms = pgIdx E ms) := by
      have : r = 0 := by simpa using hpe
      unfold Hid chErr chDoc chIdx
      simp [this]
    go_wp2_with fail
    refine (HCL.out w1 _ HB1.out (DocAt.on HD.out HB1.out)).mono ?_
    rintro e w2 ⟨v', rfl, hd2, hb2⟩
    obtain ⟨a3, c3, rfl⟩ := hd2.form
    have HD2 : Hid (DocAt _ _ _) := hd2
    have HB2 : Hid (Below w.heap.size w w2) := below_trans HB1.out hb2
    have HBR2 : Hid (Blk2 _ _ _ _) := Blk2.on HBR1.out hb2
    clear hd2 hb2
    go_wp2_with fail
    refine (indexed_any _ ms E _ HD2.out).mono ?_
    rintro e w3 ⟨v3, rfl, hp3, hb3⟩
    obtain ⟨a4, c4, a5, c5, rfl, hd4, he4⟩ := hp3
    have HB3 : Hid (Below w.heap.size w w3) := below_trans HB2.out hb3
    have bR3 := Blk2.on HBR2.out hb3
    obtain ⟨⟨r0, r1⟩, fR⟩ := bR3.facts
    obtain ⟨p1, p2⟩ := PgAt.box hd4 he4 bR3
    obtain ⟨⟨q0, q1⟩, _⟩ := p2.facts
    have HP1 : Hid (PgAt _ _ _ _) := p1
    have HQ0 : Hid _ := q0
    have HQ1 : Hid _ := q1
    clear p1 p2 q0 q1 hd4 he4 bR3 hb3
    generalize pgDoc E ms = D at *
    generalize pgIdx E ms = I at *
    generalize pgErr E ms = PE at *
    go_wp2
    have q0 := HQ0.out
    have q1 := HQ1.out
    exact bodyPost_ret (v := .tuple #[.agg #[.slice a4 D.length c4, .slice a5 I.length c5], .int .i64 PE]) (by simp [results, Tryz.results18, go_sem, q0, q1]) rfl
      ⟨_, by rw [HA.out.1], by rw [HA.out.2.1, HA.out.2.2]; exact HP1.out, (HB3.out.setCell (p := ⟨w.heap.size + 1, 0, none⟩) (by simp) _).setCell (p := ⟨w.heap.size + 1, 1, none⟩) (by simp) _⟩
end Go.Proofs.YtbpgcfabepioiaaGreat
/-
  live's calls: Open, Insert, Remove and Put.
-/
namespace Go.Proofs.YtbpgcfabepioiaaGreat
open Go.RowKit

theorem enter19 (args : Array Value) (W : World) : (callFunc 19 args).run Tryz.prog W = .ok (.enter 19 args) W := by simp [callFunc, go_sem, Tryz.func19, Tryz.f19]
theorem enter21 (args : Array Value) (W : World) : (callFunc 21 args).run Tryz.prog W = .ok (.enter 21 args) W := by simp [callFunc, go_sem, Tryz.func21, Tryz.f21]
theorem enter23 (args : Array Value) (W : World) : (callFunc 23 args).run Tryz.prog W = .ok (.enter 23 args) W := by simp [callFunc, go_sem, Tryz.func23, Tryz.f23]
/-- what such a closure answers -/
def ClSays (E : Int) (ms : List Pl.Nd) (w : World) (e : Ending) (w' : World) : Prop := ∃ v', e = .returned (.tuple #[.agg #[v'], .int .i64 E]) ∧ DocAt w' v' ms ∧ Below w.heap.size w w'
set_option maxRecDepth 100000 in
set_option maxHeartbeats 2000000 in
theorem insCl (dv : Value) (ns : List Pl.Nd) (up at_ : Int) (N1 N2 N3 : Nat) (a3 : Option Addr) (c3 : Nat) (es : List Pl.Nd) (w : World) (hd : DocAt w dv ns) (h1 : w.cell? ⟨N1, 0, none⟩ = some (.int .i64 up)) (h2 : w.cell? ⟨N2, 0, none⟩ = some (.int .i64 at_)) (h3 : w.cell? ⟨N3, 0, none⟩ = some (.slice a3 es.length c3)) (hd2 : DocAt w (.slice a3 es.length c3) es) :
    Calls Tryz.prog 19 #[.agg #[dv], .pointer (some ⟨N1, 0, none⟩), .pointer (some ⟨N2, 0, none⟩), .pointer (some ⟨N3, 0, none⟩)] w fun e w' => ClSays (insErr ns up at_ es) (insOf ns up at_ es) w e w' := by
  obtain ⟨a, c, rfl⟩ := hd.form
  have hb0 := boxes w (.cells #[.slice a ns.length c] 24) (.cells #[.slice none 0 0] 24)
  have bR : Blk1 ((w.alloc (.cells #[.slice a ns.length c] 24)).alloc (.cells #[.slice none 0 0] 24)) (w.heap.size + 1) (.slice none 0 0) := by
    have := Blk1.new (w.alloc (.cells #[.slice a ns.length c] 24)) (.slice none 0 0)
    simpa using this
  have bS : Blk1 ((w.alloc (.cells #[.slice a ns.length c] 24)).alloc (.cells #[.slice none 0 0] 24)) w.heap.size (.slice a ns.length c) := (Blk1.new w _).on (on_alloc _ _)
  obtain ⟨x0, _⟩ := bS.facts
  have x1 := cell_on hb0 h1
  have x2 := cell_on hb0 h2
  have x3 := cell_on hb0 h3
  have HD2 : Hid (DocAt _ _ _) := hd2.on hb0
  clear h1 h2 h3 hd2
  have HD : Hid (DocAt _ _ _) := hd.on hb0
  have HB0 : Hid (Below _ _ _) := hb0
  have HBR : Hid (Blk1 _ _ _) := bR
  clear hd hb0 bR bS
  go_enter Tryz.func19, Tryz.ntmps19
  go_wp2_with fail
  generalize (w.alloc (.cells #[.slice a ns.length c] 24)).alloc (.cells #[.slice none 0 0] 24) = w0 at *
  refine (insert_any _ _ ns es up at_ _ HD.out HD2.out).mono ?_
  rintro e w1 ⟨v1, rfl, hd1, hb1⟩
  obtain ⟨a1, c1, rfl⟩ := hd1.form
  have bR1 := Blk1.on HBR.out hb1
  obtain ⟨r0, fR⟩ := bR1.facts
  have HD1 : Hid (DocAt (w1.setCell ⟨w.heap.size + 1, 0, none⟩ (.slice a1 (insOf ns up at_ es).length c1)) (.slice a1 (insOf ns up at_ es).length c1) (insOf ns up at_ es)) := hd1.sm bR1.sm
  have HQ0 : Hid _ := (bR1.set (.slice a1 (insOf ns up at_ es).length c1)).facts.1
  have HB1 : Hid (Below w.heap.size w w1) := below_trans HB0.out hb1
  clear hd1 hb1 bR1
  have Hgen : Hid (∃ D, D = insOf ns up at_ es) := ⟨_, rfl⟩
  generalize hD : insOf ns up at_ es = D at HD1 HQ0 ⊢
  generalize hE : insErr ns up at_ es = EE at *
  have HDe : Hid _ := hD
  have HEe : Hid _ := hE
  clear hD hE Hgen
  go_wp2
  have q0 := HQ0.out
  exact bodyPost_ret (v := .tuple #[.agg #[.slice a1 D.length c1], .int .i64 EE]) (by simp [results, Tryz.results19, go_sem, q0]) rfl
    ⟨_, by rw [HEe.out], by rw [HDe.out]; exact HD1.out, HB1.out.setCell (p := ⟨w.heap.size + 1, 0, none⟩) (by simp) _⟩
set_option maxRecDepth 100000 in
set_option maxHeartbeats 2000000 in
theorem remCl (dv : Value) (ns : List Pl.Nd) (n : Int) (N1 : Nat) (w : World) (hd : DocAt w dv ns) (h1 : w.cell? ⟨N1, 0, none⟩ = some (.int .i64 n)) :
    Calls Tryz.prog 21 #[.agg #[dv], .pointer (some ⟨N1, 0, none⟩)] w fun e w' => ClSays (remErr ns n) (remOf ns n) w e w' := by
  obtain ⟨a, c, rfl⟩ := hd.form
  have hb0 := boxes w (.cells #[.slice a ns.length c] 24) (.cells #[.slice none 0 0] 24)
  have bR : Blk1 ((w.alloc (.cells #[.slice a ns.length c] 24)).alloc (.cells #[.slice none 0 0] 24)) (w.heap.size + 1) (.slice none 0 0) := by
    have := Blk1.new (w.alloc (.cells #[.slice a ns.length c] 24)) (.slice none 0 0)
    simpa using this
  have bS : Blk1 ((w.alloc (.cells #[.slice a ns.length c] 24)).alloc (.cells #[.slice none 0 0] 24)) w.heap.size (.slice a ns.length c) := (Blk1.new w _).on (on_alloc _ _)
  obtain ⟨x0, _⟩ := bS.facts
  have x1 := cell_on hb0 h1
  clear h1
  have HD : Hid (DocAt _ _ _) := hd.on hb0
  have HB0 : Hid (Below _ _ _) := hb0
  have HBR : Hid (Blk1 _ _ _) := bR
  clear hd hb0 bR bS
  go_enter Tryz.func21, Tryz.ntmps21
  go_wp2_with fail
  generalize (w.alloc (.cells #[.slice a ns.length c] 24)).alloc (.cells #[.slice none 0 0] 24) = w0 at *
  refine (remove_any _ ns n _ HD.out).mono ?_
  rintro e w1 ⟨v1, rfl, hd1, hb1⟩
  obtain ⟨a1, c1, rfl⟩ := hd1.form
  have bR1 := Blk1.on HBR.out hb1
  obtain ⟨r0, fR⟩ := bR1.facts
  have HD1 : Hid (DocAt (w1.setCell ⟨w.heap.size + 1, 0, none⟩ (.slice a1 (remOf ns n).length c1)) (.slice a1 (remOf ns n).length c1) (remOf ns n)) := hd1.sm bR1.sm
  have HQ0 : Hid _ := (bR1.set (.slice a1 (remOf ns n).length c1)).facts.1
  have HB1 : Hid (Below w.heap.size w w1) := below_trans HB0.out hb1
  clear hd1 hb1 bR1
  have Hgen : Hid (∃ D, D = remOf ns n) := ⟨_, rfl⟩
  generalize hD : remOf ns n = D at HD1 HQ0 ⊢
  generalize hE : remErr ns n = EE at *
  have HDe : Hid _ := hD
  have HEe : Hid _ := hE
  clear hD hE Hgen
  go_wp2
  have q0 := HQ0.out
  exact bodyPost_ret (v := .tuple #[.agg #[.slice a1 D.length c1], .int .i64 EE]) (by simp [results, Tryz.results21, go_sem, q0]) rfl
    ⟨_, by rw [HEe.out], by rw [HDe.out]; exact HD1.out, HB1.out.setCell (p := ⟨w.heap.size + 1, 0, none⟩) (by simp) _⟩
set_option maxRecDepth 100000 in
set_option maxHeartbeats 2000000 in
theorem putCl (dv : Value) (ns : List Pl.Nd) (n : Int) (N1 N2 : Nat) (x : Pl.Nd) (ac aa : Option Addr) (cc ca : Nat) (w : World) (hd : DocAt w dv ns) (h1 : w.cell? ⟨N1, 0, none⟩ = some (.int .i64 n)) (hB : Blk w N2 (.int .i64 x.up) (.string ⟨x.tag.toArray⟩) (.string ⟨x.id.toArray⟩) (.slice ac x.cls.length cc) (.slice aa x.ats.length ca)) (hs : StrsAt w (.slice ac x.cls.length cc) x.cls) (ha : AtsAt w (.slice aa x.ats.length ca) x.ats) (hfx : Fits x) :
    Calls Tryz.prog 23 #[.agg #[dv], .pointer (some ⟨N1, 0, none⟩), .pointer (some ⟨N2, 0, none⟩)] w fun e w' => ClSays (putErr ns n x) (putOf ns n x) w e w' := by
  obtain ⟨a, c, rfl⟩ := hd.form
  have hb0 := boxes w (.cells #[.slice a ns.length c] 24) (.cells #[.slice none 0 0] 24)
  have bR : Blk1 ((w.alloc (.cells #[.slice a ns.length c] 24)).alloc (.cells #[.slice none 0 0] 24)) (w.heap.size + 1) (.slice none 0 0) := by
    have := Blk1.new (w.alloc (.cells #[.slice a ns.length c] 24)) (.slice none 0 0)
    simpa using this
  have bS : Blk1 ((w.alloc (.cells #[.slice a ns.length c] 24)).alloc (.cells #[.slice none 0 0] 24)) w.heap.size (.slice a ns.length c) := (Blk1.new w _).on (on_alloc _ _)
  obtain ⟨x0, _⟩ := bS.facts
  have x1 := cell_on hb0 h1
  obtain ⟨⟨y0, y1, y2, y3, y4⟩, _⟩ := (hB.on hb0).facts
  have HNV : Hid (NdV ((w.alloc (.cells #[.slice a ns.length c] 24)).alloc (.cells #[.slice none 0 0] 24)) (.agg #[.int .i64 x.up, .string ⟨x.tag.toArray⟩, .string ⟨x.id.toArray⟩, .slice ac x.cls.length cc, .slice aa x.ats.length ca]) x) := ⟨_, _, rfl, hs.on hb0, ha.on hb0⟩
  clear h1 hB hs ha
  have HD : Hid (DocAt _ _ _) := hd.on hb0
  have HB0 : Hid (Below _ _ _) := hb0
  have HBR : Hid (Blk1 _ _ _) := bR
  clear hd hb0 bR bS
  go_enter Tryz.func23, Tryz.ntmps23
  go_wp2_with fail
  generalize (w.alloc (.cells #[.slice a ns.length c] 24)).alloc (.cells #[.slice none 0 0] 24) = w0 at *
  refine (put_any _ _ ns n x _ HD.out HNV.out hfx).mono ?_
  rintro e w1 ⟨v1, rfl, hd1, hb1⟩
  obtain ⟨a1, c1, rfl⟩ := hd1.form
  have bR1 := Blk1.on HBR.out hb1
  obtain ⟨r0, fR⟩ := bR1.facts
  have HD1 : Hid (DocAt (w1.setCell ⟨w.heap.size + 1, 0, none⟩ (.slice a1 (putOf ns n x).length c1)) (.slice a1 (putOf ns n x).length c1) (putOf ns n x)) := hd1.sm bR1.sm
  have HQ0 : Hid _ := (bR1.set (.slice a1 (putOf ns n x).length c1)).facts.1
  have HB1 : Hid (Below w.heap.size w w1) := below_trans HB0.out hb1
  clear hd1 hb1 bR1
  have Hgen : Hid (∃ D, D = putOf ns n x) := ⟨_, rfl⟩
  generalize hD : putOf ns n x = D at HD1 HQ0 ⊢
  generalize hE : putErr ns n x = EE at *
  have HDe : Hid _ := hD
  have HEe : Hid _ := hE
  clear hD hE Hgen
  go_wp2
  have q0 := HQ0.out
  exact bodyPost_ret (v := .tuple #[.agg #[.slice a1 D.length c1], .int .i64 EE]) (by simp [results, Tryz.results23, go_sem, q0]) rfl
    ⟨_, by rw [HEe.out], by rw [HDe.out]; exact HD1.out, HB1.out.setCell (p := ⟨w.heap.size + 1, 0, none⟩) (by simp) _⟩
end Go.Proofs.YtbpgcfabepioiaaGreat
/-
  live's four calls.
-/
namespace Go.Proofs.YtbpgcfabepioiaaGreat
open Go.RowKit

theorem Blk2.any {w w' : World} {N : Nat} {c0 c1 : Value} (h : Blk2 w N c0 c1) (hb : Below w.heap.size w w') : Blk2 w' N c0 c1 := h.on hb
set_option maxRecDepth 100000 in
set_option maxHeartbeats 2000000 in
theorem open_any (v : Value) (ns : List Pl.Nd) (w : World) (hd : DocAt w v ns) : Calls Tryz.prog 4 #[.agg #[v]] w fun e w' => IdxSays (checkAtOf ns 0) (partOf ns 0) w e w' := by
  obtain ⟨a, c, rfl⟩ := hd.form
  have hb0 := boxes w (.cells #[.slice a ns.length c] 24) (.cells #[.slice none 0 0, .slice none 0 0] 27)
  have bR : Blk2 ((w.alloc (.cells #[.slice a ns.length c] 24)).alloc (.cells #[.slice none 0 0, .slice none 0 0] 27)) (w.heap.size + 1) (.slice none 0 0) (.slice none 0 0) := by
    have := Blk2.new (w.alloc (.cells #[.slice a ns.length c] 24)) (.slice none 0 0) (.slice none 0 0)
    simpa using this
  have bS : Blk1 ((w.alloc (.cells #[.slice a ns.length c] 24)).alloc (.cells #[.slice none 0 0, .slice none 0 0] 27)) w.heap.size (.slice a ns.length c) := (Blk1.new w _).on (on_alloc _ _)
  obtain ⟨x0, _⟩ := bS.facts
  have HD : Hid (DocAt _ _ _) := hd.on hb0
  have HB0 : Hid (Below _ _ _) := hb0
  have HBR0 : Hid (Blk2 _ _ _ _) := bR
  clear hd hb0 bR bS
  go_enter Tryz.func4, Tryz.ntmps4
  go_wp2_with fail
  generalize (w.alloc (.cells #[.slice a ns.length c] 24)).alloc (.cells #[.slice none 0 0, .slice none 0 0] 27) = w0 at *
  refine (part_any _ ns 0 _ HD.out).mono ?_
  rintro e w1 ⟨v1, rfl, hd1, hb1⟩
  obtain ⟨a1, c1, rfl⟩ := hd1.form
  have HD1 : Hid (DocAt _ _ _) := hd1
  have HBR : Hid (Blk2 _ _ _ _) := Blk2.on HBR0.out hb1
  have HBA : Hid (Below w.heap.size w w1) := below_trans HB0.out hb1
  clear hd1 hb1
  generalize hP : partOf ns 0 = P at HD1 ⊢
  generalize hC : checkAtOf ns 0 = C
  have HPe : Hid _ := hP
  have HCe : Hid _ := hC
  clear hP hC
  go_wp2_with fail
  refine (indexed_any _ P C _ HD1.out).mono ?_
  rintro e wz ⟨vz, rfl, hpz, hbz⟩
  obtain ⟨a8, c8, a9, c9, rfl, hd8, he9⟩ := hpz
  have HBz : Hid (Below w.heap.size w wz) := below_trans HBA.out hbz
  have bRz := Blk2.on HBR.out hbz
  obtain ⟨⟨r0, r1⟩, fR⟩ := bRz.facts
  obtain ⟨p1, p2⟩ := PgAt.box hd8 he9 bRz
  obtain ⟨⟨q0, q1⟩, _⟩ := p2.facts
  have HP1 : Hid (PgAt _ _ _ _) := p1
  have HQ0 : Hid _ := q0
  have HQ1 : Hid _ := q1
  clear p1 p2 q0 q1 hd8 he9 bRz hbz
  generalize hD : pgDoc C P = D at HP1 HQ0 HQ1 ⊢
  generalize hI : pgIdx C P = I at HP1 HQ0 HQ1 ⊢
  generalize hE : pgErr C P = EE at *
  have HDe : Hid _ := hD
  have HIe : Hid _ := hI
  have HEe : Hid _ := hE
  clear hD hI hE
  go_wp2
  have q0 := HQ0.out
  have q1 := HQ1.out
  exact bodyPost_ret (v := .tuple #[.agg #[.slice a8 D.length c8, .slice a9 I.length c9], .int .i64 EE]) (by simp [results, Tryz.results4, go_sem, q0, q1]) rfl
    ⟨_, by rw [HPe.out, HCe.out, HEe.out], by rw [HPe.out, HCe.out, HDe.out, HIe.out]; exact HP1.out, (HBz.out.setCell (p := ⟨w.heap.size + 1, 0, none⟩) (by first | (simp; done) | (simp; omega)) _).setCell (p := ⟨w.heap.size + 1, 1, none⟩) (by first | (simp; done) | (simp; omega)) _⟩
set_option maxRecDepth 100000 in
set_option maxHeartbeats 4000000 in
theorem linsert_any (v : Value) (ns : List Pl.Nd) (l : List Pl.Er) (up at_ : Int) (v2 : Value) (es : List Pl.Nd) (w : World) (hp : PgAt w v ns l) (hl : IxFit l) (hd2 : DocAt w v2 es) :
    Calls Tryz.prog 5 #[v, .int .i64 up, .int .i64 at_, .agg #[v2]] w fun e w' => ChSays (pageErr ns l) (insErr ns up at_ es) (insOf ns up at_ es) w e w' := by
  obtain ⟨a, c, a2, c2, rfl⟩ := hp.form
  obtain ⟨a3, c3, rfl⟩ := hd2.form
  have hb0 : Below w.heap.size w (((((w.alloc (.cells #[.slice a ns.length c, .slice a2 l.length c2] 27)).alloc (.cells #[.int .i64 up] 3)).alloc (.cells #[.int .i64 at_] 3)).alloc (.cells #[.slice a3 es.length c3] 24)).alloc (.cells #[.slice none 0 0, .slice none 0 0] 27)) := ((((((Below.refl w.heap.size w).alloc (Nat.le_refl _) _).alloc (by simp) _).alloc (by simp; omega) _).alloc (by simp; omega) _).alloc (by simp; omega) _)
  have bR : Blk2 (((((w.alloc (.cells #[.slice a ns.length c, .slice a2 l.length c2] 27)).alloc (.cells #[.int .i64 up] 3)).alloc (.cells #[.int .i64 at_] 3)).alloc (.cells #[.slice a3 es.length c3] 24)).alloc (.cells #[.slice none 0 0, .slice none 0 0] 27)) (w.heap.size + 1 + 1 + 1 + 1) (.slice none 0 0) (.slice none 0 0) := by
    have := Blk2.new ((((w.alloc (.cells #[.slice a ns.length c, .slice a2 l.length c2] 27)).alloc (.cells #[.int .i64 up] 3)).alloc (.cells #[.int .i64 at_] 3)).alloc (.cells #[.slice a3 es.length c3] 24)) (.slice none 0 0) (.slice none 0 0)
    simpa using this
  have bS : Blk2 (((((w.alloc (.cells #[.slice a ns.length c, .slice a2 l.length c2] 27)).alloc (.cells #[.int .i64 up] 3)).alloc (.cells #[.int .i64 at_] 3)).alloc (.cells #[.slice a3 es.length c3] 24)).alloc (.cells #[.slice none 0 0, .slice none 0 0] 27)) w.heap.size (.slice a ns.length c) (.slice a2 l.length c2) := ((((Blk2.new w _ _).on (on_alloc _ _)).on (on_alloc _ _)).on (on_alloc _ _)).on (on_alloc _ _)
  have z1 : (((((w.alloc (.cells #[.slice a ns.length c, .slice a2 l.length c2] 27)).alloc (.cells #[.int .i64 up] 3)).alloc (.cells #[.int .i64 at_] 3)).alloc (.cells #[.slice a3 es.length c3] 24)).alloc (.cells #[.slice none 0 0, .slice none 0 0] 27)).cell? ⟨w.heap.size + 1, 0, none⟩ = some (.int .i64 up) := by simp [go_sem]
  have z2 : (((((w.alloc (.cells #[.slice a ns.length c, .slice a2 l.length c2] 27)).alloc (.cells #[.int .i64 up] 3)).alloc (.cells #[.int .i64 at_] 3)).alloc (.cells #[.slice a3 es.length c3] 24)).alloc (.cells #[.slice none 0 0, .slice none 0 0] 27)).cell? ⟨w.heap.size + 1 + 1, 0, none⟩ = some (.int .i64 at_) := by simp [go_sem]
  have z3 : (((((w.alloc (.cells #[.slice a ns.length c, .slice a2 l.length c2] 27)).alloc (.cells #[.int .i64 up] 3)).alloc (.cells #[.int .i64 at_] 3)).alloc (.cells #[.slice a3 es.length c3] 24)).alloc (.cells #[.slice none 0 0, .slice none 0 0] 27)).cell? ⟨w.heap.size + 1 + 1 + 1, 0, none⟩ = some (.slice a3 es.length c3) := by simp [go_sem]
  have HZ1 : Hid _ := z1
  have HZ2 : Hid _ := z2
  have HZ3 : Hid _ := z3
  have HD2 : Hid (DocAt _ _ _) := hd2.on hb0
  clear z1 z2 z3 hd2
  have HPG : Hid (PgAt _ _ _ _) := hp.on hb0
  have HB0 : Hid (Below _ _ _) := hb0
  have HBR : Hid (Blk2 _ _ _ _) := bR
  have HBA : Hid (Below _ _ _) := hb0
  have HL : Hid (IxFit _) := hl
  obtain ⟨⟨x0, x1⟩, _⟩ := bS.facts
  clear hp hb0 bR bS hl
  go_enter Tryz.func5, Tryz.ntmps5
  go_wp2_with fail
  generalize ((((w.alloc (.cells #[.slice a ns.length c, .slice a2 l.length c2] 27)).alloc (.cells #[.int .i64 up] 3)).alloc (.cells #[.int .i64 at_] 3)).alloc (.cells #[.slice a3 es.length c3] 24)).alloc (.cells #[.slice none 0 0, .slice none 0 0] 27) = w0 at *
  refine (change_any _ ns l 19 #[.pointer (some ⟨w.heap.size + 1, 0, none⟩), .pointer (some ⟨w.heap.size + 1 + 1, 0, none⟩), .pointer (some ⟨w.heap.size + 1 + 1 + 1, 0, none⟩)] (insErr ns up at_ es) (insOf ns up at_ es) _ HPG.out HL.out enter19 ?_).mono ?_
  · intro W dv hW hdv
    exact insCl dv ns up at_ _ _ _ a3 c3 es W hdv (cell_on hW HZ1.out) (cell_on hW HZ2.out) (cell_on hW HZ3.out) (DocAt.on HD2.out hW)
  rintro e wz ⟨vz, rfl, hpz, hbz⟩
  obtain ⟨a8, c8, a9, c9, rfl, hd8, he9⟩ := hpz
  have HBz : Hid (Below w.heap.size w wz) := below_trans HBA.out hbz
  have bRz := Blk2.on HBR.out hbz
  obtain ⟨⟨r0, r1⟩, fR⟩ := bRz.facts
  obtain ⟨p1, p2⟩ := PgAt.box hd8 he9 bRz
  obtain ⟨⟨q0, q1⟩, _⟩ := p2.facts
  have HP1 : Hid (PgAt _ _ _ _) := p1
  have HQ0 : Hid _ := q0
  have HQ1 : Hid _ := q1
  clear p1 p2 q0 q1 hd8 he9 bRz hbz
  generalize hD : chDoc (pageErr ns l) (insErr ns up at_ es) (insOf ns up at_ es) = D at HP1 HQ0 HQ1 ⊢
  generalize hI : chIdx (pageErr ns l) (insErr ns up at_ es) (insOf ns up at_ es) = I at HP1 HQ0 HQ1 ⊢
  generalize hE : chErr (pageErr ns l) (insErr ns up at_ es) (insOf ns up at_ es) = EE at *
  have HDe : Hid _ := hD
  have HIe : Hid _ := hI
  have HEe : Hid _ := hE
  clear hD hI hE
  go_wp2
  have q0 := HQ0.out
  have q1 := HQ1.out
  exact bodyPost_ret (v := .tuple #[.agg #[.slice a8 D.length c8, .slice a9 I.length c9], .int .i64 EE]) (by simp [results, Tryz.results5, go_sem, q0, q1]) rfl
    ⟨_, by rw [HEe.out], by rw [HDe.out, HIe.out]; exact HP1.out, (HBz.out.setCell (p := ⟨w.heap.size + 1 + 1 + 1 + 1, 0, none⟩) (by first | (simp; done) | (simp; omega)) _).setCell (p := ⟨w.heap.size + 1 + 1 + 1 + 1, 1, none⟩) (by first | (simp; done) | (simp; omega)) _⟩
set_option maxRecDepth 100000 in
set_option maxHeartbeats 4000000 in
theorem lremove_any (v : Value) (ns : List Pl.Nd) (l : List Pl.Er) (n : Int) (w : World) (hp : PgAt w v ns l) (hl : IxFit l)  :
    Calls Tryz.prog 6 #[v, .int .i64 n] w fun e w' => ChSays (pageErr ns l) (remErr ns n) (remOf ns n) w e w' := by
  obtain ⟨a, c, a2, c2, rfl⟩ := hp.form
  have hb0 : Below w.heap.size w (((w.alloc (.cells #[.slice a ns.length c, .slice a2 l.length c2] 27)).alloc (.cells #[.int .i64 n] 3)).alloc (.cells #[.slice none 0 0, .slice none 0 0] 27)) := ((((Below.refl w.heap.size w).alloc (Nat.le_refl _) _).alloc (by simp) _).alloc (by simp; omega) _)
  have bR : Blk2 (((w.alloc (.cells #[.slice a ns.length c, .slice a2 l.length c2] 27)).alloc (.cells #[.int .i64 n] 3)).alloc (.cells #[.slice none 0 0, .slice none 0 0] 27)) (w.heap.size + 1 + 1) (.slice none 0 0) (.slice none 0 0) := by
    have := Blk2.new ((w.alloc (.cells #[.slice a ns.length c, .slice a2 l.length c2] 27)).alloc (.cells #[.int .i64 n] 3)) (.slice none 0 0) (.slice none 0 0)
    simpa using this
  have bS : Blk2 (((w.alloc (.cells #[.slice a ns.length c, .slice a2 l.length c2] 27)).alloc (.cells #[.int .i64 n] 3)).alloc (.cells #[.slice none 0 0, .slice none 0 0] 27)) w.heap.size (.slice a ns.length c) (.slice a2 l.length c2) := ((Blk2.new w _ _).on (on_alloc _ _)).on (on_alloc _ _)
  have z1 : (((w.alloc (.cells #[.slice a ns.length c, .slice a2 l.length c2] 27)).alloc (.cells #[.int .i64 n] 3)).alloc (.cells #[.slice none 0 0, .slice none 0 0] 27)).cell? ⟨w.heap.size + 1, 0, none⟩ = some (.int .i64 n) := by simp [go_sem]
  have HZ1 : Hid _ := z1
  clear z1
  have HPG : Hid (PgAt _ _ _ _) := hp.on hb0
  have HB0 : Hid (Below _ _ _) := hb0
  have HBR : Hid (Blk2 _ _ _ _) := bR
  have HBA : Hid (Below _ _ _) := hb0
  have HL : Hid (IxFit _) := hl
  obtain ⟨⟨x0, x1⟩, _⟩ := bS.facts
  clear hp hb0 bR bS hl
  go_enter Tryz.func6, Tryz.ntmps6
  go_wp2_with fail
  generalize ((w.alloc (.cells #[.slice a ns.length c, .slice a2 l.length c2] 27)).alloc (.cells #[.int .i64 n] 3)).alloc (.cells #[.slice none 0 0, .slice none 0 0] 27) = w0 at *
  refine (change_any _ ns l 21 #[.pointer (some ⟨w.heap.size + 1, 0, none⟩)] (remErr ns n) (remOf ns n) _ HPG.out HL.out enter21 ?_).mono ?_
  · intro W dv hW hdv
    exact remCl dv ns n _ W hdv (cell_on hW HZ1.out)
  rintro e wz ⟨vz, rfl, hpz, hbz⟩
  obtain ⟨a8, c8, a9, c9, rfl, hd8, he9⟩ := hpz
  have HBz : Hid (Below w.heap.size w wz) := below_trans HBA.out hbz
  have bRz := Blk2.on HBR.out hbz
  obtain ⟨⟨r0, r1⟩, fR⟩ := bRz.facts
  obtain ⟨p1, p2⟩ := PgAt.box hd8 he9 bRz
  obtain ⟨⟨q0, q1⟩, _⟩ := p2.facts
  have HP1 : Hid (PgAt _ _ _ _) := p1
  have HQ0 : Hid _ := q0
  have HQ1 : Hid _ := q1
  clear p1 p2 q0 q1 hd8 he9 bRz hbz
  generalize hD : chDoc (pageErr ns l) (remErr ns n) (remOf ns n) = D at HP1 HQ0 HQ1 ⊢
  generalize hI : chIdx (pageErr ns l) (remErr ns n) (remOf ns n) = I at HP1 HQ0 HQ1 ⊢
  generalize hE : chErr (pageErr ns l) (remErr ns n) (remOf ns n) = EE at *
  have HDe : Hid _ := hD
  have HIe : Hid _ := hI
  have HEe : Hid _ := hE
  clear hD hI hE
  go_wp2
  have q0 := HQ0.out
  have q1 := HQ1.out
  exact bodyPost_ret (v := .tuple #[.agg #[.slice a8 D.length c8, .slice a9 I.length c9], .int .i64 EE]) (by simp [results, Tryz.results6, go_sem, q0, q1]) rfl
    ⟨_, by rw [HEe.out], by rw [HDe.out, HIe.out]; exact HP1.out, (HBz.out.setCell (p := ⟨w.heap.size + 1 + 1, 0, none⟩) (by first | (simp; done) | (simp; omega)) _).setCell (p := ⟨w.heap.size + 1 + 1, 1, none⟩) (by first | (simp; done) | (simp; omega)) _⟩
set_option maxRecDepth 100000 in
set_option maxHeartbeats 4000000 in
theorem lput_any (v : Value) (ns : List Pl.Nd) (l : List Pl.Er) (n : Int) (xv : Value) (x : Pl.Nd) (w : World) (hp : PgAt w v ns l) (hl : IxFit l) (hx : NdV w xv x) (hfx : Fits x) :
    Calls Tryz.prog 7 #[v, .int .i64 n, xv] w fun e w' => ChSays (pageErr ns l) (putErr ns n x) (putOf ns n x) w e w' := by
  obtain ⟨a, c, a2, c2, rfl⟩ := hp.form
  obtain ⟨vc, va, rfl, hs, ha⟩ := hx
  obtain ⟨ac, cc, rfl, _⟩ := id hs
  obtain ⟨aa, ca, rfl, _⟩ := id ha
  have hb0 : Below w.heap.size w ((((w.alloc (.cells #[.slice a ns.length c, .slice a2 l.length c2] 27)).alloc (.cells #[.int .i64 n] 3)).alloc (.cells #[.int .i64 x.up, .string ⟨x.tag.toArray⟩, .string ⟨x.id.toArray⟩, .slice ac x.cls.length cc, .slice aa x.ats.length ca] 31)).alloc (.cells #[.slice none 0 0, .slice none 0 0] 27)) := (((((Below.refl w.heap.size w).alloc (Nat.le_refl _) _).alloc (by simp) _).alloc (by simp; omega) _).alloc (by simp; omega) _)
  have bR : Blk2 ((((w.alloc (.cells #[.slice a ns.length c, .slice a2 l.length c2] 27)).alloc (.cells #[.int .i64 n] 3)).alloc (.cells #[.int .i64 x.up, .string ⟨x.tag.toArray⟩, .string ⟨x.id.toArray⟩, .slice ac x.cls.length cc, .slice aa x.ats.length ca] 31)).alloc (.cells #[.slice none 0 0, .slice none 0 0] 27)) (w.heap.size + 1 + 1 + 1) (.slice none 0 0) (.slice none 0 0) := by
    have := Blk2.new (((w.alloc (.cells #[.slice a ns.length c, .slice a2 l.length c2] 27)).alloc (.cells #[.int .i64 n] 3)).alloc (.cells #[.int .i64 x.up, .string ⟨x.tag.toArray⟩, .string ⟨x.id.toArray⟩, .slice ac x.cls.length cc, .slice aa x.ats.length ca] 31)) (.slice none 0 0) (.slice none 0 0)
    simpa using this
  have bS : Blk2 ((((w.alloc (.cells #[.slice a ns.length c, .slice a2 l.length c2] 27)).alloc (.cells #[.int .i64 n] 3)).alloc (.cells #[.int .i64 x.up, .string ⟨x.tag.toArray⟩, .string ⟨x.id.toArray⟩, .slice ac x.cls.length cc, .slice aa x.ats.length ca] 31)).alloc (.cells #[.slice none 0 0, .slice none 0 0] 27)) w.heap.size (.slice a ns.length c) (.slice a2 l.length c2) := (((Blk2.new w _ _).on (on_alloc _ _)).on (on_alloc _ _)).on (on_alloc _ _)
  have z1 : ((((w.alloc (.cells #[.slice a ns.length c, .slice a2 l.length c2] 27)).alloc (.cells #[.int .i64 n] 3)).alloc (.cells #[.int .i64 x.up, .string ⟨x.tag.toArray⟩, .string ⟨x.id.toArray⟩, .slice ac x.cls.length cc, .slice aa x.ats.length ca] 31)).alloc (.cells #[.slice none 0 0, .slice none 0 0] 27)).cell? ⟨w.heap.size + 1, 0, none⟩ = some (.int .i64 n) := by simp [go_sem]
  have z2 : Blk ((((w.alloc (.cells #[.slice a ns.length c, .slice a2 l.length c2] 27)).alloc (.cells #[.int .i64 n] 3)).alloc (.cells #[.int .i64 x.up, .string ⟨x.tag.toArray⟩, .string ⟨x.id.toArray⟩, .slice ac x.cls.length cc, .slice aa x.ats.length ca] 31)).alloc (.cells #[.slice none 0 0, .slice none 0 0] 27)) (w.heap.size + 1 + 1) (.int .i64 x.up) (.string ⟨x.tag.toArray⟩) (.string ⟨x.id.toArray⟩) (.slice ac x.cls.length cc) (.slice aa x.ats.length ca) := by
    have : Blk (((w.alloc (.cells #[.slice a ns.length c, .slice a2 l.length c2] 27)).alloc (.cells #[.int .i64 n] 3)).alloc (.cells #[.int .i64 x.up, .string ⟨x.tag.toArray⟩, .string ⟨x.id.toArray⟩, .slice ac x.cls.length cc, .slice aa x.ats.length ca] 31)) (w.heap.size + 1 + 1) (.int .i64 x.up) (.string ⟨x.tag.toArray⟩) (.string ⟨x.id.toArray⟩) (.slice ac x.cls.length cc) (.slice aa x.ats.length ca) := by
      have := heap_alloc_new ((w.alloc (.cells #[.slice a ns.length c, .slice a2 l.length c2] 27)).alloc (.cells #[.int .i64 n] 3)) (.cells #[.int .i64 x.up, .string ⟨x.tag.toArray⟩, .string ⟨x.id.toArray⟩, .slice ac x.cls.length cc, .slice aa x.ats.length ca] 31)
      simpa [Blk] using this
    exact this.on (on_alloc _ _)
  have HZ1 : Hid _ := z1
  have HZ2 : Hid (Blk _ _ _ _ _ _ _) := z2
  have HS : Hid (StrsAt _ _ _) := hs.on hb0
  have HA : Hid (AtsAt _ _ _) := ha.on hb0
  clear z1 z2 hs ha
  have HPG : Hid (PgAt _ _ _ _) := hp.on hb0
  have HB0 : Hid (Below _ _ _) := hb0
  have HBR : Hid (Blk2 _ _ _ _) := bR
  have HBA : Hid (Below _ _ _) := hb0
  have HL : Hid (IxFit _) := hl
  obtain ⟨⟨x0, x1⟩, _⟩ := bS.facts
  clear hp hb0 bR bS hl
  go_enter Tryz.func7, Tryz.ntmps7
  go_wp2_with fail
  generalize (((w.alloc (.cells #[.slice a ns.length c, .slice a2 l.length c2] 27)).alloc (.cells #[.int .i64 n] 3)).alloc (.cells #[.int .i64 x.up, .string ⟨x.tag.toArray⟩, .string ⟨x.id.toArray⟩, .slice ac x.cls.length cc, .slice aa x.ats.length ca] 31)).alloc (.cells #[.slice none 0 0, .slice none 0 0] 27) = w0 at *
  refine (change_any _ ns l 23 #[.pointer (some ⟨w.heap.size + 1, 0, none⟩), .pointer (some ⟨w.heap.size + 1 + 1, 0, none⟩)] (putErr ns n x) (putOf ns n x) _ HPG.out HL.out enter23 ?_).mono ?_
  · intro W dv hW hdv
    exact putCl dv ns n _ _ x ac aa cc ca W hdv (cell_on hW HZ1.out) (Blk.on HZ2.out hW) (StrsAt.on HS.out hW) (AtsAt.on HA.out hW) hfx
  rintro e wz ⟨vz, rfl, hpz, hbz⟩
  obtain ⟨a8, c8, a9, c9, rfl, hd8, he9⟩ := hpz
  have HBz : Hid (Below w.heap.size w wz) := below_trans HBA.out hbz
  have bRz := Blk2.on HBR.out hbz
  obtain ⟨⟨r0, r1⟩, fR⟩ := bRz.facts
  obtain ⟨p1, p2⟩ := PgAt.box hd8 he9 bRz
  obtain ⟨⟨q0, q1⟩, _⟩ := p2.facts
  have HP1 : Hid (PgAt _ _ _ _) := p1
  have HQ0 : Hid _ := q0
  have HQ1 : Hid _ := q1
  clear p1 p2 q0 q1 hd8 he9 bRz hbz
  generalize hD : chDoc (pageErr ns l) (putErr ns n x) (putOf ns n x) = D at HP1 HQ0 HQ1 ⊢
  generalize hI : chIdx (pageErr ns l) (putErr ns n x) (putOf ns n x) = I at HP1 HQ0 HQ1 ⊢
  generalize hE : chErr (pageErr ns l) (putErr ns n x) (putOf ns n x) = EE at *
  have HDe : Hid _ := hD
  have HIe : Hid _ := hI
  have HEe : Hid _ := hE
  clear hD hI hE
  go_wp2
  have q0 := HQ0.out
  have q1 := HQ1.out
  exact bodyPost_ret (v := .tuple #[.agg #[.slice a8 D.length c8, .slice a9 I.length c9], .int .i64 EE]) (by simp [results, Tryz.results7, go_sem, q0, q1]) rfl
    ⟨_, by rw [HEe.out], by rw [HDe.out, HIe.out]; exact HP1.out, (HBz.out.setCell (p := ⟨w.heap.size + 1 + 1 + 1, 0, none⟩) (by first | (simp; done) | (simp; omega)) _).setCell (p := ⟨w.heap.size + 1 + 1 + 1, 1, none⟩) (by first | (simp; done) | (simp; omega)) _⟩
end Go.Proofs.YtbpgcfabepioiaaGreat
