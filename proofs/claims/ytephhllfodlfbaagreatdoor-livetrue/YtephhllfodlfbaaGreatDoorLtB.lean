/-
  LiveTrue: the law.
-/
import Derived.Test.YtephhllfodlfbaaGreatDoorLtA
namespace Go.Proofs.YtephhllfodlfbaaGreatDoor
open Go.RowKit

theorem open_bad {ns : List Pl.Nd} (h : Pl.checkDoc ns ≠ 0) : pgErr (checkAtOf ns 0) (partOf ns 0) = Pl.checkDoc ns := by
  obtain ⟨h1, h2⟩ := part_bad h
  rw [h1, h2]
  unfold pgErr
  rw [if_neg h]
theorem open_ok {ns : List Pl.Nd} (h : Pl.checkDoc ns = 0) : pgErr (checkAtOf ns 0) (partOf ns 0) = 0 ∧ pgDoc (checkAtOf ns 0) (partOf ns 0) = ns ∧ pgIdx (checkAtOf ns 0) (partOf ns 0) = Pl.idxAns ns := by
  obtain ⟨h1, h2⟩ := part_whole h
  rw [h1, h2]
  exact pg_ok h
theorem St.setN {w W : World} {M N B : Nat} {ob : Obj} {a ai : Option Addr} {c ci : Nat} {ms : List Pl.Nd} (h : St w W M N B ob a ai c ci ms) (x y : Value) : (((W.setCell ⟨N, 0, none⟩ x).setCell ⟨N, 1, none⟩ y).cell? ⟨N, 0, none⟩ = some x ∧ ((W.setCell ⟨N, 0, none⟩ x).setCell ⟨N, 1, none⟩ y).cell? ⟨N, 1, none⟩ = some y) := by
  obtain ⟨a0, l0, c0, a1, l1, c1, hq⟩ := h.q
  exact ((hq.set0 x).set1 y).facts.1
theorem blk5 {W : World} {N : Nat} {v0 v1 v2 v3 v4 : Value} (h : W.heap[N]? = some (.cells #[v0, v1, v2, v3, v4] 28)) : W.cell? ⟨N, 0, none⟩ = some v0 ∧ W.cell? ⟨N, 1, none⟩ = some v1 ∧ W.cell? ⟨N, 2, none⟩ = some v2 ∧ W.cell? ⟨N, 3, none⟩ = some v3 ∧ W.cell? ⟨N, 4, none⟩ = some v4 := by
  refine ⟨?_, ?_, ?_, ?_, ?_⟩ <;> simp [World.cell?, h]
theorem blk1 {W : World} {N : Nat} {v0 : Value} (h : W.heap[N]? = some (.cells #[v0] 24)) : W.cell? ⟨N, 0, none⟩ = some v0 := by simp [World.cell?, h]
theorem all64 (ms : List Pl.Nd) (l : List Pl.D3) : ((allA ms l).map fun (k : Nat) => (k : Int)).length ≤ 64 := allA_len ms l

set_option maxRecDepth 100000 in
set_option maxHeartbeats 16000000 in
theorem ltrue_bad (v v2 u : Value) (vc va : Value) (ns es : List Pl.Nd) (up at_ n m : Int) (x : Pl.Nd) (l : List Pl.D3) (w : World) (hv : DocAt w v ns) (hv2 : DocAt w v2 es) (hx : NdV w (.agg #[.int .i64 x.up, .string ⟨x.tag.toArray⟩, .string ⟨x.id.toArray⟩, vc, va]) x) (hl : A3 w u l) (hc : Pl.checkDoc ns ≠ 0) :
    Calls Tryz.prog 3 #[.agg #[v], .int .i64 up, .int .i64 at_, .agg #[v2], .int .i64 n, .int .i64 m, .agg #[.int .i64 x.up, .string ⟨x.tag.toArray⟩, .string ⟨x.id.toArray⟩, vc, va], u] w fun e w' => e = .returned (.bool true) ∧ Below w.heap.size w w' := by
  obtain ⟨av, cv, rfl, -⟩ := id hv.1
  obtain ⟨ae, ce, rfl, -⟩ := id hv2.1
  obtain ⟨al, cl, rfl, -⟩ := isL_3.form hl
  obtain ⟨_, _, ex, hxc, hxa⟩ := id hx
  injection ex with ex
  simp only [Array.mk.injEq, List.cons.injEq, and_true, true_and] at ex
  obtain ⟨rfl, rfl⟩ := ex
  obtain ⟨ac, cc, rfl, -⟩ := id hxc
  obtain ⟨aa, ca, rfl, -⟩ := id hxa
  have HB0 : Hid (Below w.heap.size w (((w.alloc (.cells #[.slice av ns.length cv] 24)).alloc (.cells #[.slice ae es.length ce] 24)).alloc (.cells #[.int .i64 x.up, .string ⟨x.tag.toArray⟩, .string ⟨x.id.toArray⟩, .slice ac x.cls.length cc, .slice aa x.ats.length ca] 28))) := (((Below.refl w.heap.size w).alloc (Nat.le_refl _) _).alloc (by simp) _).alloc (by simp; omega) _
  have hx0 : (((w.alloc (.cells #[.slice av ns.length cv] 24)).alloc (.cells #[.slice ae es.length ce] 24)).alloc (.cells #[.int .i64 x.up, .string ⟨x.tag.toArray⟩, .string ⟨x.id.toArray⟩, .slice ac x.cls.length cc, .slice aa x.ats.length ca] 28)).heap[w.heap.size + 2]? = some (.cells #[.int .i64 x.up, .string ⟨x.tag.toArray⟩, .string ⟨x.id.toArray⟩, .slice ac x.cls.length cc, .slice aa x.ats.length ca] 28) := by
    have := heap_alloc_new ((w.alloc (.cells #[.slice av ns.length cv] 24)).alloc (.cells #[.slice ae es.length ce] 24)) (.cells #[.int .i64 x.up, .string ⟨x.tag.toArray⟩, .string ⟨x.id.toArray⟩, .slice ac x.cls.length cc, .slice aa x.ats.length ca] 28)
    simpa using this
  have he0 : (((w.alloc (.cells #[.slice av ns.length cv] 24)).alloc (.cells #[.slice ae es.length ce] 24)).alloc (.cells #[.int .i64 x.up, .string ⟨x.tag.toArray⟩, .string ⟨x.id.toArray⟩, .slice ac x.cls.length cc, .slice aa x.ats.length ca] 28)).heap[w.heap.size + 1]? = some (.cells #[.slice ae es.length ce] 24) := by
    have h1 := heap_alloc_new (w.alloc (.cells #[.slice av ns.length cv] 24)) (.cells #[.slice ae es.length ce] 24)
    have h2 := blk_on h1 (on_alloc _ (.cells #[.int .i64 x.up, .string ⟨x.tag.toArray⟩, .string ⟨x.id.toArray⟩, .slice ac x.cls.length cc, .slice aa x.ats.length ca] 28))
    simpa using h2
  have hd0 : (((w.alloc (.cells #[.slice av ns.length cv] 24)).alloc (.cells #[.slice ae es.length ce] 24)).alloc (.cells #[.int .i64 x.up, .string ⟨x.tag.toArray⟩, .string ⟨x.id.toArray⟩, .slice ac x.cls.length cc, .slice aa x.ats.length ca] 28)).heap[w.heap.size]? = some (.cells #[.slice av ns.length cv] 24) := blk_on (blk_on (heap_alloc_new w _) (on_alloc _ (.cells #[.slice ae es.length ce] 24))) (on_alloc _ (.cells #[.int .i64 x.up, .string ⟨x.tag.toArray⟩, .string ⟨x.id.toArray⟩, .slice ac x.cls.length cc, .slice aa x.ats.length ca] 28))
  have hz0 : (((w.alloc (.cells #[.slice av ns.length cv] 24)).alloc (.cells #[.slice ae es.length ce] 24)).alloc (.cells #[.int .i64 x.up, .string ⟨x.tag.toArray⟩, .string ⟨x.id.toArray⟩, .slice ac x.cls.length cc, .slice aa x.ats.length ca] 28)).heap.size = w.heap.size + 3 := by simp
  have c0 := blk1 hd0
  have HX0 : Hid _ := hx0
  have HE0 : Hid _ := he0
  have HZ0 : Hid _ := hz0
  clear hd0 hx0 he0 hz0
  have H7 : Hid (∀ W : World, Calls Tryz.prog 7 #[] W fun e w' => e = .returned (.bool true) ∧ Below W.heap.size W w') := fun W => liveBegun_any W
  have H6 : Hid (∀ W, Below w.heap.size w W → Calls Tryz.prog 6 #[.agg #[.slice av ns.length cv]] W fun e w' => ∃ a n c ai m ci, e = .returned (.tuple #[.agg #[.slice a n c, .slice ai m ci], .int .i64 (Pl.checkDoc ns)]) ∧ Below W.heap.size W w') := fun W hW => by
    refine (open_any _ ns W (hv.on hW)).mono ?_
    rintro e w' ⟨v', rfl, hp, hb⟩
    obtain ⟨a, c, ai, ci, rfl⟩ := hp.form
    rw [open_bad hc]
    exact ⟨_, _, _, _, _, _, rfl, hb⟩
  have r1 : (Pl.checkDoc ns != 0) = true := by simpa using hc
  clear hv hv2 hx hl hxc hxa hc HX0 HE0 HZ0
  generalize Pl.checkDoc ns = r at *
  go_enter Tryz.func3, Tryz.ntmps3
  go_wp2_with fail
  generalize ((w.alloc (.cells #[.slice av ns.length cv] 24)).alloc (.cells #[.slice ae es.length ce] 24)).alloc (.cells #[.int .i64 x.up, .string ⟨x.tag.toArray⟩, .string ⟨x.id.toArray⟩, .slice ac x.cls.length cc, .slice aa x.ats.length ca] 28) = w0 at *
  refine (H6.out _ HB0.out).mono ?_
  rintro e w1 ⟨a1, n1, c1, a2, n2, c2, rfl, hb1⟩
  have HB1 : Hid (Below w.heap.size w (w1.alloc (.cells #[.slice a1 n1 c1, .slice a2 n2 c2] 32))) := below_trans (below_trans HB0.out hb1) (on_alloc _ _)
  clear hb1 HB0
  go_wp2_with fail
  refine (H7.out _).mono ?_
  rintro e w2 ⟨rfl, hb2⟩
  have HB2 : Hid (Below w.heap.size w w2) := below_trans HB1.out hb2
  clear hb2
  go_wp2
  go_ret
  exact ⟨rfl, HB2.out⟩
set_option maxRecDepth 100000 in
set_option maxHeartbeats 16000000 in
theorem ltrue_good (v v2 u : Value) (vc va : Value) (ns es : List Pl.Nd) (up at_ n m : Int) (x : Pl.Nd) (l : List Pl.D3) (w : World) (hv : DocAt w v ns) (hv2 : DocAt w v2 es) (hx : NdV w (.agg #[.int .i64 x.up, .string ⟨x.tag.toArray⟩, .string ⟨x.id.toArray⟩, vc, va]) x) (hf : Fits x) (hl : A3 w u l) (hL : Laid w) (hc : Pl.checkDoc ns = 0) :
    Calls Tryz.prog 3 #[.agg #[v], .int .i64 up, .int .i64 at_, .agg #[v2], .int .i64 n, .int .i64 m, .agg #[.int .i64 x.up, .string ⟨x.tag.toArray⟩, .string ⟨x.id.toArray⟩, vc, va], u] w fun e w' => e = .returned (.bool true) ∧ Below w.heap.size w w' := by
  obtain ⟨av, cv, rfl, -⟩ := id hv.1
  obtain ⟨ae, ce, rfl, -⟩ := id hv2.1
  obtain ⟨al, cl, rfl, -⟩ := isL_3.form hl
  obtain ⟨_, _, ex, hxc, hxa⟩ := id hx
  injection ex with ex
  simp only [Array.mk.injEq, List.cons.injEq, and_true, true_and] at ex
  obtain ⟨rfl, rfl⟩ := ex
  obtain ⟨ac, cc, rfl, -⟩ := id hxc
  obtain ⟨aa, ca, rfl, -⟩ := id hxa
  have HB0 : Hid (Below w.heap.size w (((w.alloc (.cells #[.slice av ns.length cv] 24)).alloc (.cells #[.slice ae es.length ce] 24)).alloc (.cells #[.int .i64 x.up, .string ⟨x.tag.toArray⟩, .string ⟨x.id.toArray⟩, .slice ac x.cls.length cc, .slice aa x.ats.length ca] 28))) := (((Below.refl w.heap.size w).alloc (Nat.le_refl _) _).alloc (by simp) _).alloc (by simp; omega) _
  have hx0 : (((w.alloc (.cells #[.slice av ns.length cv] 24)).alloc (.cells #[.slice ae es.length ce] 24)).alloc (.cells #[.int .i64 x.up, .string ⟨x.tag.toArray⟩, .string ⟨x.id.toArray⟩, .slice ac x.cls.length cc, .slice aa x.ats.length ca] 28)).heap[w.heap.size + 2]? = some (.cells #[.int .i64 x.up, .string ⟨x.tag.toArray⟩, .string ⟨x.id.toArray⟩, .slice ac x.cls.length cc, .slice aa x.ats.length ca] 28) := by
    have := heap_alloc_new ((w.alloc (.cells #[.slice av ns.length cv] 24)).alloc (.cells #[.slice ae es.length ce] 24)) (.cells #[.int .i64 x.up, .string ⟨x.tag.toArray⟩, .string ⟨x.id.toArray⟩, .slice ac x.cls.length cc, .slice aa x.ats.length ca] 28)
    simpa using this
  have he0 : (((w.alloc (.cells #[.slice av ns.length cv] 24)).alloc (.cells #[.slice ae es.length ce] 24)).alloc (.cells #[.int .i64 x.up, .string ⟨x.tag.toArray⟩, .string ⟨x.id.toArray⟩, .slice ac x.cls.length cc, .slice aa x.ats.length ca] 28)).heap[w.heap.size + 1]? = some (.cells #[.slice ae es.length ce] 24) := by
    have h1 := heap_alloc_new (w.alloc (.cells #[.slice av ns.length cv] 24)) (.cells #[.slice ae es.length ce] 24)
    have h2 := blk_on h1 (on_alloc _ (.cells #[.int .i64 x.up, .string ⟨x.tag.toArray⟩, .string ⟨x.id.toArray⟩, .slice ac x.cls.length cc, .slice aa x.ats.length ca] 28))
    simpa using h2
  have hd0 : (((w.alloc (.cells #[.slice av ns.length cv] 24)).alloc (.cells #[.slice ae es.length ce] 24)).alloc (.cells #[.int .i64 x.up, .string ⟨x.tag.toArray⟩, .string ⟨x.id.toArray⟩, .slice ac x.cls.length cc, .slice aa x.ats.length ca] 28)).heap[w.heap.size]? = some (.cells #[.slice av ns.length cv] 24) := blk_on (blk_on (heap_alloc_new w _) (on_alloc _ (.cells #[.slice ae es.length ce] 24))) (on_alloc _ (.cells #[.int .i64 x.up, .string ⟨x.tag.toArray⟩, .string ⟨x.id.toArray⟩, .slice ac x.cls.length cc, .slice aa x.ats.length ca] 28))
  have hz0 : (((w.alloc (.cells #[.slice av ns.length cv] 24)).alloc (.cells #[.slice ae es.length ce] 24)).alloc (.cells #[.int .i64 x.up, .string ⟨x.tag.toArray⟩, .string ⟨x.id.toArray⟩, .slice ac x.cls.length cc, .slice aa x.ats.length ca] 28)).heap.size = w.heap.size + 3 := by simp
  have c0 := blk1 hd0
  have HX0 : Hid _ := hx0
  have HE0 : Hid _ := he0
  have HZ0 : Hid _ := hz0
  clear hd0 hx0 he0 hz0
  have H7 : Hid (∀ W : World, Calls Tryz.prog 7 #[] W fun e w' => e = .returned (.bool true) ∧ Below W.heap.size W w') := fun W => liveBegun_any W
  have H6 : Hid (∀ W, Below w.heap.size w W → Calls Tryz.prog 6 #[.agg #[.slice av ns.length cv]] W fun e w' => ∃ a c ai ci, e = .returned (.tuple #[.agg #[.slice a ns.length c, .slice ai (Pl.idxAns ns).length ci], .int .i64 0]) ∧ DocAt w' (.slice a ns.length c) ns ∧ EnsAt w' (.slice ai (Pl.idxAns ns).length ci) (Pl.idxAns ns) ∧ Below W.heap.size W w') := fun W hW => by
    refine (open_any _ ns W (hv.on hW)).mono ?_
    rintro e w' ⟨v', rfl, hp, hb⟩
    obtain ⟨o1, o2, o3⟩ := open_ok hc
    rw [o2, o3] at hp
    obtain ⟨a, c, ai, ci, rfl, hd, he⟩ := hp
    exact ⟨a, c, ai, ci, by rw [o1], hd, he, hb⟩
  have HES : Hid (∀ W, Below w.heap.size w W → DocAt W (.slice ae es.length ce) es) := fun W hW => hv2.on hW
  have HXV : Hid (∀ W, Below w.heap.size w W → NdV W (.agg #[.int .i64 x.up, .string ⟨x.tag.toArray⟩, .string ⟨x.id.toArray⟩, .slice ac x.cls.length cc, .slice aa x.ats.length ca]) x) := fun W hW => hx.on hW
  have HFX : Hid (Fits x) := hf
  have HLS : Hid (∀ W, Below w.heap.size w W → A3 W (.slice al l.length cl) l) := fun W hW => isL_3.on hl hW
  have HLD : Hid (∀ W, Below w.heap.size w W → Laid W) := fun W hW => hL.on hW
  have HCK : Hid (Pl.checkDoc ns = 0) := hc
  clear hv hv2 hx hf hl hL hxc hxa hc
  go_enter Tryz.func3, Tryz.ntmps3
  go_wp2_with fail
  generalize ((w.alloc (.cells #[.slice av ns.length cv] 24)).alloc (.cells #[.slice ae es.length ce] 24)).alloc (.cells #[.int .i64 x.up, .string ⟨x.tag.toArray⟩, .string ⟨x.id.toArray⟩, .slice ac x.cls.length cc, .slice aa x.ats.length ca] 28) = w0 at *
  refine (H6.out _ HB0.out).mono ?_
  rintro e w1 ⟨a, c, ai, ci, rfl, hd1, he1, hb1⟩
  have hw1 : w.heap.size + 3 ≤ w1.heap.size := by have := hb1.size; have := HZ0.out; omega
  have hba := on_alloc w1 (.cells #[.slice a ns.length c, .slice ai (Pl.idxAns ns).length ci] 32)
  have HB1 : Hid (Below w.heap.size w (w1.alloc (.cells #[.slice a ns.length c, .slice ai (Pl.idxAns ns).length ci] 32))) := below_trans (below_trans HB0.out hb1) hba
  have HP1 : Hid (Blk2 (w1.alloc (.cells #[.slice a ns.length c, .slice ai (Pl.idxAns ns).length ci] 32)) w1.heap.size (.slice a ns.length c) (.slice ai (Pl.idxAns ns).length ci)) := Blk2.new w1 _ _
  obtain ⟨⟨s0, s1⟩, s2⟩ := HP1.out.facts
  have e1 := blk1 (blk_on (blk_on HE0.out hb1) hba)
  have HX1 : Hid ((w1.alloc (.cells #[.slice a ns.length c, .slice ai (Pl.idxAns ns).length ci] 32)).heap[w.heap.size + 2]? = some (.cells #[.int .i64 x.up, .string ⟨x.tag.toArray⟩, .string ⟨x.id.toArray⟩, .slice ac x.cls.length cc, .slice aa x.ats.length ca] 28)) := blk_on (blk_on HX0.out hb1) hba
  have HC1 : Hid (Calls Tryz.prog 8 _ _ _) := insC ns es up at_ _ _ _ HCK.out ⟨_, _, _, _, rfl, hd1.on hba, he1.on hba⟩ (HES.out _ HB1.out)
  have HD1 : Hid (DocAt _ _ _) := hd1.on hba
  have HI1 : Hid (EnsAt _ _ _) := he1.on hba
  have hM : w1.heap.size < (w1.alloc (.cells #[.slice a ns.length c, .slice ai (Pl.idxAns ns).length ci] 32)).heap.size := by simp
  have HM : Hid _ := hM
  have HW1 : Hid _ := hw1
  clear hd1 he1 hb1 hba c0 HB0 HX0 HE0 hM hw1
  go_wp2_with fail
  generalize hM : w1.heap.size = M at *
  generalize w1.alloc (.cells #[.slice a ns.length c, .slice ai (Pl.idxAns ns).length ci] 32) = w2 at *
  clear hM
  refine HC1.out.mono ?_
  rintro e w3 ⟨E, a3, a4, n3, n4, c3, c4, rfl, hb3, hE⟩
  have hbb := on_alloc w3 (.cells #[.slice a3 n3 c3, .slice a4 n4 c4] 32)
  have HST : Hid (St w (w3.alloc (.cells #[.slice a3 n3 c3, .slice a4 n4 c4] 32)) M w3.heap.size (w.heap.size + 2) (.cells #[.int .i64 x.up, .string ⟨x.tag.toArray⟩, .string ⟨x.id.toArray⟩, .slice ac x.cls.length cc, .slice aa x.ats.length ca] 28) a ai c ci ns) := by
    refine ⟨below_trans (below_trans HB1.out hb3) hbb, (HP1.out.on hb3).on hbb, ⟨_, _, _, _, _, _, Blk2.new w3 _ _⟩, (HD1.out.on hb3).on hbb, (HI1.out.on hb3).on hbb, ?_, ?_, blk_on (blk_on HX1.out hb3) hbb, ?_, HCK.out⟩
    · have := HM.out; have := hb3.size; omega
    · have := HM.out; have := hb3.size; have := HW1.out; omega
    · have := HM.out; have := hb3.size; have := HW1.out; omega
  have HEE : Hid (E = 0 → ∃ ms, Pl.checkDoc ms = 0 ∧ n3 = ms.length ∧ n4 = (Pl.idxAns ms).length ∧ DocAt (w3.alloc (.cells #[.slice a3 n3 c3, .slice a4 n4 c4] 32)) (.slice a3 n3 c3) ms ∧ EnsAt (w3.alloc (.cells #[.slice a3 n3 c3, .slice a4 n4 c4] 32)) (.slice a4 n4 c4) (Pl.idxAns ms)) := fun h => by
    obtain ⟨ms, h1, h2, h3, h4, h5⟩ := hE h
    exact ⟨ms, h1, h2, h3, h4.on hbb, h5.on hbb⟩
  have HFN : Hid ((w3.alloc (.cells #[.slice a3 n3 c3, .slice a4 n4 c4] 32)).cell? ⟨w3.heap.size, 0, none⟩ = some (.slice a3 n3 c3) ∧ (w3.alloc (.cells #[.slice a3 n3 c3, .slice a4 n4 c4] 32)).cell? ⟨w3.heap.size, 1, none⟩ = some (.slice a4 n4 c4)) := (Blk2.new w3 _ _).facts.1
  clear hb3 hbb hE HP1 HB1 HX1 HC1 HD1 HI1 HM HW1 s0 s1 s2 e1 HZ0
  obtain ⟨⟨s0, s1⟩, s2, s3⟩ := HST.out.cells
  obtain ⟨t0, t1⟩ := HFN.out
  by_cases h30 : E = 0
  · as_aux_lemma =>
    subst h30
    obtain ⟨ms3, k1, rfl, rfl, k4, k5⟩ := HEE.out rfl
    have HS : Hid (St w (((w3.alloc (.cells #[.slice a3 ms3.length c3, .slice a4 (Pl.idxAns ms3).length c4] 32)).setCell ⟨M, 0, none⟩ (.slice a3 ms3.length c3)).setCell ⟨M, 1, none⟩ (.slice a4 (Pl.idxAns ms3).length c4)) _ _ _ _ _ _ _ _ _) := HST.out.put k4 k5 k1
    obtain ⟨⟨y0, y1⟩, -, -⟩ := HS.out.cells
    clear k1 k4 k5 HEE HST HFN
    go_wp2_with fail
    clear y0 y1 t0 t1 s0 s1 s2 s3
    generalize (((w3.alloc (.cells #[.slice a3 ms3.length c3, .slice a4 (Pl.idxAns ms3).length c4] 32)).setCell ⟨M, 0, none⟩ (.slice a3 ms3.length c3)).setCell ⟨M, 1, none⟩ (.slice a4 (Pl.idxAns ms3).length c4)) = Wn3 at *
    generalize w3.heap.size = N at *
    refine (remC _ n _ _ HS.out.chk HS.out.pg).mono ?_
    rintro e w5 ⟨E5, a5, a6, n5, n6, c5, c6, rfl, hb5, hE5⟩
    have HS5 : Hid (St w w5 _ _ _ _ _ _ _ _ _) := HS.out.on hb5
    obtain ⟨⟨s0, s1⟩, s2, s3⟩ := HS5.out.cells
    obtain ⟨_, _, _, _, _, _, hq5⟩ := HS5.out.q
    obtain ⟨⟨m0, m1⟩, -⟩ := hq5.facts
    clear hq5
    have HE5 : Hid (E5 = 0 → ∃ ms, Pl.checkDoc ms = 0 ∧ n5 = ms.length ∧ n6 = (Pl.idxAns ms).length ∧ DocAt w5 (.slice a5 n5 c5) ms ∧ EnsAt w5 (.slice a6 n6 c6) (Pl.idxAns ms)) := hE5
    clear hb5 HS hE5
    by_cases h50 : E5 = 0
    · as_aux_lemma =>
      subst h50
      obtain ⟨ms5, k1, rfl, rfl, k4, k5⟩ := HE5.out rfl
      have HS : Hid (St w ((((w5.setCell ⟨N, 0, none⟩ (.slice a5 ms5.length c5)).setCell ⟨N, 1, none⟩ (.slice a6 (Pl.idxAns ms5).length c6)).setCell ⟨M, 0, none⟩ (.slice a5 ms5.length c5)).setCell ⟨M, 1, none⟩ (.slice a6 (Pl.idxAns ms5).length c6)) _ _ _ _ _ _ _ _ _) := HS5.out.put2 k4 k5 k1
      have HSq : Hid (St w ((w5.setCell ⟨N, 0, none⟩ (.slice a5 ms5.length c5)).setCell ⟨N, 1, none⟩ (.slice a6 (Pl.idxAns ms5).length c6)) _ _ _ _ _ _ _ _ _) := HS5.out.set
      obtain ⟨⟨y0, y1⟩, -, -⟩ := HS.out.cells
      obtain ⟨z0, z1⟩ := HS5.out.setN (.slice a5 ms5.length c5) (.slice a6 (Pl.idxAns ms5).length c6)
      obtain ⟨⟨g0, g1⟩, f0, f1⟩ := HSq.out.cells
      obtain ⟨x0, x1, x2, x3, x4⟩ := blk5 HS.out.b
      clear k1 k4 k5 HE5 HS5 HSq
      go_wp2_with fail
      clear y0 y1 z0 z1 f0 f1 g0 g1 s0 s1 s2 s3 m0 m1 x0 x1 x2 x3 x4
      generalize ((((w5.setCell ⟨N, 0, none⟩ (.slice a5 ms5.length c5)).setCell ⟨N, 1, none⟩ (.slice a6 (Pl.idxAns ms5).length c6)).setCell ⟨M, 0, none⟩ (.slice a5 ms5.length c5)).setCell ⟨M, 1, none⟩ (.slice a6 (Pl.idxAns ms5).length c6)) = Wn5 at *
      refine (putC _ m x _ _ _ HS.out.chk HS.out.pg (HXV.out _ HS.out.bel) HFX.out).mono ?_
      rintro e w7 ⟨E7, a7, a8, n7, n8, c7, c8, rfl, hb7, hE7⟩
      have HS7 : Hid (St w w7 _ _ _ _ _ _ _ _ _) := HS.out.on hb7
      obtain ⟨⟨s0, s1⟩, s2, s3⟩ := HS7.out.cells
      obtain ⟨_, _, _, _, _, _, hq7⟩ := HS7.out.q
      obtain ⟨⟨m0, m1⟩, -⟩ := hq7.facts
      clear hq7
      have HE7 : Hid (E7 = 0 → ∃ ms, Pl.checkDoc ms = 0 ∧ n7 = ms.length ∧ n8 = (Pl.idxAns ms).length ∧ DocAt w7 (.slice a7 n7 c7) ms ∧ EnsAt w7 (.slice a8 n8 c8) (Pl.idxAns ms)) := hE7
      clear hb7 HS hE7
      by_cases h70 : E7 = 0
      · as_aux_lemma =>
        subst h70
        obtain ⟨ms7, k1, rfl, rfl, k4, k5⟩ := HE7.out rfl
        have HS : Hid (St w ((((w7.setCell ⟨N, 0, none⟩ (.slice a7 ms7.length c7)).setCell ⟨N, 1, none⟩ (.slice a8 (Pl.idxAns ms7).length c8)).setCell ⟨M, 0, none⟩ (.slice a7 ms7.length c7)).setCell ⟨M, 1, none⟩ (.slice a8 (Pl.idxAns ms7).length c8)) _ _ _ _ _ _ _ _ _) := HS7.out.put2 k4 k5 k1
        have HSq : Hid (St w ((w7.setCell ⟨N, 0, none⟩ (.slice a7 ms7.length c7)).setCell ⟨N, 1, none⟩ (.slice a8 (Pl.idxAns ms7).length c8)) _ _ _ _ _ _ _ _ _) := HS7.out.set
        obtain ⟨⟨y0, y1⟩, -, -⟩ := HS.out.cells
        obtain ⟨z0, z1⟩ := HS7.out.setN (.slice a7 ms7.length c7) (.slice a8 (Pl.idxAns ms7).length c8)
        obtain ⟨⟨g0, g1⟩, f0, f1⟩ := HSq.out.cells
        clear k1 k4 k5 HE7 HS7 HSq
        go_wp2_with fail
        clear y0 y1 z0 z1 f0 f1 g0 g1 s0 s1 s2 s3 m0 m1
        generalize ((((w7.setCell ⟨N, 0, none⟩ (.slice a7 ms7.length c7)).setCell ⟨N, 1, none⟩ (.slice a8 (Pl.idxAns ms7).length c8)).setCell ⟨M, 0, none⟩ (.slice a7 ms7.length c7)).setCell ⟨M, 1, none⟩ (.slice a8 (Pl.idxAns ms7).length c8)) = Wn7 at *
        refine (findC _ l _ _ _ HS.out.chk HS.out.pg (HLS.out _ HS.out.bel) (HLD.out _ HS.out.bel)).mono ?_
        rintro e w8 ⟨ax, cx, rfl, hx8, hb8⟩
        have HS8 : Hid (St w w8 _ _ _ _ _ _ _ _ _) := HS.out.on hb8
        obtain ⟨⟨s0, s1⟩, s2, s3⟩ := HS8.out.cells
        have HX8 : Hid (IntsAt w8 _ _) := hx8
        clear hb8 HS hx8
        go_wp2_with fail
        refine (allC _ l _ _ _ HS8.out.doc (HLS.out _ HS8.out.bel) (HLD.out _ HS8.out.bel)).mono ?_
        rintro e w9 ⟨ay, cy, rfl, hx9, hb9⟩
        have HS9 : Hid (St w w9 _ _ _ _ _ _ _ _ _) := HS8.out.on hb9
        have HX9 : Hid (IntsAt w9 _ _) := HX8.out.on hb9
        have HY9 : Hid (IntsAt w9 _ _) := hx9
        clear hb9 hx9 HS8 HX8 s0 s1 s2 s3
        go_wp2_with fail
        refine (H7.out _).mono ?_
        rintro e wa ⟨rfl, hba⟩
        have HSa : Hid (St w wa _ _ _ _ _ _ _ _ _) := HS9.out.on hba
        have HCa : Hid (Calls Tryz.prog 13 _ _ _) := sameInts_eq _ _ _ wa (all64 _ l) (HX9.out.on hba) (HY9.out.on hba)
        obtain ⟨⟨s0, s1⟩, s2, s3⟩ := HSa.out.cells
        clear hba HS9 HX9 HY9
        generalize chkBoth _ l = r at *
        go_wp2_with fail
        refine HCa.out.mono ?_
        rintro e wb ⟨rfl, hbb⟩
        have HSb : Hid (St w wb _ _ _ _ _ _ _ _ _) := HSa.out.on hbb
        have hck := check_any _ _ wb HSb.out.doc.2.2 HSb.out.doc.1
        rw [HSb.out.chk] at hck
        have HCb : Hid (Calls Tryz.prog 14 _ _ _) := hck
        clear s0 s1 s2 s3
        obtain ⟨⟨s0, s1⟩, s2, s3⟩ := HSb.out.cells
        clear hbb HSa HCa hck
        go_wp2_with fail
        refine HCb.out.mono ?_
        rintro e wc ⟨rfl, hbc⟩
        have HBc : Hid (Below w.heap.size w wc) := below_trans HSb.out.bel hbc
        clear hbc HSb HCb s0 s1 s2 s3
        go_wp2
        go_ret
        exact ⟨rfl, HBc.out⟩
      · as_aux_lemma =>
        have r7 : (E7 == 0) = false := by simpa using h70
        have HS : Hid (St w ((w7.setCell ⟨N, 0, none⟩ (.slice a7 n7 c7)).setCell ⟨N, 1, none⟩ (.slice a8 n8 c8)) _ _ _ _ _ _ _ _ _) := HS7.out.set
        obtain ⟨⟨y0, y1⟩, -, -⟩ := HS.out.cells
        clear HE7 HS7
        go_wp2_with fail
        clear y0 y1 s0 s1 s2 s3 m0 m1 r7 h70
        generalize (w7.setCell ⟨N, 0, none⟩ (.slice a7 n7 c7)).setCell ⟨N, 1, none⟩ (.slice a8 n8 c8) = Wn7 at *
        refine (findC _ l _ _ _ HS.out.chk HS.out.pg (HLS.out _ HS.out.bel) (HLD.out _ HS.out.bel)).mono ?_
        rintro e w8 ⟨ax, cx, rfl, hx8, hb8⟩
        have HS8 : Hid (St w w8 _ _ _ _ _ _ _ _ _) := HS.out.on hb8
        obtain ⟨⟨s0, s1⟩, s2, s3⟩ := HS8.out.cells
        have HX8 : Hid (IntsAt w8 _ _) := hx8
        clear hb8 HS hx8
        go_wp2_with fail
        refine (allC _ l _ _ _ HS8.out.doc (HLS.out _ HS8.out.bel) (HLD.out _ HS8.out.bel)).mono ?_
        rintro e w9 ⟨ay, cy, rfl, hx9, hb9⟩
        have HS9 : Hid (St w w9 _ _ _ _ _ _ _ _ _) := HS8.out.on hb9
        have HX9 : Hid (IntsAt w9 _ _) := HX8.out.on hb9
        have HY9 : Hid (IntsAt w9 _ _) := hx9
        clear hb9 hx9 HS8 HX8 s0 s1 s2 s3
        go_wp2_with fail
        refine (H7.out _).mono ?_
        rintro e wa ⟨rfl, hba⟩
        have HSa : Hid (St w wa _ _ _ _ _ _ _ _ _) := HS9.out.on hba
        have HCa : Hid (Calls Tryz.prog 13 _ _ _) := sameInts_eq _ _ _ wa (all64 _ l) (HX9.out.on hba) (HY9.out.on hba)
        obtain ⟨⟨s0, s1⟩, s2, s3⟩ := HSa.out.cells
        clear hba HS9 HX9 HY9
        generalize chkBoth _ l = r at *
        go_wp2_with fail
        refine HCa.out.mono ?_
        rintro e wb ⟨rfl, hbb⟩
        have HSb : Hid (St w wb _ _ _ _ _ _ _ _ _) := HSa.out.on hbb
        have hck := check_any _ _ wb HSb.out.doc.2.2 HSb.out.doc.1
        rw [HSb.out.chk] at hck
        have HCb : Hid (Calls Tryz.prog 14 _ _ _) := hck
        clear s0 s1 s2 s3
        obtain ⟨⟨s0, s1⟩, s2, s3⟩ := HSb.out.cells
        clear hbb HSa HCa hck
        go_wp2_with fail
        refine HCb.out.mono ?_
        rintro e wc ⟨rfl, hbc⟩
        have HBc : Hid (Below w.heap.size w wc) := below_trans HSb.out.bel hbc
        clear hbc HSb HCb s0 s1 s2 s3
        go_wp2
        go_ret
        exact ⟨rfl, HBc.out⟩
    · as_aux_lemma =>
      have r5 : (E5 == 0) = false := by simpa using h50
      have HS : Hid (St w ((w5.setCell ⟨N, 0, none⟩ (.slice a5 n5 c5)).setCell ⟨N, 1, none⟩ (.slice a6 n6 c6)) _ _ _ _ _ _ _ _ _) := HS5.out.set
      obtain ⟨⟨y0, y1⟩, -, -⟩ := HS.out.cells
      obtain ⟨x0, x1, x2, x3, x4⟩ := blk5 HS.out.b
      clear HE5 HS5
      go_wp2_with fail
      clear y0 y1 s0 s1 s2 s3 m0 m1 r5 h50 x0 x1 x2 x3 x4
      generalize (w5.setCell ⟨N, 0, none⟩ (.slice a5 n5 c5)).setCell ⟨N, 1, none⟩ (.slice a6 n6 c6) = Wn5 at *
      refine (putC _ m x _ _ _ HS.out.chk HS.out.pg (HXV.out _ HS.out.bel) HFX.out).mono ?_
      rintro e w7 ⟨E7, a7, a8, n7, n8, c7, c8, rfl, hb7, hE7⟩
      have HS7 : Hid (St w w7 _ _ _ _ _ _ _ _ _) := HS.out.on hb7
      obtain ⟨⟨s0, s1⟩, s2, s3⟩ := HS7.out.cells
      obtain ⟨_, _, _, _, _, _, hq7⟩ := HS7.out.q
      obtain ⟨⟨m0, m1⟩, -⟩ := hq7.facts
      clear hq7
      have HE7 : Hid (E7 = 0 → ∃ ms, Pl.checkDoc ms = 0 ∧ n7 = ms.length ∧ n8 = (Pl.idxAns ms).length ∧ DocAt w7 (.slice a7 n7 c7) ms ∧ EnsAt w7 (.slice a8 n8 c8) (Pl.idxAns ms)) := hE7
      clear hb7 HS hE7
      by_cases h70 : E7 = 0
      · as_aux_lemma =>
        subst h70
        obtain ⟨ms7, k1, rfl, rfl, k4, k5⟩ := HE7.out rfl
        have HS : Hid (St w ((((w7.setCell ⟨N, 0, none⟩ (.slice a7 ms7.length c7)).setCell ⟨N, 1, none⟩ (.slice a8 (Pl.idxAns ms7).length c8)).setCell ⟨M, 0, none⟩ (.slice a7 ms7.length c7)).setCell ⟨M, 1, none⟩ (.slice a8 (Pl.idxAns ms7).length c8)) _ _ _ _ _ _ _ _ _) := HS7.out.put2 k4 k5 k1
        have HSq : Hid (St w ((w7.setCell ⟨N, 0, none⟩ (.slice a7 ms7.length c7)).setCell ⟨N, 1, none⟩ (.slice a8 (Pl.idxAns ms7).length c8)) _ _ _ _ _ _ _ _ _) := HS7.out.set
        obtain ⟨⟨y0, y1⟩, -, -⟩ := HS.out.cells
        obtain ⟨z0, z1⟩ := HS7.out.setN (.slice a7 ms7.length c7) (.slice a8 (Pl.idxAns ms7).length c8)
        obtain ⟨⟨g0, g1⟩, f0, f1⟩ := HSq.out.cells
        clear k1 k4 k5 HE7 HS7 HSq
        go_wp2_with fail
        clear y0 y1 z0 z1 f0 f1 g0 g1 s0 s1 s2 s3 m0 m1
        generalize ((((w7.setCell ⟨N, 0, none⟩ (.slice a7 ms7.length c7)).setCell ⟨N, 1, none⟩ (.slice a8 (Pl.idxAns ms7).length c8)).setCell ⟨M, 0, none⟩ (.slice a7 ms7.length c7)).setCell ⟨M, 1, none⟩ (.slice a8 (Pl.idxAns ms7).length c8)) = Wn7 at *
        refine (findC _ l _ _ _ HS.out.chk HS.out.pg (HLS.out _ HS.out.bel) (HLD.out _ HS.out.bel)).mono ?_
        rintro e w8 ⟨ax, cx, rfl, hx8, hb8⟩
        have HS8 : Hid (St w w8 _ _ _ _ _ _ _ _ _) := HS.out.on hb8
        obtain ⟨⟨s0, s1⟩, s2, s3⟩ := HS8.out.cells
        have HX8 : Hid (IntsAt w8 _ _) := hx8
        clear hb8 HS hx8
        go_wp2_with fail
        refine (allC _ l _ _ _ HS8.out.doc (HLS.out _ HS8.out.bel) (HLD.out _ HS8.out.bel)).mono ?_
        rintro e w9 ⟨ay, cy, rfl, hx9, hb9⟩
        have HS9 : Hid (St w w9 _ _ _ _ _ _ _ _ _) := HS8.out.on hb9
        have HX9 : Hid (IntsAt w9 _ _) := HX8.out.on hb9
        have HY9 : Hid (IntsAt w9 _ _) := hx9
        clear hb9 hx9 HS8 HX8 s0 s1 s2 s3
        go_wp2_with fail
        refine (H7.out _).mono ?_
        rintro e wa ⟨rfl, hba⟩
        have HSa : Hid (St w wa _ _ _ _ _ _ _ _ _) := HS9.out.on hba
        have HCa : Hid (Calls Tryz.prog 13 _ _ _) := sameInts_eq _ _ _ wa (all64 _ l) (HX9.out.on hba) (HY9.out.on hba)
        obtain ⟨⟨s0, s1⟩, s2, s3⟩ := HSa.out.cells
        clear hba HS9 HX9 HY9
        generalize chkBoth _ l = r at *
        go_wp2_with fail
        refine HCa.out.mono ?_
        rintro e wb ⟨rfl, hbb⟩
        have HSb : Hid (St w wb _ _ _ _ _ _ _ _ _) := HSa.out.on hbb
        have hck := check_any _ _ wb HSb.out.doc.2.2 HSb.out.doc.1
        rw [HSb.out.chk] at hck
        have HCb : Hid (Calls Tryz.prog 14 _ _ _) := hck
        clear s0 s1 s2 s3
        obtain ⟨⟨s0, s1⟩, s2, s3⟩ := HSb.out.cells
        clear hbb HSa HCa hck
        go_wp2_with fail
        refine HCb.out.mono ?_
        rintro e wc ⟨rfl, hbc⟩
        have HBc : Hid (Below w.heap.size w wc) := below_trans HSb.out.bel hbc
        clear hbc HSb HCb s0 s1 s2 s3
        go_wp2
        go_ret
        exact ⟨rfl, HBc.out⟩
      · as_aux_lemma =>
        have r7 : (E7 == 0) = false := by simpa using h70
        have HS : Hid (St w ((w7.setCell ⟨N, 0, none⟩ (.slice a7 n7 c7)).setCell ⟨N, 1, none⟩ (.slice a8 n8 c8)) _ _ _ _ _ _ _ _ _) := HS7.out.set
        obtain ⟨⟨y0, y1⟩, -, -⟩ := HS.out.cells
        clear HE7 HS7
        go_wp2_with fail
        clear y0 y1 s0 s1 s2 s3 m0 m1 r7 h70
        generalize (w7.setCell ⟨N, 0, none⟩ (.slice a7 n7 c7)).setCell ⟨N, 1, none⟩ (.slice a8 n8 c8) = Wn7 at *
        refine (findC _ l _ _ _ HS.out.chk HS.out.pg (HLS.out _ HS.out.bel) (HLD.out _ HS.out.bel)).mono ?_
        rintro e w8 ⟨ax, cx, rfl, hx8, hb8⟩
        have HS8 : Hid (St w w8 _ _ _ _ _ _ _ _ _) := HS.out.on hb8
        obtain ⟨⟨s0, s1⟩, s2, s3⟩ := HS8.out.cells
        have HX8 : Hid (IntsAt w8 _ _) := hx8
        clear hb8 HS hx8
        go_wp2_with fail
        refine (allC _ l _ _ _ HS8.out.doc (HLS.out _ HS8.out.bel) (HLD.out _ HS8.out.bel)).mono ?_
        rintro e w9 ⟨ay, cy, rfl, hx9, hb9⟩
        have HS9 : Hid (St w w9 _ _ _ _ _ _ _ _ _) := HS8.out.on hb9
        have HX9 : Hid (IntsAt w9 _ _) := HX8.out.on hb9
        have HY9 : Hid (IntsAt w9 _ _) := hx9
        clear hb9 hx9 HS8 HX8 s0 s1 s2 s3
        go_wp2_with fail
        refine (H7.out _).mono ?_
        rintro e wa ⟨rfl, hba⟩
        have HSa : Hid (St w wa _ _ _ _ _ _ _ _ _) := HS9.out.on hba
        have HCa : Hid (Calls Tryz.prog 13 _ _ _) := sameInts_eq _ _ _ wa (all64 _ l) (HX9.out.on hba) (HY9.out.on hba)
        obtain ⟨⟨s0, s1⟩, s2, s3⟩ := HSa.out.cells
        clear hba HS9 HX9 HY9
        generalize chkBoth _ l = r at *
        go_wp2_with fail
        refine HCa.out.mono ?_
        rintro e wb ⟨rfl, hbb⟩
        have HSb : Hid (St w wb _ _ _ _ _ _ _ _ _) := HSa.out.on hbb
        have hck := check_any _ _ wb HSb.out.doc.2.2 HSb.out.doc.1
        rw [HSb.out.chk] at hck
        have HCb : Hid (Calls Tryz.prog 14 _ _ _) := hck
        clear s0 s1 s2 s3
        obtain ⟨⟨s0, s1⟩, s2, s3⟩ := HSb.out.cells
        clear hbb HSa HCa hck
        go_wp2_with fail
        refine HCb.out.mono ?_
        rintro e wc ⟨rfl, hbc⟩
        have HBc : Hid (Below w.heap.size w wc) := below_trans HSb.out.bel hbc
        clear hbc HSb HCb s0 s1 s2 s3
        go_wp2
        go_ret
        exact ⟨rfl, HBc.out⟩
  · as_aux_lemma =>
    have r3 : (E == 0) = false := by simpa using h30
    have HS := HST
    clear HEE HST HFN
    go_wp2_with fail
    clear t0 t1 s0 s1 s2 s3 r3 h30
    generalize (w3.alloc (.cells #[.slice a3 n3 c3, .slice a4 n4 c4] 32)) = Wn3 at *
    generalize w3.heap.size = N at *
    refine (remC _ n _ _ HS.out.chk HS.out.pg).mono ?_
    rintro e w5 ⟨E5, a5, a6, n5, n6, c5, c6, rfl, hb5, hE5⟩
    have HS5 : Hid (St w w5 _ _ _ _ _ _ _ _ _) := HS.out.on hb5
    obtain ⟨⟨s0, s1⟩, s2, s3⟩ := HS5.out.cells
    obtain ⟨_, _, _, _, _, _, hq5⟩ := HS5.out.q
    obtain ⟨⟨m0, m1⟩, -⟩ := hq5.facts
    clear hq5
    have HE5 : Hid (E5 = 0 → ∃ ms, Pl.checkDoc ms = 0 ∧ n5 = ms.length ∧ n6 = (Pl.idxAns ms).length ∧ DocAt w5 (.slice a5 n5 c5) ms ∧ EnsAt w5 (.slice a6 n6 c6) (Pl.idxAns ms)) := hE5
    clear hb5 HS hE5
    by_cases h50 : E5 = 0
    · as_aux_lemma =>
      subst h50
      obtain ⟨ms5, k1, rfl, rfl, k4, k5⟩ := HE5.out rfl
      have HS : Hid (St w ((((w5.setCell ⟨N, 0, none⟩ (.slice a5 ms5.length c5)).setCell ⟨N, 1, none⟩ (.slice a6 (Pl.idxAns ms5).length c6)).setCell ⟨M, 0, none⟩ (.slice a5 ms5.length c5)).setCell ⟨M, 1, none⟩ (.slice a6 (Pl.idxAns ms5).length c6)) _ _ _ _ _ _ _ _ _) := HS5.out.put2 k4 k5 k1
      have HSq : Hid (St w ((w5.setCell ⟨N, 0, none⟩ (.slice a5 ms5.length c5)).setCell ⟨N, 1, none⟩ (.slice a6 (Pl.idxAns ms5).length c6)) _ _ _ _ _ _ _ _ _) := HS5.out.set
      obtain ⟨⟨y0, y1⟩, -, -⟩ := HS.out.cells
      obtain ⟨z0, z1⟩ := HS5.out.setN (.slice a5 ms5.length c5) (.slice a6 (Pl.idxAns ms5).length c6)
      obtain ⟨⟨g0, g1⟩, f0, f1⟩ := HSq.out.cells
      obtain ⟨x0, x1, x2, x3, x4⟩ := blk5 HS.out.b
      clear k1 k4 k5 HE5 HS5 HSq
      go_wp2_with fail
      clear y0 y1 z0 z1 f0 f1 g0 g1 s0 s1 s2 s3 m0 m1 x0 x1 x2 x3 x4
      generalize ((((w5.setCell ⟨N, 0, none⟩ (.slice a5 ms5.length c5)).setCell ⟨N, 1, none⟩ (.slice a6 (Pl.idxAns ms5).length c6)).setCell ⟨M, 0, none⟩ (.slice a5 ms5.length c5)).setCell ⟨M, 1, none⟩ (.slice a6 (Pl.idxAns ms5).length c6)) = Wn5 at *
      refine (putC _ m x _ _ _ HS.out.chk HS.out.pg (HXV.out _ HS.out.bel) HFX.out).mono ?_
      rintro e w7 ⟨E7, a7, a8, n7, n8, c7, c8, rfl, hb7, hE7⟩
      have HS7 : Hid (St w w7 _ _ _ _ _ _ _ _ _) := HS.out.on hb7
      obtain ⟨⟨s0, s1⟩, s2, s3⟩ := HS7.out.cells
      obtain ⟨_, _, _, _, _, _, hq7⟩ := HS7.out.q
      obtain ⟨⟨m0, m1⟩, -⟩ := hq7.facts
      clear hq7
      have HE7 : Hid (E7 = 0 → ∃ ms, Pl.checkDoc ms = 0 ∧ n7 = ms.length ∧ n8 = (Pl.idxAns ms).length ∧ DocAt w7 (.slice a7 n7 c7) ms ∧ EnsAt w7 (.slice a8 n8 c8) (Pl.idxAns ms)) := hE7
      clear hb7 HS hE7
      by_cases h70 : E7 = 0
      · as_aux_lemma =>
        subst h70
        obtain ⟨ms7, k1, rfl, rfl, k4, k5⟩ := HE7.out rfl
        have HS : Hid (St w ((((w7.setCell ⟨N, 0, none⟩ (.slice a7 ms7.length c7)).setCell ⟨N, 1, none⟩ (.slice a8 (Pl.idxAns ms7).length c8)).setCell ⟨M, 0, none⟩ (.slice a7 ms7.length c7)).setCell ⟨M, 1, none⟩ (.slice a8 (Pl.idxAns ms7).length c8)) _ _ _ _ _ _ _ _ _) := HS7.out.put2 k4 k5 k1
        have HSq : Hid (St w ((w7.setCell ⟨N, 0, none⟩ (.slice a7 ms7.length c7)).setCell ⟨N, 1, none⟩ (.slice a8 (Pl.idxAns ms7).length c8)) _ _ _ _ _ _ _ _ _) := HS7.out.set
        obtain ⟨⟨y0, y1⟩, -, -⟩ := HS.out.cells
        obtain ⟨z0, z1⟩ := HS7.out.setN (.slice a7 ms7.length c7) (.slice a8 (Pl.idxAns ms7).length c8)
        obtain ⟨⟨g0, g1⟩, f0, f1⟩ := HSq.out.cells
        clear k1 k4 k5 HE7 HS7 HSq
        go_wp2_with fail
        clear y0 y1 z0 z1 f0 f1 g0 g1 s0 s1 s2 s3 m0 m1
        generalize ((((w7.setCell ⟨N, 0, none⟩ (.slice a7 ms7.length c7)).setCell ⟨N, 1, none⟩ (.slice a8 (Pl.idxAns ms7).length c8)).setCell ⟨M, 0, none⟩ (.slice a7 ms7.length c7)).setCell ⟨M, 1, none⟩ (.slice a8 (Pl.idxAns ms7).length c8)) = Wn7 at *
        refine (findC _ l _ _ _ HS.out.chk HS.out.pg (HLS.out _ HS.out.bel) (HLD.out _ HS.out.bel)).mono ?_
        rintro e w8 ⟨ax, cx, rfl, hx8, hb8⟩
        have HS8 : Hid (St w w8 _ _ _ _ _ _ _ _ _) := HS.out.on hb8
        obtain ⟨⟨s0, s1⟩, s2, s3⟩ := HS8.out.cells
        have HX8 : Hid (IntsAt w8 _ _) := hx8
        clear hb8 HS hx8
        go_wp2_with fail
        refine (allC _ l _ _ _ HS8.out.doc (HLS.out _ HS8.out.bel) (HLD.out _ HS8.out.bel)).mono ?_
        rintro e w9 ⟨ay, cy, rfl, hx9, hb9⟩
        have HS9 : Hid (St w w9 _ _ _ _ _ _ _ _ _) := HS8.out.on hb9
        have HX9 : Hid (IntsAt w9 _ _) := HX8.out.on hb9
        have HY9 : Hid (IntsAt w9 _ _) := hx9
        clear hb9 hx9 HS8 HX8 s0 s1 s2 s3
        go_wp2_with fail
        refine (H7.out _).mono ?_
        rintro e wa ⟨rfl, hba⟩
        have HSa : Hid (St w wa _ _ _ _ _ _ _ _ _) := HS9.out.on hba
        have HCa : Hid (Calls Tryz.prog 13 _ _ _) := sameInts_eq _ _ _ wa (all64 _ l) (HX9.out.on hba) (HY9.out.on hba)
        obtain ⟨⟨s0, s1⟩, s2, s3⟩ := HSa.out.cells
        clear hba HS9 HX9 HY9
        generalize chkBoth _ l = r at *
        go_wp2_with fail
        refine HCa.out.mono ?_
        rintro e wb ⟨rfl, hbb⟩
        have HSb : Hid (St w wb _ _ _ _ _ _ _ _ _) := HSa.out.on hbb
        have hck := check_any _ _ wb HSb.out.doc.2.2 HSb.out.doc.1
        rw [HSb.out.chk] at hck
        have HCb : Hid (Calls Tryz.prog 14 _ _ _) := hck
        clear s0 s1 s2 s3
        obtain ⟨⟨s0, s1⟩, s2, s3⟩ := HSb.out.cells
        clear hbb HSa HCa hck
        go_wp2_with fail
        refine HCb.out.mono ?_
        rintro e wc ⟨rfl, hbc⟩
        have HBc : Hid (Below w.heap.size w wc) := below_trans HSb.out.bel hbc
        clear hbc HSb HCb s0 s1 s2 s3
        go_wp2
        go_ret
        exact ⟨rfl, HBc.out⟩
      · as_aux_lemma =>
        have r7 : (E7 == 0) = false := by simpa using h70
        have HS : Hid (St w ((w7.setCell ⟨N, 0, none⟩ (.slice a7 n7 c7)).setCell ⟨N, 1, none⟩ (.slice a8 n8 c8)) _ _ _ _ _ _ _ _ _) := HS7.out.set
        obtain ⟨⟨y0, y1⟩, -, -⟩ := HS.out.cells
        clear HE7 HS7
        go_wp2_with fail
        clear y0 y1 s0 s1 s2 s3 m0 m1 r7 h70
        generalize (w7.setCell ⟨N, 0, none⟩ (.slice a7 n7 c7)).setCell ⟨N, 1, none⟩ (.slice a8 n8 c8) = Wn7 at *
        refine (findC _ l _ _ _ HS.out.chk HS.out.pg (HLS.out _ HS.out.bel) (HLD.out _ HS.out.bel)).mono ?_
        rintro e w8 ⟨ax, cx, rfl, hx8, hb8⟩
        have HS8 : Hid (St w w8 _ _ _ _ _ _ _ _ _) := HS.out.on hb8
        obtain ⟨⟨s0, s1⟩, s2, s3⟩ := HS8.out.cells
        have HX8 : Hid (IntsAt w8 _ _) := hx8
        clear hb8 HS hx8
        go_wp2_with fail
        refine (allC _ l _ _ _ HS8.out.doc (HLS.out _ HS8.out.bel) (HLD.out _ HS8.out.bel)).mono ?_
        rintro e w9 ⟨ay, cy, rfl, hx9, hb9⟩
        have HS9 : Hid (St w w9 _ _ _ _ _ _ _ _ _) := HS8.out.on hb9
        have HX9 : Hid (IntsAt w9 _ _) := HX8.out.on hb9
        have HY9 : Hid (IntsAt w9 _ _) := hx9
        clear hb9 hx9 HS8 HX8 s0 s1 s2 s3
        go_wp2_with fail
        refine (H7.out _).mono ?_
        rintro e wa ⟨rfl, hba⟩
        have HSa : Hid (St w wa _ _ _ _ _ _ _ _ _) := HS9.out.on hba
        have HCa : Hid (Calls Tryz.prog 13 _ _ _) := sameInts_eq _ _ _ wa (all64 _ l) (HX9.out.on hba) (HY9.out.on hba)
        obtain ⟨⟨s0, s1⟩, s2, s3⟩ := HSa.out.cells
        clear hba HS9 HX9 HY9
        generalize chkBoth _ l = r at *
        go_wp2_with fail
        refine HCa.out.mono ?_
        rintro e wb ⟨rfl, hbb⟩
        have HSb : Hid (St w wb _ _ _ _ _ _ _ _ _) := HSa.out.on hbb
        have hck := check_any _ _ wb HSb.out.doc.2.2 HSb.out.doc.1
        rw [HSb.out.chk] at hck
        have HCb : Hid (Calls Tryz.prog 14 _ _ _) := hck
        clear s0 s1 s2 s3
        obtain ⟨⟨s0, s1⟩, s2, s3⟩ := HSb.out.cells
        clear hbb HSa HCa hck
        go_wp2_with fail
        refine HCb.out.mono ?_
        rintro e wc ⟨rfl, hbc⟩
        have HBc : Hid (Below w.heap.size w wc) := below_trans HSb.out.bel hbc
        clear hbc HSb HCb s0 s1 s2 s3
        go_wp2
        go_ret
        exact ⟨rfl, HBc.out⟩
    · as_aux_lemma =>
      have r5 : (E5 == 0) = false := by simpa using h50
      have HS : Hid (St w ((w5.setCell ⟨N, 0, none⟩ (.slice a5 n5 c5)).setCell ⟨N, 1, none⟩ (.slice a6 n6 c6)) _ _ _ _ _ _ _ _ _) := HS5.out.set
      obtain ⟨⟨y0, y1⟩, -, -⟩ := HS.out.cells
      obtain ⟨x0, x1, x2, x3, x4⟩ := blk5 HS.out.b
      clear HE5 HS5
      go_wp2_with fail
      clear y0 y1 s0 s1 s2 s3 m0 m1 r5 h50 x0 x1 x2 x3 x4
      generalize (w5.setCell ⟨N, 0, none⟩ (.slice a5 n5 c5)).setCell ⟨N, 1, none⟩ (.slice a6 n6 c6) = Wn5 at *
      refine (putC _ m x _ _ _ HS.out.chk HS.out.pg (HXV.out _ HS.out.bel) HFX.out).mono ?_
      rintro e w7 ⟨E7, a7, a8, n7, n8, c7, c8, rfl, hb7, hE7⟩
      have HS7 : Hid (St w w7 _ _ _ _ _ _ _ _ _) := HS.out.on hb7
      obtain ⟨⟨s0, s1⟩, s2, s3⟩ := HS7.out.cells
      obtain ⟨_, _, _, _, _, _, hq7⟩ := HS7.out.q
      obtain ⟨⟨m0, m1⟩, -⟩ := hq7.facts
      clear hq7
      have HE7 : Hid (E7 = 0 → ∃ ms, Pl.checkDoc ms = 0 ∧ n7 = ms.length ∧ n8 = (Pl.idxAns ms).length ∧ DocAt w7 (.slice a7 n7 c7) ms ∧ EnsAt w7 (.slice a8 n8 c8) (Pl.idxAns ms)) := hE7
      clear hb7 HS hE7
      by_cases h70 : E7 = 0
      · as_aux_lemma =>
        subst h70
        obtain ⟨ms7, k1, rfl, rfl, k4, k5⟩ := HE7.out rfl
        have HS : Hid (St w ((((w7.setCell ⟨N, 0, none⟩ (.slice a7 ms7.length c7)).setCell ⟨N, 1, none⟩ (.slice a8 (Pl.idxAns ms7).length c8)).setCell ⟨M, 0, none⟩ (.slice a7 ms7.length c7)).setCell ⟨M, 1, none⟩ (.slice a8 (Pl.idxAns ms7).length c8)) _ _ _ _ _ _ _ _ _) := HS7.out.put2 k4 k5 k1
        have HSq : Hid (St w ((w7.setCell ⟨N, 0, none⟩ (.slice a7 ms7.length c7)).setCell ⟨N, 1, none⟩ (.slice a8 (Pl.idxAns ms7).length c8)) _ _ _ _ _ _ _ _ _) := HS7.out.set
        obtain ⟨⟨y0, y1⟩, -, -⟩ := HS.out.cells
        obtain ⟨z0, z1⟩ := HS7.out.setN (.slice a7 ms7.length c7) (.slice a8 (Pl.idxAns ms7).length c8)
        obtain ⟨⟨g0, g1⟩, f0, f1⟩ := HSq.out.cells
        clear k1 k4 k5 HE7 HS7 HSq
        go_wp2_with fail
        clear y0 y1 z0 z1 f0 f1 g0 g1 s0 s1 s2 s3 m0 m1
        generalize ((((w7.setCell ⟨N, 0, none⟩ (.slice a7 ms7.length c7)).setCell ⟨N, 1, none⟩ (.slice a8 (Pl.idxAns ms7).length c8)).setCell ⟨M, 0, none⟩ (.slice a7 ms7.length c7)).setCell ⟨M, 1, none⟩ (.slice a8 (Pl.idxAns ms7).length c8)) = Wn7 at *
        refine (findC _ l _ _ _ HS.out.chk HS.out.pg (HLS.out _ HS.out.bel) (HLD.out _ HS.out.bel)).mono ?_
        rintro e w8 ⟨ax, cx, rfl, hx8, hb8⟩
        have HS8 : Hid (St w w8 _ _ _ _ _ _ _ _ _) := HS.out.on hb8
        obtain ⟨⟨s0, s1⟩, s2, s3⟩ := HS8.out.cells
        have HX8 : Hid (IntsAt w8 _ _) := hx8
        clear hb8 HS hx8
        go_wp2_with fail
        refine (allC _ l _ _ _ HS8.out.doc (HLS.out _ HS8.out.bel) (HLD.out _ HS8.out.bel)).mono ?_
        rintro e w9 ⟨ay, cy, rfl, hx9, hb9⟩
        have HS9 : Hid (St w w9 _ _ _ _ _ _ _ _ _) := HS8.out.on hb9
        have HX9 : Hid (IntsAt w9 _ _) := HX8.out.on hb9
        have HY9 : Hid (IntsAt w9 _ _) := hx9
        clear hb9 hx9 HS8 HX8 s0 s1 s2 s3
        go_wp2_with fail
        refine (H7.out _).mono ?_
        rintro e wa ⟨rfl, hba⟩
        have HSa : Hid (St w wa _ _ _ _ _ _ _ _ _) := HS9.out.on hba
        have HCa : Hid (Calls Tryz.prog 13 _ _ _) := sameInts_eq _ _ _ wa (all64 _ l) (HX9.out.on hba) (HY9.out.on hba)
        obtain ⟨⟨s0, s1⟩, s2, s3⟩ := HSa.out.cells
        clear hba HS9 HX9 HY9
        generalize chkBoth _ l = r at *
        go_wp2_with fail
        refine HCa.out.mono ?_
        rintro e wb ⟨rfl, hbb⟩
        have HSb : Hid (St w wb _ _ _ _ _ _ _ _ _) := HSa.out.on hbb
        have hck := check_any _ _ wb HSb.out.doc.2.2 HSb.out.doc.1
        rw [HSb.out.chk] at hck
        have HCb : Hid (Calls Tryz.prog 14 _ _ _) := hck
        clear s0 s1 s2 s3
        obtain ⟨⟨s0, s1⟩, s2, s3⟩ := HSb.out.cells
        clear hbb HSa HCa hck
        go_wp2_with fail
        refine HCb.out.mono ?_
        rintro e wc ⟨rfl, hbc⟩
        have HBc : Hid (Below w.heap.size w wc) := below_trans HSb.out.bel hbc
        clear hbc HSb HCb s0 s1 s2 s3
        go_wp2
        go_ret
        exact ⟨rfl, HBc.out⟩
      · as_aux_lemma =>
        have r7 : (E7 == 0) = false := by simpa using h70
        have HS : Hid (St w ((w7.setCell ⟨N, 0, none⟩ (.slice a7 n7 c7)).setCell ⟨N, 1, none⟩ (.slice a8 n8 c8)) _ _ _ _ _ _ _ _ _) := HS7.out.set
        obtain ⟨⟨y0, y1⟩, -, -⟩ := HS.out.cells
        clear HE7 HS7
        go_wp2_with fail
        clear y0 y1 s0 s1 s2 s3 m0 m1 r7 h70
        generalize (w7.setCell ⟨N, 0, none⟩ (.slice a7 n7 c7)).setCell ⟨N, 1, none⟩ (.slice a8 n8 c8) = Wn7 at *
        refine (findC _ l _ _ _ HS.out.chk HS.out.pg (HLS.out _ HS.out.bel) (HLD.out _ HS.out.bel)).mono ?_
        rintro e w8 ⟨ax, cx, rfl, hx8, hb8⟩
        have HS8 : Hid (St w w8 _ _ _ _ _ _ _ _ _) := HS.out.on hb8
        obtain ⟨⟨s0, s1⟩, s2, s3⟩ := HS8.out.cells
        have HX8 : Hid (IntsAt w8 _ _) := hx8
        clear hb8 HS hx8
        go_wp2_with fail
        refine (allC _ l _ _ _ HS8.out.doc (HLS.out _ HS8.out.bel) (HLD.out _ HS8.out.bel)).mono ?_
        rintro e w9 ⟨ay, cy, rfl, hx9, hb9⟩
        have HS9 : Hid (St w w9 _ _ _ _ _ _ _ _ _) := HS8.out.on hb9
        have HX9 : Hid (IntsAt w9 _ _) := HX8.out.on hb9
        have HY9 : Hid (IntsAt w9 _ _) := hx9
        clear hb9 hx9 HS8 HX8 s0 s1 s2 s3
        go_wp2_with fail
        refine (H7.out _).mono ?_
        rintro e wa ⟨rfl, hba⟩
        have HSa : Hid (St w wa _ _ _ _ _ _ _ _ _) := HS9.out.on hba
        have HCa : Hid (Calls Tryz.prog 13 _ _ _) := sameInts_eq _ _ _ wa (all64 _ l) (HX9.out.on hba) (HY9.out.on hba)
        obtain ⟨⟨s0, s1⟩, s2, s3⟩ := HSa.out.cells
        clear hba HS9 HX9 HY9
        generalize chkBoth _ l = r at *
        go_wp2_with fail
        refine HCa.out.mono ?_
        rintro e wb ⟨rfl, hbb⟩
        have HSb : Hid (St w wb _ _ _ _ _ _ _ _ _) := HSa.out.on hbb
        have hck := check_any _ _ wb HSb.out.doc.2.2 HSb.out.doc.1
        rw [HSb.out.chk] at hck
        have HCb : Hid (Calls Tryz.prog 14 _ _ _) := hck
        clear s0 s1 s2 s3
        obtain ⟨⟨s0, s1⟩, s2, s3⟩ := HSb.out.cells
        clear hbb HSa HCa hck
        go_wp2_with fail
        refine HCb.out.mono ?_
        rintro e wc ⟨rfl, hbc⟩
        have HBc : Hid (Below w.heap.size w wc) := below_trans HSb.out.bel hbc
        clear hbc HSb HCb s0 s1 s2 s3
        go_wp2
        go_ret
        exact ⟨rfl, HBc.out⟩
theorem ltrue_law (v v2 u : Value) (vc va : Value) (ns es : List Pl.Nd) (up at_ n m : Int) (x : Pl.Nd) (l : List Pl.D3) (w : World) (hv : DocAt w v ns) (hv2 : DocAt w v2 es) (hx : NdV w (.agg #[.int .i64 x.up, .string ⟨x.tag.toArray⟩, .string ⟨x.id.toArray⟩, vc, va]) x) (hf : Fits x) (hl : A3 w u l) (hL : Laid w) :
    Calls Tryz.prog 3 #[.agg #[v], .int .i64 up, .int .i64 at_, .agg #[v2], .int .i64 n, .int .i64 m, .agg #[.int .i64 x.up, .string ⟨x.tag.toArray⟩, .string ⟨x.id.toArray⟩, vc, va], u] w fun e w' => e = .returned (.bool true) ∧ Below w.heap.size w w' := by
  by_cases hc : Pl.checkDoc ns = 0
  · exact ltrue_good v v2 u vc va ns es up at_ n m x l w hv hv2 hx hf hl hL hc
  · exact ltrue_bad v v2 u vc va ns es up at_ n m x l w hv hv2 hx hl hc
end Go.Proofs.YtephhllfodlfbaaGreatDoor
