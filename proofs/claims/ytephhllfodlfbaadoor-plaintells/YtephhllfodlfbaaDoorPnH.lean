/-
  plain.add: a no to a no.
-/
import Derived.Test.YtephhllfodlfbaaDoorPnE
import Derived.BigQuiet
import Derived.Deep.RegionHeld3
import Derived.Deep.QuietTactic
namespace Go.Proofs.YtephhllfodlfbaaDoor
open Go.RowKit

section
variable {α : Type} {A : MemL α} (hA : IsL A) (hS : IsSub A) (L : Pl.Lev α) (hO : OnlyC A L) (B M : Nat) (to : Pl.Stp α) (t : Pl.Tst α) (au al : Option Addr) (cu dl : Nat) (n : Nat) (w : World)
  (hm : Made A B M w to (.slice au to.tests.length cu)) (hv : A (mask (Off (frm B) (.slice au to.tests.length cu)) w) (.slice al t.list.length dl) t.list) (hw : L.W t.list) (h6 : to.tests.length + 1 + n ≤ 6)
include hA hS hO hm hv hw h6
set_option maxRecDepth 100000 in
set_option maxHeartbeats 8000000 in
theorem add_not1 (s : Pl.Stp α) (hso : L.only t.list = some s) (k13 : t.kind = 13) (t1 : Pl.Tst α) (hsv : s = ⟨[], [t1]⟩) (hk1 : t1.kind = 13) : Calls Tryd.prog 67 #[.pointer (some ⟨M, 0, none⟩), .agg #[.int .i64 t.kind, .string ⟨t.name.toArray⟩, .string ⟨t.value.toArray⟩, .int .i64 t.a, .int .i64 t.b, .slice al t.list.length dl], .int .i64 n] w (AddSays A B M w (Pl.addT L.only to t n)) := by
  have h64 : to.tests.length + 1 ≤ 64 := by omega
  have HL64 : Hid _ := h64
  have HAW : Hid (AddW A B M w (w.alloc (.cells #[.int .i64 t.kind, .string ⟨t.name.toArray⟩, .string ⟨t.value.toArray⟩, .int .i64 t.a, .int .i64 t.b, .slice al t.list.length dl] 45)) to t au al cu dl) := AddW.start hS hm hv
  have HCO : Hid (Calls Tryd.prog 71 _ _ _) := hO (w.alloc (.cells #[.int .i64 t.kind, .string ⟨t.name.toArray⟩, .string ⟨t.value.toArray⟩, .int .i64 t.a, .int .i64 t.b, .slice al t.list.length dl] 45)) (Off (frm B) (.slice au to.tests.length cu)) (.slice al t.list.length dl) t.list HAW.out.new hw
  have hnb : isNotB s = true := by rw [hsv]; unfold isNotB Pl.notOf; simp [hk1]
  have HAT : Hid (Pl.addT L.only to t n = ⟨to.tag, to.tests ++ [⟨14, [], [], 0, 0, t1.list⟩]⟩) := by
    unfold Hid Pl.addT
    rw [hso]
    dsimp only
    rw [if_pos k13]
    have hn0 : Pl.notOf s = some t1.list := by rw [hsv]; unfold Pl.notOf; simp [hk1]
    rw [hn0]
  have r13 : (t.kind == 13) = true := by simpa using k13
  have r14 : (t.kind == 14) = false := by rw [k13]; rfl
  have HSV : Hid _ := hsv
  clear k13 hk1 hsv
  clear hv hw h6 hm h64
  go_enter Tryd.func67, Tryd.ntmps67
  go_wp2_with fail
  generalize w.alloc (.cells #[.int .i64 t.kind, .string ⟨t.name.toArray⟩, .string ⟨t.value.toArray⟩, .int .i64 t.a, .int .i64 t.b, .slice al t.list.length dl] 45) = w1 at *
  refine HCO.out.mono ?_
  rintro e w2 ⟨⟨hs, -⟩ | ⟨s', as_, cs, hs, rfl, hrow⟩, hb2⟩
  case inl => rw [hso] at hs; cases hs
  obtain rfl : s = s' := Option.some.inj (hso.symm.trans hs)
  have hb3 := on_alloc w2 (.cells #[.string ⟨s.tag.toArray⟩, .slice as_ s.tests.length cs] 41)
  have HAW3 : Hid (AddW A B M w (w2.alloc (.cells #[.string ⟨s.tag.toArray⟩, .slice as_ s.tests.length cs] 41)) to t au al cu dl) := (HAW.out.on hS hb2).on hS hb3
  have HR3 : Hid (RowAt (TstAt A) 6 (mask (Off (frm B) (.slice au to.tests.length cu)) (w2.alloc (.cells #[.string ⟨s.tag.toArray⟩, .slice as_ s.tests.length cs] 41))) (.slice as_ s.tests.length cs) s.tests) := hrow.map fun _ _ _ hq => (hq.sub hS (mask_on hb2)).sub hS (mask_on hb3)
  have H6 : Hid ((w2.alloc (.cells #[.string ⟨s.tag.toArray⟩, .slice as_ s.tests.length cs] 41)).heap[w2.heap.size]? = some (.cells #[.string ⟨s.tag.toArray⟩, .slice as_ s.tests.length cs] 41)) := heap_alloc_new w2 _
  obtain ⟨⟨b0, b1, b2, b3⟩, q0, q1, q2, q3, q4, q5⟩ := HAW3.out.facts
  obtain ⟨v0, v1⟩ := AddW.step6 H6.out
  clear hb2 hb3 hs hrow hso
  have HCN : Hid (Calls Tryd.prog 72 _ _ _) := isNot_any hA as_ cs s _ (HR3.out.map fun _ _ _ hq => hq.sub hS (incl_real _ _))
  rw [hnb] at HCN
  go_wp2_with fail
  generalize w2.alloc (.cells #[.string ⟨s.tag.toArray⟩, .slice as_ s.tests.length cs] 41) = W2 at *
  refine HCN.out.mono ?_
  rintro e W4 ⟨rfl, hb4⟩
  have HAW4 : Hid (AddW A B M w W4 to t au al cu dl) := HAW3.out.on hS hb4
  have HR4 : Hid (RowAt (TstAt A) 6 (mask (Off (frm B) (.slice au to.tests.length cu)) W4) (.slice as_ s.tests.length cs) s.tests) := HR3.out.map fun _ _ _ hq => hq.sub hS (mask_on hb4)
  have H64 : Hid (W4.heap[w2.heap.size]? = some (.cells #[.string ⟨s.tag.toArray⟩, .slice as_ s.tests.length cs] 41)) := hblk H6.out hb4
  clear hb4 HAW3 HR3 H6 HCN b0 b1 b2 b3 q0 q1 q2 q3 q4 q5 v0 v1
  have hsv : s = ⟨[], [t1]⟩ := HSV.out
  clear HSV
  subst hsv
  dsimp only at *
  obtain ⟨a', c', e', -, hcs⟩ := HR4.out
  injection e' with e1 _ e3
  subst e1 e3
  rcases hcs with h0 | ⟨b5, o5, rfl, hc5⟩
  · cases h0
  obtain ⟨vv, -, -, -, -, -, n5, hml⟩ := hc5 0 (by simp)
  obtain ⟨a1, d1, rfl, -⟩ := hA.form hml
  have n5' : W4.cell? ⟨b5, o5 + 5, none⟩ = some (.slice a1 t1.list.length d1) := by
    have := (mask_cell.1 n5).2
    simpa using this
  have HML : Hid (A (mask (Off (frm B) (.slice au to.tests.length cu)) W4) (.slice a1 t1.list.length d1) t1.list) := hml
  have HAD := HAW4.out.drew hS
  obtain ⟨⟨b0, b1, b2, b3⟩, q0, q1, q2, q3, q4, q5⟩ := HAD.facts
  obtain ⟨v0, v1⟩ := AddW.step6 (W := W4.drew) H64.out
  have n5d : W4.drew.cell? ⟨b5, o5 + 5, none⟩ = some (.slice a1 t1.list.length d1) := n5'
  have b1a := cell_on (on_alloc W4 (.cells #[.int .i64 14, .string ⟨#[]⟩, .string ⟨#[]⟩, .int .i64 0, .int .i64 0, .slice a1 t1.list.length d1] 45)) HAW4.out.facts.1.2.1
  have HADH : Hid (AddW _ _ _ _ _ _ _ _ _ _ _) := HAD
  have hBz : B ≤ W4.drew.heap.size := HAD.made.sz
  have HBZ : Hid _ := hBz
  have HPH : Hid (frm B (W4.drew.heap.size + 1) = true) := by unfold Hid; simp only [frm, decide_eq_true_eq]; omega
  have HONE : Hid (∀ u ∈ [.int .i64 14, .string ⟨#[]⟩, .string ⟨#[]⟩, .int .i64 0, .int .i64 0, .slice a1 t1.list.length d1], Value.oneCell' u = true) := by
    intro u hu
    simp only [List.mem_cons, List.not_mem_nil, or_false] at hu
    rcases hu with rfl | rfl | rfl | rfl | rfl | rfl <;> rfl
  have HNW : Hid (VT A (mask (Off (frm B) (.slice au to.tests.length cu)) W4.drew) [.int .i64 14, .string ⟨#[]⟩, .string ⟨#[]⟩, .int .i64 0, .int .i64 0, .slice a1 t1.list.length d1] ⟨14, [], [], 0, 0, t1.list⟩) := ⟨_, rfl, hS.sub hml (incl_mask fun _ _ _ hj hx => ⟨hj, hx⟩)⟩
  clear HAD hBz hc5 n5 hml n5' HR4 H64
  go_wp2_with fail
  go_region_law (refine step_grow (P := frm B) (B := B) (isV_t hS) Tryd.underlying39 infT rfl (by decide) (by decide) (w2 := W4.drew) (v := .slice au to.tests.length cu) (l := to.tests) (x := ⟨14, [], [], 0, 0, t1.list⟩) (news := [.int .i64 14, .string ⟨#[]⟩, .string ⟨#[]⟩, .int .i64 0, .int .i64 0, .slice a1 t1.list.length d1]) rfl (.tmp 39) (.tmp 46) rfl rfl rfl HADH.out.made.row HNW.out HONE.out HL64.out HBZ.out HPH.out ?_; intro g cap w7 hrow' hgr _; have HPUT := HADH.out.put hS (on_alloc W4.drew _) hgr hrow'; have z7 := HPUT.2.2.1; have zf7 := HPUT.2.2.2)
  all_goals
    have HMD : Hid (Made A B M _ _ _) := HPUT.1
    have HFR : Hid (FrA B M w _) := HPUT.2.1
    clear HPUT hrow' hgr z7 zf7
    go_wp2
    go_end0
    exact ⟨rfl, _, by rw [HAT.out]; exact HMD.out, HFR.out⟩
end
end Go.Proofs.YtephhllfodlfbaaDoor
