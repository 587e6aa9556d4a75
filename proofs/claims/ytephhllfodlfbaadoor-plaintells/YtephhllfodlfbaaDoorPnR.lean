/-
  plain.add: an Is whose step goes into this one, with its tag.
-/
import Derived.Test.YtephhllfodlfbaaDoorPnJ
import Derived.BigQuiet
import Derived.Deep.RegionHeld3
import Derived.Deep.QuietTactic
import Derived.Test.YtephhllfodlfbaaDoorPnH
import Derived.Test.YtephhllfodlfbaaDoorPnI
import Derived.Test.YtephhllfodlfbaaDoorPnK
import Derived.Test.YtephhllfodlfbaaDoorPnL
import Derived.Test.YtephhllfodlfbaaDoorPnQ
namespace Go.Proofs.YtephhllfodlfbaaDoor
open Go.RowKit

section
variable {α : Type} {A : MemL α} (hA : IsL A) (hS : IsSub A) (L : Pl.Lev α) (hO : OnlyC A L) (B M : Nat) (to : Pl.Stp α) (t : Pl.Tst α) (au al : Option Addr) (cu dl : Nat) (n : Nat) (w : World)
  (hm : Made A B M w to (.slice au to.tests.length cu)) (hv : A (mask (Off (frm B) (.slice au to.tests.length cu)) w) (.slice al t.list.length dl) t.list) (hw : L.W t.list) (h6 : to.tests.length + 1 + n ≤ 6)
include hA hS hO hm hv hw h6
set_option maxRecDepth 100000 in
set_option maxHeartbeats 8000000 in
theorem add_is3 (s : Pl.Stp α) (hso : L.only t.list = some s) (k14 : t.kind = 14) (htg : Pl.together to.tag s.tag = true) (h6s : s.tests.length ≤ 6) (hbig : to.tests.length + s.tests.length + n ≤ 6) (hte : to.tag.isEmpty = true) : Calls Tryd.prog 67 #[.pointer (some ⟨M, 0, none⟩), .agg #[.int .i64 t.kind, .string ⟨t.name.toArray⟩, .string ⟨t.value.toArray⟩, .int .i64 t.a, .int .i64 t.b, .slice al t.list.length dl], .int .i64 n] w (AddSays A B M w (Pl.addT L.only to t n)) := by
  have h64 : to.tests.length + 1 ≤ 64 := by omega
  have HL64 : Hid _ := h64
  have HAW : Hid (AddW A B M w (w.alloc (.cells #[.int .i64 t.kind, .string ⟨t.name.toArray⟩, .string ⟨t.value.toArray⟩, .int .i64 t.a, .int .i64 t.b, .slice al t.list.length dl] 45)) to t au al cu dl) := AddW.start hS hm hv
  have HCO : Hid (Calls Tryd.prog 71 _ _ _) := hO (w.alloc (.cells #[.int .i64 t.kind, .string ⟨t.name.toArray⟩, .string ⟨t.value.toArray⟩, .int .i64 t.a, .int .i64 t.b, .slice al t.list.length dl] 45)) (Off (frm B) (.slice au to.tests.length cu)) (.slice al t.list.length dl) t.list HAW.out.new hw
  have HAT : Hid (Pl.addT L.only to t n = ⟨s.tag, to.tests ++ s.tests⟩) := by
    unfold Hid Pl.addT
    rw [hso]
    dsimp only
    rw [if_neg (by rw [k14]; decide)]
    dsimp only
    rw [if_pos ⟨k14, htg, hbig⟩, if_pos (List.isEmpty_iff.1 hte)]
  have r13 : (t.kind == 13) = false := by rw [k14]; rfl
  have r14 : (t.kind == 14) = true := by simpa using k14
  have hbi : (to.tests.length : Int) + (s.tests.length : Int) + (n : Int) ≤ 6 := by omega
  have HLEN : Hid (to.tests.length + s.tests.length ≤ 64) := by unfold Hid; omega
  have w1' : IntKind.i64.wrap ((to.tests.length : Int) + (s.tests.length : Int)) = (to.tests.length : Int) + (s.tests.length : Int) := IntWalk.i64_in _ ⟨by omega, by omega⟩
  have w2' : IntKind.i64.wrap ((to.tests.length : Int) + (s.tests.length : Int) + (n : Int)) = (to.tests.length : Int) + (s.tests.length : Int) + (n : Int) := IntWalk.i64_in _ ⟨by omega, by omega⟩
  clear k14 hbig
  clear hv hw h6 hm h64
  go_enter Tryd.func67, Tryd.ntmps67
  go_wp2_with fail
  generalize w.alloc (.cells #[.int .i64 t.kind, .string ⟨t.name.toArray⟩, .string ⟨t.value.toArray⟩, .int .i64 t.a, .int .i64 t.b, .slice al t.list.length dl] 45) = w1 at *
  refine HCO.out.mono ?_
  rintro e w2 ⟨⟨hs, -⟩ | ⟨s', as_, cs, hs, rfl, hrow⟩, hb2⟩
  case inl => rw [hso] at hs; cases hs
  obtain rfl : s = s' := Option.some.inj (hso.symm.trans hs)
  have hb3 := on_alloc w2 (.cells #[.string ⟨s.tag.toArray⟩, .slice as_ s.tests.length cs] 41)
  have HAW3 : Hid (AddW A B M w (w2.alloc (.cells #[.string ⟨s.tag.toArray⟩, .slice as_ s.tests.length cs] 41)) to t au al cu dl) := (HAW.out.on hS hb2).on hS hb3
  have HR3 : Hid (RowAt (TstAt A) 6 (mask (Off (frm B) (.slice au to.tests.length cu)) (w2.alloc (.cells #[.string ⟨s.tag.toArray⟩, .slice as_ s.tests.length cs] 41))) (.slice as_ s.tests.length cs) s.tests) := hrow.map fun _ _ _ hq => (hq.sub hS (mask_on hb2)).sub hS (mask_on hb3)
  have H6 : Hid ((w2.alloc (.cells #[.string ⟨s.tag.toArray⟩, .slice as_ s.tests.length cs] 41)).heap[w2.heap.size]? = some (.cells #[.string ⟨s.tag.toArray⟩, .slice as_ s.tests.length cs] 41)) := heap_alloc_new w2 _
  obtain ⟨⟨b0, b1, b2, b3⟩, q0, q1, q2, q3, q4, q5⟩ := HAW3.out.facts
  obtain ⟨v0, v1⟩ := AddW.step6 H6.out
  have HNE : Hid (∀ j, (Value.slice au to.tests.length cu).ownBlock = some j → j < w2.heap.size) := (HAW.out.on hS hb2).made.row.ownLt
  have HBN : Hid (B ≤ w2.heap.size) := (HAW.out.on hS hb2).made.sz
  clear hb2 hb3 hs hrow hso
  go_wp2
  generalize w2.alloc (.cells #[.string ⟨s.tag.toArray⟩, .slice as_ s.tests.length cs] 41) = W2 at *
  have HTG : Hid (∀ W, Calls Tryd.prog 73 #[.agg #[.string ⟨to.tag.toArray⟩, .slice au to.tests.length cu], .agg #[.string ⟨s.tag.toArray⟩, .slice as_ s.tests.length cs]] W fun e w' => e = .returned (.bool true) ∧ Below W.heap.size W w') := fun W => by
    have := together_any to.tag s.tag au as_ to.tests.length cu s.tests.length cs W
    rw [htg] at this
    exact this
  have S0 : W2.drew.cell? ⟨w.heap.size, 0, none⟩ = some (.int .i64 t.kind) ∧ W2.drew.cell? ⟨M, 0, none⟩ = some (.string ⟨to.tag.toArray⟩) ∧ W2.drew.cell? ⟨M, 1, none⟩ = some (.slice au to.tests.length cu) ∧ W2.drew.cell? ⟨w2.heap.size, 0, none⟩ = some (.string ⟨s.tag.toArray⟩) ∧ W2.drew.cell? ⟨w2.heap.size, 1, none⟩ = some (.slice as_ s.tests.length cs) ∧ Below W2.heap.size W2 W2.drew := ⟨q0, b0, b1, v0, v1, (Below.refl _ _).drew⟩
  clear b0 b1 b2 b3 q0 q1 q2 q3 q4 q5 v0 v1
  go_region_held3 (fun w' => w'.cell? ⟨w.heap.size, 0, none⟩ = some (.int .i64 t.kind) ∧ w'.cell? ⟨M, 0, none⟩ = some (.string ⟨to.tag.toArray⟩) ∧ w'.cell? ⟨M, 1, none⟩ = some (.slice au to.tests.length cu) ∧ w'.cell? ⟨w2.heap.size, 0, none⟩ = some (.string ⟨s.tag.toArray⟩) ∧ w'.cell? ⟨w2.heap.size, 1, none⟩ = some (.slice as_ s.tests.length cs) ∧ Below W2.heap.size W2 w')
    (first | with_reducible assumption | exact cinq_on (by with_reducible assumption) (by with_reducible assumption))
    (first | (go_at_call 73; refine (HTG.out _).mono ?_; rintro e w' ⟨rfl, hw⟩))
  have HS5 := cinq_id (by with_reducible assumption)
  obtain ⟨-, -, -, -, -, hB5⟩ := HS5
  have HAW3' := HAW3.out.on hS hB5
  have HR3' : RowAt (TstAt A) 6 (mask (Off (frm B) (.slice au to.tests.length cu)) w') (.slice as_ s.tests.length cs) s.tests := HR3.out.map fun _ _ _ hq => hq.sub hS (mask_on hB5)
  have H6' := hblk H6.out hB5
  clear HAW3 hB5 S0 HR3 H6 HTG
  generalize w' = W3 at *
  have HAW3 : Hid (AddW A B M w W3 to t au al cu dl) := HAW3'
  have HRD : Hid (RowAt (TstAt A) 6 (mask (Off (frm B) (.slice au to.tests.length cu)) W3.drew) (.slice as_ s.tests.length cs) s.tests) := HR3'.map fun _ _ _ hq => hq.sub hS (incl_mask fun _ _ _ hj hx => ⟨hj, hx⟩)
  have H6 : Hid (W3.drew.heap[w2.heap.size]? = some (.cells #[.string ⟨s.tag.toArray⟩, .slice as_ s.tests.length cs] 41)) := H6'
  clear HAW3' HR3' H6'
  have HAD := HAW3.out.drew hS
  obtain ⟨⟨b0, b1, b2, b3⟩, q0, q1, q2, q3, q4, q5⟩ := HAD.facts
  obtain ⟨v0, v1⟩ := AddW.step6 (W := W3.drew) H6.out
  have HADH : Hid (AddW _ _ _ _ _ _ _ _ _ _ _) := HAD
  have HBZ : Hid (B ≤ W3.drew.heap.size) := HAD.made.sz
  clear HAD HAW3 q0 q1 q2 q3 q4 q5
  go_wp2_with fail
  go_region_law (refine step_app hA hS (B := B) (W := W3.drew) (ts := to.tests) (ms := s.tests) rfl (.tmp 82) (.tmp 84) rfl rfl rfl HADH.out.made.row HRD.out HLEN.out HBZ.out ?_; intro a7 c7 w7 hrow' hgr; have HPUT := HADH.out.put hS (Below.refl _ _) hgr hrow'; have HK6 := HADH.out.keep6 H6.out HBN.out HNE.out hgr (.slice a7 (to.tests.length + s.tests.length) c7); have z7 := HPUT.2.2.1; have zf7 := HPUT.2.2.2)
  all_goals
    have HMD : Hid (Made A B M _ _ _) := HPUT.1
    have HFR : Hid (FrA B M w _) := HPUT.2.1
    have HK : Hid _ := HK6
    clear HPUT HK6 hrow' hgr z7 zf7 b0 b1 b2 b3 v0 v1 HADH HRD H6
    generalize w7.setCell ⟨M, 1, none⟩ (.slice a7 (to.tests.length + s.tests.length) c7) = W8 at *
    obtain ⟨b0, b1, b2, b3⟩ := res71 HMD.out.box
    obtain ⟨v0, v1⟩ := AddW.step6 HK.out
    dsimp only at b0 b1
    go_wp2
    go_end0
    exact ⟨rfl, _, by rw [HAT.out]; exact HMD.out.retag hS s.tag, HFR.out.set 0 _⟩
end
end Go.Proofs.YtephhllfodlfbaaDoor
/-
  plain.add, whole.
-/
namespace Go.Proofs.YtephhllfodlfbaaDoor
open Go.RowKit

theorem isNot_is {α : Type} {s : Pl.Stp α} (h : isNotB s = true) : ∃ t1 : Pl.Tst α, s = ⟨[], [t1]⟩ ∧ t1.kind = 13 := by
  obtain ⟨tag, ts⟩ := s
  unfold isNotB Pl.notOf at h
  rcases ts with _ | ⟨t1, _ | ⟨t2, ts⟩⟩
  · simp at h
  · dsimp only at h
    by_cases hc : tag = [] ∧ t1.kind = 13
    · exact ⟨t1, by rw [hc.1], hc.2⟩
    · rw [if_neg hc] at h; simp at h
  · simp at h
theorem add_any {α : Type} {A : MemL α} (hA : IsL A) (hS : IsSub A) (L : Pl.Lev α) (hL : Pl.IsLev L) (hO : OnlyC A L) : AddC A L := by
  intro B M to t au al cu dl n w hm hv hw h6
  have key : Calls Tryd.prog 67 #[.pointer (some ⟨M, 0, none⟩), .agg #[.int .i64 t.kind, .string ⟨t.name.toArray⟩, .string ⟨t.value.toArray⟩, .int .i64 t.a, .int .i64 t.b, .slice al t.list.length dl], .int .i64 n] w (AddSays A B M w (Pl.addT L.only to t n)) := by
    cases hso : L.only t.list with
    | none =>
      by_cases k13 : t.kind = 13
      · exact add_none13 hS L hO B M to t au al cu dl n w hm hv hw h6 hso k13
      · by_cases k14 : t.kind = 14
        · exact add_none14 hS L hO B M to t au al cu dl n w hm hv hw h6 hso k14
        · exact add_none0 hS L hO B M to t au al cu dl n w hm hv hw h6 hso k13 k14
    | some s =>
      have h6s : s.tests.length ≤ 6 := (hL.one hw hso).1.1
      by_cases k13 : t.kind = 13
      · by_cases hnb : isNotB s = true
        · obtain ⟨t1, e1, e2⟩ := isNot_is hnb
          exact add_not1 hA hS L hO B M to t au al cu dl n w hm hv hw h6 s hso k13 t1 e1 e2
        · exact add_not0 hA hS L hO B M to t au al cu dl n w hm hv hw h6 s hso k13 (by simpa using hnb)
      · by_cases k14 : t.kind = 14
        · by_cases htg : Pl.together to.tag s.tag = true
          · by_cases hbig : to.tests.length + s.tests.length + n ≤ 6
            · cases hte : to.tag.isEmpty with
              | false => exact add_is2 hA hS L hO B M to t au al cu dl n w hm hv hw h6 s hso k14 htg h6s hbig hte
              | true => exact add_is3 hA hS L hO B M to t au al cu dl n w hm hv hw h6 s hso k14 htg h6s hbig hte
            · exact add_is1 hS L hO B M to t au al cu dl n w hm hv hw h6 s hso k14 htg h6s hbig
          · exact add_is0 hS L hO B M to t au al cu dl n w hm hv hw h6 s hso k14 (by simpa using htg)
        · exact add_some0 hS L hO B M to t au al cu dl n w hm hv hw h6 s hso k13 k14
  exact key
end Go.Proofs.YtephhllfodlfbaaDoor
/-
  plain.plainer at each level.
-/
namespace Go.Proofs.YtephhllfodlfbaaDoor
open Go.RowKit

theorem plC_up {α : Type} [DecidableEq α] {A : MemL α} (hA : IsL A) (hS : IsSub A) (L : Pl.Lev α) (hL : Pl.IsLev L) (hO : OnlyC A L) (hP : PlC A L) (hsame : ∀ (w : World) (v1 v2 : Value) (l m : List α), A w v1 l → A w v2 m → L.W l → L.W m → Calls Tryd.prog 16 #[v1, v2] w fun e w' => e = .returned (.bool (sm l m)) ∧ Below w.heap.size w w') (lift : List α → List (Pl.Pth α)) : PlC (LstAt A) (L.up lift) :=
  fun w v l h hw => plainer_up hA hS L hL (path_any hA hS L (fun a c s w h ok => plStep_any hA hS L hL (add_any hA hS L hL hO) hP hsame a c s w h ok)) hsame w v l h hw
/-- a level that takes no list -/
def LF : Pl.Lev Unit := ⟨fun _ => [], fun _ => none, fun _ => 0, fun _ => False⟩
theorem isLev_F : Pl.IsLev LF := ⟨fun h => h.elim, fun h => h.elim, fun h => h.elim⟩
theorem plC_0 : PlC ZAt Pl.L0 := fun w v l h hw => by
  have hw : l = [] := hw
  subst hw
  obtain ⟨a, c, rfl, h1, h2⟩ := h
  have := plC_up isL_z isSub_z LF isLev_F (fun _ _ _ _ _ h => h.elim) (fun _ _ _ _ h => h.elim) (fun _ _ _ _ _ _ _ h => h.elim) (fun _ => []) w (.slice a 0 c) [] ⟨a, c, rfl, ⟨h1, h2⟩, Or.inl rfl⟩ ⟨by simp, fun p hp => by simp at hp⟩
  refine this.mono ?_
  rintro e w' ⟨a', c', rfl, hr, hb⟩
  obtain ⟨a'', c'', e', hf, -⟩ := hr
  exact ⟨a', c', rfl, ⟨a'', c'', e', hf.1, hf.2⟩, hb⟩
theorem plC_1 : PlC A1 Pl.L1 := plC_up isL_z isSub_z Pl.L0 Pl.isLev_0 onlyC_0 plC_0 sameL_z Pl.lift0
theorem plC_2 : PlC A2 Pl.L2 := plC_up isL_1 (isSub_up isSub_z) Pl.L1 Pl.isLev_1 onlyC_1 plC_1 sameL_1 Pl.lift1
/-- once, whole -/
theorem plC_3 : PlC A3 Pl.L3 := plC_up isL_2 (isSub_up (isSub_up isSub_z)) Pl.L2 Pl.isLev_2 onlyC_2 plC_2 sameL_2 Pl.lift2
end Go.Proofs.YtephhllfodlfbaaDoor
