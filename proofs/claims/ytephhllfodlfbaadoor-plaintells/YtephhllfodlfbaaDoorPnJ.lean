/-
  plain.add: an Is whose step goes into this one.
-/
import Derived.Test.YtephhllfodlfbaaDoorPnE
import Derived.BigQuiet
import Derived.Deep.RegionHeld3
import Derived.Deep.QuietTactic
namespace Go.Proofs.YtephhllfodlfbaaDoor
open Go.RowKit

theorem Grow.ownLt {β : Type} {P : Nat → Bool} {B : Nat} {e : TypeId} {k : Nat} {V : World → List Value → β → Prop} {w : World} {v : Value} {l : List β} (h : Grow P B e k V w v l) : ∀ g, v.ownBlock = some g → g < w.heap.size := by
  obtain ⟨xs, hown, _⟩ := h
  intro g hg
  rcases hown.2 with ⟨rfl, _⟩ | ⟨g', cap, cur, rfl, _, e3, _⟩
  · simp [Value.ownBlock] at hg
  · simp [Value.ownBlock] at hg
    subst hg
    exact (Array.getElem?_eq_some_iff.1 e3).1
theorem Made.retag {α : Type} {A : MemL α} (hS : IsSub A) {B M : Nat} {w : World} {to : Pl.Stp α} {u : Value} (h : Made A B M w to u) (x : List UInt8) : Made A B M (w.setCell ⟨M, 0, none⟩ (.string ⟨x.toArray⟩)) ⟨x, to.tests⟩ u :=
  ⟨set41_0 h.box _, h.row.apart hS h.lt, h.lt, by have := h.sz; simpa [World.setCell] using this⟩
theorem AddW.keep6 {α : Type} {A : MemL α} {B M N : Nat} {w W W2 : World} {to : Pl.Stp α} {t : Pl.Tst α} {au al : Option Addr} {cu dl : Nat} {o : Obj} (h : AddW A B M w W to t au al cu dl) (h6 : W.heap[N]? = some o) (hN : B ≤ N) (hlt : ∀ j, (Value.slice au to.tests.length cu).ownBlock = some j → j < N) (hg : W.grownBy W2 (Value.slice au to.tests.length cu).ownBlock) (v' : Value) : (W2.setCell ⟨M, 1, none⟩ v').heap[N]? = some o := by
  have hM := h.made.lt
  rw [Below.heap_setCell _ _ _ _ (by show N ≠ M; omega), hg.block N (Array.getElem?_eq_some_iff.1 h6).1 (fun e => by have := hlt N e.symm; omega)]
  exact h6
section
variable {α : Type} {A : MemL α} (hA : IsL A) (hS : IsSub A) (L : Pl.Lev α) (hO : OnlyC A L) (B M : Nat) (to : Pl.Stp α) (t : Pl.Tst α) (au al : Option Addr) (cu dl : Nat) (n : Nat) (w : World)
  (hm : Made A B M w to (.slice au to.tests.length cu)) (hv : A (mask (Off (frm B) (.slice au to.tests.length cu)) w) (.slice al t.list.length dl) t.list) (hw : L.W t.list) (h6 : to.tests.length + 1 + n ≤ 6)
include hA hS hO hm hv hw h6
set_option maxRecDepth 100000 in
set_option maxHeartbeats 8000000 in
theorem add_is2 (s : Pl.Stp α) (hso : L.only t.list = some s) (k14 : t.kind = 14) (htg : Pl.together to.tag s.tag = true) (h6s : s.tests.length ≤ 6) (hbig : to.tests.length + s.tests.length + n ≤ 6) (hte : to.tag.isEmpty = false) : Calls Tryd.prog 67 #[.pointer (some ⟨M, 0, none⟩), .agg #[.int .i64 t.kind, .string ⟨t.name.toArray⟩, .string ⟨t.value.toArray⟩, .int .i64 t.a, .int .i64 t.b, .slice al t.list.length dl], .int .i64 n] w (AddSays A B M w (Pl.addT L.only to t n)) := by
  have h64 : to.tests.length + 1 ≤ 64 := by omega
  have HL64 : Hid _ := h64
  have HAW : Hid (AddW A B M w (w.alloc (.cells #[.int .i64 t.kind, .string ⟨t.name.toArray⟩, .string ⟨t.value.toArray⟩, .int .i64 t.a, .int .i64 t.b, .slice al t.list.length dl] 45)) to t au al cu dl) := AddW.start hS hm hv
  have HCO : Hid (Calls Tryd.prog 71 _ _ _) := hO (w.alloc (.cells #[.int .i64 t.kind, .string ⟨t.name.toArray⟩, .string ⟨t.value.toArray⟩, .int .i64 t.a, .int .i64 t.b, .slice al t.list.length dl] 45)) (Off (frm B) (.slice au to.tests.length cu)) (.slice al t.list.length dl) t.list HAW.out.new hw
  have HAT : Hid (Pl.addT L.only to t n = ⟨to.tag, to.tests ++ s.tests⟩) := by
    unfold Hid Pl.addT
    rw [hso]
    dsimp only
    rw [if_neg (by rw [k14]; decide)]
    dsimp only
    rw [if_pos ⟨k14, htg, hbig⟩, if_neg (fun h0 => by rw [h0] at hte; cases hte)]
  have r13 : (t.kind == 13) = false := by rw [k14]; rfl
  have r14 : (t.kind == 14) = true := by simpa using k14
  have hbi : (to.tests.length : Int) + (s.tests.length : Int) + (n : Int) ≤ 6 := by omega
  have HLEN : Hid (to.tests.length + s.tests.length ≤ 64) := by unfold Hid; omega
  have w1' : IntKind.i64.wrap ((to.tests.length : Int) + (s.tests.length : Int)) = (to.tests.length : Int) + (s.tests.length : Int) := IntWalk.i64_in _ ⟨by omega, by omega⟩
  have w2' : IntKind.i64.wrap ((to.tests.length : Int) + (s.tests.length : Int) + (n : Int)) = (to.tests.length : Int) + (s.tests.length : Int) + (n : Int) := IntWalk.i64_in _ ⟨by omega, by omega⟩
  clear k14 hbig
  clear hv hw h6 hm h64
  go_enter Tryd.func67, Tryd.ntmps67
  go_wp2_with fail
  generalize w.alloc (.cells #[.int .i64 t.kind, .string ⟨t.name.toArray⟩, .string ⟨t.value.toArray⟩, .int .i64 t.a, .int .i64 t.b, .slice al t.list.length dl] 45) = w1 at *
  refine HCO.out.mono ?_
  rintro e w2 ⟨⟨hs, -⟩ | ⟨s', as_, cs, hs, rfl, hrow⟩, hb2⟩
  case inl => rw [hso] at hs; cases hs
  obtain rfl : s = s' := Option.some.inj (hso.symm.trans hs)
  have hb3 := on_alloc w2 (.cells #[.string ⟨s.tag.toArray⟩, .slice as_ s.tests.length cs] 41)
  have HAW3 : Hid (AddW A B M w (w2.alloc (.cells #[.string ⟨s.tag.toArray⟩, .slice as_ s.tests.length cs] 41)) to t au al cu dl) := (HAW.out.on hS hb2).on hS hb3
  have HR3 : Hid (RowAt (TstAt A) 6 (mask (Off (frm B) (.slice au to.tests.length cu)) (w2.alloc (.cells #[.string ⟨s.tag.toArray⟩, .slice as_ s.tests.length cs] 41))) (.slice as_ s.tests.length cs) s.tests) := hrow.map fun _ _ _ hq => (hq.sub hS (mask_on hb2)).sub hS (mask_on hb3)
  have H6 : Hid ((w2.alloc (.cells #[.string ⟨s.tag.toArray⟩, .slice as_ s.tests.length cs] 41)).heap[w2.heap.size]? = some (.cells #[.string ⟨s.tag.toArray⟩, .slice as_ s.tests.length cs] 41)) := heap_alloc_new w2 _
  obtain ⟨⟨b0, b1, b2, b3⟩, q0, q1, q2, q3, q4, q5⟩ := HAW3.out.facts
  obtain ⟨v0, v1⟩ := AddW.step6 H6.out
  have HNE : Hid (∀ j, (Value.slice au to.tests.length cu).ownBlock = some j → j < w2.heap.size) := (HAW.out.on hS hb2).made.row.ownLt
  have HBN : Hid (B ≤ w2.heap.size) := (HAW.out.on hS hb2).made.sz
  clear hb2 hb3 hs hrow hso
  go_wp2
  generalize w2.alloc (.cells #[.string ⟨s.tag.toArray⟩, .slice as_ s.tests.length cs] 41) = W2 at *
  have HTG : Hid (∀ W, Calls Tryd.prog 73 #[.agg #[.string ⟨to.tag.toArray⟩, .slice au to.tests.length cu], .agg #[.string ⟨s.tag.toArray⟩, .slice as_ s.tests.length cs]] W fun e w' => e = .returned (.bool true) ∧ Below W.heap.size W w') := fun W => by
    have := together_any to.tag s.tag au as_ to.tests.length cu s.tests.length cs W
    rw [htg] at this
    exact this
  have S0 : W2.drew.cell? ⟨w.heap.size, 0, none⟩ = some (.int .i64 t.kind) ∧ W2.drew.cell? ⟨M, 0, none⟩ = some (.string ⟨to.tag.toArray⟩) ∧ W2.drew.cell? ⟨M, 1, none⟩ = some (.slice au to.tests.length cu) ∧ W2.drew.cell? ⟨w2.heap.size, 0, none⟩ = some (.string ⟨s.tag.toArray⟩) ∧ W2.drew.cell? ⟨w2.heap.size, 1, none⟩ = some (.slice as_ s.tests.length cs) ∧ Below W2.heap.size W2 W2.drew := ⟨q0, b0, b1, v0, v1, (Below.refl _ _).drew⟩
  clear b0 b1 b2 b3 q0 q1 q2 q3 q4 q5 v0 v1
  go_region_held3 (fun w' => w'.cell? ⟨w.heap.size, 0, none⟩ = some (.int .i64 t.kind) ∧ w'.cell? ⟨M, 0, none⟩ = some (.string ⟨to.tag.toArray⟩) ∧ w'.cell? ⟨M, 1, none⟩ = some (.slice au to.tests.length cu) ∧ w'.cell? ⟨w2.heap.size, 0, none⟩ = some (.string ⟨s.tag.toArray⟩) ∧ w'.cell? ⟨w2.heap.size, 1, none⟩ = some (.slice as_ s.tests.length cs) ∧ Below W2.heap.size W2 w')
    (first | with_reducible assumption | exact cinq_on (by with_reducible assumption) (by with_reducible assumption))
    (first | (go_at_call 73; refine (HTG.out _).mono ?_; rintro e w' ⟨rfl, hw⟩))
  have HS5 := cinq_id (by with_reducible assumption)
  obtain ⟨-, -, -, -, -, hB5⟩ := HS5
  have HAW3' := HAW3.out.on hS hB5
  have HR3' : RowAt (TstAt A) 6 (mask (Off (frm B) (.slice au to.tests.length cu)) w') (.slice as_ s.tests.length cs) s.tests := HR3.out.map fun _ _ _ hq => hq.sub hS (mask_on hB5)
  have H6' := hblk H6.out hB5
  clear HAW3 hB5 S0 HR3 H6 HTG
  generalize w' = W3 at *
  have HAW3 : Hid (AddW A B M w W3 to t au al cu dl) := HAW3'
  have HRD : Hid (RowAt (TstAt A) 6 (mask (Off (frm B) (.slice au to.tests.length cu)) W3.drew) (.slice as_ s.tests.length cs) s.tests) := HR3'.map fun _ _ _ hq => hq.sub hS (incl_mask fun _ _ _ hj hx => ⟨hj, hx⟩)
  have H6 : Hid (W3.drew.heap[w2.heap.size]? = some (.cells #[.string ⟨s.tag.toArray⟩, .slice as_ s.tests.length cs] 41)) := H6'
  clear HAW3' HR3' H6'
  have HAD := HAW3.out.drew hS
  obtain ⟨⟨b0, b1, b2, b3⟩, q0, q1, q2, q3, q4, q5⟩ := HAD.facts
  obtain ⟨v0, v1⟩ := AddW.step6 (W := W3.drew) H6.out
  have HADH : Hid (AddW _ _ _ _ _ _ _ _ _ _ _) := HAD
  have HBZ : Hid (B ≤ W3.drew.heap.size) := HAD.made.sz
  clear HAD HAW3 q0 q1 q2 q3 q4 q5
  go_wp2_with fail
  go_region_law (refine step_app hA hS (B := B) (W := W3.drew) (ts := to.tests) (ms := s.tests) rfl (.tmp 82) (.tmp 84) rfl rfl rfl HADH.out.made.row HRD.out HLEN.out HBZ.out ?_; intro a7 c7 w7 hrow' hgr; have HPUT := HADH.out.put hS (Below.refl _ _) hgr hrow'; have HK6 := HADH.out.keep6 H6.out HBN.out HNE.out hgr (.slice a7 (to.tests.length + s.tests.length) c7); have z7 := HPUT.2.2.1; have zf7 := HPUT.2.2.2)
  all_goals
    have HMD : Hid (Made A B M _ _ _) := HPUT.1
    have HFR : Hid (FrA B M w _) := HPUT.2.1
    have HK : Hid _ := HK6
    clear HPUT HK6 hrow' hgr z7 zf7 b0 b1 b2 b3 v0 v1 HADH HRD H6
    generalize w7.setCell ⟨M, 1, none⟩ (.slice a7 (to.tests.length + s.tests.length) c7) = W8 at *
    obtain ⟨b0, b1, b2, b3⟩ := res71 HMD.out.box
    obtain ⟨v0, v1⟩ := AddW.step6 HK.out
    dsimp only at b0 b1
    go_wp2
    go_end0
    exact ⟨rfl, _, by rw [HAT.out]; exact HMD.out, HFR.out⟩
end
end Go.Proofs.YtephhllfodlfbaaDoor
