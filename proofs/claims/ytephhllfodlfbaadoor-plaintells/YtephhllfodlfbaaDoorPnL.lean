/-
  plain.plainerStep: a step made plainer, from what is done with its tests' lists.
-/
import Derived.Test.YtephhllfodlfbaaDoorPnE
namespace Go.Proofs.YtephhllfodlfbaaDoor
open Go.RowKit

/-- what add does -/
def AddC {α : Type} (A : MemL α) (L : Pl.Lev α) : Prop := ∀ (B M : Nat) (to : Pl.Stp α) (t : Pl.Tst α) (au al : Option Addr) (cu dl n : Nat) (w : World), Made A B M w to (.slice au to.tests.length cu) → A (mask (Off (frm B) (.slice au to.tests.length cu)) w) (.slice al t.list.length dl) t.list → L.W t.list → to.tests.length + 1 + n ≤ 6 →
  Calls Tryd.prog 67 #[.pointer (some ⟨M, 0, none⟩), .agg #[.int .i64 t.kind, .string ⟨t.name.toArray⟩, .string ⟨t.value.toArray⟩, .int .i64 t.a, .int .i64 t.b, .slice al t.list.length dl], .int .i64 n] w (AddSays A B M w (Pl.addT L.only to t n))
/-- what is done with a list -/
def PlC {α : Type} (A : MemL α) (L : Pl.Lev α) : Prop := ∀ (w : World) (v : Value) (l : List α), A w v l → L.W l → Calls Tryd.prog 15 #[v] w fun e w' => ∃ a c, e = .returned (.slice a (L.f l).length c) ∧ A (mask (frm w.heap.size) w') (.slice a (L.f l).length c) (L.f l) ∧ Below w.heap.size w w'
theorem Made.to {α : Type} {A : MemL α} (hS : IsSub A) {B M : Nat} {w w' : World} {to : Pl.Stp α} {u : Value} (h : Made A B M w to u) (hs : ∀ j, j < w.heap.size → w'.heap[j]? = w.heap[j]?) (hz : w.heap.size ≤ w'.heap.size) : Made A B M w' to u :=
  ⟨(hs M (Array.getElem?_eq_some_iff.1 h.box).1).trans h.box, h.row.move (isV_t hS) fun j hj hjw => ⟨hj, hs j hjw⟩, h.lt, Nat.le_trans h.sz hz⟩
theorem Made.ownLt {α : Type} {A : MemL α} {B M : Nat} {w : World} {to : Pl.Stp α} {u : Value} (h : Made A B M w to u) : ∀ g, u.ownBlock = some g → g < w.heap.size := by
  obtain ⟨xs, hown, _⟩ := h.row
  exact fun g hg => (World.ownsRow.lt hown g hg).2
theorem b45_5 {W : World} {M : Nat} {v0 v1 v2 v3 v4 v5 : Value} (h : W.heap[M]? = some (.cells #[v0, v1, v2, v3, v4, v5] 45)) (u : Value) : (W.setCell ⟨M, 5, none⟩ u).heap[M]? = some (.cells #[v0, v1, v2, v3, v4, u] 45) := by
  simp [World.setCell, Array.getElem?_modify, h]
theorem fz6 {W : World} {M T : Nat} {v0 v1 v2 v3 v4 v5 : Value} (h : W.heap[M]? = some (.cells #[v0, v1, v2, v3, v4, v5] T)) (i : Nat) : W.frozen? ⟨M, i, none⟩ = false := by simp [World.frozen?, h]
theorem FrA.cell {B M : Nat} {w w' : World} (h : FrA B M w w') {p : Nat} {o : Nat} {v : Value} (hc : w.cell? ⟨p, o, none⟩ = some v) (hp : p < B) (hne : p ≠ M) : w'.cell? ⟨p, o, none⟩ = some v := by
  unfold World.cell? at *
  dsimp only at *
  rw [h.blk p hp hne]
  exact hc
theorem FrA.blkAt {B M : Nat} {w w' : World} (h : FrA B M w w') {p : Nat} {o : Obj} (hc : w.heap[p]? = some o) (hp : p < B) (hne : p ≠ M) : w'.heap[p]? = some o := (h.blk p hp hne).trans hc
theorem FrA.belowW {B M n : Nat} {w w3 wr : World} (hf : FrA B M w3 wr) (h0 : Below n w w3) (hB : n ≤ B) (hM : n ≤ M) : Below n w wr :=
  ⟨hf.os.trans h0.os, hf.tape.trans h0.tape, hf.output.trans h0.output, Nat.le_trans h0.size hf.size, fun k hk => (hf.blk k (by omega) (by omega)).trans (h0.block k hk)⟩
theorem addTo_len {α : Type} {L : Pl.Lev α} (hL : Pl.IsLev L) {s : Pl.Stp α} (hs : Pl.okS L.W s) {k : Nat} (hk : k < s.tests.length) : (Pl.addTo L.f L.only s k).tests.length + 1 + (s.tests.length - k - 1) ≤ 6 := by
  have := (Pl.addTo_sz hL hs k (by omega)).2.2
  omega
set_option maxRecDepth 100000 in
set_option maxHeartbeats 8000000 in
theorem plStep_any {α : Type} [DecidableEq α] {A : MemL α} (hA : IsL A) (hS : IsSub A) (L : Pl.Lev α) (hL : Pl.IsLev L) (hAdd : AddC A L) (hPl : PlC A L) (hsame : ∀ (w : World) (v1 v2 : Value) (l m : List α), A w v1 l → A w v2 m → L.W l → L.W m → Calls Tryd.prog 16 #[v1, v2] w fun e w' => e = .returned (.bool (sm l m)) ∧ Below w.heap.size w w')
    (a : Option Addr) (c : Nat) (s : Pl.Stp α) (w : World) (hrow : RowAt (TstAt A) 6 w (.slice a s.tests.length c) s.tests) (hok : Pl.okS L.W s) :
    Calls Tryd.prog 52 #[.agg #[.string ⟨s.tag.toArray⟩, .slice a s.tests.length c]] w fun e w' => ∃ a' c', e = .returned (.agg #[.string ⟨(Pl.plS L.f L.only s).tag.toArray⟩, .slice a' (Pl.plS L.f L.only s).tests.length c']) ∧ RowAt (TstAt A) 6 (mask (frm w.heap.size) w') (.slice a' (Pl.plS L.f L.only s).tests.length c') (Pl.plS L.f L.only s).tests ∧ Below w.heap.size w w' := by
  have HOK : Hid (Pl.okS L.W s) := hok
  have HROW : Hid (RowAt (TstAt A) 6 w (.slice a s.tests.length c) s.tests) := hrow
  have h6 := hok.1
  have hz0 : (((w.alloc (.cells #[.string ⟨s.tag.toArray⟩, .slice a s.tests.length c] 41)).alloc (.cells #[.string ⟨#[]⟩, .slice none 0 0] 41)).alloc (.cells #[.string ⟨s.tag.toArray⟩, .slice none 0 0] 41)).heap.size = w.heap.size + 3 := by simp
  have HB0 : Hid (Below w.heap.size w (((w.alloc (.cells #[.string ⟨s.tag.toArray⟩, .slice a s.tests.length c] 41)).alloc (.cells #[.string ⟨#[]⟩, .slice none 0 0] 41)).alloc (.cells #[.string ⟨s.tag.toArray⟩, .slice none 0 0] 41))) := ((((Below.refl w.heap.size w).alloc (Nat.le_refl _) _).alloc (by simp) _).alloc (by simp; omega) _)
  have X1 : (((w.alloc (.cells #[.string ⟨s.tag.toArray⟩, .slice a s.tests.length c] 41)).alloc (.cells #[.string ⟨#[]⟩, .slice none 0 0] 41)).alloc (.cells #[.string ⟨s.tag.toArray⟩, .slice none 0 0] 41)).heap[w.heap.size]? = some (.cells #[.string ⟨s.tag.toArray⟩, .slice a s.tests.length c] 41) := hblk (hblk (heap_alloc_new w _) (on_alloc _ (.cells #[.string ⟨#[]⟩, .slice none 0 0] 41))) (on_alloc _ _)
  have X2 : (((w.alloc (.cells #[.string ⟨s.tag.toArray⟩, .slice a s.tests.length c] 41)).alloc (.cells #[.string ⟨#[]⟩, .slice none 0 0] 41)).alloc (.cells #[.string ⟨s.tag.toArray⟩, .slice none 0 0] 41)).heap[w.heap.size + 1]? = some (.cells #[.string ⟨#[]⟩, .slice none 0 0] 41) := by
    have h1 := heap_alloc_new (w.alloc (.cells #[.string ⟨s.tag.toArray⟩, .slice a s.tests.length c] 41)) (.cells #[.string ⟨#[]⟩, .slice none 0 0] 41)
    have h2 := hblk h1 (on_alloc _ (.cells #[.string ⟨s.tag.toArray⟩, .slice none 0 0] 41))
    simpa using h2
  have X3 : (((w.alloc (.cells #[.string ⟨s.tag.toArray⟩, .slice a s.tests.length c] 41)).alloc (.cells #[.string ⟨#[]⟩, .slice none 0 0] 41)).alloc (.cells #[.string ⟨s.tag.toArray⟩, .slice none 0 0] 41)).heap[w.heap.size + 2]? = some (.cells #[.string ⟨s.tag.toArray⟩, .slice none 0 0] 41) := by
    have h1 := heap_alloc_new ((w.alloc (.cells #[.string ⟨s.tag.toArray⟩, .slice a s.tests.length c] 41)).alloc (.cells #[.string ⟨#[]⟩, .slice none 0 0] 41)) (.cells #[.string ⟨s.tag.toArray⟩, .slice none 0 0] 41)
    simpa using h1
  have HX1 : Hid _ := X1
  have HX2 : Hid _ := X2
  have HX3 : Hid _ := X3
  have HZ0 : Hid _ := hz0
  clear X1 X2 X3 hz0 hok hrow
  go_enter Tryd.func52, Tryd.ntmps52
  go_wp2
  generalize hw3 : ((w.alloc (.cells #[.string ⟨s.tag.toArray⟩, .slice a s.tests.length c] 41)).alloc (.cells #[.string ⟨#[]⟩, .slice none 0 0] 41)).alloc (.cells #[.string ⟨s.tag.toArray⟩, .slice none 0 0] 41) = w3 at *
  clear hw3
  have HM0 : Hid (Made A (w.heap.size + 3) (w.heap.size + 2) w3 (Pl.addTo L.f L.only s 0) (.slice none 0 0)) := ⟨HX3.out, Grow.nil _ _ _ _ _ _, by omega, by have := HZ0.out; omega⟩
  go_loopw [12] (fun i wr => ∃ k : Nat, k ≤ s.tests.length ∧ i = .int .i64 k ∧ Hid (∃ au cu, Made A (w.heap.size + 3) (w.heap.size + 2) wr (Pl.addTo L.f L.only s k) (.slice au (Pl.addTo L.f L.only s k).tests.length cu)) ∧ Hid (FrA (w.heap.size + 3) (w.heap.size + 2) w3 wr)) (fun i _ => s.tests.length - (intOf i).toNat)
  case atStart => exact ⟨0, Nat.zero_le _, rfl, ⟨none, 0, HM0.out⟩, FrA.refl _ _ _⟩
  case round =>
    obtain ⟨k, hk, rfl, HMk, HFk⟩ := hrel
    obtain ⟨au, cu, hmk⟩ := HMk.out
    have HM : Hid (Made A (w.heap.size + 3) (w.heap.size + 2) wr (Pl.addTo L.f L.only s k) (.slice au (Pl.addTo L.f L.only s k).tests.length cu)) := hmk
    clear HMk hmk
    have HX1k : Hid (wr.heap[w.heap.size]? = some (.cells #[.string ⟨s.tag.toArray⟩, .slice a s.tests.length c] 41)) := HFk.out.blkAt HX1.out (by omega) (by omega)
    by_cases hlt : k < s.tests.length
    · as_aux_lemma =>
      obtain ⟨a', c', e', -, hcs⟩ := HROW.out
      injection e' with e1 _ e3
      subst e1 e3
      rcases hcs with h0 | ⟨b, o, rfl, hc⟩
      · rw [h0] at hlt; simp at hlt
      obtain ⟨vv, n0, n1, n2, n3, n4, n5, hm5⟩ := hc k hlt
      obtain ⟨al, dl, rfl, -⟩ := hA.form hm5
      have hbw : b < w.heap.size := cell_lt n0
      have hBW : Below w.heap.size w wr := HFk.out.belowW HB0.out (by omega) (by omega)
      replace n0 := cell_on hBW n0
      replace n1 := cell_on hBW n1
      replace n2 := cell_on hBW n2
      replace n3 := cell_on hBW n3
      replace n4 := cell_on hBW n4
      replace n5 := cell_on hBW n5
      have hwl := HOK.out.2 s.tests[k] (List.getElem_mem hlt)
      have HNX : Hid _ := Pl.addTo_next (f := L.f) (only := L.only) hlt
      have HLE : Hid _ := addTo_len hL HOK.out hlt
      have i1 : (0 : Int) ≤ (k : Int) := by omega
      have i2 : (k : Int) < (s.tests.length : Int) := by omega
      clear hc
      generalize s.tests[k] = t at *
      generalize Pl.addTo L.f L.only s k = to at *
      have hba := on_alloc wr (.cells #[.int .i64 t.kind, .string ⟨t.name.toArray⟩, .string ⟨t.value.toArray⟩, .int .i64 t.a, .int .i64 t.b, .slice al t.list.length dl] 45)
      have HBA : Hid (Below wr.heap.size wr (wr.alloc (.cells #[.int .i64 t.kind, .string ⟨t.name.toArray⟩, .string ⟨t.value.toArray⟩, .int .i64 t.a, .int .i64 t.b, .slice al t.list.length dl] 45))) := hba
      have H5 : Hid ((wr.alloc (.cells #[.int .i64 t.kind, .string ⟨t.name.toArray⟩, .string ⟨t.value.toArray⟩, .int .i64 t.a, .int .i64 t.b, .slice al t.list.length dl] 45)).heap[wr.heap.size]? = some (.cells #[.int .i64 t.kind, .string ⟨t.name.toArray⟩, .string ⟨t.value.toArray⟩, .int .i64 t.a, .int .i64 t.b, .slice al t.list.length dl] 45)) := heap_alloc_new wr _
      have HC : Hid (Calls Tryd.prog 15 _ _ _) := hPl (wr.alloc (.cells #[.int .i64 t.kind, .string ⟨t.name.toArray⟩, .string ⟨t.value.toArray⟩, .int .i64 t.a, .int .i64 t.b, .slice al t.list.length dl] 45)) (.slice al t.list.length dl) t.list (hA.on (hA.on hm5 hBW) hba) hwl
      have hza : (wr.alloc (.cells #[.int .i64 t.kind, .string ⟨t.name.toArray⟩, .string ⟨t.value.toArray⟩, .int .i64 t.a, .int .i64 t.b, .slice al t.list.length dl] 45)).heap.size = wr.heap.size + 1 := by simp
      have HZA : Hid _ := hza
      have HWL : Hid (L.W t.list) := hwl
      clear hba hza hm5 hBW hwl
      obtain ⟨wq, hwq⟩ : ∃ q, q = wr := ⟨_, rfl⟩
      subst hwq
      go_wp2_with fail
      clear n0 n1 n2 n3 n4 n5
      generalize wq.alloc (.cells #[.int .i64 t.kind, .string ⟨t.name.toArray⟩, .string ⟨t.value.toArray⟩, .int .i64 t.a, .int .i64 t.b, .slice al t.list.length dl] 45) = wa at *
      refine HC.out.mono ?_
      rintro e w5 ⟨a5, c5, rfl, hm5, hb5⟩
      have B5 := hblk H5.out hb5
      obtain ⟨q0, q1, q2, q3, q4, q5⟩ := f6 B5
      have hfz := fz6 B5 5
      have B6 := b45_5 B5 (.slice a5 (L.f t.list).length c5)
      obtain ⟨r0, r1, r2, r3, r4, r5⟩ := f6 B6
      have hsame5 : ∀ j, j < wq.heap.size → (w5.setCell ⟨wq.heap.size, 5, none⟩ (.slice a5 (L.f t.list).length c5)).heap[j]? = wq.heap[j]? := fun j hj => by
        rw [Below.heap_setCell _ _ _ _ (by show j ≠ wq.heap.size; omega), hb5.block j (by have := HZA.out; omega)]
        exact HBA.out.block j hj
      have hsz6 : wq.heap.size ≤ (w5.setCell ⟨wq.heap.size, 5, none⟩ (.slice a5 (L.f t.list).length c5)).heap.size := by
        have := hb5.size
        have := HZA.out
        simp [World.setCell]
        omega
      have HM6 : Hid (Made A (w.heap.size + 3) (w.heap.size + 2) (w5.setCell ⟨wq.heap.size, 5, none⟩ (.slice a5 (L.f t.list).length c5)) to (.slice au to.tests.length cu)) := HM.out.to hS hsame5 hsz6
      have HF6 : Hid (FrA (w.heap.size + 3) (w.heap.size + 2) w3 (w5.setCell ⟨wq.heap.size, 5, none⟩ (.slice a5 (L.f t.list).length c5))) := by
        refine ⟨?_, ?_, ?_, Nat.le_trans HFk.out.size hsz6, fun j hj hne => ?_⟩
        · exact (hb5.os.trans HBA.out.os).trans HFk.out.os
        · exact (hb5.tape.trans HBA.out.tape).trans HFk.out.tape
        · exact (hb5.output.trans HBA.out.output).trans HFk.out.output
        · rw [hsame5 j (by have := HM.out.sz; omega)]
          exact HFk.out.blk j hj hne
      have HV6 : Hid (A (mask (Off (frm (w.heap.size + 3)) (.slice au to.tests.length cu)) (w5.setCell ⟨wq.heap.size, 5, none⟩ (.slice a5 (L.f t.list).length c5))) (.slice a5 (L.f t.list).length c5) (L.f t.list)) := hS.sub hm5 (incl_mask fun j o y hj hy => by
        have hj2 : wq.heap.size + 1 ≤ j := by have := HZA.out; simp only [frm, decide_eq_true_eq] at hj; omega
        refine ⟨?_, ?_⟩
        · unfold Off
          rw [show frm (w.heap.size + 3) j = true by simp only [frm, decide_eq_true_eq]; have := HM.out.sz; omega]
          have : (Value.slice au to.tests.length cu).ownBlock ≠ some j := fun h => by have := HM.out.ownLt j h; omega
          simpa using this
        · rw [World.cell?_setCell_other _ _ _ _ (by intro e; injection e with e1 _ _; omega)]
          exact hy)
      have x1 := (f2 (HF6.out.blkAt HX1.out (by omega) (by omega))).2
      have HC6 : Hid (Calls Tryd.prog 67 _ _ _) := hAdd (w.heap.size + 3) (w.heap.size + 2) to (Pl.plT L.f t) au a5 cu c5 (s.tests.length - k - 1) _ HM6.out HV6.out (hL.ok HWL.out) HLE.out
      have hbe : ((s.tests.length - k - 1 : Nat) : Int) = (s.tests.length : Int) - k - 1 := by omega
      rw [hbe] at HC6
      clear hbe B5 B6 hm5 hb5 hsame5 hsz6 HC
      go_wp2_with fail
      clear q0 q1 q2 q3 q4 q5 r0 r1 r2 r3 r4 r5 hfz x1
      generalize w5.setCell ⟨wq.heap.size, 5, none⟩ (.slice a5 (L.f t.list).length c5) = w6 at *
      refine HC6.out.mono ?_
      rintro e w7 ⟨rfl, u7, hm7, hf7⟩
      obtain ⟨a7, c7, rfl⟩ := hm7.row.form
      have HM7 : Hid (∃ au cu, Made A (w.heap.size + 3) (w.heap.size + 2) w7 (Pl.addTo L.f L.only s (k + 1)) (.slice au (Pl.addTo L.f L.only s (k + 1)).tests.length cu)) := by
        unfold Hid
        rw [HNX.out]
        exact ⟨a7, c7, hm7⟩
      have HF7 : Hid (FrA (w.heap.size + 3) (w.heap.size + 2) w3 w7) := HF6.out.trans hf7
      clear hm7 hf7
      go_wp2
      exact ⟨⟨k + 1, hlt, by go_num, HM7, HF7⟩, by simp [intOf]; omega⟩
    · as_aux_lemma =>
      have hke : k = s.tests.length := by omega
      subst hke
      have HPT : Hid ((Pl.plS L.f L.only s).tests = Pl.firsts (Pl.addTo L.f L.only s s.tests.length).tests ∧ (Pl.plS L.f L.only s).tag = (Pl.addTo L.f L.only s s.tests.length).tag) := ⟨rfl, rfl⟩
      obtain ⟨-, hts, hln⟩ := Pl.addTo_sz hL HOK.out s.tests.length (Nat.le_refl _)
      have HBW : Hid (Below w.heap.size w wr) := HFk.out.belowW HB0.out (by omega) (by omega)
      have HX2k : Hid (wr.heap[w.heap.size + 1]? = some (.cells #[.string ⟨#[]⟩, .slice none 0 0] 41)) := HFk.out.blkAt HX2.out (by omega) (by omega)
      have HCF : Hid (Calls Tryd.prog 68 _ _ _) := firstsT_any hA (fun t => L.W t.list) (fun W v u t s ht hs p q => sameT_any hA L.W hsame W v u t s ht hs p q) hS (w.heap.size + 3) _ _ wr HM.out.sz (Grow.row (isV_t hS) HM.out.row) (by omega) hts
      clear hts hln
      generalize Pl.addTo L.f L.only s s.tests.length = to at *
      obtain ⟨b0, b1, b2, b3⟩ := res71 HM.out.box
      go_wp2_with fail
      clear b0 b1 b2 b3
      refine HCF.out.mono ?_
      rintro e w8 ⟨v8, rfl, hr8, hb8⟩
      obtain ⟨a8, c8, rfl⟩ := hr8.form
      have X3 := hblk HM.out.box hb8
      have X2 := hblk HX2k.out hb8
      have Y3 := set41_1 X3 (.slice a8 (Pl.firsts to.tests).length c8)
      have Y2 : (w8.setCell ⟨w.heap.size + 2, 1, none⟩ (.slice a8 (Pl.firsts to.tests).length c8)).heap[w.heap.size + 1]? = some (.cells #[.string ⟨#[]⟩, .slice none 0 0] 41) := by
        rw [Below.heap_setCell _ _ _ _ (by show w.heap.size + 1 ≠ w.heap.size + 2; omega)]
        exact X2
      have Z2 := b41 Y2 (.string ⟨to.tag.toArray⟩) (.slice a8 (Pl.firsts to.tests).length c8)
      obtain ⟨b0, b1, b2, b3⟩ := res71 X3
      obtain ⟨d0, d1, d2, d3⟩ := res71 Y3
      obtain ⟨g0, g1, g2, g3⟩ := res71 Y2
      obtain ⟨z0, z1, -, -⟩ := res71 Z2
      have HROWZ : Hid (RowAt (TstAt A) 6 (mask (frm w.heap.size) (((w8.setCell ⟨w.heap.size + 2, 1, none⟩ (.slice a8 (Pl.firsts to.tests).length c8)).setCell ⟨w.heap.size + 1, 0, none⟩ (.string ⟨to.tag.toArray⟩)).setCell ⟨w.heap.size + 1, 1, none⟩ (.slice a8 (Pl.firsts to.tests).length c8))) (.slice a8 (Pl.firsts to.tests).length c8) (Pl.firsts to.tests)) := hr8.map fun _ _ _ hq => hq.sub hS (incl_mask fun j o y hj hy => by
        simp only [frm, decide_eq_true_eq] at hj ⊢
        refine ⟨by omega, ?_⟩
        rw [World.cell?_setCell_other _ _ _ _ (by intro e; injection e with e1 _ _; omega), World.cell?_setCell_other _ _ _ _ (by intro e; injection e with e1 _ _; omega), World.cell?_setCell_other _ _ _ _ (by intro e; injection e with e1 _ _; omega)]
        exact hy)
      have HBZ : Hid (Below w.heap.size w (((w8.setCell ⟨w.heap.size + 2, 1, none⟩ (.slice a8 (Pl.firsts to.tests).length c8)).setCell ⟨w.heap.size + 1, 0, none⟩ (.string ⟨to.tag.toArray⟩)).setCell ⟨w.heap.size + 1, 1, none⟩ (.slice a8 (Pl.firsts to.tests).length c8))) := (((below_trans HBW.out hb8).setCell (p := ⟨w.heap.size + 2, 1, none⟩) (by show w.heap.size ≤ w.heap.size + 2; omega) _).setCell (p := ⟨w.heap.size + 1, 0, none⟩) (by show w.heap.size ≤ w.heap.size + 1; omega) _).setCell (p := ⟨w.heap.size + 1, 1, none⟩) (by show w.heap.size ≤ w.heap.size + 1; omega) _
      have HZ0' : Hid _ := z0
      have HZ1' : Hid _ := z1
      clear X3 X2 Y3 Y2 Z2 hr8 hb8 z0 z1 HCF
      go_wp2
      have z0 := HZ0'.out
      have z1 := HZ1'.out
      exact bodyPost_ret (v := .agg #[.string ⟨to.tag.toArray⟩, .slice a8 (Pl.firsts to.tests).length c8]) (by simp [results, Tryd.results52, go_sem, z0, z1]) rfl (by rw [HPT.out.1, HPT.out.2]; exact ⟨a8, c8, rfl, HROWZ.out, HBZ.out⟩)
end Go.Proofs.YtephhllfodlfbaaDoor
