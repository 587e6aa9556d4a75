/-
  The document's own sameness at each level, and its PlainOf from its OnceOf.
-/
import Derived.Test.YtephhllfodlfbaaDoorDsB
import Derived.Test.YtephhllfodlfbaaDoorDsD
import Derived.Test.YtephhllfodlfbaaDoorDsE
import Derived.Test.YtephhllfodlfbaaDoorPnU
import Derived.Test.YtephhllfodlfbaaDoorPnO
namespace Go.Proofs.YtephhllfodlfbaaDoor
open Go.RowKit

theorem dSameT_up {α : Type} [DecidableEq α] {A : MemL α} (hA : IsL A) (W0 : List α → Prop) (hS : ∀ (w : World) (v1 v2 : Value) (l m : List α), A w v1 l → A w v2 m → W0 l → W0 m → Calls Tryd.prog 12 #[v1, v2] w fun e w' => e = .returned (.bool (sm l m)) ∧ Below w.heap.size w w')
    (w : World) (vx vy : Value) (x y : Pl.Tst α) (h1 : TstV A w vx x) (h2 : TstV A w vy y) (o1 : W0 x.list) (o2 : W0 y.list) : Calls Tryd.prog 40 #[vx, vy] w fun e w' => e = .returned (.bool (sm x y)) ∧ Below w.heap.size w w' := dSameT_any hA W0 hS w vx vy x y h1 h2 o1 o2
theorem dSameP_up {α : Type} [DecidableEq α] {A : MemL α} (hA : IsL A) (W0 : List α → Prop) (hS : ∀ (w : World) (v1 v2 : Value) (l m : List α), A w v1 l → A w v2 m → W0 l → W0 m → Calls Tryd.prog 12 #[v1, v2] w fun e w' => e = .returned (.bool (sm l m)) ∧ Below w.heap.size w w')
    (w : World) (vx vy : Value) (x y : Pl.Pth α) (h1 : PthV A w vx x) (h2 : PthV A w vy y) (o1 : ∀ s ∈ x.steps, ∀ t ∈ s.tests, W0 t.list) (o2 : ∀ s ∈ y.steps, ∀ t ∈ s.tests, W0 t.list) : Calls Tryd.prog 23 #[vx, vy] w fun e w' => e = .returned (.bool (sm x y)) ∧ Below w.heap.size w w' :=
  dSameP_any hA (fun s => ∀ t ∈ s.tests, W0 t.list) (fun W x y t s h1 h2 p q => dSameS_any hA (fun t => W0 t.list) (fun W x y t s h1 h2 p q => dSameT_up hA W0 hS W x y t s h1 h2 p q) W x y t s h1 h2 p q) w vx vy x y h1 h2 o1 o2
theorem dSameL_up {α : Type} [DecidableEq α] {A : MemL α} (hA : IsL A) (W0 : List α → Prop) (hS : ∀ (w : World) (v1 v2 : Value) (l m : List α), A w v1 l → A w v2 m → W0 l → W0 m → Calls Tryd.prog 12 #[v1, v2] w fun e w' => e = .returned (.bool (sm l m)) ∧ Below w.heap.size w w')
    (w : World) (v1 v2 : Value) (l m : List (Pl.Pth α)) (h1 : LstAt A w v1 l) (h2 : LstAt A w v2 m) (o1 : Pl.okL W0 l) (o2 : Pl.okL W0 m) : Calls Tryd.prog 12 #[v1, v2] w fun e w' => e = .returned (.bool (sm l m)) ∧ Below w.heap.size w w' :=
  dSameL_any hA (fun p => ∀ s ∈ p.steps, ∀ t ∈ s.tests, W0 t.list) (fun W x y t s h1 h2 p q => dSameP_up hA W0 hS W x y t s h1 h2 p q) v1 v2 l m w h1 h2 (fun p hp s hs t ht => ((o1.2 p hp).2.2.2 s hs).2 t ht) (fun p hp s hs t ht => ((o2.2 p hp).2.2.2 s hs).2 t ht)
theorem dSameL_z (w : World) (v1 v2 : Value) (l m : List Unit) (h1 : ZAt w v1 l) (h2 : ZAt w v2 m) (o1 : l = []) (o2 : m = []) : Calls Tryd.prog 12 #[v1, v2] w fun e w' => e = .returned (.bool (sm l m)) ∧ Below w.heap.size w w' := by
  subst o1 o2
  obtain ⟨a1, c1, rfl, h1, h1'⟩ := h1
  obtain ⟨a2, c2, rfl, h2, h2'⟩ := h2
  exact dSameL_up isL_z (fun _ => False) (fun _ _ _ _ _ _ _ h => h.elim) w (.slice a1 0 c1) (.slice a2 0 c2) [] [] ⟨a1, c1, rfl, ⟨h1, h1'⟩, Or.inl rfl⟩ ⟨a2, c2, rfl, ⟨h2, h2'⟩, Or.inl rfl⟩ ⟨by simp, fun p hp => by simp at hp⟩ ⟨by simp, fun p hp => by simp at hp⟩
theorem dSameL_1 (w : World) (v1 v2 : Value) (l m : List Pl.D1) (h1 : A1 w v1 l) (h2 : A1 w v2 m) (o1 : Pl.L1.W l) (o2 : Pl.L1.W m) : Calls Tryd.prog 12 #[v1, v2] w fun e w' => e = .returned (.bool (sm l m)) ∧ Below w.heap.size w w' :=
  dSameL_up isL_z Pl.L0.W dSameL_z w v1 v2 l m h1 h2 o1 o2
theorem dSameL_2 (w : World) (v1 v2 : Value) (l m : List Pl.D2) (h1 : A2 w v1 l) (h2 : A2 w v2 m) (o1 : Pl.L2.W l) (o2 : Pl.L2.W m) : Calls Tryd.prog 12 #[v1, v2] w fun e w' => e = .returned (.bool (sm l m)) ∧ Below w.heap.size w w' :=
  dSameL_up isL_1 Pl.L1.W dSameL_1 w v1 v2 l m h1 h2 o1 o2
theorem dSameL_3 (w : World) (v1 v2 : Value) (l m : List Pl.D3) (h1 : A3 w v1 l) (h2 : A3 w v2 m) (o1 : Pl.L3.W l) (o2 : Pl.L3.W m) : Calls Tryd.prog 12 #[v1, v2] w fun e w' => e = .returned (.bool (sm l m)) ∧ Below w.heap.size w w' :=
  dSameL_up isL_2 Pl.L2.W dSameL_2 w v1 v2 l m h1 h2 o1 o2
/-- what the document's OnceOf does -/
def DPlC {α : Type} (A : MemL α) (L : Pl.Lev α) : Prop := ∀ (w : World) (v : Value) (l : List α), A w v l → L.W l → Calls Tryd.prog 9 #[v] w fun e w' => ∃ a c, e = .returned (.slice a (L.f l).length c) ∧ A (mask (frm w.heap.size) w') (.slice a (L.f l).length c) (L.f l) ∧ Below w.heap.size w w'
set_option maxRecDepth 100000 in
set_option maxHeartbeats 4000000 in
theorem plainOf_any (hO : DPlC A3 Pl.L3) (w : World) (v : Value) (l : List Pl.D3) (h : A3 w v l) (hw : Pl.W3 l) : Calls Tryd.prog 10 #[v] w fun e w' => ∃ a c, e = .returned (.slice a (Pl.plain3 l).length c) ∧ A3 (mask (frm w.heap.size) w') (.slice a (Pl.plain3 l).length c) (Pl.plain3 l) ∧ Below w.heap.size w w' := by
  have HV : Hid (A3 w v l) := h
  have HW : Hid (Pl.W3 l) := hw
  obtain ⟨mz, hmz⟩ := mz_there
  have HMZ : Hid (∀ v w l, A3 w v l → mz v w = Pl.size3 l) := hmz
  clear hmz
  obtain ⟨a, c, rfl, -⟩ := isL_3.form h
  obtain ⟨pl, hpl⟩ : ∃ q, q = Pl.plain3 l := ⟨_, rfl⟩
  rw [← hpl]
  have HPL : Hid (pl = Pl.plain3 l) := hpl
  clear h hw hpl
  go_enter Tryd.func10, Tryd.ntmps10
  go_wp2
  go_loopw [0] (fun v wr => ∃ (l' : List Pl.D3) (a' : Option Addr) (c' : Nat), v = .slice a' l'.length c' ∧ Hid (A3 wr (.slice a' l'.length c') l') ∧ Hid (Pl.W3 l') ∧ Hid (pl = Pl.plain3 l') ∧ Hid (Below w.heap.size w wr)) (fun v wr => mz v wr)
  case atStart => exact ⟨l, a, c, rfl, HV, HW, HPL, Below.refl _ _⟩
  case round =>
    obtain ⟨l', a', c', rfl, HA, HWl, HP, HB⟩ := hrel
    have HC : Hid (Calls Tryd.prog 9 _ _ _) := hO wr _ l' HA.out HWl.out
    have hmz := HMZ.out _ _ _ HA.out
    have HZ : Hid _ := hmz
    clear hmz HV HW HPL
    obtain ⟨wq, hwq⟩ : ∃ q, q = wr := ⟨_, rfl⟩
    subst hwq
    go_wp2_with fail
    refine HC.out.mono ?_
    rintro e w2 ⟨a2, c2, rfl, hr2, hb2⟩
    have hA2 : A3 w2 (.slice a2 (Pl.L3.f l').length c2) (Pl.L3.f l') := (isSub_up (isSub_up (isSub_up isSub_z))).sub hr2 (incl_real _ _)
    have HA2 : Hid (A3 w2 (.slice a2 (Pl.L3.f l').length c2) (Pl.L3.f l')) := hA2
    have HS2 : Hid (Calls Tryd.prog 12 _ _ _) := dSameL_3 w2 _ _ l' (Pl.L3.f l') (isL_3.on HA.out hb2) hA2 HWl.out (Pl.once_ok HWl.out)
    have HR2 : Hid (A3 (mask (frm w.heap.size) w2) (.slice a2 (Pl.L3.f l').length c2) (Pl.L3.f l')) := (isSub_up (isSub_up (isSub_up isSub_z))).sub hr2 (incl_mask fun j o x hj hx => ⟨by have := HB.out.size; simp only [frm, decide_eq_true_eq] at hj ⊢; omega, hx⟩)
    have HB2 : Hid (Below w.heap.size w w2) := below_trans HB.out hb2
    have HW2 : Hid (Pl.W3 (Pl.L3.f l')) := Pl.once_ok HWl.out
    have HST : Hid (l' = Pl.L3.f l' → pl = Pl.L3.f l') := fun e => by rw [HP.out, Pl.plain_stays (show Pl.once3 l' = l' from e.symm)]; exact e
    have HGO : Hid (¬ l' = Pl.L3.f l' → pl = Pl.plain3 (Pl.L3.f l') ∧ Pl.size3 (Pl.L3.f l') < Pl.size3 l') := fun e => ⟨by rw [HP.out]; exact Pl.plain_goes HWl.out (fun h => e h.symm), (Pl.once_sz HWl.out).resolve_left (fun h => e h.symm)⟩
    clear hA2 hr2 hb2 HC HA HB
    generalize Pl.L3.f l' = m at *
    by_cases hem : l' = m
    · have hsm : sm l' m = true := by unfold sm; exact decide_eq_true hem
      rw [hsm] at HS2
      have hpm := HST.out hem
      clear HGO HST hem
      go_wp2_with fail
      refine HS2.out.mono ?_
      rintro e w3 ⟨rfl, hb3⟩
      have HB3 : Hid (Below w.heap.size w w3) := below_trans HB2.out hb3
      have HR3 : Hid (A3 (mask (frm w.heap.size) w3) (.slice a2 m.length c2) m) := (isSub_up (isSub_up (isSub_up isSub_z))).sub HR2.out (mask_on hb3)
      subst hpm
      clear hb3
      go_wp2
      go_ret
      exact ⟨a2, c2, rfl, HR3.out, HB3.out⟩
    · have hsm : sm l' m = false := by unfold sm; exact decide_eq_false hem
      rw [hsm] at HS2
      obtain ⟨hp3, hlt⟩ := HGO.out hem
      have HP3 : Hid (pl = Pl.plain3 m) := hp3
      have HLT : Hid _ := hlt
      clear HGO HST hem hp3 hlt
      go_wp2_with fail
      refine HS2.out.mono ?_
      rintro e w3 ⟨rfl, hb3⟩
      have HB3 : Hid (Below w.heap.size w w3) := below_trans HB2.out hb3
      have HA3 : Hid (A3 w3 (.slice a2 m.length c2) m) := isL_3.on HA2.out hb3
      clear hb3
      go_wp2
      refine ⟨⟨m, a2, c2, rfl, HA3, HW2, HP3, HB3⟩, ?_⟩
      have h1 := HMZ.out _ _ _ HA3.out
      have h2 := HZ.out
      have h3 := HLT.out
      omega
end Go.Proofs.YtephhllfodlfbaaDoor
/-
  The document's own single.
-/
namespace Go.Proofs.YtephhllfodlfbaaDoor
open Go.RowKit
def DOnlyC {α : Type} (A : MemL α) (L : Pl.Lev α) : Prop := ∀ (w : World) (Q : Nat → Bool) (v : Value) (l : List α), A (mask Q w) v l → L.W l → Calls Tryd.prog 39 #[v] w (OnlySays A (L.only l) Q w)
set_option maxRecDepth 100000 in
set_option maxHeartbeats 4000000 in
theorem dOnly_no (a : Option Addr) (n c : Nat) (w : World) (hn : n ≠ 1) : Calls Tryd.prog 39 #[.slice a n c] w fun e w' => e = .returned (.tuple #[.agg #[.string ⟨#[]⟩, .slice none 0 0], .bool false]) ∧ Below w.heap.size w w' := by
  have r1 : ((n : Int) != 1) = true := by simp; omega
  have HB : Hid (Below w.heap.size w (w.alloc (.cells #[.string ⟨#[]⟩, .slice none 0 0] 41))) := on_alloc w _
  go_enter Tryd.func39, Tryd.ntmps39
  go_wp2
  exact bodyPost_ret (v := .tuple #[.agg #[.string ⟨#[]⟩, .slice none 0 0], .bool false]) (by simp [results, Tryd.results39, go_sem]) rfl ⟨rfl, HB.out⟩
set_option maxRecDepth 100000 in
set_option maxHeartbeats 4000000 in
theorem dOnly_many (b o c : Nat) (as_ : Option Addr) (n cs : Nat) (w : World) (hc : w.cell? ⟨b, o, none⟩ = some (.slice as_ n cs)) (hn : n ≠ 1) : Calls Tryd.prog 39 #[.slice (some ⟨b, o, none⟩) 1 c] w fun e w' => e = .returned (.tuple #[.agg #[.string ⟨#[]⟩, .slice none 0 0], .bool false]) ∧ Below w.heap.size w w' := by
  have r1 : ((n : Int) != 1) = true := by simp; omega
  have HB : Hid (Below w.heap.size w (w.alloc (.cells #[.string ⟨#[]⟩, .slice none 0 0] 41))) := on_alloc w _
  have c1 := cell_on (on_alloc w (.cells #[.string ⟨#[]⟩, .slice none 0 0] 41)) hc
  clear hc
  go_enter Tryd.func39, Tryd.ntmps39
  go_wp2
  exact bodyPost_ret (v := .tuple #[.agg #[.string ⟨#[]⟩, .slice none 0 0], .bool false]) (by simp [results, Tryd.results39, go_sem]) rfl ⟨rfl, HB.out⟩
set_option maxRecDepth 100000 in
set_option maxHeartbeats 4000000 in
theorem dOnly_yes (b o c b2 o2 cs : Nat) (tag : ByteArray) (at_ : Option Addr) (nt ct : Nat) (w : World) (hc : w.cell? ⟨b, o, none⟩ = some (.slice (some ⟨b2, o2, none⟩) 1 cs)) (h0 : w.cell? ⟨b2, o2, none⟩ = some (.string tag)) (h1 : w.cell? ⟨b2, o2 + 1, none⟩ = some (.slice at_ nt ct)) :
    Calls Tryd.prog 39 #[.slice (some ⟨b, o, none⟩) 1 c] w fun e w' => e = .returned (.tuple #[.agg #[.string tag, .slice at_ nt ct], .bool true]) ∧ Below w.heap.size w w' := by
  have hb := on_alloc w (.cells #[.string ⟨#[]⟩, .slice none 0 0] 41)
  have c1 := cell_on hb hc
  have c2 := cell_on hb h0
  have c3 := cell_on hb h1
  have HB : Hid (Below w.heap.size w (w.alloc (.cells #[.string tag, .slice at_ nt ct] 41))) := on_alloc w _
  clear hc h0 h1 hb
  go_enter Tryd.func39, Tryd.ntmps39
  go_wp2
  exact bodyPost_ret (v := .tuple #[.agg #[.string tag, .slice at_ nt ct], .bool true]) (by simp [results, Tryd.results39, go_sem]) rfl ⟨rfl, HB.out⟩
theorem dOnlyC_0 : DOnlyC ZAt Pl.L0 := fun w Q v l h hw => by
  have hw : l = [] := hw
  subst hw
  obtain ⟨a, c, rfl, -⟩ := h
  refine (dOnly_no a 0 c w (by decide)).mono ?_
  rintro e w' ⟨rfl, hb⟩
  exact ⟨Or.inl ⟨rfl, rfl⟩, hb⟩
theorem dOnlyC_up {α : Type} [DecidableEq α] {A : MemL α} {L : Pl.Lev α} {lift : List α → List (Pl.Pth α)} (hl : LiftM A L.W lift) : DOnlyC (LstAt A) (L.up lift) := fun w Q v l h hw => by
  have hw : Pl.okL L.W l := hw
  have h' : RowAt (PthAt A) 2 (mask Q w) v l := h
  obtain ⟨a, c, rfl, -, hcs⟩ := h'
  show Calls Tryd.prog 39 _ w (OnlySays (LstAt A) (Pl.onlyUp lift l) Q w)
  match l, hcs, hw with
  | [], _, _ =>
    refine (dOnly_no a 0 c w (by decide)).mono ?_
    rintro e w' ⟨rfl, hb⟩
    exact ⟨Or.inl ⟨rfl, rfl⟩, hb⟩
  | p :: q :: r, _, _ =>
    refine (dOnly_no a _ c w (by simp)).mono ?_
    rintro e w' ⟨rfl, hb⟩
    exact ⟨Or.inl ⟨rfl, rfl⟩, hb⟩
  | [p], hcs, hw =>
    rcases hcs with h0 | ⟨b, o, rfl, hc⟩
    · cases h0
    obtain ⟨vs, vl, n0, n1, hP, hL⟩ := hc 0 (by simp)
    have n0' := (mask_cell.1 n0).2
    have hp : Pl.okP L.W p := hw.2 p (List.mem_singleton.2 rfl)
    obtain ⟨as_, cs, rfl, -, hs⟩ := hP
    have hlen : ([p] : List (Pl.Pth α))[0].steps = p.steps := rfl
    rw [hlen] at n0' hs
    simp only [Nat.zero_mul, Nat.add_zero] at n0'
    obtain ⟨ss, hss⟩ : ∃ ss, ss = p.steps := ⟨_, rfl⟩
    rw [← hss] at n0' hs
    unfold Pl.onlyUp
    dsimp only
    rw [← hss]
    match ss, hs, hss with
    | [], _, _ =>
      refine (dOnly_many b o c as_ 0 cs w n0' (by decide)).mono ?_
      rintro e w' ⟨rfl, hb⟩
      exact ⟨Or.inl ⟨rfl, rfl⟩, hb⟩
    | s :: s2 :: r, _, _ =>
      refine (dOnly_many b o c as_ _ cs w n0' (by simp)).mono ?_
      rintro e w' ⟨rfl, hb⟩
      exact ⟨Or.inl ⟨rfl, rfl⟩, hb⟩
    | [s], hs, hss =>
      rcases hs with h0 | ⟨b2, o2, rfl, hc2⟩
      · cases h0
      obtain ⟨vt, m0, m1, hT⟩ := hc2 0 (by simp)
      obtain ⟨at_, ct, rfl⟩ := hT.form
      have k0 := (mask_cell.1 m0).2
      have k1 := (mask_cell.1 m1).2
      simp only [Nat.zero_mul, Nat.add_zero] at k0 k1
      have hok := (hp.2.2.2 s (by rw [← hss]; exact List.mem_singleton.2 rfl)).2
      refine (dOnly_yes b o c b2 o2 cs _ at_ _ ct w n0' k0 k1).mono ?_
      rintro e w' ⟨rfl, hb⟩
      have hr := liftT hl hT hok
      refine ⟨Or.inr ⟨trS lift s, at_, ct, rfl, ?_, ?_⟩, hb⟩
      · simp [trS]
      · simpa [trS] using hr
theorem dOnlyC_1 : DOnlyC A1 Pl.L1 := dOnlyC_up liftM_0
theorem dOnlyC_2 : DOnlyC A2 Pl.L2 := dOnlyC_up liftM_1
end Go.Proofs.YtephhllfodlfbaaDoor
