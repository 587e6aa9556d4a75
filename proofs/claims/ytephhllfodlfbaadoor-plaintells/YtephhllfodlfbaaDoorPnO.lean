/-
  The only step of a list; a step that asks for nothing but one Not; tags that go together.
-/
import Derived.Test.YtephhllfodlfbaaDoorPnF
import Derived.Test.YtephhllfodlfbaaDoorPnZ
namespace Go.Proofs.YtephhllfodlfbaaDoor
open Go.RowKit

theorem row_trm {γ δ : Type} {E : World → Nat → Nat → γ → Prop} {E' : World → Nat → Nat → δ → Prop} {k : Nat} {w : World} {v : Value} {l : List γ} (g : γ → δ) (h : RowAt E k w v l) (he : ∀ b o x, x ∈ l → E w b o x → E' w b o (g x)) : RowAt E' k w v (l.map g) := by
  obtain ⟨a, c, rfl, h1, h2⟩ := h
  refine ⟨a, c, by rw [List.length_map], by rw [List.length_map]; exact h1, ?_⟩
  rcases h2 with rfl | ⟨b, o, rfl, hc⟩
  · exact Or.inl rfl
  · refine Or.inr ⟨b, o, rfl, fun i hi => ?_⟩
    rw [List.getElem_map]
    exact he _ _ _ (List.getElem_mem _) (hc i (by simpa using hi))
/-- a list that is looked at one level higher lies where it lay -/
def LiftM {α : Type} (A : MemL α) (W0 : List α → Prop) (lift : List α → List (Pl.Pth α)) : Prop := ∀ (W : World) (v : Value) (l : List α), A W v l → W0 l → LstAt A W v (lift l)
theorem liftM_0 : LiftM ZAt Pl.L0.W Pl.lift0 := fun W v l h hw => by
  obtain ⟨a, c, rfl, h1, h2⟩ := h
  have hw : l = [] := hw
  subst hw
  exact ⟨a, c, rfl, ⟨by simp [Pl.lift0], h2⟩, Or.inl rfl⟩
section
variable {α : Type} {A : MemL α} {W0 : List α → Prop} {lift : List α → List (Pl.Pth α)}
theorem liftT (h : LiftM A W0 lift) {W : World} {v : Value} {ts : List (Pl.Tst α)} (ht : RowAt (TstAt A) 6 W v ts) (hw : ∀ t ∈ ts, W0 t.list) : RowAt (TstAt (LstAt A)) 6 W v (ts.map (trT lift)) := by
  refine row_trm _ ht fun b o t hm ht => ?_
  obtain ⟨x, t0, t1, t2, t3, t4, t5, t6⟩ := ht
  exact ⟨x, t0, t1, t2, t3, t4, t5, h _ _ _ t6 (hw t hm)⟩
theorem liftM_up (h : LiftM A W0 lift) : LiftM (LstAt A) (Pl.okL W0) (trL lift) := fun W v l hl hw => by
  refine row_trm (trP lift) hl fun b o p hm hp => ?_
  obtain ⟨v, u, h0, h1, h2, h3⟩ := hp
  refine ⟨v, u, h0, h1, row_trm (trS lift) h2 fun b o s hs hst => ?_, h3⟩
  obtain ⟨v, g0, g1, g2⟩ := hst
  exact ⟨v, g0, g1, liftT h g2 (((hw.2 p hm).2.2.2 s hs).2)⟩
end
theorem liftM_1 : LiftM A1 Pl.L1.W Pl.lift1 := liftM_up liftM_0
/-- what onlyStep answers -/
def OnlySays {α : Type} (A : MemL α) (only : Option (Pl.Stp α)) (Q : Nat → Bool) (w : World) (e : Ending) (w' : World) : Prop :=
  ((only = none ∧ e = .returned (.tuple #[.agg #[.string ⟨#[]⟩, .slice none 0 0], .bool false])) ∨ (∃ s a c, only = some s ∧ e = .returned (.tuple #[.agg #[.string ⟨s.tag.toArray⟩, .slice a s.tests.length c], .bool true]) ∧ RowAt (TstAt A) 6 (mask Q w) (.slice a s.tests.length c) s.tests)) ∧ Below w.heap.size w w'
def OnlyC {α : Type} (A : MemL α) (L : Pl.Lev α) : Prop := ∀ (w : World) (Q : Nat → Bool) (v : Value) (l : List α), A (mask Q w) v l → L.W l → Calls Tryd.prog 71 #[v] w (OnlySays A (L.only l) Q w)
theorem b41 {W : World} {M : Nat} {v0 v1 : Value} (h : W.heap[M]? = some (.cells #[v0, v1] 41)) (u0 u1 : Value) : ((W.setCell ⟨M, 0, none⟩ u0).setCell ⟨M, 1, none⟩ u1).heap[M]? = some (.cells #[u0, u1] 41) := by
  simp [World.setCell, Array.getElem?_modify, h]
theorem res71 {W : World} {M : Nat} {v0 v1 : Value} (h : W.heap[M]? = some (.cells #[v0, v1] 41)) : W.cell? ⟨M, 0, none⟩ = some v0 ∧ W.cell? ⟨M, 1, none⟩ = some v1 ∧ W.frozen? ⟨M, 0, none⟩ = false ∧ W.frozen? ⟨M, 1, none⟩ = false := by
  refine ⟨?_, ?_, ?_, ?_⟩ <;> simp [World.cell?, World.frozen?, h]
set_option maxRecDepth 100000 in
set_option maxHeartbeats 4000000 in
theorem only_no (a : Option Addr) (n c : Nat) (w : World) (hn : n ≠ 1) : Calls Tryd.prog 71 #[.slice a n c] w fun e w' => e = .returned (.tuple #[.agg #[.string ⟨#[]⟩, .slice none 0 0], .bool false]) ∧ Below w.heap.size w w' := by
  have r1 : ((n : Int) != 1) = true := by simp; omega
  have HB : Hid (Below w.heap.size w (w.alloc (.cells #[.string ⟨#[]⟩, .slice none 0 0] 41))) := on_alloc w _
  go_enter Tryd.func71, Tryd.ntmps71
  go_wp2
  exact bodyPost_ret (v := .tuple #[.agg #[.string ⟨#[]⟩, .slice none 0 0], .bool false]) (by simp [results, Tryd.results71, go_sem]) rfl ⟨rfl, HB.out⟩
set_option maxRecDepth 100000 in
set_option maxHeartbeats 4000000 in
theorem only_many (b o c : Nat) (as_ : Option Addr) (n cs : Nat) (w : World) (hc : w.cell? ⟨b, o, none⟩ = some (.slice as_ n cs)) (hn : n ≠ 1) : Calls Tryd.prog 71 #[.slice (some ⟨b, o, none⟩) 1 c] w fun e w' => e = .returned (.tuple #[.agg #[.string ⟨#[]⟩, .slice none 0 0], .bool false]) ∧ Below w.heap.size w w' := by
  have r1 : ((n : Int) != 1) = true := by simp; omega
  have HB : Hid (Below w.heap.size w (w.alloc (.cells #[.string ⟨#[]⟩, .slice none 0 0] 41))) := on_alloc w _
  have c1 := cell_on (on_alloc w (.cells #[.string ⟨#[]⟩, .slice none 0 0] 41)) hc
  clear hc
  go_enter Tryd.func71, Tryd.ntmps71
  go_wp2
  exact bodyPost_ret (v := .tuple #[.agg #[.string ⟨#[]⟩, .slice none 0 0], .bool false]) (by simp [results, Tryd.results71, go_sem]) rfl ⟨rfl, HB.out⟩
set_option maxRecDepth 100000 in
set_option maxHeartbeats 4000000 in
theorem only_yes (b o c b2 o2 cs : Nat) (tag : ByteArray) (at_ : Option Addr) (nt ct : Nat) (w : World) (hc : w.cell? ⟨b, o, none⟩ = some (.slice (some ⟨b2, o2, none⟩) 1 cs)) (h0 : w.cell? ⟨b2, o2, none⟩ = some (.string tag)) (h1 : w.cell? ⟨b2, o2 + 1, none⟩ = some (.slice at_ nt ct)) :
    Calls Tryd.prog 71 #[.slice (some ⟨b, o, none⟩) 1 c] w fun e w' => e = .returned (.tuple #[.agg #[.string tag, .slice at_ nt ct], .bool true]) ∧ Below w.heap.size w w' := by
  have hb := on_alloc w (.cells #[.string ⟨#[]⟩, .slice none 0 0] 41)
  have c1 := cell_on hb hc
  have c2 := cell_on hb h0
  have c3 := cell_on hb h1
  have HB : Hid (Below w.heap.size w (w.alloc (.cells #[.string tag, .slice at_ nt ct] 41))) := on_alloc w _
  clear hc h0 h1 hb
  go_enter Tryd.func71, Tryd.ntmps71
  go_wp2
  exact bodyPost_ret (v := .tuple #[.agg #[.string tag, .slice at_ nt ct], .bool true]) (by simp [results, Tryd.results71, go_sem]) rfl ⟨rfl, HB.out⟩
theorem onlyC_0 : OnlyC ZAt Pl.L0 := fun w Q v l h hw => by
  have hw : l = [] := hw
  subst hw
  obtain ⟨a, c, rfl, -⟩ := h
  refine (only_no a 0 c w (by decide)).mono ?_
  rintro e w' ⟨rfl, hb⟩
  exact ⟨Or.inl ⟨rfl, rfl⟩, hb⟩
theorem onlyC_up {α : Type} [DecidableEq α] {A : MemL α} {L : Pl.Lev α} {lift : List α → List (Pl.Pth α)} (hl : LiftM A L.W lift) : OnlyC (LstAt A) (L.up lift) := fun w Q v l h hw => by
  have hw : Pl.okL L.W l := hw
  have h' : RowAt (PthAt A) 2 (mask Q w) v l := h
  obtain ⟨a, c, rfl, -, hcs⟩ := h'
  show Calls Tryd.prog 71 _ w (OnlySays (LstAt A) (Pl.onlyUp lift l) Q w)
  match l, hcs, hw with
  | [], _, _ =>
    refine (only_no a 0 c w (by decide)).mono ?_
    rintro e w' ⟨rfl, hb⟩
    exact ⟨Or.inl ⟨rfl, rfl⟩, hb⟩
  | p :: q :: r, _, _ =>
    refine (only_no a _ c w (by simp)).mono ?_
    rintro e w' ⟨rfl, hb⟩
    exact ⟨Or.inl ⟨rfl, rfl⟩, hb⟩
  | [p], hcs, hw =>
    rcases hcs with h0 | ⟨b, o, rfl, hc⟩
    · cases h0
    obtain ⟨vs, vl, n0, n1, hP, hL⟩ := hc 0 (by simp)
    have n0' := (mask_cell.1 n0).2
    have hp : Pl.okP L.W p := hw.2 p (List.mem_singleton.2 rfl)
    obtain ⟨as_, cs, rfl, -, hs⟩ := hP
    have hlen : ([p] : List (Pl.Pth α))[0].steps = p.steps := rfl
    rw [hlen] at n0' hs
    simp only [Nat.zero_mul, Nat.add_zero] at n0'
    obtain ⟨ss, hss⟩ : ∃ ss, ss = p.steps := ⟨_, rfl⟩
    rw [← hss] at n0' hs
    unfold Pl.onlyUp
    dsimp only
    rw [← hss]
    match ss, hs, hss with
    | [], _, _ =>
      refine (only_many b o c as_ 0 cs w n0' (by decide)).mono ?_
      rintro e w' ⟨rfl, hb⟩
      exact ⟨Or.inl ⟨rfl, rfl⟩, hb⟩
    | s :: s2 :: r, _, _ =>
      refine (only_many b o c as_ _ cs w n0' (by simp)).mono ?_
      rintro e w' ⟨rfl, hb⟩
      exact ⟨Or.inl ⟨rfl, rfl⟩, hb⟩
    | [s], hs, hss =>
      rcases hs with h0 | ⟨b2, o2, rfl, hc2⟩
      · cases h0
      obtain ⟨vt, m0, m1, hT⟩ := hc2 0 (by simp)
      obtain ⟨at_, ct, rfl⟩ := hT.form
      have k0 := (mask_cell.1 m0).2
      have k1 := (mask_cell.1 m1).2
      simp only [Nat.zero_mul, Nat.add_zero] at k0 k1
      have hok := (hp.2.2.2 s (by rw [← hss]; exact List.mem_singleton.2 rfl)).2
      refine (only_yes b o c b2 o2 cs _ at_ _ ct w n0' k0 k1).mono ?_
      rintro e w' ⟨rfl, hb⟩
      have hr := liftT hl hT hok
      refine ⟨Or.inr ⟨trS lift s, at_, ct, rfl, ?_, ?_⟩, hb⟩
      · simp [trS]
      · simpa [trS] using hr
theorem onlyC_1 : OnlyC A1 Pl.L1 := onlyC_up liftM_0
theorem onlyC_2 : OnlyC A2 Pl.L2 := onlyC_up liftM_1
/-- a step that asks for nothing but one Not -/
def isNotB {α : Type} (s : Pl.Stp α) : Bool := (Pl.notOf s).isSome
set_option maxRecDepth 100000 in
set_option maxHeartbeats 4000000 in
theorem isNot_any {α : Type} {A : MemL α} (hA : IsL A) (a : Option Addr) (c : Nat) (s : Pl.Stp α) (w : World) (hl : RowAt (TstAt A) 6 w (.slice a s.tests.length c) s.tests) :
    Calls Tryd.prog 72 #[.agg #[.string ⟨s.tag.toArray⟩, .slice a s.tests.length c]] w fun e w' => e = .returned (.bool (isNotB s)) ∧ Below w.heap.size w w' := by
  have HB : Hid (Below w.heap.size w (w.alloc (.cells #[.string ⟨s.tag.toArray⟩, .slice a s.tests.length c] 41))) := on_alloc w _
  obtain ⟨tag, ts⟩ := s
  dsimp only at *
  by_cases ht : tag = []
  · subst ht
    obtain ⟨a', c', e', -, hcs⟩ := hl
    injection e' with e1 _ e3
    subst e1 e3
    match ts, hcs with
    | [], _ =>
      have HS : Hid (isNotB (⟨[], []⟩ : Pl.Stp α) = false) := rfl
      go_enter Tryd.func72, Tryd.ntmps72
      go_wp2
      go_ret
      exact ⟨by rw [HS.out]; rfl, HB.out⟩
    | t :: t2 :: r, hx =>
      clear hx hcs
      have HS : Hid (isNotB (⟨[], t :: t2 :: r⟩ : Pl.Stp α) = false) := rfl
      have r1 : (((t :: t2 :: r).length : Int) == 1) = false := by simp; omega
      generalize (t :: t2 :: r).length = n at *
      go_enter Tryd.func72, Tryd.ntmps72
      go_wp2
      go_ret
      exact ⟨by rw [HS.out]; rfl, HB.out⟩
    | [t], hcs =>
      rcases hcs with h0 | ⟨b, o, rfl, hc⟩
      · cases h0
      obtain ⟨vv, n0, -⟩ := (hc 0 (by simp)).on hA HB.out
      simp only [Nat.zero_mul, Nat.add_zero] at n0
      have n1 : (w.alloc (.cells #[.string ⟨#[]⟩, .slice (some ⟨b, o, none⟩) 1 c] 41)).cell? ⟨b, o, none⟩ = some (.int .i64 t.kind) := n0
      clear hc n0
      by_cases hk : t.kind = 13
      · have HS : Hid (isNotB (⟨[], [t]⟩ : Pl.Stp α) = true) := by
          unfold Hid isNotB Pl.notOf
          simp [hk]
        rw [hk] at n1
        clear hk
        go_enter Tryd.func72, Tryd.ntmps72
        go_wp2
        go_ret
        exact ⟨by rw [HS.out]; rfl, HB.out⟩
      · have HS : Hid (isNotB (⟨[], [t]⟩ : Pl.Stp α) = false) := by
          unfold Hid isNotB Pl.notOf
          simp [hk]
        have r1 : (t.kind == 13) = false := by simpa using hk
        go_enter Tryd.func72, Tryd.ntmps72
        go_wp2
        go_ret
        exact ⟨by rw [HS.out]; rfl, HB.out⟩
  · have HS : Hid (isNotB (⟨tag, ts⟩ : Pl.Stp α) = false) := by
      unfold Hid isNotB Pl.notOf
      dsimp only
      split
      · simp [ht]
      · rfl
    have r1 : tag.isEmpty = false := by
      cases tag with
      | nil => exact absurd rfl ht
      | cons => rfl
    clear ht hl
    go_enter Tryd.func72, Tryd.ntmps72
    go_wp2
    go_ret
    exact ⟨by rw [HS.out]; rfl, HB.out⟩
set_option maxRecDepth 100000 in
set_option maxHeartbeats 4000000 in
theorem together_any (t1 t2 : List UInt8) (a1 a2 : Option Addr) (n1 c1 n2 c2 : Nat) (w : World) :
    Calls Tryd.prog 73 #[.agg #[.string ⟨t1.toArray⟩, .slice a1 n1 c1], .agg #[.string ⟨t2.toArray⟩, .slice a2 n2 c2]] w fun e w' => e = .returned (.bool (Pl.together t1 t2)) ∧ Below w.heap.size w w' := by
  have HB : Hid (Below w.heap.size w ((w.alloc (.cells #[.string ⟨t1.toArray⟩, .slice a1 n1 c1] 41)).alloc (.cells #[.string ⟨t2.toArray⟩, .slice a2 n2 c2] 41))) := ((Below.refl _ w).alloc (Nat.le_refl _) _).alloc (by simp) _
  cases h1 : t1.isEmpty with
  | true =>
    have HS : Hid (Pl.together t1 t2 = true) := by unfold Hid Pl.together; rw [h1]; rfl
    go_enter Tryd.func73, Tryd.ntmps73
    go_wp2
    go_ret
    exact ⟨by rw [HS.out]; rfl, HB.out⟩
  | false =>
    cases h2 : t2.isEmpty with
    | true =>
      have HS : Hid (Pl.together t1 t2 = true) := by unfold Hid Pl.together; rw [h1, h2]; rfl
      go_enter Tryd.func73, Tryd.ntmps73
      go_wp2
      go_ret
      exact ⟨by rw [HS.out]; rfl, HB.out⟩
    | false =>
      cases h3 : (t1 == t2) with
      | true =>
        have HS : Hid (Pl.together t1 t2 = true) := by unfold Hid Pl.together; rw [h1, h2, h3]; rfl
        go_enter Tryd.func73, Tryd.ntmps73
        go_wp2
        go_ret
        exact ⟨by rw [HS.out]; rfl, HB.out⟩
      | false =>
        have HS : Hid (Pl.together t1 t2 = false) := by unfold Hid Pl.together; rw [h1, h2, h3]; rfl
        go_enter Tryd.func73, Tryd.ntmps73
        go_wp2
        go_ret
        exact ⟨by rw [HS.out]; rfl, HB.out⟩
end Go.Proofs.YtephhllfodlfbaaDoor
