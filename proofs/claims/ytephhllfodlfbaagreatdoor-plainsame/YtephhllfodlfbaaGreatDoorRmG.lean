/-
  Right lists of paths, in plain form.
-/
import Derived.Test.YtephhllfodlfbaaGreatDoorRcE
import Derived.Test.YtephhllfodlfbaaGreatDoorChQ
import Derived.Test.YtephhllfodlfbaaGreatDoorRcB
import Derived.Test.YtephhllfodlfbaaGreatDoorRefN
import Derived.Test.YtephhllfodlfbaaGreatDoorRmD
import Derived.RangeFuncBox
import Derived.Deep.RegionHeld3
import Derived.Deep.QuietTactic
import Derived.BigQuiet
import Derived.Deep.RegionLaw
import Derived.Deep.DeepCutAuto
namespace Go.Proofs.YtephhllfodlfbaaGreatDoor

theorem pick4_zero {a b c d : Bool} (h : Pl.pick4 a b c d = 0) : a = true ∧ b = true ∧ c = true ∧ d = true := by
  cases a <;> cases b <;> cases c <;> cases d <;> simp [Pl.pick4] at h ⊢
/-- right tests, steps, paths, lists: over what their lists must be -/
def RT {α : Type} (R : List α → Prop) (t : Pl.Tst α) : Prop := Pl.isKind t.kind = true ∧ tF t = true ∧ nB t.a t.b = true ∧ (Pl.kList t.kind = true → R t.list)
def RS {α : Type} (R : List α → Prop) (s : Pl.Stp α) : Prop := (s.tag.isEmpty || Pl.isName s.tag) = true ∧ s.tests.length ≤ 6 ∧ ∀ t ∈ s.tests, RT R t
def RP {α : Type} (R : List α → Prop) (p : Pl.Pth α) : Prop := (1 ≤ p.steps.length ∧ p.steps.length ≤ 5 ∧ p.links.length + 1 = p.steps.length) ∧ (∀ k ∈ p.links, Pl.isLink k = true) ∧ ∀ s ∈ p.steps, RS R s
def RL {α : Type} (R : List α → Prop) (l : List (Pl.Pth α)) : Prop := (1 ≤ l.length ∧ l.length ≤ 5) ∧ ∀ p ∈ l, RP R p
theorem list_of_form {α : Type} {t : Pl.Tst α} (h : tF t = true) (hk : Pl.kList t.kind = false) : t.list = [] := by
  unfold tF Pl.tForm at h
  simp only [Bool.and_eq_true] at h
  have := h.2
  rw [hk] at this
  have hz : t.list.length = 0 := by simpa using this
  exact List.length_eq_zero_iff.1 hz
theorem level_iff {α : Type} {f k fm n : List α → Bool} {R : List α → Prop} (hR : ∀ m, R m ↔ (f m = true ∧ k m = true ∧ fm m = true ∧ n m = true)) (h0 : n [] = true) (l : List (Pl.Pth α)) :
    RL R l ↔ (Pl.fitUp f l = true ∧ Pl.evUp Pl.pKinds k l = true ∧ Pl.evUp (Pl.pForm Pl.isName Pl.isValue) fm l = true ∧ nthL n l = true) := by
  rw [fit_eq, form_eq]
  unfold Pl.evUp nthL
  constructor
  · rintro ⟨h1, h2⟩
    refine ⟨?_, ?_, ?_, ?_⟩
    · rw [decide_eq_true h1, Bool.true_and, List.all_eq_true]
      intro p hp
      obtain ⟨a1, a2, a3⟩ := h2 p hp
      unfold fitP
      rw [decide_eq_true a1, Bool.true_and, List.all_eq_true]
      intro s hs
      obtain ⟨b1, b2, b3⟩ := a3 s hs
      unfold fitS
      rw [decide_eq_true b2, Bool.true_and, List.all_eq_true]
      intro t ht
      obtain ⟨c1, c2, c3, c4⟩ := b3 t ht
      unfold fitT
      cases hk : Pl.kList t.kind with
      | false => rfl
      | true => exact ((hR _).1 (c4 hk)).1
    · rw [List.all_eq_true]
      intro p hp
      obtain ⟨a1, a2, a3⟩ := h2 p hp
      unfold Pl.pKinds Pl.inner
      rw [Bool.and_eq_true, Bool.and_eq_true, List.all_eq_true, List.all_eq_true, List.all_eq_true]
      refine ⟨⟨a2, fun t ht => ?_⟩, fun t ht => ?_⟩
      · obtain ⟨s, hs, hts⟩ := mem_tests ht
        exact ((a3 s hs).2.2 t hts).1
      · obtain ⟨s, hs, hts⟩ := mem_tests ht
        obtain ⟨c1, c2, c3, c4⟩ := (a3 s hs).2.2 t hts
        cases hk : Pl.kList t.kind with
        | false => rfl
        | true => exact ((hR _).1 (c4 hk)).2.1
    · rw [List.all_eq_true]
      intro p hp
      obtain ⟨a1, a2, a3⟩ := h2 p hp
      unfold formP
      rw [List.all_eq_true]
      intro s hs
      obtain ⟨b1, b2, b3⟩ := a3 s hs
      unfold formS
      rw [Bool.and_eq_true, List.all_eq_true]
      refine ⟨b1, fun t ht => ?_⟩
      obtain ⟨c1, c2, c3, c4⟩ := b3 t ht
      unfold formT
      rw [c2]
      cases hk : Pl.kList t.kind with
      | false => rfl
      | true => exact ((hR _).1 (c4 hk)).2.2.1
    · rw [List.all_eq_true]
      intro p hp
      obtain ⟨a1, a2, a3⟩ := h2 p hp
      unfold nthP
      rw [List.all_eq_true]
      intro s hs
      unfold nthS
      rw [List.all_eq_true]
      intro t ht
      obtain ⟨c1, c2, c3, c4⟩ := (a3 s hs).2.2 t ht
      unfold nthT
      rw [c3, Bool.true_and]
      cases hk : Pl.kList t.kind with
      | false => rw [list_of_form c2 hk]; exact h0
      | true => exact ((hR _).1 (c4 hk)).2.2.2
  · rintro ⟨h1, h2, h3, h4⟩
    rw [Bool.and_eq_true, decide_eq_true_eq, List.all_eq_true] at h1
    rw [List.all_eq_true] at h2 h3 h4
    refine ⟨h1.1, fun p hp => ?_⟩
    have a1 := h1.2 p hp
    have a2 := h2 p hp
    have a3 := h3 p hp
    have a4 := h4 p hp
    unfold fitP at a1
    unfold Pl.pKinds Pl.inner at a2
    unfold formP at a3
    unfold nthP at a4
    rw [Bool.and_eq_true, decide_eq_true_eq, List.all_eq_true] at a1
    rw [Bool.and_eq_true, Bool.and_eq_true, List.all_eq_true, List.all_eq_true, List.all_eq_true] at a2
    rw [List.all_eq_true] at a3 a4
    refine ⟨a1.1, a2.1.1, fun s hs => ?_⟩
    have b1 := a1.2 s hs
    have b3 := a3 s hs
    have b4 := a4 s hs
    unfold fitS at b1
    unfold formS at b3
    unfold nthS at b4
    rw [Bool.and_eq_true, decide_eq_true_eq, List.all_eq_true] at b1
    rw [Bool.and_eq_true, List.all_eq_true] at b3
    rw [List.all_eq_true] at b4
    refine ⟨b3.1, b1.1, fun t ht => ?_⟩
    have hm : t ∈ p.tests := List.mem_flatMap.2 ⟨s, hs, ht⟩
    have c1 := b1.2 t ht
    have c3 := b3.2 t ht
    have c4 := b4 t ht
    unfold fitT at c1
    unfold formT at c3
    unfold nthT at c4
    rw [Bool.and_eq_true] at c3 c4
    refine ⟨a2.1.2 t hm, c3.1, c4.1, fun hk => (hR _).2 ?_⟩
    have c2 := a2.2 t hm
    rw [hk] at c1 c2
    have c5 := c3.2
    rw [hk] at c5
    exact ⟨c1, c2, c5, c4.2⟩
def R0 : List Unit → Prop := fun _ => False
def R1 : List Pl.D1 → Prop := RL R0
def R2 : List Pl.D2 → Prop := RL R1
def R3 : List Pl.D3 → Prop := RL R2
theorem R3_iff (l : List Pl.D3) : R3 l ↔ chkList l = 0 := by
  have h1 : ∀ m, R1 m ↔ _ := fun m => level_iff (f := fun _ => false) (k := fun _ => true) (fm := fun _ => true) (n := fun _ => true) (R := R0) (fun m => by simp [R0]) rfl m
  have h2 : ∀ m, R2 m ↔ _ := fun m => level_iff h1 rfl m
  have h3 : R3 l ↔ _ := level_iff h2 rfl l
  rw [h3]
  constructor
  · rintro ⟨a, b, c, d⟩
    show Pl.pick4 _ _ _ _ = 0
    rw [show Pl.fit3 l = true from a, show Pl.kind3 l = true from b, show Pl.form3 l = true from c, show nth3 l = true from d]
    rfl
  · intro h
    exact pick4_zero h
end Go.Proofs.YtephhllfodlfbaaGreatDoor
/-
  What the document says of a test.
-/
namespace Go.Proofs.YtephhllfodlfbaaGreatDoor
open Go.RowKit

theorem blk6c {W : World} {N : Nat} {T : TypeId} {u0 u1 u2 u3 u4 u5 : Value} (h : W.heap[N]? = some (.cells #[u0, u1, u2, u3, u4, u5] T)) : W.cell? ⟨N, 0, none⟩ = some u0 ∧ W.cell? ⟨N, 1, none⟩ = some u1 ∧ W.cell? ⟨N, 2, none⟩ = some u2 ∧ W.cell? ⟨N, 3, none⟩ = some u3 ∧ W.cell? ⟨N, 4, none⟩ = some u4 ∧ W.cell? ⟨N, 5, none⟩ = some u5 := by
  refine ⟨?_, ?_, ?_, ?_, ?_, ?_⟩ <;> simp [World.cell?, h]
theorem at_parts {ns : List Pl.Nd} {n : Nat} (hn : n < ns.length) : tagAt ns n = ns[n].tag ∧ idAt ns n = ns[n].id ∧ clsAt ns n = ns[n].cls ∧ atsAt ns n = ns[n].ats ∧ Pl.upOf ns n = ns[n].up := by
  unfold tagAt idAt clsAt atsAt Pl.upOf
  rw [List.getElem?_eq_getElem hn]
  exact ⟨rfl, rfl, rfl, rfl, rfl⟩
theorem beq_cast (k : Nat) : (((k : Nat) : Int) == 0) = (k == 0) := by
  cases k <;> simp
  omega
theorem val_len {l : List UInt8} (h : Pl.isValue l = true) : l.length ≤ 65536 := by
  unfold Pl.isValue at h
  simp only [Bool.and_eq_true, decide_eq_true_eq] at h
  omega
theorem form_val {α : Type} {t : Pl.Tst α} (h : tF t = true) : t.value.length ≤ 65536 := by
  unfold tF Pl.tForm at h
  simp only [Bool.and_eq_true] at h
  have h2 := h.1.1.2
  unfold Pl.asked at h2
  split at h2
  · exact val_len h2
  · have : t.value = [] := by simpa using h2
    rw [this]
    simp
end Go.Proofs.YtephhllfodlfbaaGreatDoor
/-
  What the document says of a path.
-/
namespace Go.Proofs.YtephhllfodlfbaaGreatDoor
open Go.RowKit

theorem RowAt.cap {β : Type} {E : World → Nat → Nat → β → Prop} {k : Nat} {w : World} {a : Option Addr} {n c : Nat} {l : List β} (h : RowAt E k w (.slice a n c) l) : n = l.length ∧ l.length ≤ c ∧ c ≤ maxLen := by
  obtain ⟨a', c', e, h, _⟩ := h
  injection e with e1 e2 e3
  subst e2 e3
  exact ⟨rfl, h⟩
/-- the first ones of a row -/
theorem RowAt.take {β : Type} {E : World → Nat → Nat → β → Prop} {k : Nat} {w : World} {a : Option Addr} {n c : Nat} {l : List β} (h : RowAt E k w (.slice a n c) l) (j : Nat) (hj : j ≤ l.length) : RowAt E k w (.slice a j c) (l.take j) := by
  obtain ⟨a', c', e, hf, h⟩ := h
  injection e with e1 e2 e3
  subst e1 e2 e3
  have hl : (l.take j).length = j := by simp; omega
  refine ⟨a, c, by rw [hl], ⟨by omega, hf.2⟩, ?_⟩
  rcases h with rfl | ⟨b, o, ha, hc⟩
  · exact Or.inl (by simp)
  · exact Or.inr ⟨b, o, ha, fun i hi => by
      rw [hl] at hi
      simpa using hc i (by omega)⟩
theorem on5 {W W' : World} {p1 p2 p3 p4 p5 : Addr} {u1 u2 u3 u4 u5 : Value} (h : W.cell? p1 = some u1 ∧ W.cell? p2 = some u2 ∧ W.cell? p3 = some u3 ∧ W.cell? p4 = some u4 ∧ W.cell? p5 = some u5) (hb : Below W.heap.size W W') : W'.cell? p1 = some u1 ∧ W'.cell? p2 = some u2 ∧ W'.cell? p3 = some u3 ∧ W'.cell? p4 = some u4 ∧ W'.cell? p5 = some u5 :=
  ⟨cell_on hb h.1, cell_on hb h.2.1, cell_on hb h.2.2.1, cell_on hb h.2.2.2.1, cell_on hb h.2.2.2.2⟩
theorem blk2d {W : World} {N : Nat} {T : TypeId} {u0 u1 : Value} (h : W.heap[N]? = some (.cells #[u0, u1] T)) : W.cell? ⟨N, 0, none⟩ = some u0 ∧ W.cell? ⟨N, 1, none⟩ = some u1 := by
  refine ⟨?_, ?_⟩ <;> simp [World.cell?, h]
end Go.Proofs.YtephhllfodlfbaaGreatDoor
