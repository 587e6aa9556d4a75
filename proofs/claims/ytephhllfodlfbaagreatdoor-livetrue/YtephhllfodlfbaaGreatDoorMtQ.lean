/-
  Right lists of paths, in plain form.
-/
import Derived.Test.YtephhllfodlfbaaGreatDoorPkA
import Derived.Test.YtephhllfodlfbaaGreatDoorChQ
import Derived.Test.YtephhllfodlfbaaGreatDoorRcB
import Derived.Test.YtephhllfodlfbaaGreatDoorAsk
import Derived.Test.YtephhllfodlfbaaGreatDoorRmD
import Derived.RangeFuncBox
import Derived.Deep.RegionHeld3
import Derived.Deep.QuietTactic
import Derived.BigQuiet
import Derived.Deep.RegionLaw
import Derived.Deep.DeepCutAuto
namespace Go.Proofs.YtephhllfodlfbaaGreatDoor

theorem pick4_zero {a b c d : Bool} (h : Pl.pick4 a b c d = 0) : a = true ∧ b = true ∧ c = true ∧ d = true := by
  cases a <;> cases b <;> cases c <;> cases d <;> simp [Pl.pick4] at h ⊢
/-- right tests, steps, paths, lists: over what their lists must be -/
def RT {α : Type} (R : List α → Prop) (t : Pl.Tst α) : Prop := Pl.isKind t.kind = true ∧ tF t = true ∧ nB t.a t.b = true ∧ (Pl.kList t.kind = true → R t.list)
def RS {α : Type} (R : List α → Prop) (s : Pl.Stp α) : Prop := (s.tag.isEmpty || Pl.isName s.tag) = true ∧ s.tests.length ≤ 6 ∧ ∀ t ∈ s.tests, RT R t
def RP {α : Type} (R : List α → Prop) (p : Pl.Pth α) : Prop := (1 ≤ p.steps.length ∧ p.steps.length ≤ 5 ∧ p.links.length + 1 = p.steps.length) ∧ (∀ k ∈ p.links, Pl.isLink k = true) ∧ ∀ s ∈ p.steps, RS R s
def RL {α : Type} (R : List α → Prop) (l : List (Pl.Pth α)) : Prop := (1 ≤ l.length ∧ l.length ≤ 5) ∧ ∀ p ∈ l, RP R p
theorem list_of_form {α : Type} {t : Pl.Tst α} (h : tF t = true) (hk : Pl.kList t.kind = false) : t.list = [] := by
  unfold tF Pl.tForm at h
  simp only [Bool.and_eq_true] at h
  have := h.2
  rw [hk] at this
  have hz : t.list.length = 0 := by simpa using this
  exact List.length_eq_zero_iff.1 hz
theorem level_iff {α : Type} {f k fm n : List α → Bool} {R : List α → Prop} (hR : ∀ m, R m ↔ (f m = true ∧ k m = true ∧ fm m = true ∧ n m = true)) (h0 : n [] = true) (l : List (Pl.Pth α)) :
    RL R l ↔ (Pl.fitUp f l = true ∧ Pl.evUp Pl.pKinds k l = true ∧ Pl.evUp (Pl.pForm Pl.isName Pl.isValue) fm l = true ∧ nthL n l = true) := by
  rw [fit_eq, form_eq]
  unfold Pl.evUp nthL
  constructor
  · rintro ⟨h1, h2⟩
    refine ⟨?_, ?_, ?_, ?_⟩
    · rw [decide_eq_true h1, Bool.true_and, List.all_eq_true]
      intro p hp
      obtain ⟨a1, a2, a3⟩ := h2 p hp
      unfold fitP
      rw [decide_eq_true a1, Bool.true_and, List.all_eq_true]
      intro s hs
      obtain ⟨b1, b2, b3⟩ := a3 s hs
      unfold fitS
      rw [decide_eq_true b2, Bool.true_and, List.all_eq_true]
      intro t ht
      obtain ⟨c1, c2, c3, c4⟩ := b3 t ht
      unfold fitT
      cases hk : Pl.kList t.kind with
      | false => rfl
      | true => exact ((hR _).1 (c4 hk)).1
    · rw [List.all_eq_true]
      intro p hp
      obtain ⟨a1, a2, a3⟩ := h2 p hp
      unfold Pl.pKinds Pl.inner
      rw [Bool.and_eq_true, Bool.and_eq_true, List.all_eq_true, List.all_eq_true, List.all_eq_true]
      refine ⟨⟨a2, fun t ht => ?_⟩, fun t ht => ?_⟩
      · obtain ⟨s, hs, hts⟩ := mem_tests ht
        exact ((a3 s hs).2.2 t hts).1
      · obtain ⟨s, hs, hts⟩ := mem_tests ht
        obtain ⟨c1, c2, c3, c4⟩ := (a3 s hs).2.2 t hts
        cases hk : Pl.kList t.kind with
        | false => rfl
        | true => exact ((hR _).1 (c4 hk)).2.1
    · rw [List.all_eq_true]
      intro p hp
      obtain ⟨a1, a2, a3⟩ := h2 p hp
      unfold formP
      rw [List.all_eq_true]
      intro s hs
      obtain ⟨b1, b2, b3⟩ := a3 s hs
      unfold formS
      rw [Bool.and_eq_true, List.all_eq_true]
      refine ⟨b1, fun t ht => ?_⟩
      obtain ⟨c1, c2, c3, c4⟩ := b3 t ht
      unfold formT
      rw [c2]
      cases hk : Pl.kList t.kind with
      | false => rfl
      | true => exact ((hR _).1 (c4 hk)).2.2.1
    · rw [List.all_eq_true]
      intro p hp
      obtain ⟨a1, a2, a3⟩ := h2 p hp
      unfold nthP
      rw [List.all_eq_true]
      intro s hs
      unfold nthS
      rw [List.all_eq_true]
      intro t ht
      obtain ⟨c1, c2, c3, c4⟩ := (a3 s hs).2.2 t ht
      unfold nthT
      rw [c3, Bool.true_and]
      cases hk : Pl.kList t.kind with
      | false => rw [list_of_form c2 hk]; exact h0
      | true => exact ((hR _).1 (c4 hk)).2.2.2
  · rintro ⟨h1, h2, h3, h4⟩
    rw [Bool.and_eq_true, decide_eq_true_eq, List.all_eq_true] at h1
    rw [List.all_eq_true] at h2 h3 h4
    refine ⟨h1.1, fun p hp => ?_⟩
    have a1 := h1.2 p hp
    have a2 := h2 p hp
    have a3 := h3 p hp
    have a4 := h4 p hp
    unfold fitP at a1
    unfold Pl.pKinds Pl.inner at a2
    unfold formP at a3
    unfold nthP at a4
    rw [Bool.and_eq_true, decide_eq_true_eq, List.all_eq_true] at a1
    rw [Bool.and_eq_true, Bool.and_eq_true, List.all_eq_true, List.all_eq_true, List.all_eq_true] at a2
    rw [List.all_eq_true] at a3 a4
    refine ⟨a1.1, a2.1.1, fun s hs => ?_⟩
    have b1 := a1.2 s hs
    have b3 := a3 s hs
    have b4 := a4 s hs
    unfold fitS at b1
    unfold formS at b3
    unfold nthS at b4
    rw [Bool.and_eq_true, decide_eq_true_eq, List.all_eq_true] at b1
    rw [Bool.and_eq_true, List.all_eq_true] at b3
    rw [List.all_eq_true] at b4
    refine ⟨b3.1, b1.1, fun t ht => ?_⟩
    have hm : t ∈ p.tests := List.mem_flatMap.2 ⟨s, hs, ht⟩
    have c1 := b1.2 t ht
    have c3 := b3.2 t ht
    have c4 := b4 t ht
    unfold fitT at c1
    unfold formT at c3
    unfold nthT at c4
    rw [Bool.and_eq_true] at c3 c4
    refine ⟨a2.1.2 t hm, c3.1, c4.1, fun hk => (hR _).2 ?_⟩
    have c2 := a2.2 t hm
    rw [hk] at c1 c2
    have c5 := c3.2
    rw [hk] at c5
    exact ⟨c1, c2, c5, c4.2⟩
def R0 : List Unit → Prop := fun _ => False
def R1 : List Pl.D1 → Prop := RL R0
def R2 : List Pl.D2 → Prop := RL R1
def R3 : List Pl.D3 → Prop := RL R2
theorem R3_iff (l : List Pl.D3) : R3 l ↔ chkList l = 0 := by
  have h1 : ∀ m, R1 m ↔ _ := fun m => level_iff (f := fun _ => false) (k := fun _ => true) (fm := fun _ => true) (n := fun _ => true) (R := R0) (fun m => by simp [R0]) rfl m
  have h2 : ∀ m, R2 m ↔ _ := fun m => level_iff h1 rfl m
  have h3 : R3 l ↔ _ := level_iff h2 rfl l
  rw [h3]
  constructor
  · rintro ⟨a, b, c, d⟩
    show Pl.pick4 _ _ _ _ = 0
    rw [show Pl.fit3 l = true from a, show Pl.kind3 l = true from b, show Pl.form3 l = true from c, show nth3 l = true from d]
    rfl
  · intro h
    exact pick4_zero h
end Go.Proofs.YtephhllfodlfbaaGreatDoor
/-
  What the document says of a test.
-/
namespace Go.Proofs.YtephhllfodlfbaaGreatDoor
open Go.RowKit

theorem blk6c {W : World} {N : Nat} {T : TypeId} {u0 u1 u2 u3 u4 u5 : Value} (h : W.heap[N]? = some (.cells #[u0, u1, u2, u3, u4, u5] T)) : W.cell? ⟨N, 0, none⟩ = some u0 ∧ W.cell? ⟨N, 1, none⟩ = some u1 ∧ W.cell? ⟨N, 2, none⟩ = some u2 ∧ W.cell? ⟨N, 3, none⟩ = some u3 ∧ W.cell? ⟨N, 4, none⟩ = some u4 ∧ W.cell? ⟨N, 5, none⟩ = some u5 := by
  refine ⟨?_, ?_, ?_, ?_, ?_, ?_⟩ <;> simp [World.cell?, h]
theorem at_parts {ns : List Pl.Nd} {n : Nat} (hn : n < ns.length) : tagAt ns n = ns[n].tag ∧ idAt ns n = ns[n].id ∧ clsAt ns n = ns[n].cls ∧ atsAt ns n = ns[n].ats ∧ Pl.upOf ns n = ns[n].up := by
  unfold tagAt idAt clsAt atsAt Pl.upOf
  rw [List.getElem?_eq_getElem hn]
  exact ⟨rfl, rfl, rfl, rfl, rfl⟩
theorem beq_cast (k : Nat) : (((k : Nat) : Int) == 0) = (k == 0) := by
  cases k <;> simp
  omega
theorem val_len {l : List UInt8} (h : Pl.isValue l = true) : l.length ≤ 65536 := by
  unfold Pl.isValue at h
  simp only [Bool.and_eq_true, decide_eq_true_eq] at h
  omega
theorem form_val {α : Type} {t : Pl.Tst α} (h : tF t = true) : t.value.length ≤ 65536 := by
  unfold tF Pl.tForm at h
  simp only [Bool.and_eq_true] at h
  have h2 := h.1.1.2
  unfold Pl.asked at h2
  split at h2
  · exact val_len h2
  · have : t.value = [] := by simpa using h2
    rw [this]
    simp
end Go.Proofs.YtephhllfodlfbaaGreatDoor
/-
  What the document says of a path.
-/
namespace Go.Proofs.YtephhllfodlfbaaGreatDoor
open Go.RowKit

theorem RowAt.cap {β : Type} {E : World → Nat → Nat → β → Prop} {k : Nat} {w : World} {a : Option Addr} {n c : Nat} {l : List β} (h : RowAt E k w (.slice a n c) l) : n = l.length ∧ l.length ≤ c ∧ c ≤ maxLen := by
  obtain ⟨a', c', e, h, _⟩ := h
  injection e with e1 e2 e3
  subst e2 e3
  exact ⟨rfl, h⟩
/-- the first ones of a row -/
theorem RowAt.take {β : Type} {E : World → Nat → Nat → β → Prop} {k : Nat} {w : World} {a : Option Addr} {n c : Nat} {l : List β} (h : RowAt E k w (.slice a n c) l) (j : Nat) (hj : j ≤ l.length) : RowAt E k w (.slice a j c) (l.take j) := by
  obtain ⟨a', c', e, hf, h⟩ := h
  injection e with e1 e2 e3
  subst e1 e2 e3
  have hl : (l.take j).length = j := by simp; omega
  refine ⟨a, c, by rw [hl], ⟨by omega, hf.2⟩, ?_⟩
  rcases h with rfl | ⟨b, o, ha, hc⟩
  · exact Or.inl (by simp)
  · exact Or.inr ⟨b, o, ha, fun i hi => by
      rw [hl] at hi
      simpa using hc i (by omega)⟩
theorem on5 {W W' : World} {p1 p2 p3 p4 p5 : Addr} {u1 u2 u3 u4 u5 : Value} (h : W.cell? p1 = some u1 ∧ W.cell? p2 = some u2 ∧ W.cell? p3 = some u3 ∧ W.cell? p4 = some u4 ∧ W.cell? p5 = some u5) (hb : Below W.heap.size W W') : W'.cell? p1 = some u1 ∧ W'.cell? p2 = some u2 ∧ W'.cell? p3 = some u3 ∧ W'.cell? p4 = some u4 ∧ W'.cell? p5 = some u5 :=
  ⟨cell_on hb h.1, cell_on hb h.2.1, cell_on hb h.2.2.1, cell_on hb h.2.2.2.1, cell_on hb h.2.2.2.2⟩
theorem blk2d {W : World} {N : Nat} {T : TypeId} {u0 u1 : Value} (h : W.heap[N]? = some (.cells #[u0, u1] T)) : W.cell? ⟨N, 0, none⟩ = some u0 ∧ W.cell? ⟨N, 1, none⟩ = some u1 := by
  refine ⟨?_, ?_⟩ <;> simp [World.cell?, h]
end Go.Proofs.YtephhllfodlfbaaGreatDoor
/-
  From where links lead, as lists; and that these lists are what the document says. No program is walked in this text.
-/
namespace Go.Proofs.YtephhllfodlfbaaGreatDoor

/-- the one above, the one above that, and so on -/
def upL (ns : List Pl.Nd) : Nat → Int → List Nat
  | 0, _ => []
  | f + 1, k => if k < 0 then [] else k.toNat :: upL ns f (Pl.upOf ns k.toNat)
def aboveL (ns : List Pl.Nd) (n : Nat) : List Nat := upL ns (n + 1) (Pl.upOf ns n)
/-- the kids of the same one ahead of it, the nearest first -/
def aheadL (ns : List Pl.Nd) (n : Nat) : List Nat := (List.range n).reverse.filter fun m => Pl.upOf ns m == Pl.upOf ns n
def fromL (ns : List Pl.Nd) (k : Int) (n : Nat) : List Nat :=
  if k = 1 then aboveL ns n
  else if k = 2 then (aboveL ns n).take 1
  else if k = 3 then (aheadL ns n).take 1
  else aheadL ns n
theorem any_range {n : Nat} {p q : Nat → Bool} (h : ∀ m, m < n → p m = q m) : (List.range n).any p = (List.range n).any q := by
  rw [Bool.eq_iff_iff, List.any_eq_true, List.any_eq_true]
  constructor
  · rintro ⟨m, hm, e⟩
    exact ⟨m, hm, by rw [← h m (by simpa using hm)]; exact e⟩
  · rintro ⟨m, hm, e⟩
    exact ⟨m, hm, by rw [h m (by simpa using hm)]; exact e⟩
theorem up_any {ns : List Pl.Nd} {N : Nat} (hl : Pl.Low ns N) (f : Nat → Bool) (M : Nat) : ∀ (fuel : Nat) (k : Int), -1 ≤ k → k < N → k < M → k + 1 < fuel + 1 → (upL ns fuel k).any f = (List.range M).any fun m => way ns k m && f m
  | 0, k, h1, h2, _, h3 => by
    have : k = -1 := by omega
    subst this
    rw [show upL ns 0 (-1) = [] from rfl, any_none fun j _ => by rw [way_neg]; rfl]
    rfl
  | fuel + 1, k, h1, h2, hM, h3 => by
    by_cases h0 : k < 0
    · have : k = -1 := by omega
      subst this
      unfold upL
      rw [if_pos h0, any_none fun j _ => by rw [way_neg]; rfl]
      rfl
    · obtain ⟨q, rfl⟩ := Int.eq_ofNat_of_zero_le (by omega : 0 ≤ k)
      have hq : q < N := by omega
      obtain ⟨u1, u2⟩ := hl q hq
      have ih := up_any hl f M fuel (Pl.upOf ns q) u1 (by omega) (by omega) (by omega)
      unfold upL
      rw [if_neg h0, List.any_cons, Int.toNat_natCast, ih, Bool.eq_iff_iff, Bool.or_eq_true, List.any_eq_true, List.any_eq_true]
      constructor
      · rintro (h | ⟨m, hm, h⟩)
        · exact ⟨q, by simpa using (by omega : q < M), by rw [way_hit, h]; rfl⟩
        · refine ⟨m, hm, ?_⟩
          by_cases e : m = q
          · subst e
            rw [Bool.and_eq_true] at h
            rw [way_hit, h.2]
            rfl
          · rw [way_step hl q hq m (by simp; omega)]
            exact h
      · rintro ⟨m, hm, h⟩
        by_cases e : m = q
        · subst e
          rw [Bool.and_eq_true] at h
          exact Or.inl h.2
        · rw [way_step hl q hq m (by simp; omega)] at h
          exact Or.inr ⟨m, hm, h⟩
theorem kidsTo_lt {ns : List Pl.Nd} {u : Int} {m x : Nat} (h : x ∈ Pl.kidsTo ns u m) : x < m := by
  unfold Pl.kidsTo at h
  have := (List.mem_filter.1 h).1
  simpa using this
theorem kidsTo_up {ns : List Pl.Nd} {u : Int} {m x : Nat} (h : x ∈ Pl.kidsTo ns u m) : (Pl.upOf ns x == u) = true := by
  unfold Pl.kidsTo at h
  exact (List.mem_filter.1 h).2
theorem kidsTo_pre (ns : List Pl.Nd) (u : Int) (m : Nat) : ∀ N, m ≤ N → ∃ r, Pl.kidsTo ns u N = Pl.kidsTo ns u m ++ r
  | 0, h => ⟨[], by rw [show m = 0 by omega]; simp⟩
  | N + 1, h => by
    by_cases e : m = N + 1
    · subst e
      exact ⟨[], by simp⟩
    · obtain ⟨r, hr⟩ := kidsTo_pre ns u m N (by omega)
      cases hp : (Pl.upOf ns N == u) with
      | true => exact ⟨r ++ [N], by rw [Pl.kidsTo_hit ns u N hp, hr, List.append_assoc]⟩
      | false => exact ⟨r, by rw [Pl.kidsTo_miss ns u N hp, hr]⟩
/-- the place of a kid is how many are ahead of it -/
theorem plc_kid {ns : List Pl.Nd} {u : Int} {m N : Nat} (hm : m < N) (hp : (Pl.upOf ns m == u) = true) : plc ((Pl.kidsTo ns u N).map fun (k : Nat) => (k : Int)) m = (Pl.kidsTo ns u m).length := by
  obtain ⟨r, hr⟩ := kidsTo_pre ns u (m + 1) N (by omega)
  rw [Pl.kidsTo_hit ns u m hp] at hr
  rw [hr]
  refine plc_hit (by simp) (fun j hj => ?_) ?_
  · rw [List.getElem?_map, List.append_assoc, List.getElem?_append_left hj]
    intro e
    rw [List.getElem?_eq_getElem hj] at e
    simp only [Option.map_some, Option.some.injEq] at e
    have := kidsTo_lt (List.getElem_mem hj)
    omega
  · rw [List.getElem?_map, List.append_assoc, List.getElem?_append_right (Nat.le_refl _)]
    simp
theorem plc_other {ns : List Pl.Nd} {u : Int} {m N : Nat} (hp : (Pl.upOf ns m == u) = false) : plc ((Pl.kidsTo ns u N).map fun (k : Nat) => (k : Int)) m = -1 := by
  refine plc_miss fun j hj e => ?_
  rw [List.getElem?_eq_getElem hj] at e
  simp only [List.getElem_map, Option.some.injEq] at e
  have h1 : j < (Pl.kidsTo ns u N).length := by simpa using hj
  have h2 := kidsTo_up (List.getElem_mem h1)
  rw [show (Pl.kidsTo ns u N)[j] = m by omega, hp] at h2
  cases h2
theorem cnt_mono (ns : List Pl.Nd) (u : Int) {m n : Nat} (hm : m < n) (hp : (Pl.upOf ns m == u) = true) : (Pl.kidsTo ns u m).length + 1 ≤ (Pl.kidsTo ns u n).length := by
  obtain ⟨r, hr⟩ := kidsTo_pre ns u (m + 1) n (by omega)
  rw [Pl.kidsTo_hit ns u m hp] at hr
  rw [hr]
  simp
theorem first_any (ns : List Pl.Nd) (u : Int) (f : Nat → Bool) : ∀ j, (((List.range j).reverse.filter fun m => Pl.upOf ns m == u).take 1).any f = (List.range j).any fun m => ((Pl.upOf ns m == u) && ((Pl.kidsTo ns u m).length + 1 == (Pl.kidsTo ns u j).length)) && f m
  | 0 => rfl
  | j + 1 => by
    have ih := first_any ns u f j
    rw [List.range_succ, List.reverse_append, List.any_append]
    simp only [List.reverse_cons, List.reverse_nil, List.nil_append, List.cons_append, List.filter_cons, List.any_cons, List.any_nil, Bool.or_false]
    cases hp : (Pl.upOf ns j == u) with
    | true =>
      rw [if_pos rfl, List.take_succ_cons, List.take_zero, Pl.kidsTo_hit ns u j hp]
      simp only [List.any_cons, List.any_nil, Bool.or_false, List.length_append, List.length_singleton, BEq.rfl, Bool.and_true, Bool.true_and]
      rw [any_none fun m hm => ?_]
      · rfl
      · cases hq : (Pl.upOf ns m == u) with
        | false => rfl
        | true =>
          have := cnt_mono ns u hm hq
          have e : ((Pl.kidsTo ns u m).length + 1 == (Pl.kidsTo ns u j).length + 1) = false := by simp; omega
          rw [e]
          rfl
    | false =>
      rw [if_neg (by simp), Pl.kidsTo_miss ns u j hp, ih]
      simp
theorem famOf_pos {ns : List Pl.Nd} {n : Nat} (h : n ≠ 0) : famOf ns n = (Pl.kidsTo ns (Pl.upOf ns n) ns.length).map fun (k : Nat) => (k : Int) := by
  unfold famOf
  rw [if_neg h]
  rfl
theorem from_any {ns : List Pl.Nd} (hl : Pl.Low ns ns.length) {k : Int} (hk : Pl.isLink k = true) {n : Nat} (hn : n < ns.length) (f : Nat → Bool) : (fromL ns k n).any f = (List.range n).any fun m => reach ns k m n && f m := by
  obtain ⟨u1, u2⟩ := hl n hn
  have hk4 : k = 1 ∨ k = 2 ∨ k = 3 ∨ k = 4 := by
    unfold Pl.isLink at hk
    simp only [decide_eq_true_eq] at hk
    omega
  rcases hk4 with rfl | rfl | rfl | rfl
  · exact up_any hl f n (n + 1) (Pl.upOf ns n) u1 (by omega) (by omega) (by omega)
  · show ((upL ns (n + 1) (Pl.upOf ns n)).take 1).any f = _
    by_cases h0 : Pl.upOf ns n < 0
    · rw [show upL ns (n + 1) (Pl.upOf ns n) = [] by unfold upL; rw [if_pos h0], any_none fun m _ => ?_]
      · rfl
      · have e : (Pl.upOf ns n == (m : Int)) = false := by simp; omega
        show ((Pl.upOf ns n == (m : Int)) && f m) = false
        rw [e]
        rfl
    · obtain ⟨q, hq⟩ := Int.eq_ofNat_of_zero_le (by omega : 0 ≤ Pl.upOf ns n)
      unfold upL
      rw [if_neg h0, List.take_succ_cons, List.take_zero, hq, Int.toNat_natCast]
      simp only [List.any_cons, List.any_nil, Bool.or_false]
      rw [Bool.eq_iff_iff, List.any_eq_true]
      constructor
      · intro h
        refine ⟨q, by simp; omega, ?_⟩
        show ((Pl.upOf ns n == (q : Int)) && f q) = true
        rw [hq, h]
        simp
      · rintro ⟨m, hm, h⟩
        replace h : ((Pl.upOf ns n == (m : Int)) && f m) = true := h
        rw [Bool.and_eq_true, hq] at h
        have e : q = m := by have := h.1; simp at this; omega
        rw [e]
        exact h.2
  · show ((aheadL ns n).take 1).any f = _
    by_cases h0 : n = 0
    · subst h0
      rfl
    · unfold aheadL
      rw [first_any]
      refine any_range fun m hm => ?_
      congr 1
      show _ = (decide (0 ≤ plc (famOf ns n) m) && (plc (famOf ns n) m + 1 == plc (famOf ns n) n))
      rw [famOf_pos h0, plc_kid hn (by simp)]
      cases hp : (Pl.upOf ns m == Pl.upOf ns n) with
      | false =>
        rw [plc_other hp]
        rfl
      | true =>
        rw [plc_kid (by omega) hp, decide_eq_true (by omega), Bool.eq_iff_iff]
        simp
        omega
  · show (aheadL ns n).any f = _
    by_cases h0 : n = 0
    · subst h0
      rfl
    · unfold aheadL
      rw [List.any_filter, List.any_reverse]
      refine any_range fun m hm => ?_
      congr 1
      show _ = (decide (0 ≤ plc (famOf ns n) m) && decide (plc (famOf ns n) m < plc (famOf ns n) n))
      rw [famOf_pos h0, plc_kid hn (by simp)]
      cases hp : (Pl.upOf ns m == Pl.upOf ns n) with
      | false =>
        rw [plc_other hp]
        rfl
      | true =>
        have := cnt_mono ns (Pl.upOf ns n) hm hp
        rw [plc_kid (by omega) hp, decide_eq_true (by omega), decide_eq_true (by omega)]
        rfl
section
variable {α : Type}
/-- the path up to a step, as it is gone forward -/
def pthF (ns : List Pl.Nd) (g : List α → Nat → Bool) (p : Pl.Pth α) : Nat → Nat → Bool
  | 0, n => stpM ns g (stpAt p 0) n
  | k + 1, n => stpM ns g (stpAt p (k + 1)) n && (fromL ns (lnkAt p k) n).any (pthF ns g p k)
theorem pthF_eq {ns : List Pl.Nd} (hl : Pl.Low ns ns.length) {g : List α → Nat → Bool} {p : Pl.Pth α} (hk : ∀ k ∈ p.links, Pl.isLink k = true) : ∀ (k : Nat), k ≤ p.links.length → ∀ n, n < ns.length → pthF ns g p k n = pthM ns g p k n
  | 0, _, _, _ => rfl
  | k + 1, h, n, hn => by
    have ih := pthF_eq hl (g := g) hk k (by omega)
    unfold pthF pthM
    have hlk : Pl.isLink (lnkAt p k) = true := by
      unfold lnkAt
      rw [List.getElem?_eq_getElem (by omega)]
      exact hk _ (List.getElem_mem (by omega))
    rw [from_any hl hlk hn]
    congr 1
    exact any_range fun m hm => by rw [ih m (by omega)]
/-- a number among the kids, from 1 on, and from the last one on -/
theorem num_eq {ns : List Pl.Nd} {n : Nat} (hn : n < ns.length) (h : n ≠ 0) : plc (famOf ns n) n + 1 = (Pl.kidsTo ns (Pl.upOf ns n) (n + 1)).length := by
  rw [famOf_pos h, plc_kid hn (by simp), Pl.kidsTo_hit ns (Pl.upOf ns n) n (by simp)]
  simp
theorem num_zero (ns : List Pl.Nd) : plc (famOf ns 0) ((0 : Nat) : Int) = 0 := rfl
end
end Go.Proofs.YtephhllfodlfbaaGreatDoor
