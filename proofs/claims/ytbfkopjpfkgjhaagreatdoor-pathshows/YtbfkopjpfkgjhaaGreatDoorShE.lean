/-
  path.Show.
-/
import Derived.Test.YtbfkopjpfkgjhaaGreatDoorShD
import Derived.Test.YtbfkopjpfkgjhaaGreatDoorWgF
namespace Go.Proofs.YtbfkopjpfkgjhaaGreatDoor
open Go.RowKit

/-- lists that may be shown -/
def oz : List Unit → Prop := fun l => l = []
def os1 (l : List Pl.D1) : Prop := ∀ p ∈ l, okS oz p
def os2 (l : List Pl.D2) : Prop := ∀ p ∈ l, okS os1 p
def os3 (l : List Pl.D3) : Prop := ∀ p ∈ l, okS os2 p
theorem okS_of {α : Type} {f k fm n : List α → Bool} {ok : List α → Prop} (h0 : ok []) (h : ∀ m, f m = true → k m = true → fm m = true → n m = true → ok m) {l : List (Pl.Pth α)} (h1 : Pl.fitUp f l = true) (h2 : Pl.evUp Pl.pKinds k l = true) (h3 : Pl.evUp (Pl.pForm Pl.isName Pl.isValue) fm l = true) (h4 : nthL n l = true) : ∀ p ∈ l, okS ok p := by
  intro p hp
  have g3 := forms_path h3 p hp
  unfold Pl.fitUp at h1
  unfold Pl.evUp at h2
  unfold nthL at h4
  rw [Bool.and_eq_true, List.all_eq_true] at h1
  rw [List.all_eq_true] at h2 h4
  have a1 := h1.2 p hp
  have a2 := h2 p hp
  have a4 := h4 p hp
  rw [Bool.and_eq_true] at a1 a2
  obtain ⟨a1, b1⟩ := a1
  obtain ⟨a2, b2⟩ := a2
  unfold Pl.pFits at a1
  unfold Pl.pKinds at a2
  unfold Pl.inner at b1 b2
  unfold nthP at a4
  rw [Bool.and_eq_true, decide_eq_true_eq] at a1
  rw [Bool.and_eq_true, List.all_eq_true, List.all_eq_true] at a2
  rw [List.all_eq_true] at b1 b2 a4
  refine ⟨a1.1.2.2, a2.1, fun s hs t ht => ?_⟩
  have hm : t ∈ p.tests := List.mem_flatMap.2 ⟨s, hs, ht⟩
  have c4 := a4 s hs
  unfold nthS at c4
  rw [List.all_eq_true] at c4
  have d4 := c4 t ht
  unfold nthT at d4
  rw [Bool.and_eq_true] at d4
  refine ⟨a2.2 t hm, ?_, fun _ => d4.1⟩
  obtain ⟨e3, e4⟩ := g3 t hm
  cases hk : Pl.kList t.kind with
  | true =>
    have x1 := b1 t hm
    have x2 := b2 t hm
    rw [hk] at x1 x2
    exact h _ x1 x2 (e4 hk) d4.2
  | false =>
    unfold tF Pl.tForm at e3
    simp only [Bool.and_eq_true] at e3
    have := e3.2
    rw [hk] at this
    have hz : t.list.length = 0 := by simpa using this
    rw [List.length_eq_zero_iff.1 hz]
    exact h0
theorem os3_chk {l : List Pl.D3} (h : chkList l = 0) : os3 l := by
  obtain ⟨h1, h2, h3, h4⟩ := pick4_zero h
  refine okS_of (ok := os2) (fun _ h => by cases h) (fun m a b c d => ?_) h1 h2 h3 h4
  refine okS_of (ok := os1) (fun _ h => by cases h) (fun m a b c d => ?_) a b c d
  exact okS_of (ok := oz) rfl (fun m a _ _ _ => by cases a) a b c d
/-- where the lists are right, nothing lies deeper than it may -/
theorem innerA_of {α : Type} {ok ok' : List α → Prop} (h : ∀ m, ok m → ok' m) {l : List (Pl.Pth α)} (hl : ∀ p ∈ l, okS ok p) : InnerA ok' l := fun p hp s hs t ht => h _ ((hl p hp).2.2 s hs t ht).2.1
theorem okN_chk {l : List Pl.D3} (h : chkList l = 0) : InnerA okN2 l := innerA_of (fun _ h => innerA_of (fun _ h => innerA_of (fun _ h => h) h) h) (os3_chk h)
set_option maxHeartbeats 1000000 in
theorem shows_z : Shows ZAt Pl.sh0 oz := by
  intro w0 W b text v l hl hL hok hW hB hlen
  obtain ⟨a, c, rfl, -⟩ := hl
  unfold oz at hok
  subst hok
  have HB : Hid (BB w0.heap.size b text W) := hB
  clear hB hL hW hlen
  go_enter Tryz.func16, Tryz.ntmps16
  go_wp2_with fail
  refine wp_loop_rounds 1 ?_
  rw [rounds_succ]
  go_wp2
  go_end0
  refine ⟨rfl, ?_, Keep.refl _ _ _⟩
  rw [show Pl.sh0 [] = [] from rfl, List.append_nil]
  exact HB.out
theorem shows_1 : Shows A1 Pl.sh1 os1 := shows_up isL_z shows_z
theorem shows_2 : Shows A2 Pl.sh2 os2 := shows_up isL_1 shows_1
theorem shows_3 : Shows A3 Pl.sh3 os3 := shows_up isL_2 shows_2
/-- what Show tells -/
def showOf (l : List Pl.D3) : List UInt8 := if chkList l = 0 then Pl.sh3 l else []
theorem builder_new (w : World) : BB w.heap.size w.heap.size [] (w.alloc (.cells #[.pointer none, .slice none 0 0] 48)) := by
  refine Or.inl ⟨Nat.le_refl _, .slice none 0 0, World.alloc_heap_new w _, ?_, by simp [Value.ownBlock]⟩
  exact ⟨by simp [Lib.byteCells], Or.inl ⟨rfl, rfl⟩⟩
/-- how long what is shown may be -/
theorem flat_bound {β : Type} (f : β → List UInt8) (n : Nat) : ∀ l : List β, (∀ x ∈ l, (f x).length ≤ n) → (l.flatMap f).length ≤ l.length * n
  | [], _ => by simp
  | x :: l, h => by
    have a := h x (by simp)
    have b := flat_bound f n l fun y hy => h y (by simp [hy])
    simp only [List.flatMap_cons, List.length_append, List.length_cons, Nat.succ_mul]
    omega
theorem lnk_len (n : Nat) : (Pl.lnk n).length ≤ 3 := by unfold Pl.lnk; split <;> simp
theorem pTo_bound {α : Type} (g : List α → List UInt8) (n : Nat) (p : Pl.Pth α) (h : ∀ s ∈ p.steps, (Pl.showS g s).length ≤ n) : ∀ k, k ≤ p.steps.length → (Pl.pTo g p k).length ≤ k * (n + 3)
  | 0, _ => by simp [Pl.pTo]
  | k + 1, hk => by
    have a := pTo_bound g n p h k (by omega)
    have b := h _ (List.getElem_mem (show k < p.steps.length by omega))
    rw [Pl.pTo_next g p (by omega)]
    have c : (if k = 0 then ([] : List UInt8) else Pl.lnk (p.links.getD (k - 1) 0).toNat).length ≤ 3 := by
      split
      · simp
      · exact lnk_len _
    simp only [List.length_append, Nat.succ_mul]
    omega
theorem lTo_bound {α : Type} (g : List α → List UInt8) (n : Nat) (l : List (Pl.Pth α)) (h : ∀ p ∈ l, (Pl.showP g p).length ≤ n) : ∀ k, k ≤ l.length → (Pl.lTo g l k).length ≤ k * (n + 2)
  | 0, _ => by simp [Pl.lTo]
  | k + 1, hk => by
    have a := lTo_bound g n l h k (by omega)
    have b := h _ (List.getElem_mem (show k < l.length by omega))
    rw [Pl.lTo_next g l (by omega)]
    have c : (if k = 0 then ([] : List UInt8) else [44, 32]).length ≤ 2 := by split <;> simp
    simp only [List.length_append, Nat.succ_mul]
    omega
theorem fBegin_len (k : Nat) : (fBegin k).length ≤ 6 := by unfold fBegin; split <;> simp
theorem fSign_len (k : Nat) : (fSign k).length ≤ 2 := by unfold fSign; split <;> simp
theorem fEnd_len (k : Nat) : (fEnd k).length ≤ 1 := by unfold fEnd; split <;> simp
theorem name_len {s : List UInt8} (h : Pl.isName s = true) : s.length ≤ 12 := by
  unfold Pl.isName at h
  simp only [Bool.and_eq_true, decide_eq_true_eq] at h
  omega
theorem value_len {s : List UInt8} (h : Pl.isValue s = true) : s.length ≤ 16 := by
  unfold Pl.isValue at h
  simp only [Bool.and_eq_true, decide_eq_true_eq] at h
  omega
theorem shown_len {a b : Int} (h : nB a b = true) : (Nt.Pl.shown a b).length ≤ 50 := by
  unfold nB within at h
  simp only [Bool.and_eq_true, decide_eq_true_eq] at h
  have la := Lib.itoa_length_le a (by omega) (by omega)
  have lb := Lib.itoa_length_le b (by omega) (by omega)
  unfold Nt.Pl.shown
  have : (if 0 ≤ b then ([43] : List UInt8) else []).length ≤ 1 := by split <;> simp
  simp only [List.length_append, List.length_cons, List.length_nil]
  omega
theorem list_bound {α : Type} {f k fm n : List α → Bool} {g : List α → List UInt8} {N : Nat} (h0 : (g []).length ≤ N) (h : ∀ m, f m = true → k m = true → fm m = true → n m = true → (g m).length ≤ N) {l : List (Pl.Pth α)} (h1 : Pl.fitUp f l = true) (h2 : Pl.evUp Pl.pKinds k l = true) (h3 : Pl.evUp (Pl.pForm Pl.isName Pl.isValue) fm l = true) (h4 : nthL n l = true) : (Pl.showL g l).length ≤ 5 * (5 * (12 + 6 * (N + 89) + 3) + 2) := by
  have hok := okS_of (ok := fun m => (g m).length ≤ N) h0 h h1 h2 h3 h4
  have hL := okL_of (ok := fun _ => True) (fun _ _ _ => trivial) h1 h2
  have hT : ∀ p ∈ l, ∀ s ∈ p.steps, (Pl.showS g s).length ≤ 12 + 6 * (N + 89) := by
    intro p hp s hs
    have hf : (s.tag.isEmpty || Pl.isName s.tag) = true := by
      rw [form_eq, List.all_eq_true] at h3
      have a := h3 p hp
      unfold formP at a
      rw [List.all_eq_true] at a
      have b := a s hs
      unfold formS at b
      rw [Bool.and_eq_true] at b
      exact b.1
    have hg : (Pl.showTag s.tag).length ≤ 12 := by
      unfold Pl.showTag
      split
      · simp
      · rename_i hx
        rw [Bool.or_eq_true] at hf
        rcases hf with hf | hf
        · exact absurd hf hx
        · exact name_len hf
    have hts : ∀ t ∈ s.tests, (Pl.showT g t).length ≤ N + 89 := by
      intro t ht
      have hm : t ∈ p.tests := List.mem_flatMap.2 ⟨s, hs, ht⟩
      obtain ⟨e3, -⟩ := forms_path h3 p hp t hm
      obtain ⟨-, o2, o3⟩ := (hok p hp).2.2 s hs t ht
      unfold tF Pl.tForm at e3
      simp only [Bool.and_eq_true] at e3
      obtain ⟨⟨⟨n1, n2⟩, -⟩, -⟩ := e3
      have l1 : t.name.length ≤ 12 := by
        unfold Pl.asked at n1
        split at n1
        · exact name_len n1
        · have : t.name = [] := by simpa using n1
          rw [this]; simp
      have l2 : (Pl.tValue t).length ≤ 18 := by
        unfold Pl.tValue
        split
        · rename_i hv
          unfold Pl.asked at n2
          rw [if_pos hv] at n2
          have := value_len n2
          simp only [List.length_append, List.length_cons, List.length_nil]
          omega
        · simp
      have l3 : (Pl.tNth t).length ≤ 50 := by
        unfold Pl.tNth
        split
        · rename_i hn
          exact shown_len (o3 hn)
        · simp
      have l4 := fBegin_len t.kind.toNat
      have l5 := fSign_len t.kind.toNat
      have l6 := fEnd_len t.kind.toNat
      unfold Pl.showT Pl.tHead
      simp only [List.length_append]
      omega
    have hfl := flat_bound (Pl.showT g) (N + 89) s.tests hts
    have h6 := (hL.2 p hp).2.1 s hs
    have hml : s.tests.length * (N + 89) ≤ 6 * (N + 89) := Nat.mul_le_mul_right _ h6
    unfold Pl.showS
    rw [List.length_append]
    omega
  have hP : ∀ p ∈ l, (Pl.showP g p).length ≤ 5 * (12 + 6 * (N + 89) + 3) := by
    intro p hp
    have a := pTo_bound g _ p (hT p hp) p.steps.length (Nat.le_refl _)
    have b : p.steps.length * (12 + 6 * (N + 89) + 3) ≤ 5 * (12 + 6 * (N + 89) + 3) := Nat.mul_le_mul_right _ (hL.2 p hp).1
    exact Nat.le_trans a b
  have a := lTo_bound g _ l hP l.length (Nat.le_refl _)
  have b : l.length * (5 * (12 + 6 * (N + 89) + 3) + 2) ≤ 5 * (5 * (12 + 6 * (N + 89) + 3) + 2) := Nat.mul_le_mul_right _ hL.1
  exact Nat.le_trans a b
theorem sh3_len {l : List Pl.D3} (h : chkList l = 0) : (Pl.sh3 l).length ≤ 1000000000 := by
  obtain ⟨h1, h2, h3, h4⟩ := pick4_zero h
  have := list_bound (g := Pl.sh2) (N := 3000000) (by simp [Pl.sh2, Pl.showL, Pl.lTo]) (fun m a b c d => by
    have := list_bound (g := Pl.sh1) (N := 14000) (by simp [Pl.sh1, Pl.showL, Pl.lTo]) (fun m a b c d => by
      have := list_bound (g := Pl.sh0) (N := 0) (by simp [Pl.sh0]) (fun m a b c d => by simp [Pl.sh0]) a b c d
      unfold Pl.sh1
      omega) a b c d
    unfold Pl.sh2
    omega) h1 h2 h3 h4
  unfold Pl.sh3
  omega
set_option maxRecDepth 100000 in
set_option maxHeartbeats 2000000 in
theorem show_any (v : Value) (l : List Pl.D3) (w : World) (h : A3 w v l) (hL : Laid w) :
    Calls Tryz.prog 6 #[v] w fun e w' => e = .returned (.tuple #[.string ⟨(showOf l).toArray⟩, .int .i64 (chkList l)]) ∧ Below w.heap.size w w' := by
  obtain ⟨a, c, rfl, -⟩ := isL_3.form h
  have HH : Hid (A3 w (.slice a l.length c) l) := h
  have HL : Hid (Laid w) := hL
  have hcon := pathCheck_any w _ l h hL.forms
  clear h hL
  obtain ⟨E, hE⟩ : ∃ E, E = chkList l := ⟨_, rfl⟩
  rw [← hE] at hcon
  have HE : Hid (E = chkList l) := hE
  have HCON : Hid (Calls Tryz.prog 12 _ _ _) := hcon
  clear hcon hE
  go_enter Tryz.func6, Tryz.ntmps6
  go_wp2_with fail
  refine HCON.out.mono ?_
  rintro e w1 ⟨rfl, hb1⟩
  have HB1 : Hid (Below w.heap.size w w1) := hb1
  clear hb1 HCON
  cases hz : (E != 0) with
  | true =>
    have HP : Hid (showOf l = []) := by
      unfold Hid showOf
      rw [if_neg (by rw [← HE.out]; simpa using hz)]
    go_wp2
    go_ret2
    exact ⟨by rw [HP.out, ← HE.out]; rfl, HB1.out⟩
  | false =>
    have hz0 : E = 0 := by simpa using hz
    have hchk : chkList l = 0 := HE.out.symm.trans hz0
    have HP : Hid (showOf l = Pl.sh3 l) := by
      unfold Hid showOf
      rw [if_pos hchk]
    have HZ : Hid (chkList l = 0) := hchk
    have hba := on_alloc w1 (.cells #[.pointer none, .slice none 0 0] 48)
    have HSH : Hid (Calls Tryz.prog 16 _ _ _) := shows_3 w1 (w1.alloc (.cells #[.pointer none, .slice none 0 0] 48)) w1.heap.size [] (.slice a l.length c) l (isL_3.on HH.out HB1.out) (HL.out.on HB1.out) (os3_chk hchk) hba (builder_new w1) (by have := sh3_len hchk; simp only [List.length_nil]; omega)
    clear hz0 hchk hba
    go_wp2_with fail
    refine HSH.out.mono ?_
    rintro e w3 ⟨rfl, hb3, hk3⟩
    have HB3 : Hid (BB w1.heap.size w1.heap.size ([] ++ Pl.sh3 l) w3) := hb3
    have hk4 : Below w1.heap.size w1 w3 := (on_alloc w1 _).trans hk3.below
    have hs3 := hk4.size
    have HK4 : Hid (Below w.heap.size w w3) := below_trans HB1.out hk4
    clear hb3 hk3 hk4
    go_wp2_with fail
    refine (Tryz.Builder_String_any_k w1.heap.size w1.heap.size _ _ HB3.out hs3).mono ?_
    rintro e w6 ⟨rfl, _, hb6, _⟩
    have HB6 : Hid (Below w.heap.size w w6) := HK4.out.trans (hb6.mono HB1.out.size)
    clear hb6
    go_wp2
    go_ret2
    exact ⟨by rw [HP.out, HZ.out]; rfl, HB6.out⟩
end Go.Proofs.YtbfkopjpfkgjhaaGreatDoor
