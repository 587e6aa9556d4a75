/-
  The document's own reader reads what is shown: what stands between steps.
-/
import Derived.Test.YtbfkopjpfkgjhaaGreatDoorLnP
namespace Go.Proofs.YtbfkopjpfkgjhaaGreatDoor

theorem lnLink_full {k : Int} (hk : Pl.isLink k = true) (c : UInt8) (r : List UInt8) (h1 : c ≠ 62) (h2 : c ≠ 43) (h3 : c ≠ 126) : Pl.lnLink (Pl.lnk k.toNat ++ c :: r) = some (k, c :: r) := by
  obtain ⟨n, rfl, hn, hn1⟩ := link_nat hk
  have a1 : (62 == c) = false := by simpa using Ne.symm h1
  have a2 : (43 == c) = false := by simpa using Ne.symm h2
  have a3 : (126 == c) = false := by simpa using Ne.symm h3
  have : n = 1 ∨ n = 2 ∨ n = 3 ∨ n = 4 := by omega
  rcases this with rfl | rfl | rfl | rfl <;> simp [Pl.lnLink, Pl.lnk, Pl.sg, List.isPrefixOf, a1, a2, a3]
theorem lnLink_none {l : List UInt8} (h : ∀ r, l ≠ 32 :: r) : Pl.lnLink l = none := by
  cases l with
  | nil => simp [Pl.lnLink, Pl.lnk]
  | cons x r =>
    have hx : (32 == x) = false := by
      simp only [beq_eq_false_iff_ne, ne_eq]
      intro e
      exact h r (by rw [e])
    simp [Pl.lnLink, Pl.lnk, List.isPrefixOf, hx]
theorem lnTest_none {α : Type} {gl : List UInt8 → List α × List UInt8} {r : List UInt8} (h : FolS r) : Pl.lnTest gl r = none := by
  rcases h with rfl | ⟨c, t, rfl, h2⟩
  · simp [Pl.lnTest, fBegin]
  · rcases h2 with rfl | rfl | rfl <;> simp [Pl.lnTest, fBegin, List.isPrefixOf]
/-- lenient reading that is full -/
def FullL {α : Type} (gl : List UInt8 → List α × List UInt8) (g : List α → List UInt8) (R : List α → Prop) : Prop := ∀ l r, R l → Fol r → gl (g l ++ r) = (l, r)
theorem fullL_0 : FullL Pl.ln0 Pl.sh0 R0 := fun _ _ h => h.elim
theorem lnTest_list {α : Type} {gl : List UInt8 → List α × List UInt8} {g : List α → List UInt8} {R : List α → Prop} (h : FullL gl g R) (m : Nat) (hm : m = 13 ∨ m = 14 ∨ m = 15) (l : List α) (hl : R l) (r : List UInt8) : Pl.lnTest gl (fBegin m ++ (g l ++ 41 :: r)) = some (⟨m, [], [], 0, 0, l⟩, r) := by
  have e := h l (41 :: r) hl (Or.inr ⟨r, rfl⟩)
  rcases hm with rfl | rfl | rfl <;> simp [Pl.lnTest, fBegin, List.isPrefixOf, Pl.sg, e]
theorem span_full {p : UInt8 → Bool} {n r : List UInt8} (hn : ∀ c ∈ n, p c = true) (hs : Pl.Shut p r) : (n ++ r).takeWhile p = n ∧ (n ++ r).dropWhile p = r := by
  have := scan_stop (p := p) (n ++ r) n.length (by simpa using hn) (by simpa using hs)
  simpa using this
theorem lnTest_name {α : Type} {gl : List UInt8 → List α × List UInt8} (m : Nat) (hm : m = 1 ∨ m = 2) (n r : List UInt8) (hn : ∀ c ∈ n, Pl.isNB c = true) (hs : Pl.Shut Pl.isNB r) : Pl.lnTest gl (fBegin m ++ (n ++ r)) = some (⟨m, n, [], 0, 0, []⟩, r) := by
  obtain ⟨e1, e2⟩ := span_full hn hs
  rcases hm with rfl | rfl <;> simp [Pl.lnTest, fBegin, List.isPrefixOf, Pl.sg, e1, e2]
theorem lnTest_plain {α : Type} {gl : List UInt8 → List α × List UInt8} (m : Nat) (hm : m = 11 ∨ m = 12) (r : List UInt8) : Pl.lnTest gl (fBegin m ++ r) = some (⟨m, [], [], 0, 0, []⟩, r) := by
  rcases hm with rfl | rfl <;> simp [Pl.lnTest, fBegin, List.isPrefixOf, Pl.sg]
theorem lnTest_attr {α : Type} {gl : List UInt8 → List α × List UInt8} (n r : List UInt8) (hn : ∀ c ∈ n, Pl.isNB c = true) : Pl.lnTest gl (91 :: (n ++ 93 :: r)) = some (⟨3, n, [], 0, 0, []⟩, r) := by
  obtain ⟨e1, e2⟩ := span_full (r := 93 :: r) hn (Pl.shut_cons (by decide) _)
  simp [Pl.lnTest, fBegin, List.isPrefixOf, Pl.sg, Pl.lnAttr, e1, e2, Pl.atTo, Pl.sgn]
theorem lnTest_value {α : Type} {gl : List UInt8 → List α × List UInt8} (m : Nat) (hm : m = 4 ∨ m = 5 ∨ m = 6 ∨ m = 7 ∨ m = 8) (n v r : List UInt8) (hn : ∀ c ∈ n, Pl.isNB c = true) (hv : ∀ c ∈ v, Pl.notQ c = true) : Pl.lnTest gl (91 :: (n ++ (fSign m ++ 34 :: (v ++ 34 :: 93 :: r)))) = some (⟨m, n, v, 0, 0, []⟩, r) := by
  obtain ⟨f1, f2⟩ := span_full (r := 34 :: 93 :: r) hv (Pl.shut_cons (by decide) _)
  have hs : Pl.Shut Pl.isNB (fSign m ++ 34 :: (v ++ 34 :: 93 :: r)) := by
    rcases hm with rfl | rfl | rfl | rfl | rfl <;> exact Pl.shut_cons (by decide) _
  obtain ⟨e1, e2⟩ := span_full hn hs
  rcases hm with rfl | rfl | rfl | rfl | rfl
  all_goals
    simp only [fSign, List.cons_append, List.nil_append] at e1 e2
    simp [Pl.lnTest, fBegin, fSign, List.isPrefixOf, Pl.sg, Pl.lnAttr, e1, e2, f1, f2, Pl.atTo, Pl.sgn]
theorem sg_left (c : UInt8) (l : List UInt8) : [c].isPrefixOf l = Nt.Pl.took c l ∧ Pl.sg [c] l = Nt.Pl.left c l := by
  cases l with
  | nil => simp [Pl.sg, Nt.Pl.took, Nt.Pl.left]
  | cons x r =>
    by_cases hx : x = c
    · subst hx
      simp [Pl.sg, Nt.Pl.took, Nt.Pl.left, List.isPrefixOf]
    · have h1 : (c == x) = false := by simpa using Ne.symm hx
      have h2 : (x == c) = false := by simpa using hx
      simp [Pl.sg, Nt.Pl.took, Nt.Pl.left, List.isPrefixOf, h1, h2]
theorem lnNth_full {a b : Int} (ha : Nt.Pl.inB a) (hb : Nt.Pl.inB b) (t : List UInt8) (ht0 : Nt.Pl.noDig t = true) : Pl.lnNth (Nt.Pl.shown a b ++ t) = ((a, b), t) := by
  obtain ⟨a1, a2⟩ := ha
  obtain ⟨b1, b2⟩ := hb
  have key : ∀ (r : List UInt8) (x : Int), -1048576 ≤ x → x ≤ 1048576 → Nt.Pl.noDig r = true →
      (if Nt.Pl.took 45 (Lib.itoa x ++ r) = true then -((Nt.Pl.lnum 8 0 (Nt.Pl.left 45 (Lib.itoa x ++ r))).1 : Int) else ((Nt.Pl.lnum 8 0 (Nt.Pl.left 45 (Lib.itoa x ++ r))).1 : Int)) = x ∧ (Nt.Pl.lnum 8 0 (Nt.Pl.left 45 (Lib.itoa x ++ r))).2 = r := by
    intro r x x1 x2 hr
    by_cases hx : x < 0
    · rw [Nt.Pl.itoa_neg hx, List.cons_append, (Nt.Pl.took_cons 45 _).1, (Nt.Pl.took_cons 45 _).2, Nt.Pl.lnum_dec x.natAbs (by omega) r hr]
      simp; omega
    · have ht := Nt.Pl.took_dec 45 (by decide) x.natAbs r
      rw [Nt.Pl.itoa_pos (by omega), Nt.Pl.left_not ht, ht, Nt.Pl.lnum_dec x.natAbs (by omega) r hr]
      simp; omega
  have e : Nt.Pl.shown a b ++ t = Lib.itoa a ++ (110 :: ((if 0 ≤ b then [43] else []) ++ (Lib.itoa b ++ t))) := by simp [Nt.Pl.shown]
  obtain ⟨k1, k2⟩ := key (110 :: ((if 0 ≤ b then [43] else []) ++ (Lib.itoa b ++ t))) a a1 a2 (by simp [Nt.Pl.noDig, Nt.Pl.isDig])
  unfold Pl.lnNth
  simp only [(sg_left _ _).1, (sg_left _ _).2]
  rw [e, k1, k2, (Nt.Pl.took_cons 110 _).2]
  by_cases hb0 : 0 ≤ b
  · rw [if_pos hb0, List.singleton_append, (Nt.Pl.took_ne (by decide) _).1, (Nt.Pl.took_ne (by decide) _).2, (Nt.Pl.took_cons 43 _).2, Nt.Pl.itoa_pos hb0, Nt.Pl.lnum_dec b.natAbs (by omega) t ht0]
    simp; omega
  · rw [if_neg hb0, List.nil_append, Nt.Pl.itoa_neg (by omega), List.cons_append, (Nt.Pl.took_cons 45 _).1, (Nt.Pl.took_cons 45 _).2]
    have ht := Nt.Pl.took_dec 43 (by decide) b.natAbs t
    rw [Nt.Pl.left_not ht, Nt.Pl.lnum_dec b.natAbs (by omega) t ht0]
    simp; omega
theorem lnTest_nth {α : Type} {gl : List UInt8 → List α × List UInt8} (m : Nat) (hm : m = 9 ∨ m = 10) {a b : Int} (ha : Nt.Pl.inB a) (hb : Nt.Pl.inB b) (r : List UInt8) : Pl.lnTest gl (fBegin m ++ (Nt.Pl.shown a b ++ 41 :: r)) = some (⟨m, [], [], a, b, []⟩, r) := by
  have e := lnNth_full ha hb (41 :: r) (by simp [Nt.Pl.noDig, Nt.Pl.isDig])
  rcases hm with rfl | rfl <;> simp [Pl.lnTest, fBegin, List.isPrefixOf, Pl.sg, e]
end Go.Proofs.YtbfkopjpfkgjhaaGreatDoor
/-
  The document's own reader reads tests as they are shown.
-/
namespace Go.Proofs.YtbfkopjpfkgjhaaGreatDoor

section
variable {α : Type} {t : Pl.Tst α}
theorem form_parts (h : tF t = true) : (Pl.kName t.kind = true → ∀ c ∈ t.name, Pl.isNB c = true) ∧ (Pl.kValue t.kind = true → ∀ c ∈ t.value, Pl.isVB c = true) ∧ (Pl.kValue t.kind = false → t.value = []) ∧ (Pl.kNth t.kind = false → t.a = 0 ∧ t.b = 0) := by
  unfold tF Pl.tForm at h
  simp only [Bool.and_eq_true] at h
  obtain ⟨⟨⟨n1, n2⟩, n3⟩, n4⟩ := h
  unfold Pl.asked at n1 n2
  refine ⟨fun hk => ?_, fun hk => ?_, fun hk => ?_, fun hk => ?_⟩
  · rw [if_pos hk] at n1
    unfold Pl.isName at n1
    simp only [Bool.and_eq_true, List.all_eq_true] at n1
    exact n1.2
  · rw [if_pos hk] at n2
    unfold Pl.isValue at n2
    simp only [Bool.and_eq_true, List.all_eq_true] at n2
    exact n2.2
  · rw [if_neg (by rw [hk]; simp)] at n2
    simpa using n2
  · rw [hk] at n3
    simpa using n3
end
theorem lnTest_full {α : Type} {gl : List UInt8 → List α × List UInt8} {g : List α → List UInt8} {R : List α → Prop} (hg0 : g [] = []) (h : FullL gl g R) (t : Pl.Tst α) (ht : RT R t) (r : List UInt8) (hs : Pl.Shut Pl.isNB r) : Pl.lnTest gl (Pl.showT g t ++ r) = some (t, r) := by
  obtain ⟨h1, h2, h3, h4⟩ := ht
  obtain ⟨p1, p2, p3, p4⟩ := form_parts h2
  have p5 : Pl.kName t.kind = false → t.name = [] := name_of_form h2
  have p6 : Pl.kList t.kind = false → t.list = [] := list_of_form h2
  obtain ⟨k, name, value, a, b, list⟩ := t
  simp only at h1 h3 h4 p1 p2 p3 p4 p5 p6
  obtain ⟨n, rfl, hn, hn1⟩ := kind_nat h1
  have hb9 : Nt.Pl.inB a ∧ Nt.Pl.inB b := by
    unfold nB within at h3
    simp only [Bool.and_eq_true, decide_eq_true_eq] at h3
    exact ⟨h3.1, h3.2⟩
  have hq : ∀ c, Pl.isVB c = true → Pl.notQ c = true := by
    intro c hc
    simp only [Pl.isVB, Pl.notQ, Bool.and_eq_true, decide_eq_true_eq, bne_iff_ne, ne_eq] at *
    intro e
    subst e
    simp at hc
  have hn' : n = 1 ∨ n = 2 ∨ n = 3 ∨ n = 4 ∨ n = 5 ∨ n = 6 ∨ n = 7 ∨ n = 8 ∨ n = 9 ∨ n = 10 ∨ n = 11 ∨ n = 12 ∨ n = 13 ∨ n = 14 ∨ n = 15 := by omega
  clear h1 h2 hn hn1
  rcases hn' with rfl | rfl | rfl | rfl | rfl | rfl | rfl | rfl | rfl | rfl | rfl | rfl | rfl | rfl | rfl
  · obtain ⟨rfl, rfl⟩ := p4 rfl
    obtain rfl := p6 rfl
    obtain rfl := p3 rfl
    have e : Pl.showT g (⟨((1 : Nat) : Int), name, [], 0, 0, []⟩ : Pl.Tst α) ++ r = fBegin 1 ++ (name ++ r) := by simp [Pl.showT, Pl.tHead, Pl.tValue, Pl.tNth, Pl.kValue, Pl.kNth, fSign, fEnd, hg0]
    rw [e]
    exact lnTest_name 1 (by simp) name r (p1 rfl) hs
  · obtain ⟨rfl, rfl⟩ := p4 rfl
    obtain rfl := p6 rfl
    obtain rfl := p3 rfl
    have e : Pl.showT g (⟨((2 : Nat) : Int), name, [], 0, 0, []⟩ : Pl.Tst α) ++ r = fBegin 2 ++ (name ++ r) := by simp [Pl.showT, Pl.tHead, Pl.tValue, Pl.tNth, Pl.kValue, Pl.kNth, fSign, fEnd, hg0]
    rw [e]
    exact lnTest_name 2 (by simp) name r (p1 rfl) hs
  · obtain ⟨rfl, rfl⟩ := p4 rfl
    obtain rfl := p6 rfl
    obtain rfl := p3 rfl
    have e : Pl.showT g (⟨((3 : Nat) : Int), name, [], 0, 0, []⟩ : Pl.Tst α) ++ r = 91 :: (name ++ 93 :: r) := by simp [Pl.showT, Pl.tHead, Pl.tValue, Pl.tNth, Pl.kValue, Pl.kNth, fBegin, fSign, fEnd, hg0]
    rw [e]
    exact lnTest_attr name r (p1 rfl)
  · obtain ⟨rfl, rfl⟩ := p4 rfl
    obtain rfl := p6 rfl
    have e : Pl.showT g (⟨((4 : Nat) : Int), name, value, 0, 0, []⟩ : Pl.Tst α) ++ r = 91 :: (name ++ (fSign 4 ++ 34 :: (value ++ 34 :: 93 :: r))) := by simp [Pl.showT, Pl.tHead, Pl.tValue, Pl.tNth, Pl.kValue, Pl.kNth, fBegin, fSign, fEnd, hg0]
    rw [e]
    exact lnTest_value 4 (by simp) name value r (p1 rfl) (fun c hc => hq c (p2 rfl c hc))
  · obtain ⟨rfl, rfl⟩ := p4 rfl
    obtain rfl := p6 rfl
    have e : Pl.showT g (⟨((5 : Nat) : Int), name, value, 0, 0, []⟩ : Pl.Tst α) ++ r = 91 :: (name ++ (fSign 5 ++ 34 :: (value ++ 34 :: 93 :: r))) := by simp [Pl.showT, Pl.tHead, Pl.tValue, Pl.tNth, Pl.kValue, Pl.kNth, fBegin, fSign, fEnd, hg0]
    rw [e]
    exact lnTest_value 5 (by simp) name value r (p1 rfl) (fun c hc => hq c (p2 rfl c hc))
  · obtain ⟨rfl, rfl⟩ := p4 rfl
    obtain rfl := p6 rfl
    have e : Pl.showT g (⟨((6 : Nat) : Int), name, value, 0, 0, []⟩ : Pl.Tst α) ++ r = 91 :: (name ++ (fSign 6 ++ 34 :: (value ++ 34 :: 93 :: r))) := by simp [Pl.showT, Pl.tHead, Pl.tValue, Pl.tNth, Pl.kValue, Pl.kNth, fBegin, fSign, fEnd, hg0]
    rw [e]
    exact lnTest_value 6 (by simp) name value r (p1 rfl) (fun c hc => hq c (p2 rfl c hc))
  · obtain ⟨rfl, rfl⟩ := p4 rfl
    obtain rfl := p6 rfl
    have e : Pl.showT g (⟨((7 : Nat) : Int), name, value, 0, 0, []⟩ : Pl.Tst α) ++ r = 91 :: (name ++ (fSign 7 ++ 34 :: (value ++ 34 :: 93 :: r))) := by simp [Pl.showT, Pl.tHead, Pl.tValue, Pl.tNth, Pl.kValue, Pl.kNth, fBegin, fSign, fEnd, hg0]
    rw [e]
    exact lnTest_value 7 (by simp) name value r (p1 rfl) (fun c hc => hq c (p2 rfl c hc))
  · obtain ⟨rfl, rfl⟩ := p4 rfl
    obtain rfl := p6 rfl
    have e : Pl.showT g (⟨((8 : Nat) : Int), name, value, 0, 0, []⟩ : Pl.Tst α) ++ r = 91 :: (name ++ (fSign 8 ++ 34 :: (value ++ 34 :: 93 :: r))) := by simp [Pl.showT, Pl.tHead, Pl.tValue, Pl.tNth, Pl.kValue, Pl.kNth, fBegin, fSign, fEnd, hg0]
    rw [e]
    exact lnTest_value 8 (by simp) name value r (p1 rfl) (fun c hc => hq c (p2 rfl c hc))
  · obtain rfl := p6 rfl
    obtain rfl := p3 rfl
    obtain rfl := p5 rfl
    have e : Pl.showT g (⟨((9 : Nat) : Int), [], [], a, b, []⟩ : Pl.Tst α) ++ r = fBegin 9 ++ (Nt.Pl.shown a b ++ 41 :: r) := by simp [Pl.showT, Pl.tHead, Pl.tValue, Pl.tNth, Pl.kValue, Pl.kNth, fSign, fEnd, hg0]
    rw [e]
    exact lnTest_nth 9 (by simp) hb9.1 hb9.2 r
  · obtain rfl := p6 rfl
    obtain rfl := p3 rfl
    obtain rfl := p5 rfl
    have e : Pl.showT g (⟨((10 : Nat) : Int), [], [], a, b, []⟩ : Pl.Tst α) ++ r = fBegin 10 ++ (Nt.Pl.shown a b ++ 41 :: r) := by simp [Pl.showT, Pl.tHead, Pl.tValue, Pl.tNth, Pl.kValue, Pl.kNth, fSign, fEnd, hg0]
    rw [e]
    exact lnTest_nth 10 (by simp) hb9.1 hb9.2 r
  · obtain ⟨rfl, rfl⟩ := p4 rfl
    obtain rfl := p6 rfl
    obtain rfl := p3 rfl
    obtain rfl := p5 rfl
    have e : Pl.showT g (⟨((11 : Nat) : Int), [], [], 0, 0, []⟩ : Pl.Tst α) ++ r = fBegin 11 ++ r := by simp [Pl.showT, Pl.tHead, Pl.tValue, Pl.tNth, Pl.kValue, Pl.kNth, fSign, fEnd, hg0]
    rw [e]
    exact lnTest_plain 11 (by simp) r
  · obtain ⟨rfl, rfl⟩ := p4 rfl
    obtain rfl := p6 rfl
    obtain rfl := p3 rfl
    obtain rfl := p5 rfl
    have e : Pl.showT g (⟨((12 : Nat) : Int), [], [], 0, 0, []⟩ : Pl.Tst α) ++ r = fBegin 12 ++ r := by simp [Pl.showT, Pl.tHead, Pl.tValue, Pl.tNth, Pl.kValue, Pl.kNth, fSign, fEnd, hg0]
    rw [e]
    exact lnTest_plain 12 (by simp) r
  · obtain ⟨rfl, rfl⟩ := p4 rfl
    obtain rfl := p3 rfl
    obtain rfl := p5 rfl
    have e : Pl.showT g (⟨((13 : Nat) : Int), [], [], 0, 0, list⟩ : Pl.Tst α) ++ r = fBegin 13 ++ (g list ++ 41 :: r) := by simp [Pl.showT, Pl.tHead, Pl.tValue, Pl.tNth, Pl.kValue, Pl.kNth, fSign, fEnd]
    rw [e]
    exact lnTest_list h 13 (by simp) list (h4 rfl) r
  · obtain ⟨rfl, rfl⟩ := p4 rfl
    obtain rfl := p3 rfl
    obtain rfl := p5 rfl
    have e : Pl.showT g (⟨((14 : Nat) : Int), [], [], 0, 0, list⟩ : Pl.Tst α) ++ r = fBegin 14 ++ (g list ++ 41 :: r) := by simp [Pl.showT, Pl.tHead, Pl.tValue, Pl.tNth, Pl.kValue, Pl.kNth, fSign, fEnd]
    rw [e]
    exact lnTest_list h 14 (by simp) list (h4 rfl) r
  · obtain ⟨rfl, rfl⟩ := p4 rfl
    obtain rfl := p3 rfl
    obtain rfl := p5 rfl
    have e : Pl.showT g (⟨((15 : Nat) : Int), [], [], 0, 0, list⟩ : Pl.Tst α) ++ r = fBegin 15 ++ (g list ++ 41 :: r) := by simp [Pl.showT, Pl.tHead, Pl.tValue, Pl.tNth, Pl.kValue, Pl.kNth, fSign, fEnd]
    rw [e]
    exact lnTest_list h 15 (by simp) list (h4 rfl) r
end Go.Proofs.YtbfkopjpfkgjhaaGreatDoor
/-
  The document's own reader reads steps as they are shown.
-/
namespace Go.Proofs.YtbfkopjpfkgjhaaGreatDoor
section
variable {α : Type} {gl : List UInt8 → List α × List UInt8} {g : List α → List UInt8} {R : List α → Prop}
theorem lnTests_full (hg0 : g [] = []) (h : FullL gl g R) : ∀ (ts : List (Pl.Tst α)) (n : Nat) (r : List UInt8), ts.length ≤ n → (∀ t ∈ ts, RT R t) → FolS r → Pl.lnTests gl n (ts.flatMap (Pl.showT g) ++ r) = (ts, r)
  | [], n, r, _, _, hr => by
    cases n with
    | zero => rfl
    | succ n =>
      unfold Pl.lnTests
      simp only [List.flatMap_nil, List.nil_append]
      rw [lnTest_none hr]
  | t :: ts, 0, r, hn, _, _ => by simp at hn
  | t :: ts, n + 1, r, hn, hts, hr => by
    have ih := lnTests_full hg0 h ts n r (by simpa using hn) (fun x hx => hts x (by simp [hx])) hr
    have e := lnTest_full hg0 h t (hts t (by simp)) (ts.flatMap (Pl.showT g) ++ r) (tests_shut ts (fun x hx => hts x (by simp [hx])) r hr.shut)
    rw [List.flatMap_cons, List.append_assoc]
    unfold Pl.lnTests
    rw [e]
    dsimp only
    rw [ih]
theorem star_not {l : List UInt8} (h : ∀ r, l ≠ 42 :: r) : Pl.sg [42] l = l := by
  rw [(sg_left 42 l).2]
  cases l with
  | nil => rfl
  | cons x r =>
    have : (x == 42) = false := by
      simp only [beq_eq_false_iff_ne, ne_eq]
      intro e
      exact h r (by rw [e])
    simp [Nt.Pl.left, this]
theorem tests_star (ts : List (Pl.Tst α)) (h : ∀ t ∈ ts, RT R t) (r : List UInt8) (hr : FolS r) : ∀ q, ts.flatMap (Pl.showT g) ++ r ≠ 42 :: q := by
  cases ts with
  | nil =>
    rintro q e
    rcases hr with rfl | ⟨c, t, rfl, h2⟩
    · cases e
    · simp at e
      rcases h2 with h2 | h2 | h2 <;> rw [h2] at e <;> exact absurd e.1 (by decide)
  | cons t ts =>
    intro q
    rw [List.flatMap_cons, List.append_assoc]
    obtain ⟨m, hm, m15, m1⟩ := kind_nat (h t (by simp)).1
    unfold Pl.showT Pl.tHead
    rw [hm, show ((m : Int)).toNat = m by simp]
    rcases kinds15 ⟨m1, m15⟩ with rfl | rfl | rfl | rfl | rfl | rfl | rfl | rfl | rfl | rfl | rfl | rfl | rfl | rfl | rfl <;> simp [fBegin]
theorem lnStep_full (hg0 : g [] = []) (h : FullL gl g R) (s : Pl.Stp α) (hs : RS R s) (r : List UInt8) (hr : FolS r) : Pl.lnStep gl (Pl.showS g s ++ r) = (s, r) := by
  obtain ⟨tag, ts⟩ := s
  obtain ⟨h1, h2, h3⟩ := hs
  dsimp only at h1 h2 h3
  have e := lnTests_full hg0 h ts 7 r (by omega) h3 hr
  have hsh := tests_shut (g := g) ts h3 r hr.shut
  have hst := tests_star (g := g) ts h3 r hr
  unfold Pl.showS Pl.lnStep Pl.showTag
  dsimp only
  cases tag with
  | nil =>
    rw [if_pos (show ([] : List UInt8).isEmpty = true from rfl)]
    have a1 : (([42] ++ ts.flatMap (Pl.showT g) ++ r : List UInt8)).takeWhile Pl.isNB = [] := by simp [show Pl.isNB 42 = false by decide]
    have a2 : (([42] ++ ts.flatMap (Pl.showT g) ++ r : List UInt8)).dropWhile Pl.isNB = 42 :: (ts.flatMap (Pl.showT g) ++ r) := by simp [show Pl.isNB 42 = false by decide]
    rw [a1, a2, (sg_left 42 _).2, (Nt.Pl.took_cons 42 _).2, e]
  | cons x q =>
    rw [if_neg (by simp)]
    have hn : ∀ c ∈ x :: q, Pl.isNB c = true := by
      have : Pl.isName (x :: q) = true := by simpa using h1
      unfold Pl.isName at this
      simp only [Bool.and_eq_true, List.all_eq_true] at this
      exact this.2
    obtain ⟨b1, b2⟩ := span_full hn hsh
    rw [List.append_assoc, b1, b2, star_not hst, e]
end
end Go.Proofs.YtbfkopjpfkgjhaaGreatDoor
/-
  The document's own reader reads lists as they are shown.
-/
namespace Go.Proofs.YtbfkopjpfkgjhaaGreatDoor
section
variable {α : Type} {gl : List UInt8 → List α × List UInt8} {g : List α → List UInt8} {R : List α → Prop}
theorem FolP.lnk {r : List UInt8} (h : FolP r) : Pl.lnLink r = none := by
  refine lnLink_none fun q e => ?_
  rcases h with rfl | ⟨c, t, rfl, h2⟩
  · cases e
  · injection e with e1 e2
    subst e1
    rcases h2 with h2 | h2 <;> revert h2 <;> decide
theorem steps_fol (ss : List (Pl.Stp α)) (ks : List Int) (r : List UInt8) (hl : ss.length = ks.length) (hk : ∀ k ∈ ks, Pl.isLink k = true) (hr : FolP r) : FolS (shSteps g ss ks ++ r) := by
  cases ss with
  | nil =>
    cases ks with
    | nil => exact hr.s
    | cons => simp at hl
  | cons s2 ss2 =>
    cases ks with
    | nil => simp at hl
    | cons k2 ks2 =>
      obtain ⟨m, hm, m4, m1⟩ := link_nat (hk k2 (by simp))
      simp only [shSteps, hm, List.append_assoc]
      have : m = 1 ∨ m = 2 ∨ m = 3 ∨ m = 4 := by omega
      rcases this with rfl | rfl | rfl | rfl <;> exact Or.inr ⟨32, _, rfl, Or.inr (Or.inr rfl)⟩
theorem lnSteps_full (hg0 : g [] = []) (h : FullL gl g R) : ∀ (ss : List (Pl.Stp α)) (ks : List Int) (n : Nat) (r : List UInt8), ss.length = ks.length → ss.length ≤ n → (∀ k ∈ ks, Pl.isLink k = true) → (∀ s ∈ ss, RS R s) → FolP r → Pl.lnSteps gl n (shSteps g ss ks ++ r) = ((ks, ss), r)
  | [], [], n, r, _, _, _, _, hr => by
    cases n with
    | zero => rfl
    | succ n =>
      unfold Pl.lnSteps
      simp only [shSteps, List.nil_append]
      rw [hr.lnk]
  | [], _ :: _, _, _, hl, _, _, _, _ => by simp at hl
  | _ :: _, [], _, _, hl, _, _, _, _ => by simp at hl
  | s :: ss, k :: ks, 0, r, _, hn, _, _, _ => by simp at hn
  | s :: ss, k :: ks, n + 1, r, hl, hn, hk, hs, hr => by
    have ih := lnSteps_full hg0 h ss ks n r (by simpa using hl) (by simpa using hn) (fun x hx => hk x (by simp [hx])) (fun x hx => hs x (by simp [hx])) hr
    have hkk := hk k (by simp)
    have hss := hs s (by simp)
    have hfs : FolS (shSteps g ss ks ++ r) := steps_fol ss ks r (by simpa using hl) (fun x hx => hk x (by simp [hx])) hr
    obtain ⟨c, t, e, c1, c2, c3, c4⟩ := head_step (g := g) s hss (shSteps g ss ks ++ r)
    have hlk : Pl.lnLink (Pl.lnk k.toNat ++ (Pl.showS g s ++ (shSteps g ss ks ++ r))) = some (k, Pl.showS g s ++ (shSteps g ss ks ++ r)) := by
      rw [e]
      exact lnLink_full hkk c t c2 c3 c4
    simp only [shSteps, List.append_assoc]
    unfold Pl.lnSteps
    rw [hlk]
    dsimp only
    rw [lnStep_full hg0 h s hss _ hfs]
    dsimp only
    rw [ih]
theorem lnPath_full (hg0 : g [] = []) (h : FullL gl g R) (p : Pl.Pth α) (hp : RP R p) (r : List UInt8) (hr : FolP r) : Pl.lnPath gl (Pl.showP g p ++ r) = (p, r) := by
  obtain ⟨steps, links⟩ := p
  obtain ⟨⟨h1, h2, h3⟩, h4, h5⟩ := hp
  dsimp only at h1 h2 h3 h4 h5
  cases steps with
  | nil => simp at h1
  | cons s ss =>
    have hl : ss.length = links.length := by simp at h3; omega
    rw [showP_eq g s ss links hl, List.append_assoc]
    unfold Pl.lnPath
    rw [lnStep_full hg0 h s (h5 s (by simp)) _ (steps_fol ss links r hl h4 hr)]
    dsimp only
    rw [lnSteps_full hg0 h ss links 5 r hl (by simp at h2; omega) h4 (fun x hx => h5 x (by simp [hx])) hr]
theorem Fol.lnk {r : List UInt8} (h : Fol r) : [44, 32].isPrefixOf r = false := by
  rcases h with rfl | ⟨t, rfl⟩ <;> simp [List.isPrefixOf]
theorem lnPaths_full (hg0 : g [] = []) (h : FullL gl g R) : ∀ (ps : List (Pl.Pth α)) (p : Pl.Pth α) (n : Nat) (r : List UInt8), ps.length ≤ n → RP R p → (∀ p ∈ ps, RP R p) → Fol r → Pl.lnPaths gl (n + 1) (Pl.showP g p ++ (ps.flatMap (fun q => [44, 32] ++ Pl.showP g q) ++ r)) = (p :: ps, r)
  | [], p, n, r, _, hp, _, hr => by
    unfold Pl.lnPaths
    simp only [List.flatMap_nil, List.nil_append]
    rw [lnPath_full hg0 h p hp r hr.p, if_neg (by rw [hr.lnk]; simp)]
  | q :: ps, p, 0, r, hn, _, _, _ => by simp at hn
  | q :: ps, p, n + 1, r, hn, hp, hps, hr => by
    have ih := lnPaths_full hg0 h ps q n r (by simpa using hn) (hps q (by simp)) (fun x hx => hps x (by simp [hx])) hr
    have e := lnPath_full hg0 h p hp ((q :: ps).flatMap (fun q => [44, 32] ++ Pl.showP g q) ++ r) (Or.inr ⟨44, _, rfl, Or.inr rfl⟩)
    unfold Pl.lnPaths
    rw [e]
    dsimp only
    have e2 : (q :: ps).flatMap (fun q => [44, 32] ++ Pl.showP g q) ++ r = [44, 32] ++ (Pl.showP g q ++ (ps.flatMap (fun q => [44, 32] ++ Pl.showP g q) ++ r)) := by
      rw [List.flatMap_cons, List.append_assoc, List.append_assoc]
    rw [e2, Pl.sg_app, if_pos (List.isPrefixOf_iff_prefix.2 ⟨_, rfl⟩), ih]
theorem lnList_full (hg0 : g [] = []) (h : FullL gl g R) : FullL (Pl.lnPaths gl 6) (Pl.showL g) (RL R) := by
  intro l r hl hr
  obtain ⟨⟨h1, h2⟩, h3⟩ := hl
  cases l with
  | nil => simp at h1
  | cons p ps =>
    rw [showL_eq, List.append_assoc]
    exact lnPaths_full hg0 h ps p 5 r (by simp at h2; omega) (h3 p (by simp)) (fun x hx => h3 x (by simp [hx])) hr
end
theorem fullL_3 : FullL Pl.ln3 Pl.sh3 R3 := lnList_full rfl (lnList_full rfl (lnList_full rfl fullL_0))
/-- what the document's own reader makes of a text that is shown -/
theorem ln3_of {s : List UInt8} {l : List Pl.D3} (h : Pl.rdAll s = some l) : (Pl.ln3 s).1 = l := by
  obtain ⟨h1, h2⟩ := (all_iff s l).1 h
  have := fullL_3 l [] ((R3_iff l).2 h1) (Or.inl rfl)
  rw [List.append_nil, h2] at this
  rw [this]
end Go.Proofs.YtbfkopjpfkgjhaaGreatDoor
