/-
  Documents read, in plain lists: the strict reader reads just what is shown. No program is walked in this text.
-/
import Derived.Test.YthlpcmgeelkncaaMkA
namespace Go.Proofs.Ythlpcmgeelkncaa.Pl

def need (c : UInt8) : List UInt8 → Option (List UInt8)
  | [] => none
  | x :: r => if x = c then some r else none
theorem need_iff (c : UInt8) (l r : List UInt8) : need c l = some r ↔ l = c :: r := by
  cases l with
  | nil => simp [need]
  | cons x t =>
    unfold need
    by_cases h : x = c
    · subst h; simp
    · simp [h]
theorem need_none {c : UInt8} {l : List UInt8} (h : ∀ r, l ≠ c :: r) : need c l = none := by
  cases hn : need c l with
  | none => rfl
  | some r => exact absurd ((need_iff c l r).1 hn) (h r)
theorem need_cons (c : UInt8) (r : List UInt8) : need c (c :: r) = some r := (need_iff _ _ _).2 rfl
/-- it does not open with a byte of p -/
def Shut (p : UInt8 → Bool) (l : List UInt8) : Prop := ∀ c r, l = c :: r → p c = false
theorem shut_nil (p : UInt8 → Bool) : Shut p [] := fun c r h => by cases h
theorem shut_cons {p : UInt8 → Bool} {c : UInt8} (h : p c = false) (r : List UInt8) : Shut p (c :: r) := fun d t e => by
  injection e with e1 e2; rw [← e1]; exact h
theorem run_app {p : UInt8 → Bool} : ∀ (l r : List UInt8), (∀ c ∈ l, p c = true) → Shut p r → (l ++ r).takeWhile p = l ∧ (l ++ r).dropWhile p = r
  | [], [], _, _ => by simp
  | [], x :: r, _, h => by
    have := h x r rfl
    simp [this]
  | y :: l, r, hd, h => by
    have := run_app l r (fun c hc => hd c (List.mem_cons_of_mem _ hc)) h
    have hy := hd y (by simp)
    simp [hy, this]
theorem run_shut {p : UInt8 → Bool} : ∀ l : List UInt8, Shut p (l.dropWhile p)
  | [] => shut_nil p
  | x :: l => by
    rw [List.dropWhile_cons]
    by_cases h : p x = true
    · rw [if_pos h]; exact run_shut l
    · rw [if_neg h]; exact shut_cons (by simpa using h) l
theorem run_all {p : UInt8 → Bool} : ∀ (l : List UInt8), ∀ c ∈ l.takeWhile p, p c = true
  | [], c, h => by simp at h
  | x :: l, c, h => by
    rw [List.takeWhile_cons] at h
    by_cases hx : p x = true
    · rw [if_pos hx, List.mem_cons] at h
      rcases h with rfl | h
      · exact hx
      · exact run_all l c h
    · rw [if_neg hx] at h; simp at h
theorem name_all {s : List UInt8} (h : isName s = true) : (∀ c ∈ s, isNB c = true) ∧ s ≠ [] := by
  unfold isName at h
  simp only [Bool.and_eq_true, List.all_eq_true, decide_eq_true_eq] at h
  exact ⟨h.2, fun e => by subst e; simp at h⟩
def rdName (l : List UInt8) : Option (List UInt8 × List UInt8) := if isName (l.takeWhile isNB) = true then some (l.takeWhile isNB, l.dropWhile isNB) else none
theorem rdName_iff (l s r : List UInt8) : rdName l = some (s, r) ↔ isName s = true ∧ l = s ++ r ∧ Shut isNB r := by
  unfold rdName
  constructor
  · intro h
    split at h
    · rename_i hn
      simp only [Option.some.injEq, Prod.mk.injEq] at h
      obtain ⟨rfl, rfl⟩ := h
      exact ⟨hn, (List.takeWhile_append_dropWhile).symm, run_shut l⟩
    · cases h
  · rintro ⟨hn, rfl, hs⟩
    obtain ⟨h1, h2⟩ := run_app s r (name_all hn).1 hs
    rw [h1, h2, if_pos hn]
def notQ (c : UInt8) : Bool := c != 34
theorem value_all {s : List UInt8} (h : isValue s = true) : ∀ c ∈ s, notQ c = true := by
  unfold isValue at h
  simp only [Bool.and_eq_true, List.all_eq_true, decide_eq_true_eq] at h
  intro c hc
  have := h.2 c hc
  unfold isVB at this
  simp only [Bool.and_eq_true, decide_eq_true_eq, Bool.not_eq_true', beq_eq_false_iff_ne] at this
  unfold notQ
  simp only [bne_iff_ne]
  intro e
  subst e
  exact this.2 rfl
def rdValue (l : List UInt8) : Option (List UInt8 × List UInt8) :=
  match need 34 l with
  | none => none
  | some l1 => match need 34 (l1.dropWhile notQ) with
    | none => none
    | some l2 => if isValue (l1.takeWhile notQ) = true then some (l1.takeWhile notQ, l2) else none
theorem rdValue_iff (l v r : List UInt8) : rdValue l = some (v, r) ↔ isValue v = true ∧ l = 34 :: (v ++ 34 :: r) := by
  unfold rdValue
  constructor
  · intro h
    split at h
    · cases h
    · rename_i l1 h1
      split at h
      · cases h
      · rename_i l2 h2
        split at h
        · rename_i hv
          simp only [Option.some.injEq, Prod.mk.injEq] at h
          obtain ⟨rfl, rfl⟩ := h
          have e1 := (need_iff _ _ _).1 h1
          have e2 := (need_iff _ _ _).1 h2
          refine ⟨hv, ?_⟩
          rw [e1, ← e2, List.takeWhile_append_dropWhile]
        · cases h
  · rintro ⟨hv, rfl⟩
    obtain ⟨h1, h2⟩ := run_app v (34 :: r) (value_all hv) (shut_cons rfl r)
    rw [need_cons]
    simp only
    rw [h2, need_cons]
    simp only
    rw [h1, if_pos hv]
def rdAttr (l : List UInt8) : Option ((List UInt8 × List UInt8) × List UInt8) :=
  match rdName l with
  | none => none
  | some (n, l1) => match need 61 l1 with
    | none => none
    | some l2 => match rdValue l2 with
      | none => none
      | some (v, l3) => match need 93 l3 with
        | none => none
        | some l4 => some ((n, v), l4)
theorem rdAttr_iff (l : List UInt8) (a : List UInt8 × List UInt8) (r : List UInt8) : rdAttr l = some (a, r) ↔ isName a.1 = true ∧ isValue a.2 = true ∧ l = a.1 ++ [61, 34] ++ a.2 ++ [34, 93] ++ r := by
  unfold rdAttr
  constructor
  · intro h
    split at h
    · cases h
    · rename_i n l1 h1
      split at h
      · cases h
      · rename_i l2 h2
        split at h
        · cases h
        · rename_i v l3 h3
          split at h
          · cases h
          · rename_i l4 h4
            simp only [Option.some.injEq, Prod.mk.injEq] at h
            obtain ⟨rfl, rfl⟩ := h
            obtain ⟨a1, a2, _⟩ := (rdName_iff _ _ _).1 h1
            obtain ⟨b1, b2⟩ := (rdValue_iff _ _ _).1 h3
            have e2 := (need_iff _ _ _).1 h2
            have e4 := (need_iff _ _ _).1 h4
            refine ⟨a1, b1, ?_⟩
            rw [a2, e2, b2, e4]; simp
  · rintro ⟨h1, h2, rfl⟩
    have e1 := (rdName_iff (a.1 ++ [61, 34] ++ a.2 ++ [34, 93] ++ r) a.1 (61 :: 34 :: (a.2 ++ 34 :: 93 :: r))).2 ⟨h1, by simp, shut_cons (by decide) _⟩
    rw [e1]
    simp only
    rw [need_cons]
    simp only
    rw [(rdValue_iff _ a.2 (93 :: r)).2 ⟨h2, rfl⟩]
    simp only
    rw [need_cons]
def rdCls : Nat → List UInt8 → Option (List (List UInt8) × List UInt8)
  | 0, l => some ([], l)
  | n + 1, l => match need 46 l with
    | none => some ([], l)
    | some l1 => match rdName l1 with
      | none => none
      | some (c, l2) => match rdCls n l2 with
        | none => none
        | some (cs, r) => some (c :: cs, r)
def rdAts : Nat → List UInt8 → Option (List (List UInt8 × List UInt8) × List UInt8)
  | 0, l => some ([], l)
  | n + 1, l => match need 91 l with
    | none => some ([], l)
    | some l1 => match rdAttr l1 with
      | none => none
      | some (c, l2) => match rdAts n l2 with
        | none => none
        | some (cs, r) => some (c :: cs, r)
theorem rdCls_sound : ∀ (n : Nat) (l : List UInt8) (cs : List (List UInt8)) (r : List UInt8), rdCls n l = some (cs, r) → l = cs.flatMap (fun c => 46 :: c) ++ r ∧ cs.length ≤ n
  | 0, l, cs, r, h => by
    simp only [rdCls, Option.some.injEq, Prod.mk.injEq] at h
    obtain ⟨rfl, rfl⟩ := h
    simp
  | n + 1, l, cs, r, h => by
    unfold rdCls at h
    split at h
    · simp only [Option.some.injEq, Prod.mk.injEq] at h
      obtain ⟨rfl, rfl⟩ := h
      simp
    · rename_i l1 h1
      split at h
      · cases h
      · rename_i c l2 h2
        split at h
        · cases h
        · rename_i cs' r' h3
          simp only [Option.some.injEq, Prod.mk.injEq] at h
          obtain ⟨rfl, rfl⟩ := h
          obtain ⟨e3, e4⟩ := rdCls_sound n _ _ _ h3
          rw [(need_iff _ _ _).1 h1, ((rdName_iff _ _ _).1 h2).2.1, e3]
          exact ⟨by simp, by simpa using e4⟩
theorem rdAts_sound : ∀ (n : Nat) (l : List UInt8) (cs : List (List UInt8 × List UInt8)) (r : List UInt8), rdAts n l = some (cs, r) → l = cs.flatMap (fun a => 91 :: (a.1 ++ [61, 34] ++ a.2 ++ [34, 93])) ++ r ∧ cs.length ≤ n
  | 0, l, cs, r, h => by
    simp only [rdAts, Option.some.injEq, Prod.mk.injEq] at h
    obtain ⟨rfl, rfl⟩ := h
    simp
  | n + 1, l, cs, r, h => by
    unfold rdAts at h
    split at h
    · simp only [Option.some.injEq, Prod.mk.injEq] at h
      obtain ⟨rfl, rfl⟩ := h
      simp
    · rename_i l1 h1
      split at h
      · cases h
      · rename_i c l2 h2
        split at h
        · cases h
        · rename_i cs' r' h3
          simp only [Option.some.injEq, Prod.mk.injEq] at h
          obtain ⟨rfl, rfl⟩ := h
          obtain ⟨e3, e4⟩ := rdAts_sound n _ _ _ h3
          rw [(need_iff _ _ _).1 h1, ((rdAttr_iff _ _ _).1 h2).2.2, e3]
          exact ⟨by simp, by simpa using e4⟩
theorem shut_cls (cs : List (List UInt8)) (r : List UInt8) (h : Shut isNB r) : Shut isNB (cs.flatMap (fun c => 46 :: c) ++ r) := by
  cases cs with
  | nil => simpa using h
  | cons c t => exact shut_cons (by decide) _
theorem shut_ats (cs : List (List UInt8 × List UInt8)) (r : List UInt8) (h : Shut isNB r) : Shut isNB (cs.flatMap (fun a => 91 :: (a.1 ++ [61, 34] ++ a.2 ++ [34, 93])) ++ r) := by
  cases cs with
  | nil => simpa using h
  | cons c t => exact shut_cons (by decide) _
theorem rdCls_full : ∀ (n : Nat) (cs : List (List UInt8)) (r : List UInt8), cs.length ≤ n → (∀ c ∈ cs, isName c = true) → Shut isNB r → (∀ t, r ≠ 46 :: t) → rdCls n (cs.flatMap (fun c => 46 :: c) ++ r) = some (cs, r)
  | 0, cs, r, h, _, _, _ => by
    have : cs = [] := List.length_eq_zero_iff.1 (by omega)
    subst this; rfl
  | n + 1, [], r, _, _, _, h => by
    unfold rdCls
    rw [show ([] : List (List UInt8)).flatMap (fun c => 46 :: c) ++ r = r by simp, need_none h]
  | n + 1, c :: cs, r, h, hn, hs, h2 => by
    unfold rdCls
    rw [show (c :: cs).flatMap (fun c => 46 :: c) ++ r = 46 :: (c ++ (cs.flatMap (fun c => 46 :: c) ++ r)) by simp, need_cons]
    simp only
    rw [(rdName_iff _ c (cs.flatMap (fun c => 46 :: c) ++ r)).2 ⟨hn c (by simp), rfl, shut_cls cs r hs⟩]
    simp only
    rw [rdCls_full n cs r (by simpa using h) (fun d hd => hn d (by simp [hd])) hs h2]
theorem rdAts_full : ∀ (n : Nat) (cs : List (List UInt8 × List UInt8)) (r : List UInt8), cs.length ≤ n → (∀ c ∈ cs, isName c.1 = true ∧ isValue c.2 = true) → (∀ t, r ≠ 91 :: t) → rdAts n (cs.flatMap (fun a => 91 :: (a.1 ++ [61, 34] ++ a.2 ++ [34, 93])) ++ r) = some (cs, r)
  | 0, cs, r, h, _, _ => by
    have : cs = [] := List.length_eq_zero_iff.1 (by omega)
    subst this; rfl
  | n + 1, [], r, _, _, h => by
    unfold rdAts
    rw [show ([] : List (List UInt8 × List UInt8)).flatMap (fun a => 91 :: (a.1 ++ [61, 34] ++ a.2 ++ [34, 93])) ++ r = r by simp, need_none h]
  | n + 1, c :: cs, r, h, hn, h2 => by
    unfold rdAts
    rw [show (c :: cs).flatMap (fun a => 91 :: (a.1 ++ [61, 34] ++ a.2 ++ [34, 93])) ++ r = 91 :: (c.1 ++ [61, 34] ++ c.2 ++ [34, 93] ++ (cs.flatMap (fun a => 91 :: (a.1 ++ [61, 34] ++ a.2 ++ [34, 93])) ++ r)) by simp, need_cons]
    simp only
    obtain ⟨m1, m2⟩ := hn c (by simp)
    rw [(rdAttr_iff _ c (cs.flatMap (fun a => 91 :: (a.1 ++ [61, 34] ++ a.2 ++ [34, 93])) ++ r)).2 ⟨m1, m2, rfl⟩]
    simp only
    rw [rdAts_full n cs r (by simpa using h) (fun d hd => hn d (by simp [hd])) h2]
def rdId (l : List UInt8) : Option (List UInt8 × List UInt8) :=
  match need 35 l with
  | none => some ([], l)
  | some l1 => rdName l1
def rdNode (up : Int) (l : List UInt8) : Option (Nd × List UInt8) :=
  match rdName l with
  | none => none
  | some (tag, l1) => match rdId l1 with
    | none => none
    | some (idn, l2) => match rdCls 6 l2 with
      | none => none
      | some (cs, l3) => match rdAts 4 l3 with
        | none => none
        | some (av, l4) => some (⟨up, tag, idn, cs, av⟩, l4)
theorem rdNode_sound (up : Int) (l : List UInt8) (x : Nd) (r : List UInt8) (h : rdNode up l = some (x, r)) : l = showNd x ++ r ∧ x.up = up ∧ x.cls.length ≤ 6 ∧ x.ats.length ≤ 4 := by
  unfold rdNode at h
  split at h
  · cases h
  · rename_i tag l1 h1
    split at h
    · cases h
    · rename_i idn l2 h2
      split at h
      · cases h
      · rename_i cs l3 h3
        split at h
        · cases h
        · rename_i av l4 h4
          simp only [Option.some.injEq, Prod.mk.injEq] at h
          obtain ⟨rfl, rfl⟩ := h
          obtain ⟨e3, f3⟩ := rdCls_sound _ _ _ _ h3
          obtain ⟨e4, f4⟩ := rdAts_sound _ _ _ _ h4
          refine ⟨?_, rfl, f3, f4⟩
          have e2 : l1 = (if idn = [] then [] else 35 :: idn) ++ l2 := by
            unfold rdId at h2
            split at h2
            · simp only [Option.some.injEq, Prod.mk.injEq] at h2
              obtain ⟨rfl, rfl⟩ := h2
              rfl
            · rename_i l5 h5
              obtain ⟨a1, a2, _⟩ := (rdName_iff _ _ _).1 h2
              rw [if_neg (name_all a1).2, (need_iff _ _ _).1 h5, a2]; rfl
          rw [((rdName_iff _ _ _).1 h1).2.1, e2, e3, e4]
          unfold showNd
          simp
theorem right_parts {x : Nd} (h : right x = true) : isName x.tag = true ∧ (x.id = [] ∨ isName x.id = true) ∧ x.cls.length ≤ 6 ∧ (∀ c ∈ x.cls, isName c = true) ∧ x.ats.length ≤ 4 ∧ ∀ a ∈ x.ats, isName a.1 = true ∧ isValue a.2 = true := by
  unfold right names at h
  simp only [Bool.and_eq_true, Bool.or_eq_true, List.isEmpty_iff, List.all_eq_true, decide_eq_true_eq, List.length_map, List.mem_map] at h
  obtain ⟨⟨⟨⟨h1, h2⟩, ⟨h3, h4⟩, _⟩, ⟨h5, h6⟩, _⟩, h7⟩ := h
  exact ⟨h1, h2, h3, h4, h5, fun a ha => ⟨h6 a.1 ⟨a, ha, rfl⟩, h7 a ha⟩⟩
/-- what may stand behind an element: nothing, a bracket, a blank -/
def Fol (l : List UInt8) : Prop := l = [] ∨ ∃ c r, l = c :: r ∧ (c = 40 ∨ c = 41 ∨ c = 32)
theorem Fol.shut {l : List UInt8} (h : Fol l) : Shut isNB l := by
  rcases h with rfl | ⟨c, r, rfl, hc⟩
  · exact shut_nil _
  · rcases hc with rfl | rfl | rfl <;> exact shut_cons (by decide) _
theorem Fol.ne {l : List UInt8} (h : Fol l) (d : UInt8) (h1 : d ≠ 40) (h2 : d ≠ 41) (h3 : d ≠ 32) : ∀ t, l ≠ d :: t := by
  intro t e
  rcases h with rfl | ⟨c, r, rfl, hc⟩
  · cases e
  · injection e with e1 _
    subst e1
    rcases hc with h | h | h
    · exact h1 h
    · exact h2 h
    · exact h3 h
theorem ne_cls (d : UInt8) (hd : d ≠ 46) (cs : List (List UInt8)) (r : List UInt8) (h : ∀ t, r ≠ d :: t) : ∀ t, cs.flatMap (fun c => 46 :: c) ++ r ≠ d :: t := by
  cases cs with
  | nil => simpa using h
  | cons c u =>
    intro t e
    have e2 : (46 : UInt8) :: (c ++ (u.flatMap (fun c => 46 :: c) ++ r)) = d :: t := by simpa using e
    injection e2 with e3 _
    exact hd e3.symm
theorem ne_ats (d : UInt8) (hd : d ≠ 91) (cs : List (List UInt8 × List UInt8)) (r : List UInt8) (h : ∀ t, r ≠ d :: t) : ∀ t, cs.flatMap (fun a => 91 :: (a.1 ++ [61, 34] ++ a.2 ++ [34, 93])) ++ r ≠ d :: t := by
  cases cs with
  | nil => simpa using h
  | cons c u =>
    intro t e
    have e2 : (91 : UInt8) :: (c.1 ++ [61, 34] ++ c.2 ++ [34, 93] ++ (u.flatMap (fun a => 91 :: (a.1 ++ [61, 34] ++ a.2 ++ [34, 93])) ++ r)) = d :: t := by simpa using e
    injection e2 with e3 _
    exact hd e3.symm
theorem rdNode_full (up : Int) (x : Nd) (r : List UInt8) (h : right x = true) (hf : Fol r) : rdNode up (showNd x ++ r) = some ({ x with up := up }, r) := by
  obtain ⟨h1, h2, h3, h4, h5, h6⟩ := right_parts h
  have hA : Shut isNB (x.ats.flatMap (fun a => 91 :: (a.1 ++ [61, 34] ++ a.2 ++ [34, 93])) ++ r) := shut_ats _ _ hf.shut
  have hC : Shut isNB (x.cls.flatMap (fun c => 46 :: c) ++ (x.ats.flatMap (fun a => 91 :: (a.1 ++ [61, 34] ++ a.2 ++ [34, 93])) ++ r)) := shut_cls _ _ hA
  have e4 := rdAts_full 4 x.ats r h5 h6 (hf.ne 91 (by decide) (by decide) (by decide))
  have e3 := rdCls_full 6 x.cls (x.ats.flatMap (fun a => 91 :: (a.1 ++ [61, 34] ++ a.2 ++ [34, 93])) ++ r) h3 h4 hA (ne_ats 46 (by decide) _ _ (hf.ne 46 (by decide) (by decide) (by decide)))
  have n35 := ne_cls 35 (by decide) x.cls _ (ne_ats 35 (by decide) x.ats _ (hf.ne 35 (by decide) (by decide) (by decide)))
  have e0 : showNd x ++ r = x.tag ++ ((if x.id = [] then [] else 35 :: x.id) ++ (x.cls.flatMap (fun c => 46 :: c) ++ (x.ats.flatMap (fun a => 91 :: (a.1 ++ [61, 34] ++ a.2 ++ [34, 93])) ++ r))) := by
    unfold showNd; simp only [List.append_assoc]
  unfold rdNode
  rw [e0]
  generalize hT : x.cls.flatMap (fun c => 46 :: c) ++ (x.ats.flatMap (fun a => 91 :: (a.1 ++ [61, 34] ++ a.2 ++ [34, 93])) ++ r) = T at *
  by_cases hid : x.id = []
  · rw [if_pos hid, List.nil_append, (rdName_iff _ x.tag T).2 ⟨h1, rfl, hC⟩]
    simp only
    unfold rdId
    rw [need_none n35]
    simp only
    rw [e3]
    simp only
    rw [e4, ← hid]
  · rw [if_neg hid, (rdName_iff _ x.tag (35 :: x.id ++ T)).2 ⟨h1, rfl, shut_cons (by decide) _⟩]
    simp only
    unfold rdId
    rw [List.cons_append, need_cons]
    simp only
    rw [(rdName_iff _ x.id T).2 ⟨h2.resolve_left hid, rfl, hC⟩]
    simp only
    rw [e3]
    simp only
    rw [e4]
theorem lay_cons (ns : List Nd) (x : Nd) (k g : F) (up : Int) : ns ++ layT x k ns.length up ++ layF g (ns ++ layT x k ns.length up).length up = ns ++ layF (.cons x k g) ns.length up := by
  rw [List.length_append, layT_len, show ns.length + (k.size + 1) = ns.length + 1 + k.size by omega, layF, List.append_assoc]
  rfl
mutual
def rdEl : Nat → List Nd → Int → List UInt8 → Option (List Nd × List UInt8)
  | 0, _, _, _ => none
  | f + 1, ns, up, l => if ns.length = 64 then none else match rdNode up l with
    | none => none
    | some (x, l1) => match need 40 l1 with
      | none => some (ns ++ [x], l1)
      | some l2 => rdKids f (ns ++ [x]) ns.length l2
def rdKids : Nat → List Nd → Int → List UInt8 → Option (List Nd × List UInt8)
  | 0, _, _, _ => none
  | f + 1, ns, n, l => match rdEl f ns n l with
    | none => none
    | some (ns1, l1) => match need 41 l1 with
      | some l2 => some (ns1, l2)
      | none => match need 32 l1 with
        | none => none
        | some l2 => rdKids f ns1 n l2
end
theorem rd_sound : ∀ (f : Nat), (∀ ns up l ns' r, rdEl f ns up l = some (ns', r) → ∃ x k, ns' = ns ++ layT x k ns.length up ∧ l = textF (.cons x k .nil) ++ r) ∧
    (∀ ns up l ns' r, rdKids f ns up l = some (ns', r) → ∃ g : F, g.len ≠ 0 ∧ ns' = ns ++ layF g ns.length up ∧ l = textF g ++ 41 :: r) := by
  intro f
  induction f with
  | zero => exact ⟨fun _ _ _ _ _ h => by simp [rdEl] at h, fun _ _ _ _ _ h => by simp [rdKids] at h⟩
  | succ f ih =>
    refine ⟨fun ns up l ns' r h => ?_, fun ns up l ns' r h => ?_⟩
    · unfold rdEl at h
      split at h
      · cases h
      · split at h
        · cases h
        · rename_i x l1 h1
          obtain ⟨e1, e2, _⟩ := rdNode_sound _ _ _ _ h1
          have hx : { x with up := up } = x := by rw [← e2]
          split at h
          · simp only [Option.some.injEq, Prod.mk.injEq] at h
            obtain ⟨rfl, rfl⟩ := h
            refine ⟨x, .nil, ?_, ?_⟩
            · simp [layT, layF, hx]
            · rw [e1]; simp [textF, F.len]
          · rename_i l2 h2
            obtain ⟨g, g1, g2, g3⟩ := ih.2 _ _ _ _ _ h
            refine ⟨x, g, ?_, ?_⟩
            · rw [g2]; simp [layT, hx]
            · rw [e1, (need_iff _ _ _).1 h2, g3]
              simp [textF, g1, F.len]
    · unfold rdKids at h
      split at h
      · cases h
      · rename_i ns1 l1 h1
        obtain ⟨x, k, a1, a2⟩ := ih.1 _ _ _ _ _ h1
        split at h
        · rename_i l2 h2
          simp only [Option.some.injEq, Prod.mk.injEq] at h
          obtain ⟨rfl, rfl⟩ := h
          refine ⟨.cons x k .nil, by simp [F.len], ?_, ?_⟩
          · rw [a1]; simp [layT, layF]
          · rw [a2, (need_iff _ _ _).1 h2]
        · split at h
          · cases h
          · rename_i l2 h3
            obtain ⟨g, g1, g2, g3⟩ := ih.2 _ _ _ _ _ h
            refine ⟨.cons x k g, by simp [F.len], ?_, ?_⟩
            · rw [g2, a1, lay_cons]
            · rw [a2, (need_iff _ _ _).1 h3, g3]
              simp [textF, g1, F.len]
def RightF : F → Prop
  | .nil => True
  | .cons x k r => right x = true ∧ RightF k ∧ RightF r
/-- a bracket that closes, a blank, or nothing -/
def Fol2 (l : List UInt8) : Prop := l = [] ∨ ∃ c r, l = c :: r ∧ (c = 41 ∨ c = 32)
theorem Fol2.fol {l : List UInt8} (h : Fol2 l) : Fol l := by
  rcases h with h | ⟨c, r, h, hc⟩
  · exact Or.inl h
  · exact Or.inr ⟨c, r, h, Or.inr hc⟩
theorem Fol2.ne {l : List UInt8} (h : Fol2 l) : ∀ t, l ≠ 40 :: t := by
  intro t e
  rcases h with rfl | ⟨c, r, rfl, hc⟩
  · cases e
  · injection e with e1 _
    subst e1
    rcases hc with h | h <;> cases h
theorem rd_full : ∀ (g : F), (∀ (f : Nat) (ns : List Nd) (up : Int) (rest : List UInt8), g.len ≠ 0 → RightF g → ns.length + g.size ≤ 64 → 2 * (64 - ns.length) + 2 ≤ f → rdKids f ns up (textF g ++ 41 :: rest) = some (ns ++ layF g ns.length up, rest)) := by
  intro g
  induction g with
  | nil => intro _ _ _ _ h; simp [F.len] at h
  | cons x k r ihk ihr =>
    intro f ns up rest _ hR hs hf
    obtain ⟨hx, hk, hr⟩ := hR
    simp only [F.size] at hs
    obtain ⟨f, rfl⟩ : ∃ f', f = f' + 2 := ⟨f - 2, by omega⟩
    -- the first tree
    have hT : ∀ t, Fol2 t → rdEl (f + 1) ns up (showNd x ++ (if k.len = 0 then [] else 40 :: (textF k ++ [41])) ++ t) = some (ns ++ layT x k ns.length up, t) := by
      intro t ht
      unfold rdEl
      rw [if_neg (by omega), List.append_assoc]
      by_cases hk0 : k.len = 0
      · have hk1 : k = .nil := by
          cases k with
          | nil => rfl
          | cons a b c => simp [F.len] at hk0
        subst hk1
        rw [if_pos hk0, List.nil_append, rdNode_full up x t hx ht.fol]
        simp only
        rw [need_none ht.ne]
        simp [layT, layF]
      · rw [if_neg hk0, List.cons_append, rdNode_full up x _ hx (Or.inr ⟨40, textF k ++ [41] ++ t, rfl, Or.inl rfl⟩)]
        simp only
        rw [need_cons]
        simp only
        have := ihk f (ns ++ [{ x with up := up }]) ns.length t hk0 hk (by simp; omega) (by simp; omega)
        rw [List.append_assoc, List.singleton_append, this]
        simp [layT]
    unfold rdKids
    by_cases hr0 : r.len = 0
    · have hr1 : r = .nil := by
        cases r with
        | nil => rfl
        | cons a b c => simp [F.len] at hr0
      subst hr1
      have h1 := hT (41 :: rest) (Or.inr ⟨41, rest, rfl, Or.inl rfl⟩)
      rw [textF, if_pos hr0, List.append_nil, h1]
      simp only
      rw [need_cons]
      simp [layT, layF]
    · have h1 := hT (32 :: (textF r ++ 41 :: rest)) (Or.inr ⟨32, _, rfl, Or.inr rfl⟩)
      rw [textF, if_neg hr0, List.append_assoc, List.cons_append, h1]
      simp only
      rw [need_none (c := 41) (l := 32 :: (textF r ++ 41 :: rest)) (fun t e => by injection e with e1 _; cases e1), need_cons]
      simp only
      have h2 := ihr (f + 1) (ns ++ layT x k ns.length up) up rest hr0 hr (by simp [layT_len]; omega) (by simp [layT_len]; omega)
      rw [h2, lay_cons]
/-- one tree read, with nothing behind it -/
theorem rd_tree (x : Nd) (k : F) (f : Nat) (hx : right x = true) (hk : RightF k) (hs : k.size + 1 ≤ 64) (hf : 129 ≤ f) : rdEl f [] (-1) (textF (.cons x k .nil)) = some (layT x k 0 (-1), []) := by
  obtain ⟨f, rfl⟩ : ∃ f', f = f' + 1 := ⟨f - 1, by omega⟩
  unfold rdEl
  rw [if_neg (by simp), textF, if_pos (show F.nil.len = 0 from rfl), List.append_nil]
  by_cases hk0 : k.len = 0
  · have hk1 : k = .nil := by
      cases k with
      | nil => rfl
      | cons a b c => simp [F.len] at hk0
    subst hk1
    rw [if_pos hk0, rdNode_full (-1) x [] hx (Or.inl rfl)]
    simp only
    rw [need_none (c := 40) (l := []) (fun t e => by cases e)]
    simp [layT, layF]
  · rw [if_neg hk0, rdNode_full (-1) x _ hx (Or.inr ⟨40, textF k ++ [41], rfl, Or.inl rfl⟩)]
    simp only
    rw [need_cons]
    simp only
    have := rd_full k f [{ x with up := -1 }] 0 [] hk0 hk (by simp; omega) (by simp; omega)
    rw [show (([] : List Nd).length : Int) = 0 from rfl, List.nil_append, this]
    simp [layT]
end Go.Proofs.Ythlpcmgeelkncaa.Pl
