/-
  A reader that lets pass what cannot be, in plain lists: of a shown document it reads just that document. No program is walked in this text.
-/
import Derived.Test.YthlpcmgeelkncaaMkC
namespace Go.Proofs.Ythlpcmgeelkncaa.Pl

/-- a sign is behind us, where it stands there -/
def sg (s l : List UInt8) : List UInt8 := if s.isPrefixOf l = true then l.drop s.length else l
theorem sg_app (s l : List UInt8) : sg s (s ++ l) = l := by
  unfold sg
  rw [if_pos (by simp)]
  simp
theorem sg_len (s l : List UInt8) : (sg s l).length ≤ l.length := by
  unfold sg; split <;> simp
theorem sg_one (c : UInt8) (l : List UInt8) : [c].isPrefixOf l = (need c l).isSome ∧ sg [c] l = (need c l).getD l := by
  unfold sg
  cases l with
  | nil => simp [need]
  | cons x r =>
    by_cases h : x = c
    · subst h; simp [need, List.isPrefixOf]
    · have h2 : c ≠ x := fun e => h e.symm
      simp [need, List.isPrefixOf, h, h2]
def lnAttr (l : List UInt8) : (List UInt8 × List UInt8) × List UInt8 :=
  ((l.takeWhile isNB, (sg [61, 34] (l.dropWhile isNB)).takeWhile notQ), sg [34, 93] ((sg [61, 34] (l.dropWhile isNB)).dropWhile notQ))
def lnCls : Nat → List UInt8 → List (List UInt8) × List UInt8
  | 0, l => ([], l)
  | n + 1, l => match need 46 l with
    | none => ([], l)
    | some l1 => (l1.takeWhile isNB :: (lnCls n (l1.dropWhile isNB)).1, (lnCls n (l1.dropWhile isNB)).2)
def lnAts : Nat → List UInt8 → List (List UInt8 × List UInt8) × List UInt8
  | 0, l => ([], l)
  | n + 1, l => match need 91 l with
    | none => ([], l)
    | some l1 => ((lnAttr l1).1 :: (lnAts n (lnAttr l1).2).1, (lnAts n (lnAttr l1).2).2)
def lnId (l : List UInt8) : List UInt8 × List UInt8 := match need 35 l with
  | none => ([], l)
  | some l2 => (l2.takeWhile isNB, l2.dropWhile isNB)
def lnMk (up : Int) (tag idn : List UInt8) (c : List (List UInt8) × List UInt8) (a : List (List UInt8 × List UInt8) × List UInt8) : Nd × List UInt8 := (⟨up, tag, idn, c.1, a.1⟩, a.2)
def lnNode (up : Int) (l : List UInt8) : Nd × List UInt8 :=
  lnMk up (l.takeWhile isNB) (lnId (l.dropWhile isNB)).1 (lnCls (lnId (l.dropWhile isNB)).2.length (lnId (l.dropWhile isNB)).2)
    (lnAts (lnCls (lnId (l.dropWhile isNB)).2.length (lnId (l.dropWhile isNB)).2).2.length (lnCls (lnId (l.dropWhile isNB)).2.length (lnId (l.dropWhile isNB)).2).2)
theorem name_run {s r : List UInt8} (h : isName s = true) (hr : Shut isNB r) : (s ++ r).takeWhile isNB = s ∧ (s ++ r).dropWhile isNB = r := run_app s r (name_all h).1 hr
theorem lnCls_full : ∀ (n : Nat) (cs : List (List UInt8)) (r : List UInt8), (cs.flatMap (fun (c : List UInt8) => (46 : UInt8) :: c) ++ r).length ≤ n → (∀ c ∈ cs, isName c = true) → Shut isNB r → (∀ t, r ≠ 46 :: t) → lnCls n (cs.flatMap (fun c => 46 :: c) ++ r) = (cs, r)
  | 0, cs, r, h, _, _, _ => by
    have : cs = [] := by
      cases cs with
      | nil => rfl
      | cons c t => simp at h
    subst this
    rfl
  | n + 1, [], r, _, _, _, h => by
    unfold lnCls
    rw [show ([] : List (List UInt8)).flatMap (fun c => 46 :: c) ++ r = r by simp, need_none h]
  | n + 1, c :: cs, r, h, hn, hs, h2 => by
    unfold lnCls
    have e : (c :: cs).flatMap (fun c => 46 :: c) ++ r = 46 :: (c ++ (cs.flatMap (fun c => 46 :: c) ++ r)) := by simp
    rw [e] at h
    rw [e, need_cons]
    simp only
    obtain ⟨e1, e2⟩ := name_run (hn c (by simp)) (shut_cls cs r hs)
    rw [e1, e2, lnCls_full n cs r (by simp at h ⊢; omega) (fun d hd => hn d (by simp [hd])) hs h2]
theorem lnAttr_full (a : List UInt8 × List UInt8) (r : List UInt8) (h1 : isName a.1 = true) (h2 : isValue a.2 = true) : lnAttr (a.1 ++ [61, 34] ++ a.2 ++ [34, 93] ++ r) = (a, r) := by
  have e : a.1 ++ [61, 34] ++ a.2 ++ [34, 93] ++ r = a.1 ++ ([61, 34] ++ (a.2 ++ ([34, 93] ++ r))) := by simp
  obtain ⟨e1, e2⟩ := name_run (r := [61, 34] ++ (a.2 ++ ([34, 93] ++ r))) h1 (shut_cons (by decide) _)
  obtain ⟨e3, e4⟩ := run_app (p := notQ) a.2 ([34, 93] ++ r) (value_all h2) (shut_cons (by decide) _)
  unfold lnAttr
  rw [e, e1, e2, sg_app, e3, e4, sg_app]
theorem lnAts_full : ∀ (n : Nat) (cs : List (List UInt8 × List UInt8)) (r : List UInt8), (cs.flatMap (fun (a : List UInt8 × List UInt8) => (91 : UInt8) :: (a.1 ++ [61, 34] ++ a.2 ++ [34, 93])) ++ r).length ≤ n → (∀ c ∈ cs, isName c.1 = true ∧ isValue c.2 = true) → (∀ t, r ≠ 91 :: t) → lnAts n (cs.flatMap (fun a => 91 :: (a.1 ++ [61, 34] ++ a.2 ++ [34, 93])) ++ r) = (cs, r)
  | 0, cs, r, h, _, _ => by
    have : cs = [] := by
      cases cs with
      | nil => rfl
      | cons c t => simp at h
    subst this
    rfl
  | n + 1, [], r, _, _, h => by
    unfold lnAts
    rw [show ([] : List (List UInt8 × List UInt8)).flatMap (fun a => 91 :: (a.1 ++ [61, 34] ++ a.2 ++ [34, 93])) ++ r = r by simp, need_none h]
  | n + 1, c :: cs, r, h, hn, h2 => by
    unfold lnAts
    have e : (c :: cs).flatMap (fun a => 91 :: (a.1 ++ [61, 34] ++ a.2 ++ [34, 93])) ++ r = 91 :: (c.1 ++ [61, 34] ++ c.2 ++ [34, 93] ++ (cs.flatMap (fun a => 91 :: (a.1 ++ [61, 34] ++ a.2 ++ [34, 93])) ++ r)) := by simp
    rw [e] at h
    rw [e, need_cons]
    simp only
    obtain ⟨m1, m2⟩ := hn c (by simp)
    rw [lnAttr_full c _ m1 m2, lnAts_full n cs r (by simp at h ⊢; omega) (fun d hd => hn d (by simp [hd])) h2]
theorem lnNode_full (up : Int) (x : Nd) (r : List UInt8) (h : right x = true) (hf : Fol r) : lnNode up (showNd x ++ r) = ({ x with up := up }, r) := by
  obtain ⟨h1, h2, h3, h4, h5, h6⟩ := right_parts h
  have hA : Shut isNB (x.ats.flatMap (fun a => 91 :: (a.1 ++ [61, 34] ++ a.2 ++ [34, 93])) ++ r) := shut_ats _ _ hf.shut
  have hC : Shut isNB (x.cls.flatMap (fun c => 46 :: c) ++ (x.ats.flatMap (fun a => 91 :: (a.1 ++ [61, 34] ++ a.2 ++ [34, 93])) ++ r)) := shut_cls _ _ hA
  have e4 := lnAts_full _ x.ats r (Nat.le_refl _) h6 (hf.ne 91 (by decide) (by decide) (by decide))
  have e3 := lnCls_full _ x.cls (x.ats.flatMap (fun a => 91 :: (a.1 ++ [61, 34] ++ a.2 ++ [34, 93])) ++ r) (Nat.le_refl _) h4 hA (ne_ats 46 (by decide) _ _ (hf.ne 46 (by decide) (by decide) (by decide)))
  have n35 := ne_cls 35 (by decide) x.cls _ (ne_ats 35 (by decide) x.ats _ (hf.ne 35 (by decide) (by decide) (by decide)))
  have e0 : showNd x ++ r = x.tag ++ ((if x.id = [] then [] else 35 :: x.id) ++ (x.cls.flatMap (fun c => 46 :: c) ++ (x.ats.flatMap (fun a => 91 :: (a.1 ++ [61, 34] ++ a.2 ++ [34, 93])) ++ r))) := by
    unfold showNd; simp only [List.append_assoc]
  generalize hT : x.cls.flatMap (fun c => 46 :: c) ++ (x.ats.flatMap (fun a => 91 :: (a.1 ++ [61, 34] ++ a.2 ++ [34, 93])) ++ r) = T at *
  have hI : lnId ((if x.id = [] then [] else 35 :: x.id) ++ T) = (x.id, T) := by
    unfold lnId
    by_cases hid : x.id = []
    · rw [if_pos hid, List.nil_append, need_none n35, hid]
    · rw [if_neg hid, List.cons_append, need_cons]
      simp only
      obtain ⟨a1, a2⟩ := name_run (h2.resolve_left hid) hC
      rw [a1, a2]
  have hS : Shut isNB ((if x.id = [] then [] else 35 :: x.id) ++ T) := by
    by_cases hid : x.id = []
    · rw [if_pos hid]; exact hC
    · rw [if_neg hid]; exact shut_cons (by decide) _
  obtain ⟨t1, t2⟩ := name_run h1 hS
  unfold lnNode
  rw [e0, t1, t2, hI]
  simp only
  rw [e3]
  simp only
  rw [e4]
  rfl
mutual
def lnEl : Nat → List Nd → Int → List UInt8 → List Nd × List UInt8
  | 0, ns, _, l => (ns, l)
  | f + 1, ns, up, l => match need 40 (lnNode up l).2 with
    | none => (ns ++ [(lnNode up l).1], (lnNode up l).2)
    | some l2 => lnKids f (ns ++ [(lnNode up l).1]) ns.length l2
def lnKids : Nat → List Nd → Int → List UInt8 → List Nd × List UInt8
  | 0, ns, _, l => (ns, l)
  | f + 1, ns, n, l => if ns.length ≤ 64 then match need 32 (lnEl f ns n l).2 with
      | some l2 => lnKids f (lnEl f ns n l).1 n l2
      | none => ((lnEl f ns n l).1, sg [41] (lnEl f ns n l).2)
    else (ns, sg [41] l)
end
theorem ln_full : ∀ (g : F), (∀ (f : Nat) (ns : List Nd) (up : Int) (rest : List UInt8), g.len ≠ 0 → RightF g → ns.length + g.size ≤ 64 → 2 * (65 - ns.length) + 1 ≤ f → lnKids f ns up (textF g ++ 41 :: rest) = (ns ++ layF g ns.length up, rest)) := by
  intro g
  induction g with
  | nil => intro _ _ _ _ h; simp [F.len] at h
  | cons x k r ihk ihr =>
    intro f ns up rest _ hR hs hf
    obtain ⟨hx, hk, hr⟩ := hR
    simp only [F.size] at hs
    obtain ⟨f, rfl⟩ : ∃ f', f = f' + 2 := ⟨f - 2, by omega⟩
    have hT : ∀ t, Fol2 t → lnEl (f + 1) ns up (showNd x ++ (if k.len = 0 then [] else 40 :: (textF k ++ [41])) ++ t) = (ns ++ layT x k ns.length up, t) := by
      intro t ht
      unfold lnEl
      rw [List.append_assoc]
      by_cases hk0 : k.len = 0
      · have hk1 : k = .nil := by
          cases k with
          | nil => rfl
          | cons a b c => simp [F.len] at hk0
        subst hk1
        rw [if_pos hk0, List.nil_append, lnNode_full up x t hx ht.fol]
        simp only
        rw [need_none ht.ne]
        simp [layT, layF]
      · rw [if_neg hk0, List.cons_append, lnNode_full up x _ hx (Or.inr ⟨40, textF k ++ [41] ++ t, rfl, Or.inl rfl⟩)]
        simp only
        rw [need_cons]
        simp only
        have := ihk f (ns ++ [{ x with up := up }]) ns.length t hk0 hk (by simp; omega) (by simp; omega)
        rw [List.append_assoc, List.singleton_append, this]
        simp [layT]
    unfold lnKids
    rw [if_pos (by omega)]
    by_cases hr0 : r.len = 0
    · have hr1 : r = .nil := by
        cases r with
        | nil => rfl
        | cons a b c => simp [F.len] at hr0
      subst hr1
      have h1 := hT (41 :: rest) (Or.inr ⟨41, rest, rfl, Or.inl rfl⟩)
      rw [textF, if_pos hr0, List.append_nil, h1]
      simp only
      rw [need_none (c := 32) (l := 41 :: rest) (fun t e => by injection e with e1 _; cases e1), (sg_one 41 _).2, need_cons]
      simp [layT, layF]
    · have h1 := hT (32 :: (textF r ++ 41 :: rest)) (Or.inr ⟨32, _, rfl, Or.inr rfl⟩)
      rw [textF, if_neg hr0, List.append_assoc, List.cons_append, h1]
      simp only
      rw [need_cons]
      simp only
      have h2 := ihr (f + 1) (ns ++ layT x k ns.length up) up rest hr0 hr (by simp [layT_len]; omega) (by simp [layT_len]; omega)
      rw [h2, lay_cons]
theorem ln_tree (x : Nd) (k : F) (hx : right x = true) (hk : RightF k) (hs : k.size + 1 ≤ 64) : lnEl 130 [] (-1) (textF (.cons x k .nil)) = (layT x k 0 (-1), []) := by
  show lnEl (129 + 1) [] (-1) _ = _
  unfold lnEl
  rw [textF, if_pos (show F.nil.len = 0 from rfl), List.append_nil]
  by_cases hk0 : k.len = 0
  · have hk1 : k = .nil := by
      cases k with
      | nil => rfl
      | cons a b c => simp [F.len] at hk0
    subst hk1
    rw [if_pos hk0, lnNode_full (-1) x [] hx (Or.inl rfl)]
    simp [need, layT, layF]
  · rw [if_neg hk0, lnNode_full (-1) x _ hx (Or.inr ⟨40, textF k ++ [41], rfl, Or.inl rfl⟩)]
    simp only
    rw [need_cons]
    simp only
    have := ln_full k 129 ([] ++ [{ x with up := (-1 : Int) }]) (0 : Nat) [] hk0 hk (by simp; omega) (by simp)
    rw [show (([] : List Nd).length : Int) = ((0 : Nat) : Int) from rfl, this]
    simp [layT]
/-- WHAT THE TWO READERS ANSWER IS THE SAME. -/
theorem ln_read (l : List UInt8) : readDoc l = if checkDoc (lnEl 130 [] (-1) l).1 = 0 ∧ showDoc (lnEl 130 [] (-1) l).1 = l then some (lnEl 130 [] (-1) l).1 else none := by
  split
  · rename_i h
    exact (read_iff _ _).2 ⟨h.1, h.2.symm⟩
  · rename_i h
    cases hr : readDoc l with
    | none => rfl
    | some ns =>
      obtain ⟨h1, h2⟩ := (read_iff _ _).1 hr
      obtain ⟨x, k, e1, hx, hk, hs⟩ := root_tree h1
      have h3 := ln_tree x k hx hk hs
      rw [← show_tree, ← e1, ← h2] at h3
      rw [h3] at h
      exact absurd ⟨h1, h2.symm⟩ h
/-- how long what is read is -/
theorem ln_lens : ∀ (f : Nat), (∀ ns up l, 1 ≤ f → ns.length ≤ 64 → ns.length < (lnEl f ns up l).1.length ∧ (lnEl f ns up l).1.length ≤ 65) ∧ (∀ ns n l, ns.length ≤ 65 → ns.length ≤ (lnKids f ns n l).1.length ∧ (lnKids f ns n l).1.length ≤ 65) := by
  intro f
  induction f with
  | zero => exact ⟨fun _ _ _ h => by omega, fun ns n l h => by simp [lnKids]; omega⟩
  | succ f ih =>
    refine ⟨fun ns up l _ hn => ?_, fun ns n l hn => ?_⟩
    · unfold lnEl
      split
      · simp; omega
      · rename_i l2 _
        have := ih.2 (ns ++ [(lnNode up l).1]) ns.length l2 (by simp; omega)
        simp at this
        omega
    · unfold lnKids
      split
      · rename_i h64
        rcases Nat.eq_zero_or_pos f with hf | hf
        · subst hf
          simp only [lnEl]
          split
          · simp [lnKids]; omega
          · simp; omega
        · have h1 := ih.1 ns n l hf h64
          split
          · rename_i l2 _
            have := ih.2 (lnEl f ns n l).1 n l2 (by omega)
            omega
          · simp only; omega
      · simp only; omega
end Go.Proofs.Ythlpcmgeelkncaa.Pl
