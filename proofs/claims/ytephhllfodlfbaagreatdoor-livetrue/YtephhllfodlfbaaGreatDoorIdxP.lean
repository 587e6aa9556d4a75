/-
  Indexes in plain lists: entries that rise by kind and name, each with the places of its elements. What is put in one by one is the one such list there is. No program in this text.
-/
import Derived.Test.YtephhllfodlfbaaGreatDoorMem
namespace Go.Proofs.YtephhllfodlfbaaGreatDoor.Pl

theorem bl_irrefl : ∀ a : List UInt8, Op.bytesLess a a = false
  | [] => rfl
  | x :: r => by simp [Op.bytesLess, bl_irrefl r]
theorem bl_trans : ∀ a b c : List UInt8, Op.bytesLess a b = true → Op.bytesLess b c = true → Op.bytesLess a c = true
  | [], b, c, _, h2 => by
    cases c with
    | nil => cases b <;> simp [Op.bytesLess] at h2
    | cons z t => rfl
  | x :: r, [], c, h1, _ => by simp [Op.bytesLess] at h1
  | x :: r, y :: s, [], _, h2 => by simp [Op.bytesLess] at h2
  | x :: r, y :: s, z :: t, h1, h2 => by
    simp only [Op.bytesLess, Bool.or_eq_true, Bool.and_eq_true, decide_eq_true_eq, beq_iff_eq] at *
    rcases h1 with h1 | ⟨rfl, h1⟩
    · rcases h2 with h2 | ⟨rfl, h2⟩
      · exact Or.inl (UInt8.lt_trans h1 h2)
      · exact Or.inl h1
    · rcases h2 with h2 | ⟨rfl, h2⟩
      · exact Or.inl h2
      · exact Or.inr ⟨rfl, bl_trans r s t h1 h2⟩
theorem bl_total : ∀ a b : List UInt8, Op.bytesLess a b = true ∨ a = b ∨ Op.bytesLess b a = true
  | [], [] => Or.inr (Or.inl rfl)
  | [], y :: s => Or.inl rfl
  | x :: r, [] => Or.inr (Or.inr rfl)
  | x :: r, y :: s => by
    simp only [Op.bytesLess, Bool.or_eq_true, Bool.and_eq_true, decide_eq_true_eq, beq_iff_eq]
    by_cases h1 : x < y
    · exact Or.inl (Or.inl h1)
    · by_cases h2 : y < x
      · exact Or.inr (Or.inr (Or.inl h2))
      · have e : x = y := by
          apply UInt8.toNat_inj.1
          rw [UInt8.lt_iff_toNat_lt] at h1 h2
          omega
        subst e
        rcases bl_total r s with h | h | h
        · exact Or.inl (Or.inr ⟨rfl, h⟩)
        · exact Or.inr (Or.inl (by rw [h]))
        · exact Or.inr (Or.inr (Or.inr ⟨rfl, h⟩))
/-- a kind and a name -/
abbrev Key := Int × List UInt8
def keyLess (a b : Key) : Bool := decide (a.1 < b.1) || (a.1 == b.1 && Op.bytesLess a.2 b.2)
theorem kl_irrefl (a : Key) : keyLess a a = false := by simp [keyLess, bl_irrefl]
theorem kl_trans {a b c : Key} (h1 : keyLess a b = true) (h2 : keyLess b c = true) : keyLess a c = true := by
  simp only [keyLess, Bool.or_eq_true, Bool.and_eq_true, decide_eq_true_eq, beq_iff_eq] at *
  rcases h1 with h1 | ⟨e1, h1⟩
  · rcases h2 with h2 | ⟨e2, h2⟩
    · left; omega
    · left; omega
  · rcases h2 with h2 | ⟨e2, h2⟩
    · left; omega
    · right; exact ⟨e1.trans e2, bl_trans _ _ _ h1 h2⟩
theorem kl_total (a b : Key) : keyLess a b = true ∨ a = b ∨ keyLess b a = true := by
  simp only [keyLess, Bool.or_eq_true, Bool.and_eq_true, decide_eq_true_eq, beq_iff_eq]
  rcases Int.lt_trichotomy a.1 b.1 with h | h | h
  · exact Or.inl (Or.inl h)
  · rcases bl_total a.2 b.2 with h2 | h2 | h2
    · exact Or.inl (Or.inr ⟨h, h2⟩)
    · exact Or.inr (Or.inl (Prod.ext h h2))
    · exact Or.inr (Or.inr (Or.inr ⟨h.symm, h2⟩))
  · exact Or.inr (Or.inr (Or.inl h))
theorem kl_ne {a b : Key} (h : keyLess a b = true) : a ≠ b := by
  intro e; subst e; rw [kl_irrefl] at h; cases h
/-- an entry -/
structure En where
  key : Key
  nodes : List Nat
/-- the keys of an element, in their order -/
def keysOf (x : Nd) : List Key := (1, x.tag) :: ((if x.id = [] then [] else [(2, x.id)]) ++ x.cls.map fun c => (3, c))
/-- one place more for a key -/
def put1 (k : Key) (n : Nat) : List En → List En
  | [] => [⟨k, [n]⟩]
  | e :: r => if keyLess e.key k = true then e :: put1 k n r else if keyLess k e.key = true then ⟨k, [n]⟩ :: e :: r else ⟨e.key, e.nodes ++ [n]⟩ :: r
def putAll (ks : List Key) (n : Nat) (out : List En) : List En := ks.foldl (fun o k => put1 k n o) out
/-- rising, and no entry without a place -/
def Ups : List En → Prop
  | [] => True
  | e :: r => e.nodes ≠ [] ∧ (∀ f ∈ r, keyLess e.key f.key = true) ∧ Ups r
/-- the places of a key -/
def placesOf (k : Key) : List En → List Nat
  | [] => []
  | e :: r => if e.key = k then e.nodes else placesOf k r
theorem places_none {k : Key} : ∀ {l : List En}, (∀ e ∈ l, e.key ≠ k) → placesOf k l = []
  | [], _ => rfl
  | e :: r, h => by
    rw [placesOf, if_neg (h e (by simp))]
    exact places_none fun f hf => h f (by simp [hf])
theorem put1_mem {k : Key} {n : Nat} : ∀ {l : List En} {e : En}, e ∈ put1 k n l → e.key = k ∨ ∃ f ∈ l, f.key = e.key
  | [], e, h => by
    simp [put1] at h
    subst h
    exact Or.inl rfl
  | f :: r, e, h => by
    unfold put1 at h
    split at h
    · rcases List.mem_cons.1 h with h | h
      · subst h; exact Or.inr ⟨e, by simp, rfl⟩
      · rcases put1_mem h with h | ⟨g, hg, he⟩
        · exact Or.inl h
        · exact Or.inr ⟨g, by simp [hg], he⟩
    · split at h
      · rcases List.mem_cons.1 h with h | h
        · subst h; exact Or.inl rfl
        · exact Or.inr ⟨e, h, rfl⟩
      · rcases List.mem_cons.1 h with h | h
        · subst h; exact Or.inr ⟨f, by simp, rfl⟩
        · exact Or.inr ⟨e, by simp [h], rfl⟩
theorem put1_ups {k : Key} {n : Nat} : ∀ {l : List En}, Ups l → Ups (put1 k n l)
  | [], _ => ⟨by simp, by simp, trivial⟩
  | e :: r, ⟨h1, h2, h3⟩ => by
    unfold put1
    by_cases a : keyLess e.key k = true
    · rw [if_pos a]
      refine ⟨h1, fun f hf => ?_, put1_ups h3⟩
      rcases put1_mem hf with h | ⟨g, hg, he⟩
      · rw [h]; exact a
      · rw [← he]; exact h2 g hg
    · rw [if_neg a]
      by_cases b : keyLess k e.key = true
      · rw [if_pos b]
        refine ⟨by simp, fun f hf => ?_, h1, h2, h3⟩
        rcases List.mem_cons.1 hf with h | h
        · rw [h]; exact b
        · exact kl_trans b (h2 f h)
      · rw [if_neg b]
        exact ⟨by simp, h2, h3⟩
theorem put1_places {k : Key} {n : Nat} (q : Key) : ∀ {l : List En}, Ups l → placesOf q (put1 k n l) = if q = k then placesOf k l ++ [n] else placesOf q l
  | [], _ => by
    by_cases h : q = k
    · subst h; simp [put1, placesOf]
    · rw [if_neg h]
      show (if k = q then [n] else placesOf q []) = placesOf q []
      rw [if_neg (fun e : k = q => h e.symm)]
  | e :: r, ⟨h1, h2, h3⟩ => by
    unfold put1
    by_cases a : keyLess e.key k = true
    · have hek : e.key ≠ k := kl_ne a
      rw [if_pos a, placesOf, put1_places q h3]
      by_cases hq : q = k
      · subst hq
        rw [if_neg hek, if_pos rfl, if_pos rfl, placesOf, if_neg hek]
      · rw [if_neg hq, if_neg hq, placesOf]
    · rw [if_neg a]
      by_cases b : keyLess k e.key = true
      · have hne : ∀ f ∈ e :: r, f.key ≠ k := by
          intro f hf
          rcases List.mem_cons.1 hf with h | h
          · rw [h]; exact fun e => kl_ne b e.symm
          · exact fun e2 => kl_ne (kl_trans b (h2 f h)) e2.symm
        rw [if_pos b, placesOf]
        by_cases hq : q = k
        · subst hq
          rw [if_pos rfl, if_pos rfl, places_none hne]; rfl
        · rw [if_neg (fun e : k = q => hq e.symm), if_neg hq]
      · have hek : e.key = k := by
          rcases kl_total e.key k with h | h | h
          · exact absurd h a
          · exact h
          · exact absurd h b
        rw [if_neg b, placesOf]
        by_cases hq : q = k
        · subst hq
          rw [if_pos hek, if_pos rfl, placesOf, if_pos hek]
        · rw [if_neg (fun e2 => hq (e2.symm.trans hek)), if_neg hq, placesOf, if_neg (fun e2 => hq (e2.symm.trans hek))]
/-- there is one such list -/
theorem ups_same : ∀ {l m : List En}, Ups l → Ups m → (∀ k, placesOf k l = placesOf k m) → l = m
  | [], [], _, _, _ => rfl
  | [], e :: r, _, ⟨h1, _, _⟩, h => by
    have := h e.key
    rw [placesOf, placesOf, if_pos rfl] at this
    exact absurd this.symm h1
  | e :: r, [], ⟨h1, _, _⟩, _, h => by
    have := h e.key
    rw [placesOf, placesOf, if_pos rfl] at this
    exact absurd this h1
  | e :: r, f :: s, ⟨h1, h2, h3⟩, ⟨g1, g2, g3⟩, h => by
    have hk : e.key = f.key := by
      rcases kl_total e.key f.key with a | a | a
      · have := h e.key
        rw [placesOf, if_pos rfl, places_none (l := f :: s)] at this
        · exact absurd this h1
        · intro q hq
          rcases List.mem_cons.1 hq with hq | hq
          · rw [hq]; exact fun x => kl_ne a x.symm
          · exact fun x => kl_ne (kl_trans a (g2 q hq)) x.symm
      · exact a
      · have := h f.key
        rw [placesOf.eq_2 f.key f s, if_pos rfl, places_none (l := e :: r)] at this
        · exact absurd this.symm g1
        · intro q hq
          rcases List.mem_cons.1 hq with hq | hq
          · rw [hq]; exact fun x => kl_ne a x.symm
          · exact fun x => kl_ne (kl_trans a (h2 q hq)) x.symm
    have hn : e.nodes = f.nodes := by
      have := h e.key
      rwa [placesOf, if_pos rfl, placesOf, if_pos hk.symm] at this
    have hr : r = s := by
      refine ups_same h3 g3 fun k => ?_
      by_cases hke : e.key = k
      · rw [places_none fun q hq x => kl_ne (h2 q hq) (hke.trans x.symm), places_none fun q hq x => kl_ne (g2 q hq) (hk.symm.trans (hke.trans x.symm))]
      · have := h k
        rwa [placesOf, if_neg hke, placesOf, if_neg (fun x => hke (hk.trans x))] at this
    obtain ⟨ek, en⟩ := e
    obtain ⟨fk, fn⟩ := f
    simp only at hk hn
    rw [hk, hn, hr]
/-- the index of the first elements -/
def idxTo (ns : List Nd) : Nat → List En
  | 0 => []
  | n + 1 => match ns[n]? with
    | none => idxTo ns n
    | some x => putAll (keysOf x) n (idxTo ns n)
theorem putAll_ups (n : Nat) : ∀ (ks : List Key) {l : List En}, Ups l → Ups (putAll ks n l)
  | [], _, h => h
  | k :: ks, l, h => by
    show Ups (putAll ks n (put1 k n l))
    exact putAll_ups n ks (put1_ups h)
theorem putAll_places (n : Nat) (q : Key) : ∀ (ks : List Key) {l : List En}, Ups l → ks.Nodup → placesOf q (putAll ks n l) = placesOf q l ++ (if q ∈ ks then [n] else [])
  | [], l, _, _ => by simp [putAll]
  | k :: ks, l, h, hd => by
    show placesOf q (putAll ks n (put1 k n l)) = _
    obtain ⟨h1, h2⟩ := List.nodup_cons.1 hd
    rw [putAll_places n q ks (put1_ups h) h2, put1_places q h]
    by_cases hq : q = k
    · subst hq
      rw [if_pos rfl, if_neg h1, if_pos (by simp), List.append_nil]
    · rw [if_neg hq]
      by_cases hm : q ∈ ks
      · rw [if_pos hm, if_pos (by simp [hm])]
      · rw [if_neg hm, if_neg (by simp [hm, hq])]
theorem idx_ups (ns : List Nd) : ∀ n, Ups (idxTo ns n)
  | 0 => trivial
  | n + 1 => by
    unfold idxTo
    split
    · exact idx_ups ns n
    · exact putAll_ups n _ (idx_ups ns n)
/-- the places of a key among the first elements -/
def whoTo (ns : List Nd) (k : Key) (n : Nat) : List Nat := (List.range n).filter fun i => match ns[i]? with | some x => decide (k ∈ keysOf x) | none => false
theorem idx_places {ns : List Nd} (hd : ∀ x ∈ ns, (keysOf x).Nodup) (k : Key) : ∀ n, placesOf k (idxTo ns n) = whoTo ns k n
  | 0 => rfl
  | n + 1 => by
    have ih := idx_places hd k n
    unfold whoTo at *
    rw [List.range_succ, List.filter_append, ← ih, show idxTo ns (n + 1) = (match ns[n]? with | none => idxTo ns n | some x => putAll (keysOf x) n (idxTo ns n)) from rfl]
    cases h : ns[n]? with
    | none => simp [h]
    | some x =>
      simp only
      rw [putAll_places n k _ (idx_ups ns n) (hd x (List.mem_of_getElem? h))]
      by_cases hk : k ∈ keysOf x
      · simp [h, hk]
      · simp [h, hk]
/-- WHAT AN INDEX IS: the one list that rises, with no empty entry, that has for every key the elements that have it. -/
theorem idx_only {ns : List Nd} (hd : ∀ x ∈ ns, (keysOf x).Nodup) {l : List En} (hu : Ups l) (hl : ∀ k, placesOf k l = whoTo ns k ns.length) : l = idxTo ns ns.length :=
  ups_same hu (idx_ups ns _) fun k => (hl k).trans (idx_places hd k _).symm
theorem rise_less : ∀ {l : List (List UInt8)}, rise l = true → l.Pairwise (fun a b => Op.bytesLess a b = true)
  | [], _ => List.Pairwise.nil
  | [a], _ => List.pairwise_singleton _ _
  | a :: b :: r, h => by
    simp only [rise, Bool.and_eq_true] at h
    have ih := rise_less h.2
    refine List.pairwise_cons.2 ⟨fun c hc => ?_, ih⟩
    rcases List.mem_cons.1 hc with e | e
    · rw [e]; exact h.1
    · exact bl_trans _ _ _ h.1 ((List.pairwise_cons.1 ih).1 c e)
theorem keys_nodup {x : Nd} (h : right x = true) : (keysOf x).Nodup := by
  have hr : rise x.cls = true := by
    unfold right names at h
    simp only [Bool.and_eq_true] at h
    exact h.1.1.2.2
  have hc : (x.cls.map fun c => ((3 : Int), c)).Nodup := by
    rw [List.nodup_iff_pairwise_ne, List.pairwise_map]
    refine (rise_less hr).imp fun {a b} hab e => ?_
    have : a = b := (Prod.mk.inj e).2
    subst this
    rw [bl_irrefl] at hab
    cases hab
  unfold keysOf
  rw [List.nodup_cons]
  refine ⟨?_, ?_⟩
  · simp only [List.mem_append, List.mem_map, not_or, not_exists, not_and]
    refine ⟨?_, fun c _ e => by have := (Prod.mk.inj e).1; omega⟩
    split
    · simp
    · intro e
      have := (Prod.mk.inj (List.mem_singleton.1 e)).1
      omega
  · split
    · exact hc
    · rw [List.singleton_append, List.nodup_cons]
      refine ⟨?_, hc⟩
      simp only [List.mem_map, not_exists, not_and]
      exact fun c _ e => by have := (Prod.mk.inj e).1; omega
end Go.Proofs.YtephhllfodlfbaaGreatDoor.Pl
