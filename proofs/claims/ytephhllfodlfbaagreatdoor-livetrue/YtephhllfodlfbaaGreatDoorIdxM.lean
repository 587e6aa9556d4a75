/-
  Lists of numbers: whether they are the same, told either way.
-/
import Derived.Test.YtephhllfodlfbaaGreatDoorMbD
import Derived.Test.YtephhllfodlfbaaGreatDoorIdxP
import Derived.Test.YtephhllfodlfbaaGreatDoorAsk
import Derived.Laws.CopyOwn
import Derived.Laws.OwnMore
namespace Go.Proofs.YtephhllfodlfbaaGreatDoor
open Go.RowKit

/-- nothing but draws between two worlds -/
def Drawn (w w' : World) : Prop := ∃ m, w' = w.drewN m
theorem Drawn.refl (w : World) : Drawn w w := ⟨0, rfl⟩
theorem Drawn.next {w w' : World} (h : Drawn w w') (n : Nat) : Drawn w (w'.drewN n) := by
  obtain ⟨m, rfl⟩ := h
  exact ⟨m + n, by rw [World.drewN_drewN]⟩
theorem Drawn.below {w w' : World} (h : Drawn w w') : Below w.heap.size w w' := by
  obtain ⟨m, rfl⟩ := h
  exact below_drewN (Below.refl _ _) m
def sameI (ks ls : List Int) : Bool := decide (ks = ls)
theorem take_next {α : Type} {ks ls : List α} {k : Nat} (h1 : k < ks.length) (h2 : k < ls.length) (h : ks.take k = ls.take k) (he : ks[k] = ls[k]) : ks.take (k + 1) = ls.take (k + 1) := by
  rw [List.take_succ_eq_append_getElem h1, List.take_succ_eq_append_getElem h2, h, he]
set_option maxHeartbeats 2000000 in
theorem sameInts_any (v1 v2 : Value) (ks ls : List Int) (w : World) (hl : ks.length ≤ maxLen) (h1 : IntsAt w v1 ks) (h2 : IntsAt w v2 ls) :
    Calls Tryz.prog 13 #[v1, v2] w fun e w' => e = .returned (.bool (sameI ks ls)) ∧ Drawn w w' := by
  obtain ⟨a1, c1, rfl, h1⟩ := h1
  obtain ⟨a2, c2, rfl, h2⟩ := h2
  have H1 : Hid _ := h1
  have H2 : Hid _ := h2
  clear h1 h2
  unfold maxLen at hl
  by_cases hlen : ks.length = ls.length
  · have hle : ((ks.length : Int) == (ls.length : Int)) = true := by simp; omega
    have hle2 : ((ks.length : Int) != (ls.length : Int)) = false := by simp; omega
    go_enter Tryz.func13, Tryz.ntmps13
    go_wp2
    go_loopw [5] (fun i wr => ∃ k : Nat, k ≤ ks.length ∧ i = .int .i64 k ∧ Hid (ks.take k = ls.take k) ∧ Hid (Drawn w wr)) (fun i _ => ks.length - (intOf i).toNat)
    case atStart => exact ⟨0, Nat.zero_le _, rfl, by simp [Hid], Drawn.refl _⟩
    case round =>
      obtain ⟨k, hk, rfl, ht, hD⟩ := hrel
      have hB := hD.out.below
      by_cases hlt : k < ks.length
      · have hlt2 : k < ls.length := by omega
        rcases H1.out with h0 | ⟨b, o, rfl, hc⟩
        · subst h0; simp at hlt
        rcases H2.out with h0 | ⟨b2, o2, rfl, hc2⟩
        · subst h0; simp at hlt2
        have n0 : wr.cell? ⟨b, o + k, none⟩ = some (.int .i64 ks[k]) := cell_on hB (hc k hlt)
        have n1 : wr.cell? ⟨b2, o2 + k, none⟩ = some (.int .i64 ls[k]) := cell_on hB (hc2 k hlt2)
        have i1 : (0 : Int) ≤ (k : Int) := by omega
        have i2 : (k : Int) < (ks.length : Int) := by omega
        have i3 : (k : Int) < (ls.length : Int) := by omega
        clear hc hc2
        by_cases he : ks[k] = ls[k]
        · have HT : Hid (ks.take (k + 1) = ls.take (k + 1)) := take_next hlt hlt2 ht.out he
          rw [← he] at n1
          clear ht he
          generalize ks[k] = u at *
          go_wp2
          go_quiet (fail)
          go_wp2
          exact ⟨⟨k + 1, hlt, by go_num, HT, hD.out.next _⟩, by simp [intOf]; omega⟩
        · have HF : Hid (sameI ks ls = false) := by
            unfold Hid sameI
            rw [decide_eq_false_iff_not]
            intro e
            subst e
            exact he rfl
          have he2 : (ks[k] == ls[k]) = false := by simpa using he
          have he3 : (ks[k] != ls[k]) = true := by simpa using he
          clear ht he
          generalize ks[k] = u at *
          generalize ls[k] = t at *
          go_wp2
          go_quiet (fail)
          go_wp2
          go_ret
          exact ⟨by rw [HF.out]; rfl, hD.out.next _⟩
      · have HT : Hid (sameI ks ls = true) := by
          have := ht.out
          rw [List.take_of_length_le (by omega), List.take_of_length_le (by omega)] at this
          simp [Hid, sameI, this]
        go_wp2
        go_ret
        exact ⟨by rw [HT.out]; rfl, hD.out⟩
  · have hle : ((ks.length : Int) == (ls.length : Int)) = false := by simp; omega
    have hle2 : ((ks.length : Int) != (ls.length : Int)) = true := by simp; omega
    have HF : Hid (sameI ks ls = false) := by
      unfold Hid sameI
      rw [decide_eq_false_iff_not]
      intro e
      subst e
      exact hlen rfl
    go_enter Tryz.func13, Tryz.ntmps13
    go_wp2
    go_ret
    exact ⟨by rw [HF.out]; rfl, Drawn.refl _⟩
/-- an entry: its key, its places -/
abbrev Pl.Er := Pl.Key × List Int
def EnAt (w : World) (b o : Nat) (e : Pl.Er) : Prop := ∃ vi, w.cell? ⟨b, o, none⟩ = some (.int .i64 e.1.1) ∧ w.cell? ⟨b, o + 1, none⟩ = some (.string ⟨e.1.2.toArray⟩) ∧ w.cell? ⟨b, o + 2, none⟩ = some vi ∧ IntsAt w vi e.2
/-- a list of entries -/
def EnsAt (w : World) (v : Value) (l : List Pl.Er) : Prop := ∃ a cap, v = .slice a l.length cap ∧ (l = [] ∨ ∃ b o, a = some ⟨b, o, none⟩ ∧ ∀ i (h : i < l.length), EnAt w b (o + i * 3) l[i])
theorem EnAt.on {w w' : World} {b o : Nat} {e : Pl.Er} (h : EnAt w b o e) (hb : Below w.heap.size w w') : EnAt w' b o e := by
  obtain ⟨vi, h0, h1, h2, h3⟩ := h
  exact ⟨vi, cell_on hb h0, cell_on hb h1, cell_on hb h2, h3.on hb⟩
theorem EnsAt.on {w w' : World} {v : Value} {l : List Pl.Er} (h : EnsAt w v l) (hb : Below w.heap.size w w') : EnsAt w' v l := by
  obtain ⟨a, cap, rfl, h⟩ := h
  refine ⟨a, cap, rfl, ?_⟩
  rcases h with h | ⟨b, o, ha, hc⟩
  · exact Or.inl h
  · exact Or.inr ⟨b, o, ha, fun i hi => (hc i hi).on hb⟩
def sameE (l m : List Pl.Er) : Bool := decide (l = m)
set_option maxRecDepth 100000 in
set_option maxHeartbeats 4000000 in
theorem sameIndexes_any (v1 v2 : Value) (l m : List Pl.Er) (w : World) (hl : l.length ≤ maxLen) (hs : ∀ e ∈ l, e.2.length ≤ maxLen) (h1 : EnsAt w v1 l) (h2 : EnsAt w v2 m) :
    Calls Tryz.prog 32 #[v1, v2] w fun e w' => e = .returned (.bool (sameE l m)) ∧ Drawn w w' := by
  obtain ⟨a1, c1, rfl, h1⟩ := h1
  obtain ⟨a2, c2, rfl, h2⟩ := h2
  have H1 : Hid _ := h1
  have H2 : Hid _ := h2
  have HS : Hid _ := hs
  clear h1 h2 hs
  unfold maxLen at hl
  by_cases hlen : l.length = m.length
  · have hle : ((l.length : Int) == (m.length : Int)) = true := by simp; omega
    have hle2 : ((l.length : Int) != (m.length : Int)) = false := by simp; omega
    have HLn : Hid (l.length = m.length) := hlen
    clear hlen
    go_enter Tryz.func32, Tryz.ntmps32
    go_wp2
    clear hle hle2
    go_loopw [5] (fun i wr => ∃ k : Nat, k ≤ l.length ∧ i = .int .i64 k ∧ Hid (l.take k = m.take k) ∧ Hid (Drawn w wr)) (fun i _ => l.length - (intOf i).toNat)
    case atStart => exact ⟨0, Nat.zero_le _, rfl, by simp [Hid], Drawn.refl _⟩
    case round =>
      obtain ⟨k, hk, rfl, ht, hD⟩ := hrel
      have hB := hD.out.below
      by_cases hlt : k < l.length
      · have hlt2 : k < m.length := by have := HLn.out; omega
        rcases H1.out with h0 | ⟨b, o, rfl, hc⟩
        · subst h0; simp at hlt
        rcases H2.out with h0 | ⟨b2, o2, rfl, hc2⟩
        · subst h0; simp at hlt2
        obtain ⟨vi, n0, n1, n2, n3⟩ := (hc k hlt).on hB
        obtain ⟨wi, p0, p1, p2, p3⟩ := (hc2 k hlt2).on hB
        have hlk := HS.out l[k] (List.getElem_mem hlt)
        have i1 : (0 : Int) ≤ (k : Int) := by omega
        have i2 : (k : Int) < (l.length : Int) := by omega
        have i3 : (k : Int) < (m.length : Int) := by omega
        have HT : Hid (l[k] = m[k] → l.take (k + 1) = m.take (k + 1)) := fun he => take_next hlt hlt2 ht.out he
        have HF : Hid (l[k] ≠ m[k] → sameE l m = false) := by
          intro he
          unfold sameE
          rw [decide_eq_false_iff_not]
          intro e
          subst e
          exact he rfl
        obtain ⟨ai, ci, rfl, _⟩ := id n3
        obtain ⟨aj, cj, rfl, _⟩ := id p3
        have N3 : Hid (IntsAt _ _ _) := n3
        have P3 : Hid (IntsAt _ _ _) := p3
        clear hc hc2 n3 p3 ht
        generalize l[k] = x at *
        generalize m[k] = y at *
        obtain ⟨⟨k1, s1⟩, q1⟩ := x
        obtain ⟨⟨k2, s2⟩, q2⟩ := y
        dsimp only at n0 n1 n2 p0 p1 p2 hlk N3 P3
        have q : ∀ n, Calls Tryz.prog 13 #[.slice ai q1.length ci, .slice aj q2.length cj] (wr.drewN n) fun e w' => e = .returned (.bool (sameI q1 q2)) ∧ ∃ m, w' = (wr.drewN n).drewN m := fun n => sameInts_any _ _ q1 q2 _ hlk (N3.out.on (below_drewN (Below.refl _ _) n)) (P3.out.on (below_drewN (Below.refl _ _) n))
        cases hk1 : (k1 == k2) with
        | false =>
          have hk2 : (k1 != k2) = true := by simp [bne, hk1]
          have HF2 : Hid (sameE l m = false) := HF.out (by intro e; injection e with e1 _; injection e1 with e2 _; subst e2; simp at hk1)
          go_wp2
          go_quiet (fail)
          go_wp2
          go_ret
          exact ⟨by rw [HF2.out]; rfl, hD.out.next _⟩
        | true =>
          have hk2 : (k1 != k2) = false := by simp [bne, hk1]
          cases hs1 : (s1 == s2) with
          | false =>
            have HF2 : Hid (sameE l m = false) := HF.out (by intro e; injection e with e1 _; injection e1 with _ e2; subst e2; simp at hs1)
            go_wp2
            go_quiet (fail)
            go_wp2
            go_ret
            exact ⟨by rw [HF2.out]; rfl, hD.out.next _⟩
          | true =>
            cases hq : sameI q1 q2 with
            | false =>
              have HF2 : Hid (sameE l m = false) := HF.out (by intro e; injection e with _ e2; subst e2; simp [sameI] at hq)
              rw [hq] at q
              go_wp2
              go_quiet ((go_at_call 13; exact Calls.quiet_of (q _)))
              go_wp2
              go_ret
              exact ⟨by rw [HF2.out]; rfl, hD.out.next _⟩
            | true =>
              have HT2 : Hid (l.take (k + 1) = m.take (k + 1)) := HT.out (by
                have e1 := eq_of_beq hk1
                have e2 := eq_of_beq hs1
                have e3 : q1 = q2 := of_decide_eq_true hq
                rw [e1, e2, e3])
              rw [hq] at q
              go_wp2
              go_quiet ((go_at_call 13; exact Calls.quiet_of (q _)))
              go_wp2
              exact ⟨⟨k + 1, hlt, by go_num, HT2, hD.out.next _⟩, by simp [intOf]; omega⟩
      · have HT : Hid (sameE l m = true) := by
          have := ht.out
          rw [List.take_of_length_le (by omega), List.take_of_length_le (by have := HLn.out; omega)] at this
          simp [Hid, sameE, this]
        go_wp2
        go_ret
        exact ⟨by rw [HT.out]; rfl, hD.out⟩
  · have hle : ((l.length : Int) == (m.length : Int)) = false := by simp; omega
    have hle2 : ((l.length : Int) != (m.length : Int)) = true := by simp; omega
    have HF : Hid (sameE l m = false) := by
      unfold Hid sameE
      rw [decide_eq_false_iff_not]
      intro e
      subst e
      exact hlen rfl
    go_enter Tryz.func32, Tryz.ntmps32
    go_wp2
    go_ret
    exact ⟨by rw [HF.out]; rfl, Drawn.refl _⟩
end Go.Proofs.YtephhllfodlfbaaGreatDoor
/-
  An index that is being built, in memory: the row of its entries, each with a row of places of its own; one entry more; one place more.
-/
namespace Go.Proofs.YtephhllfodlfbaaGreatDoor
open Go.RowKit

namespace Pl
theorem put1_ins {k : Key} {n : Nat} : ∀ {l : List En} {i : Nat}, i ≤ l.length → (∀ j (h : j < l.length), j < i → keyLess l[j].key k = true) → (∀ h : i < l.length, keyLess l[i].key k = false ∧ keyLess k l[i].key = true) →
    put1 k n l = l.take i ++ ⟨k, [n]⟩ :: l.drop i
  | [], i, h, _, _ => by
    obtain rfl : i = 0 := by simpa using h
    rfl
  | e :: r, 0, _, _, h2 => by
    obtain ⟨a, b⟩ := h2 (by simp)
    simp only [List.getElem_cons_zero] at a b
    unfold put1
    rw [if_neg (by rw [a]; simp), if_pos b]
    rfl
  | e :: r, i + 1, h, h1, h2 => by
    have a := h1 0 (by simp) (by omega)
    simp only [List.getElem_cons_zero] at a
    have ih := put1_ins (k := k) (n := n) (l := r) (i := i) (by simpa using h) (fun j hj hji => by have := h1 (j + 1) (by simpa using hj) (by omega); simpa using this) (fun hi => by have := h2 (by simpa using hi); simpa using this)
    unfold put1
    rw [if_pos a, ih]
    rfl
theorem put1_set {k : Key} {n : Nat} : ∀ {l : List En} {i : Nat} (hi : i < l.length), (∀ j (h : j < l.length), j < i → keyLess l[j].key k = true) → keyLess l[i].key k = false → keyLess k l[i].key = false →
    put1 k n l = l.set i ⟨l[i].key, l[i].nodes ++ [n]⟩
  | [], i, h, _, _, _ => by simp at h
  | e :: r, 0, _, _, a, b => by
    simp only [List.getElem_cons_zero] at a b
    unfold put1
    rw [if_neg (by rw [a]; simp), if_neg (by rw [b]; simp)]
    rfl
  | e :: r, i + 1, h, h1, a, b => by
    have c := h1 0 (by simp) (by omega)
    simp only [List.getElem_cons_zero] at c
    have ih := put1_set (k := k) (n := n) (l := r) (i := i) (by simpa using h) (fun j hj hji => by have := h1 (j + 1) (by simpa using hj) (by omega); simpa using this) (by simpa using a) (by simpa using b)
    unfold put1
    rw [if_pos c, ih]
    simp
end Pl

/-- an entry, and the slice of its places -/
abbrev EP := Pl.En × Value
def pCells (ps : List EP) : List Value := ps.flatMap fun p => [.int .i64 p.1.key.1, .string ⟨p.1.key.2.toArray⟩, p.2]
theorem pCells_cons (p : EP) (ps : List EP) : pCells (p :: ps) = .int .i64 p.1.key.1 :: .string ⟨p.1.key.2.toArray⟩ :: p.2 :: pCells ps := by simp [pCells]
theorem pCells_append (ps qs : List EP) : pCells (ps ++ qs) = pCells ps ++ pCells qs := by simp [pCells]
theorem pCells_len : ∀ ps : List EP, (pCells ps).length = ps.length * 3
  | [] => rfl
  | p :: r => by rw [pCells_cons]; simp [pCells_len r]; omega
theorem pCells_get : ∀ (ps : List EP) (i : Nat) (h : i < ps.length), (pCells ps)[i * 3]? = some (.int .i64 ps[i].1.key.1) ∧ (pCells ps)[i * 3 + 1]? = some (.string ⟨ps[i].1.key.2.toArray⟩) ∧ (pCells ps)[i * 3 + 2]? = some ps[i].2
  | [], i, h => by simp at h
  | p :: r, 0, _ => by rw [pCells_cons]; simp
  | p :: r, i + 1, h => by
    have := pCells_get r i (by simpa using h)
    rw [pCells_cons, show (i + 1) * 3 = i * 3 + 1 + 1 + 1 by omega]
    simpa using this
theorem pCells_take : ∀ (ps : List EP) (i : Nat), (pCells ps).take (i * 3) = pCells (ps.take i)
  | [], i => by simp [pCells]
  | p :: r, 0 => by simp [pCells]
  | p :: r, i + 1 => by
    rw [pCells_cons, show (i + 1) * 3 = i * 3 + 1 + 1 + 1 by omega, List.take_succ_cons, List.take_succ_cons, List.take_succ_cons, pCells_take r i, List.take_succ_cons, pCells_cons]
theorem pCells_drop : ∀ (ps : List EP) (i : Nat), (pCells ps).drop (i * 3) = pCells (ps.drop i)
  | [], i => by simp [pCells]
  | p :: r, 0 => by simp
  | p :: r, i + 1 => by
    rw [pCells_cons, show (i + 1) * 3 = i * 3 + 1 + 1 + 1 by omega, List.drop_succ_cons, List.drop_succ_cons, List.drop_succ_cons, pCells_drop r i, List.drop_succ_cons]
theorem pCells_put : ∀ (rs : List EP) (i : Nat) (_ : i < rs.length) (e : EP), (((pCells rs).set (i * 3) (.int .i64 e.1.key.1)).set (i * 3 + 1) (.string ⟨e.1.key.2.toArray⟩)).set (i * 3 + 2) e.2 = pCells (rs.set i e)
  | [], i, h, _ => by simp at h
  | p :: r, 0, _, e => by simp [pCells_cons]
  | p :: r, i + 1, h, e => by
    have := pCells_put r i (by simpa using h) e
    rw [pCells_cons, show (i + 1) * 3 = i * 3 + 1 + 1 + 1 by omega]
    simp only [List.set_cons_succ, show i * 3 + 1 + 1 + 1 + 1 = (i * 3 + 1) + 1 + 1 + 1 by omega, show i * 3 + 1 + 1 + 1 + 2 = (i * 3 + 2) + 1 + 1 + 1 by omega]
    rw [this, pCells_cons]
theorem pCells_set2 : ∀ (rs : List EP) (i : Nat) (h : i < rs.length) (e : EP), e.1.key = rs[i].1.key → (pCells rs).set (i * 3 + 2) e.2 = pCells (rs.set i e)
  | [], i, h, _, _ => by simp at h
  | p :: r, 0, _, e, he => by simp only [List.getElem_cons_zero] at he; simp [pCells_cons, he]
  | p :: r, i + 1, h, e, he => by
    have := pCells_set2 r i (by simpa using h) e (by simpa using he)
    rw [pCells_cons, show (i + 1) * 3 + 2 = (i * 3 + 2) + 1 + 1 + 1 by omega]
    simp only [List.set_cons_succ]
    rw [this, pCells_cons]

/-- two entries' places lie in two rows -/
def Apart (p q : EP) : Prop := ∀ g, p.2.ownBlock = some g → q.2.ownBlock ≠ some g
theorem Apart.symm {p q : EP} (h : Apart p q) : Apart q p := fun g h1 h2 => h g h2 h1
structure ERow (B : Nat) (w : World) (v : Value) (ps : List EP) : Prop where
  own : w.ownsRow B 61 3 v ps.length (pCells ps)
  ints : ∀ p ∈ ps, w.ownsRow B 3 1 p.2 p.1.nodes.length (natCells p.1.nodes)
  apart : ps.Pairwise Apart
  off : ∀ p ∈ ps, ∀ g, p.2.ownBlock = some g → v.ownBlock ≠ some g
theorem ERow.nil (B : Nat) (w : World) : ERow B w (.slice none 0 0) [] := ⟨World.ownsRow_nil _ _ _ _, by simp, List.Pairwise.nil, by simp⟩
theorem ERow.on {B : Nat} {w w' : World} {v : Value} {ps : List EP} (h : ERow B w v ps) (hb : Below w.heap.size w w') : ERow B w' v ps :=
  ⟨own_on h.own hb, fun p hp => own_on (h.ints p hp) hb, h.apart, h.off⟩
theorem ERow.form {B : Nat} {w : World} {v : Value} {ps : List EP} (h : ERow B w v ps) : ∃ a c, v = .slice a ps.length c := own_form h.own
theorem own_mono {w : World} {B B' : Nat} {e : TypeId} {size : Nat} {v : Value} {n : Nat} {xs : List Value} (h : w.ownsRow B e size v n xs) (hb : B' ≤ B) : w.ownsRow B' e size v n xs := by
  refine ⟨h.1, ?_⟩
  rcases h.2 with h0 | ⟨g, cap, cur, e1, hg, rest⟩
  · exact Or.inl h0
  · exact Or.inr ⟨g, cap, cur, e1, by omega, rest⟩
theorem ERow.mono {B B' : Nat} {w : World} {v : Value} {ps : List EP} (h : ERow B w v ps) (hb : B' ≤ B) : ERow B' w v ps :=
  ⟨own_mono h.own hb, fun p hp => own_mono (h.ints p hp) hb, h.apart, h.off⟩
/-- a block that the index does not lie in -/
def Clear (g : Nat) (v : Value) (ps : List EP) : Prop := v.ownBlock ≠ some g ∧ ∀ p ∈ ps, p.2.ownBlock ≠ some g
theorem ERow.clear {B : Nat} {w : World} {v : Value} {ps : List EP} (h : ERow B w v ps) {g : Nat} (hg : g < B ∨ w.heap.size ≤ g) : Clear g v ps := by
  refine ⟨fun e => ?_, fun p hp e => ?_⟩
  · have := World.ownsRow.lt h.own g e; omega
  · have := World.ownsRow.lt (h.ints p hp) g e; omega
/-- what changes lies in a block that the index does not lie in -/
theorem ERow.kept {B : Nat} {w w' : World} {v : Value} {ps : List EP} (h : ERow B w v ps) {r : Option Nat} (hg : w.grownBy w' r) (hr : ∀ g, r = some g → Clear g v ps) : ERow B w' v ps := by
  refine ⟨h.own.kept hg ?_, fun p hp => (h.ints p hp).kept hg ?_, h.apart, h.off⟩
  · cases r with
    | none => cases hv : v.ownBlock <;> simp
    | some g => exact Or.inr (hr g rfl).1
  · cases r with
    | none => cases hv : p.2.ownBlock <;> simp
    | some g => exact Or.inr ((hr g rfl).2 p hp)
/-- an entry as the program makes it first -/
def e0 : EP := (⟨(0, []), []⟩, .slice none 0 0)
theorem wpList_epush {ops : Array Oper} {rest : List Oper} {o : Oper} {a : Act} {Q : Exit → Act → World → Prop} {B : Nat} {w2 : World} {v : Value} {ps : List EP} (hgd : o.guard = none) (s t : Operand)
    (ho : o.op = .call { callee := .builtin .append, args := #[s, t], argTypes := #[30, 30] }) (hs : a.eval s = v) (hx : a.eval t = .slice (some ⟨w2.heap.size, 0, none⟩) 1 1)
    (hown : w2.ownsRow B 61 3 v ps.length (pCells ps)) (hlen : ps.length + 1 ≤ 100000) (hB : B ≤ w2.heap.size)
    (h : ∀ g cap w', w'.ownsRow B 61 3 (.slice (some ⟨g, 0, none⟩) (ps.length + 1) cap) (ps.length + 1) (pCells (ps ++ [e0])) → (w2.alloc (.cells #[.int .i64 0, .string ⟨#[]⟩, .slice none 0 0] 61)).grownBy w' v.ownBlock → (v.ownBlock = some g ∨ g = w2.heap.size + 1) → g < w'.heap.size → wpList Tryz.prog ops Q rest (a.put o.dst (.slice (some ⟨g, 0, none⟩) (ps.length + 1) cap)) w') :
    wpList Tryz.prog ops Q (o :: rest) a (w2.alloc (.cells #[.int .i64 0, .string ⟨#[]⟩, .slice none 0 0] 61)) := by
  obtain ⟨i0, hi, hz0, hz1, hz2⟩ := info_parts Tryz.info61
  refine wpList_append_lies _ hgd s t 30 ho B 61 i0 _ 3 48 Tryz.underlying30 hi hz0 hz1 hz2 rfl (by decide) v ps.length (pCells ps) hs (own_on hown (on_alloc _ _)) ⟨w2.heap.size, 0, none⟩ 1 1 [.int .i64 0, .string ⟨#[]⟩, .slice none 0 0] hx rfl ?_ ?_ (by decide) (by unfold maxLen; omega) (by omega) (by simp; omega) (w2.heap.size + 1) (by simp) ?_
  · exact World.news_of_block (heap_alloc_new w2 _)
  · intro u hu
    simp only [List.mem_cons, List.not_mem_nil, or_false] at hu
    rcases hu with rfl | rfl | rfl <;> rfl
  · intro g cap w' h1 h2 h3 h4
    exact h g cap w' (by rw [pCells_append]; exact h1) h2 h3 h4
theorem take_two {α : Type} {A X D : List α} {a x : Nat} (hA : A.length = a) (hX : X.length = x) : (A ++ (X ++ D)).take (a + x) = A ++ X := by
  rw [← List.append_assoc, List.take_append_of_le_length (by simp; omega), List.take_of_length_le (by simp; omega)]
theorem Tryz.size81 : (Tryz.prog.info? 61).map (·.size) = some 3 := by kernel_rfl
/-- copy over a row of entries, one place on -/
theorem run_ecopy (w : World) (ty : TypeId) (dp sp : Option Addr) (dLen dCap sLen sCap : Nat) (B g n cap i : Nat) (qs : List EP)
    (hown : w.ownsRow B 61 3 (.slice (some ⟨g, 0, none⟩) (n + 1) cap) (n + 1) (pCells qs)) (hq : qs.length = n + 1) (hi : i ≤ n) (hdl : dLen = n - i) (hsl : sLen = n + 1 - i)
    (hdp : i < n → dp = some ⟨g, (i + 1) * 3, none⟩) (hsp : i < n → sp = some ⟨g, i * 3, none⟩) (h1c : ∀ v ∈ pCells qs, v.oneCell' = true) :
    ∃ w', (Builtin.copy_ #[30, 30] ty #[.slice dp dLen dCap, .slice sp sLen sCap]).run Tryz.prog w = .ok (goInt ((n - i : Nat) : Int)) w' ∧
      w'.ownsRow B 61 3 (.slice (some ⟨g, 0, none⟩) (n + 1) cap) (n + 1) (pCells (qs.take (i + 1) ++ (qs.drop i).take (n - i))) ∧ w.grownBy w' (some g) := by
  subst hdl hsl
  have hu := Tryz.underlying30
  cases hq1 : Tryz.prog.info? 61 with
  | none => have := Tryz.size81; rw [hq1] at this; cases this
  | some ii =>
  have hsz : ii.size = 3 := by have := Tryz.size81; rw [hq1] at this; simpa using this
  have hmin : Nat.min (n + 1 - i) (n - i) = n - i := Nat.min_eq_right (by omega)
  by_cases hlt : i < n
  · obtain rfl := hdp hlt
    obtain rfl := hsp hlt
    obtain ⟨hl, hh⟩ := hown
    rcases hh with ⟨h0, _⟩ | ⟨g', cap', cur, h', hb, hg, hnc, hcm, hcs, htake⟩
    · cases h0
    simp only [Value.slice.injEq, Option.some.injEq, Addr.mk.injEq, and_true, true_and] at h'
    obtain ⟨rfl, rfl⟩ := h'
    have hcl : (pCells ((qs.drop i).take (n - i))).length = (n - i) * 3 := by rw [pCells_len]; simp; omega
    have hrow : ∀ j u, (pCells ((qs.drop i).take (n - i)))[j]? = some u → w.cell? ((⟨g, i * 3, none⟩ : Addr).add j) = some u := by
      intro j u hj
      have hj2 : j < (n - i) * 3 := by
        have := (List.getElem?_eq_some_iff.1 hj).1
        rw [hcl] at this; exact this
      rw [Addr.add_lit, cell_of_row w g (i * 3 + j) cur 61 (0, 0) hg]
      rw [← pCells_take, List.getElem?_take, if_pos hj2, ← pCells_drop, List.getElem?_drop, ← htake, List.getElem?_take, if_pos (by omega)] at hj
      simpa using hj
    have hf := run_firstCells_some (P := Tryz.prog) w 3 (n - i) ⟨g, i * 3, none⟩ (n + 1 - i) sCap (pCells ((qs.drop i).take (n - i))) hcl hrow
    have hcur : (n + 1) * 3 ≤ cur.size := by rw [hcs]; exact Nat.mul_le_mul_right 3 hnc
    have hst := run_storeCells_at Tryz.prog g ((i + 1) * 3) 61 (pCells ((qs.drop i).take (n - i))) 0 cur w hg (by rw [hcl]; omega) (by
      intro v hv
      refine h1c v ?_
      rw [← pCells_take, ← pCells_drop] at hv
      exact List.mem_of_mem_drop (List.mem_of_mem_take hv))
    refine ⟨w.setRow g (cur.toList.take ((i + 1) * 3) ++ (pCells ((qs.drop i).take (n - i)) ++ cur.toList.drop ((i + 1) * 3 + (pCells ((qs.drop i).take (n - i))).length))).toArray, by simp [Builtin.copy_, run_underlying hu, Builtin.lenOf, sizeOf, typeInfo, hq1, hsz, hmin, hf, hst], ⟨?_, Or.inr ⟨g, cap, _, rfl, hb, setRow_heap w g cur _ 61 _ hg, hnc, hcm, ?_, ?_⟩⟩, ⟨rfl, rfl, rfl, by simp, fun k _ hk => setRow_other w g k _ (fun e => hk (by rw [e]))⟩⟩
    · rw [pCells_len]; simp; omega
    · simp only [List.size_toArray, List.length_append, List.length_take, List.length_drop, Array.length_toList, hcl]
      omega
    · rw [pCells_append]
      rw [← pCells_take qs (i + 1), ← htake, List.take_take, Nat.min_eq_left (by omega)]
      have e1 : (cur.toList.take ((i + 1) * 3)).length = (i + 1) * 3 := by simp; omega
      rw [show (n + 1) * 3 = (i + 1) * 3 + (n - i) * 3 by omega]
      exact take_two e1 hcl
  · obtain rfl : i = n := by omega
    refine ⟨w, ?_, ?_, ⟨rfl, rfl, rfl, Nat.le_refl _, fun _ _ _ => rfl⟩⟩
    · have hz : i + 1 - i = 1 := by omega
      cases sp <;> cases dp <;> simp [Builtin.copy_, run_underlying hu, Builtin.lenOf, sizeOf, typeInfo, hq1, Builtin.firstCells, loadCells, loadCellsFrom, storeCells]
    · rw [Nat.sub_self, List.take_zero, List.append_nil, List.take_of_length_le (by omega)]
      exact hown
end Go.Proofs.YtephhllfodlfbaaGreatDoor
