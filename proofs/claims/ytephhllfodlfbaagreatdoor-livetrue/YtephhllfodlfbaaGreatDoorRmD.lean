/-
  Right documents in plain lists: no two links cross. No program is walked in this text.
-/
import Derived.Test.YtephhllfodlfbaaGreatDoorAsk
import Derived.Test.YtephhllfodlfbaaGreatDoorIsR
import Derived.BigQuiet
import Derived.Deep.QuietTactic
import Derived.Test.YtephhllfodlfbaaGreatDoorKids
import Derived.RangeFuncBox
namespace Go.Proofs.YtephhllfodlfbaaGreatDoor.Pl

/-- the first N elements hang as they must: links do not cross -/
def GoodTo (ns : List Nd) (N : Nat) : Prop :=
  ∀ n : Nat, n < N → (n = 0 → upOf ns n = -1) ∧ (0 < n → 0 ≤ upOf ns n ∧ upOf ns n < n ∧ ∀ m : Nat, upOf ns n < m → m < n → upOf ns n ≤ upOf ns m)
theorem chase_iff {ns : List Nd} {n : Nat} (hg : GoodTo ns n) : ∀ (f : Nat) (k t : Int), k < n → -1 ≤ k → k + 1 < f → (chase ns f k t = true ↔ 0 ≤ t ∧ t ≤ k ∧ ∀ m : Nat, t < m → (m : Int) ≤ k → t ≤ upOf ns m) := by
  intro f
  induction f with
  | zero => intro k t _ h1 h2; omega
  | succ f ih =>
    intro k t hk h1 h2
    unfold chase
    by_cases h0 : k < 0
    · rw [if_pos h0]
      constructor
      · intro h; cases h
      · rintro ⟨a, b, _⟩; omega
    · rw [if_neg h0]
      by_cases he : (k == t) = true
      · rw [if_pos he]
        have he' : k = t := by simpa using he
        constructor
        · intro _; exact ⟨by omega, by omega, fun m _ _ => by omega⟩
        · intro _; rfl
      · rw [if_neg he]
        have he' : k ≠ t := by simpa using he
        obtain ⟨k', rfl⟩ : ∃ k' : Nat, k = k' := ⟨k.toNat, by omega⟩
        obtain ⟨g0, g1⟩ := hg k' (by omega)
        have hup : -1 ≤ upOf ns k' ∧ upOf ns k' < k' := by
          rcases Nat.eq_zero_or_pos k' with h | h
          · rw [g0 h]; omega
          · have := g1 h; omega
        rw [show ((k' : Int)).toNat = k' by omega, ih _ _ (by omega) hup.1 (by omega)]
        constructor
        · rintro ⟨a, b, c⟩
          refine ⟨a, by omega, fun m hm hmk => ?_⟩
          by_cases hmu : (m : Int) ≤ upOf ns k'
          · exact c m hm hmu
          · by_cases hmk' : m = k'
            · subst hmk'; exact b
            · have hpos : 0 < k' := by omega
              have := (g1 hpos).2.2 m (by omega) (by omega)
              omega
        · rintro ⟨a, b, c⟩
          exact ⟨a, c k' (by omega) (by omega), fun m hm hmk => c m hm (by omega)⟩
theorem hangs_iff {ns : List Nd} {n : Nat} (hg : GoodTo ns n) : hangs ns n = true ↔ (n = 0 → upOf ns n = -1) ∧ (0 < n → 0 ≤ upOf ns n ∧ upOf ns n < n ∧ ∀ m : Nat, upOf ns n < m → m < n → upOf ns n ≤ upOf ns m) := by
  unfold hangs
  by_cases h0 : n = 0
  · subst h0
    simp
  · rw [if_neg h0, chase_iff hg _ _ _ (by omega) (by omega) (by omega)]
    constructor
    · rintro ⟨a, b, c⟩
      exact ⟨fun h => absurd h h0, fun _ => ⟨a, by omega, fun m h1 h2 => c m h1 (by omega)⟩⟩
    · rintro ⟨_, h⟩
      obtain ⟨a, b, c⟩ := h (by omega)
      exact ⟨a, by omega, fun m h1 h2 => c m h1 (by omega)⟩
theorem GoodTo.succ {ns : List Nd} {n : Nat} (hg : GoodTo ns n) (h : (n = 0 → upOf ns n = -1) ∧ (0 < n → 0 ≤ upOf ns n ∧ upOf ns n < n ∧ ∀ m : Nat, upOf ns n < m → m < n → upOf ns n ≤ upOf ns m)) : GoodTo ns (n + 1) := by
  intro k hk
  by_cases h1 : k = n
  · subst h1; exact h
  · exact hg k (by omega)
def Rights (ns : List Nd) : Prop := ∀ x ∈ ns, right x = true
theorem okTo_good {ns : List Nd} : ∀ N, N ≤ ns.length → okTo ns N = true → GoodTo ns N ∧ ∀ k (h : k < ns.length), k < N → right ns[k] = true
  | 0, _, _ => ⟨fun n h => by omega, fun k _ h => by omega⟩
  | N + 1, hN, h => by
    rw [okTo_succ, Bool.and_eq_true, Bool.and_eq_true, List.getElem?_eq_getElem (by omega : N < ns.length)] at h
    obtain ⟨g, r⟩ := okTo_good N (by omega) h.1
    refine ⟨g.succ ((hangs_iff g).1 h.2.2), fun k hk hkN => ?_⟩
    by_cases h1 : k = N
    · subst h1; exact h.2.1
    · exact r k hk (by omega)
theorem good_okTo {ns : List Nd} (hr : Rights ns) : ∀ N, N ≤ ns.length → GoodTo ns N → okTo ns N = true
  | 0, _, _ => rfl
  | N + 1, hN, h => by
    have hlt : N < ns.length := by omega
    have g : GoodTo ns N := fun n hn => h n (by omega)
    rw [okTo_succ, List.getElem?_eq_getElem hlt, good_okTo hr N (by omega) g, (hangs_iff g).2 (h N (by omega))]
    simp [hr _ (List.getElem_mem hlt)]
/-- what a right document is -/
theorem check_iff (ns : List Nd) : checkDoc ns = 0 ↔ 1 ≤ ns.length ∧ ns.length ≤ 64 ∧ Rights ns ∧ GoodTo ns ns.length := by
  unfold checkDoc
  by_cases h : ns.length < 1 ∨ 64 < ns.length
  · rw [if_pos h]
    constructor
    · intro h; omega
    · intro h2; omega
  · rw [if_neg h]
    constructor
    · intro h2
      have hk : okTo ns ns.length = true := by
        cases hh : okTo ns ns.length with
        | true => rfl
        | false => rw [hh] at h2; simp at h2
      obtain ⟨g, r⟩ := okTo_good _ (Nat.le_refl _) hk
      refine ⟨by omega, by omega, fun x hx => ?_, g⟩
      obtain ⟨i, hi, rfl⟩ := List.getElem_of_mem hx
      exact r i hi hi
    · rintro ⟨_, _, r, g⟩
      rw [if_pos (good_okTo r _ (Nat.le_refl _) g)]

theorem upOf_map {ns : List Nd} {mv : Int → Int} {i : Nat} (h : i < ns.length) : upOf (ns.map (mvd mv)) i = mv (upOf ns i) := by
  unfold upOf
  rw [List.getElem?_map, List.getElem?_eq_getElem h]
  rfl
theorem upOf_left {a b : List Nd} {i : Nat} (h : i < a.length) : upOf (a ++ b) i = upOf a i := by
  unfold upOf
  rw [List.getElem?_append_left h]
theorem upOf_right {a b : List Nd} {i : Nat} (h : a.length ≤ i) : upOf (a ++ b) i = upOf b (i - a.length) := by
  unfold upOf
  rw [List.getElem?_append_right h]
theorem upOf_take {a : List Nd} {k i : Nat} (h : i < k) : upOf (a.take k) i = upOf a i := by
  unfold upOf
  rw [List.getElem?_take_of_lt h]
theorem upOf_drop {a : List Nd} {k i : Nat} : upOf (a.drop k) i = upOf a (k + i) := by
  unfold upOf
  rw [List.getElem?_drop]
theorem mvd_id : mvd id = (id : Nd → Nd) := by funext x; rfl
theorem map_mvd_id (ns : List Nd) : ns.map (mvd id) = ns := by rw [mvd_id, List.map_id]
theorem mvd_back {ms : List Nd} {f g : Int → Int} (h : ∀ i, i < ms.length → g (f (upOf ms i)) = upOf ms i) : (ms.map (mvd f)).map (mvd g) = ms := by
  rw [List.map_map]
  refine List.ext_getElem (by simp) fun i h1 h2 => ?_
  have := h i h2
  unfold upOf at this
  rw [List.getElem?_eq_getElem h2] at this
  simp only [List.getElem_map, Function.comp_apply]
  unfold mvd
  dsimp only at this ⊢
  rw [this]
theorem rights_mvd {ms : List Nd} {f : Int → Int} (h : Rights ms) : Rights (ms.map (mvd f)) := by
  intro x hx
  obtain ⟨y, hy, rfl⟩ := List.mem_map.1 hx
  exact h y hy
theorem rights_append {a b : List Nd} (h : Rights a) (h2 : Rights b) : Rights (a ++ b) := by
  intro x hx
  rcases List.mem_append.1 hx with h' | h'
  · exact h x h'
  · exact h2 x h'
theorem rights_take {a : List Nd} {k : Nat} (h : Rights a) : Rights (a.take k) := fun x hx => h x (List.mem_of_mem_take hx)
theorem rights_drop {a : List Nd} {k : Nat} (h : Rights a) : Rights (a.drop k) := fun x hx => h x (List.mem_of_mem_drop hx)
/-- what stands behind an element's own -/
theorem behindFrom_spec (ns : List Nd) (n : Nat) : ∀ (f e : Nat), ns.length ≤ e + f → (∀ m : Nat, e ≤ m → m < behindFrom ns n f e → (n : Int) ≤ upOf ns m) ∧ (behindFrom ns n f e < ns.length → upOf ns (behindFrom ns n f e) < n)
  | 0, e, h => ⟨fun m h1 h2 => by unfold behindFrom at h2; omega, fun h1 => by unfold behindFrom at h1; omega⟩
  | f + 1, e, h => by
    unfold behindFrom
    by_cases hc : e < ns.length ∧ (n : Int) ≤ upOf ns e
    · rw [if_pos hc]
      obtain ⟨a, b⟩ := behindFrom_spec ns n f (e + 1) (by omega)
      refine ⟨fun m h1 h2 => ?_, b⟩
      by_cases hm : m = e
      · subst hm; exact hc.2
      · exact a m (by omega) h2
    · rw [if_neg hc]
      exact ⟨fun m h1 h2 => by omega, fun h1 => by omega⟩
theorem behind_spec {ns : List Nd} {n : Nat} (h : n < ns.length) : n + 1 ≤ behind ns n ∧ behind ns n ≤ ns.length ∧ (∀ m : Nat, n < m → m < behind ns n → (n : Int) ≤ upOf ns m) ∧ (behind ns n < ns.length → upOf ns (behind ns n) < n) := by
  have h1 := behind_le h
  obtain ⟨a, b⟩ := behindFrom_spec ns n (ns.length - n) (n + 1) (by omega)
  exact ⟨h1.1, h1.2, fun m h2 h3 => a m (by omega) h3, b⟩
theorem behind_eq {ns : List Nd} {n e : Nat} (h : n < ns.length) (h1 : n + 1 ≤ e) (h2 : e ≤ ns.length) (h3 : ∀ m : Nat, n < m → m < e → (n : Int) ≤ upOf ns m) (h4 : e < ns.length → upOf ns e < n) : behind ns n = e := by
  obtain ⟨a, b, c, d⟩ := behind_spec h
  rcases Nat.lt_trichotomy (behind ns n) e with hh | hh | hh
  · have := d (by omega)
    have := h3 (behind ns n) (by omega) hh
    omega
  · exact hh
  · have := h4 (by omega)
    have := c e (by omega) hh
    omega
/-- links from behind lead above or stay behind -/
theorem behind_out {ns : List Nd} {n : Nat} (hg : GoodTo ns ns.length) (h : n < ns.length) (m : Nat) (hm : behind ns n ≤ m) (hm2 : m < ns.length) : upOf ns m < n ∨ (behind ns n : Int) ≤ upOf ns m := by
  obtain ⟨a, b, c, d⟩ := behind_spec h
  by_cases he : m = behind ns n
  · subst he; exact Or.inl (d hm2)
  · by_cases hu : upOf ns m < (behind ns n : Int)
    · have hd := d (by omega)
      have := ((hg m hm2).2 (by omega)).2.2 (behind ns n) (by omega) (by omega)
      exact Or.inl (by omega)
    · exact Or.inr (by omega)
end Go.Proofs.YtephhllfodlfbaaGreatDoor.Pl
/-
  Kids and those under one, as the document's own answer tells them.
-/
namespace Go.Proofs.YtephhllfodlfbaaGreatDoor
open Go.RowKit

/-- a list of numbers in blocks from B on -/
def IntsF (B : Nat) (w : World) (v : Value) (ks : List Nat) : Prop :=
  ∃ a cap, v = .slice a ks.length cap ∧ (ks = [] ∨ ∃ b o, a = some ⟨b, o, none⟩ ∧ B ≤ b ∧ ∀ i (h : i < ks.length), w.cell? ⟨b, o + i, none⟩ = some (.int .i64 (ks[i] : Nat)))
theorem intsF_of_row {w : World} {B : Nat} {v : Value} {l : List Nat} (h : w.ownsRow B 3 1 v l.length (natCells l)) : IntsF B w v l := by
  have hh := h
  obtain ⟨_, h0 | ⟨g, cap, cur, rfl, hb, _⟩⟩ := h
  · obtain ⟨rfl, hl⟩ := h0
    have : l = [] := by simpa using hl
    subst this
    exact ⟨none, 0, rfl, Or.inl rfl⟩
  · refine ⟨_, cap, rfl, Or.inr ⟨g, 0, rfl, hb, fun i hi => ?_⟩⟩
    have := World.ownsRow.cells hh rfl i (.int .i64 (l[i] : Int)) (by simp [natCells, List.getElem?_eq_getElem hi])
    rw [Addr.add_lit] at this
    simpa using this
theorem IntsF.ints {B : Nat} {w : World} {v : Value} {l : List Nat} (h : IntsF B w v l) : IntsAt w v (l.map fun (k : Nat) => (k : Int)) := by
  obtain ⟨a, cap, rfl, h⟩ := h
  refine ⟨a, cap, by simp, ?_⟩
  rcases h with h | ⟨b, o, ha, _, hc⟩
  · exact Or.inl (by simp [h])
  · exact Or.inr ⟨b, o, ha, fun i hi => by simpa using hc i (by simpa using hi)⟩
theorem IntsF.mono {B B' : Nat} {w : World} {v : Value} {l : List Nat} (h : IntsF B w v l) (hB : B' ≤ B) : IntsF B' w v l := by
  obtain ⟨a, cap, rfl, h⟩ := h
  refine ⟨a, cap, rfl, ?_⟩
  rcases h with h | ⟨b, o, ha, hb, hc⟩
  · exact Or.inl h
  · exact Or.inr ⟨b, o, ha, by omega, hc⟩
/-- the one above, that above it, and so on -/
def aboveB (ns : List Pl.Nd) (a n : Nat) : Bool := way ns (Pl.upOf ns n) a
end Go.Proofs.YtephhllfodlfbaaGreatDoor
/-
  What the document says of attributes, of places in lists, of those above.
-/
namespace Go.Proofs.YtephhllfodlfbaaGreatDoor
open Go.RowKit

/-- the value of the first attribute of a name -/
def attr1 (ats : List (List UInt8 × List UInt8)) (name : List UInt8) : Option (List UInt8) := (ats.find? fun a => a.1 == name).map (·.2)
theorem blk5_cells {W : World} {N : Nat} {T : TypeId} {u0 u1 u2 u3 u4 : Value} (h : W.heap[N]? = some (.cells #[u0, u1, u2, u3, u4] T)) : W.cell? ⟨N, 0, none⟩ = some u0 ∧ W.cell? ⟨N, 1, none⟩ = some u1 ∧ W.cell? ⟨N, 2, none⟩ = some u2 ∧ W.cell? ⟨N, 3, none⟩ = some u3 ∧ W.cell? ⟨N, 4, none⟩ = some u4 := by
  refine ⟨?_, ?_, ?_, ?_, ?_⟩ <;> simp [World.cell?, h]
/-- the first place of a number in a list -/
def plc (ks : List Int) (n : Int) : Int := match (List.range ks.length).find? fun i => ks[i]? == some n with
  | some i => i
  | none => -1
theorem plc_hit {ks : List Int} {n : Int} {k : Nat} (hk : k < ks.length) (h : ∀ j, j < k → ¬ ks[j]? = some n) (he : ks[k]? = some n) : plc ks n = k := by
  unfold plc
  have : (List.range ks.length).find? (fun i => ks[i]? == some n) = some k := by
    rw [List.find?_range_eq_some]
    exact ⟨by simpa using he, by simpa using hk, fun j hj => by simpa using h j hj⟩
  rw [this]
theorem plc_miss {ks : List Int} {n : Int} (h : ∀ j, j < ks.length → ¬ ks[j]? = some n) : plc ks n = -1 := by
  unfold plc
  have : (List.range ks.length).find? (fun i => ks[i]? == some n) = none := by
    rw [List.find?_eq_none]
    intro x hx
    simpa using h x (by simpa using hx)
  rw [this]
end Go.Proofs.YtephhllfodlfbaaGreatDoor
