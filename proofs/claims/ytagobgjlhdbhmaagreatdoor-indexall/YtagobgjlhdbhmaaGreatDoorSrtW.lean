/-
  Which entry comes first, as the program asks it: the closure that the sort is handed.
-/
import Derived.Test.YtagobgjlhdbhmaaGreatDoorMapY
import Derived.Test.YtagobgjlhdbhmaaGreatDoorShs
namespace Go.Proofs.YtagobgjlhdbhmaaGreatDoor
open Go.RowKit Go.Sort

set_option maxHeartbeats 400000 in
theorem isNaNs_any (s : List UInt8) (w : World) : Calls Tryz.prog 97 #[.string ⟨s.toArray⟩] w fun e w' => e = .returned (.bool false) ∧ w' = w := by
  go_enter Tryz.func97, Tryz.ntmps97
  go_wp2
  go_ret
  exact ⟨by simp, rfl⟩
def cmpS (a b : List UInt8) : Int := if Op.bytesLess a b = true then -1 else if Op.bytesLess b a = true then 1 else 0
set_option maxHeartbeats 1000000 in
theorem cmpStr_any (a b : List UInt8) (w : World) : Calls Tryz.prog 73 #[.string ⟨a.toArray⟩, .string ⟨b.toArray⟩] w fun e w' => e = .returned (.int .i64 (cmpS a b)) ∧ w' = w := by
  cases h1 : Op.bytesLess a b with
  | true =>
    have HS : Hid (cmpS a b = -1) := by unfold Hid cmpS; rw [if_pos h1]
    go_enter Tryz.func73, Tryz.ntmps73
    go_wp2_with (go_at_call 97; refine (isNaNs_any _ _).mono ?_; rintro e w' ⟨rfl, rfl⟩)
    go_ret
    exact ⟨by rw [HS.out]; rfl, rfl⟩
  | false =>
    have hg := Pl.bl_gtr2 a b
    rw [h1] at hg
    cases h2 : Op.bytesLess b a with
    | true =>
      have HS : Hid (cmpS a b = 1) := by unfold Hid cmpS; rw [if_neg (by rw [h1]; simp), if_pos h2]
      have h3 : (a == b) = false := by
        rw [h2] at hg
        simpa using hg
      clear hg
      go_enter Tryz.func73, Tryz.ntmps73
      go_wp2_with (go_at_call 97; refine (isNaNs_any _ _).mono ?_; rintro e w' ⟨rfl, rfl⟩)
      go_ret
      exact ⟨by rw [HS.out]; rfl, rfl⟩
    | false =>
      have HS : Hid (cmpS a b = 0) := by unfold Hid cmpS; rw [if_neg (by rw [h1]; simp), if_neg (by rw [h2]; simp)]
      have h3 : (a == b) = true := by
        rw [h2] at hg
        simpa using hg
      clear hg
      go_enter Tryz.func73, Tryz.ntmps73
      go_wp2_with (go_at_call 97; refine (isNaNs_any _ _).mono ?_; rintro e w' ⟨rfl, rfl⟩)
      go_ret
      exact ⟨by rw [HS.out]; rfl, rfl⟩
def orI (a b : Int) : Int := if a = 0 then b else a
set_option maxHeartbeats 1000000 in
theorem or_two (a b : Int) (N : Nat) (w : World) (h0 : w.cell? ⟨N, 0, none⟩ = some (.int .i64 a)) (h1 : w.cell? ⟨N, 1, none⟩ = some (.int .i64 b)) :
    Calls Tryz.prog 71 #[.slice (some ⟨N, 0, none⟩) 2 2] w fun e w' => e = .returned (.int .i64 (orI a b)) ∧ w' = w := by
  cases ha : (a != 0) with
  | true =>
    have HS : Hid (orI a b = a) := by unfold Hid orI; rw [if_neg (by simpa using ha)]
    go_enter Tryz.func71, Tryz.ntmps71
    go_wp2
    refine wp_loop_rounds 1 ?_
    rw [rounds_succ]
    go_wp2
    go_ret
    exact ⟨by rw [HS.out]; rfl, rfl⟩
  | false =>
    have ha0 : a = 0 := by simpa using ha
    have HS : Hid (orI a b = b) := by unfold Hid orI; rw [if_pos ha0]
    cases hb : (b != 0) with
    | true =>
      go_enter Tryz.func71, Tryz.ntmps71
      go_wp2
      refine wp_loop_rounds 2 ?_
      rw [rounds_succ]
      go_wp2
      rw [rounds_succ]
      go_wp2
      go_ret
      exact ⟨by rw [HS.out]; rfl, rfl⟩
    | false =>
      have hb0 : b = 0 := by simpa using hb
      have HS2 : Hid (orI a b = 0) := by rw [HS.out]; exact hb0
      clear hb0
      go_enter Tryz.func71, Tryz.ntmps71
      go_wp2
      refine wp_loop_rounds 3 ?_
      rw [rounds_succ]
      go_wp2
      rw [rounds_succ]
      go_wp2
      rw [rounds_succ]
      go_wp2
      go_ret
      exact ⟨by rw [HS2.out]; rfl, rfl⟩
/-- an entry in its three cells -/
abbrev SE := Pl.Key × Option Addr × Nat × Nat
def encE (x : SE) : List Value := [.int .i64 x.1.1, .string ⟨x.1.2.toArray⟩, .slice x.2.1 x.2.2.1 x.2.2.2]
def cfE (x y : SE) : Int := orI (Lib.compareInt x.1.1 y.1.1) (cmpS x.1.2 y.1.2)
theorem cells4_on {w' w'' : World} {p0 p1 p2 p3 : Addr} {v0 v1 v2 v3 : Value} (h : w'.cell? p0 = some v0 ∧ w'.cell? p1 = some v1 ∧ w'.cell? p2 = some v2 ∧ w'.cell? p3 = some v3) (hb : Below w'.heap.size w' w'') : w''.cell? p0 = some v0 ∧ w''.cell? p1 = some v1 ∧ w''.cell? p2 = some v2 ∧ w''.cell? p3 = some v3 :=
  ⟨cell_on hb h.1, cell_on hb h.2.1, cell_on hb h.2.2.1, cell_on hb h.2.2.2⟩
set_option maxRecDepth 100000 in
set_option maxHeartbeats 2000000 in
theorem closure76 (x y : SE) (W : World) : Calls Tryz.prog 70 #[.agg (encE x).toArray, .agg (encE y).toArray] W fun e w' => e = .returned (.int .i64 (cfE x y)) ∧ ∃ q os', w' = grow (W.drewN q) os' := by
  obtain ⟨⟨k1, n1⟩, a1, l1, c1⟩ := x
  obtain ⟨⟨k2, n2⟩, a2, l2, c2⟩ := y
  unfold cfE encE
  dsimp only
  have hci := fun W' => Tryz.cmp_Compare_int k1 k2 W'
  have hcs := fun W' => cmpStr_any n1 n2 W'
  generalize Lib.compareInt k1 k2 = r1 at hci ⊢
  generalize cmpS n1 n2 = r2 at hcs ⊢
  have HCI : Hid _ := hci
  have HCS : Hid _ := hcs
  clear hci hcs
  have hz : ((W.alloc (.cells #[.int .i64 k1, .string ⟨n1.toArray⟩, .slice a1 l1 c1] 55)).alloc (.cells #[.int .i64 k2, .string ⟨n2.toArray⟩, .slice a2 l2 c2] 55)).heap.size = W.heap.size + 2 := by simp
  have S0 : ((W.alloc (.cells #[.int .i64 k1, .string ⟨n1.toArray⟩, .slice a1 l1 c1] 55)).alloc (.cells #[.int .i64 k2, .string ⟨n2.toArray⟩, .slice a2 l2 c2] 55)).drew.cell? ⟨W.heap.size, 0, none⟩ = some (.int .i64 k1) ∧ ((W.alloc (.cells #[.int .i64 k1, .string ⟨n1.toArray⟩, .slice a1 l1 c1] 55)).alloc (.cells #[.int .i64 k2, .string ⟨n2.toArray⟩, .slice a2 l2 c2] 55)).drew.cell? ⟨W.heap.size, 1, none⟩ = some (.string ⟨n1.toArray⟩) ∧
      ((W.alloc (.cells #[.int .i64 k1, .string ⟨n1.toArray⟩, .slice a1 l1 c1] 55)).alloc (.cells #[.int .i64 k2, .string ⟨n2.toArray⟩, .slice a2 l2 c2] 55)).drew.cell? ⟨W.heap.size + 1, 0, none⟩ = some (.int .i64 k2) ∧ ((W.alloc (.cells #[.int .i64 k1, .string ⟨n1.toArray⟩, .slice a1 l1 c1] 55)).alloc (.cells #[.int .i64 k2, .string ⟨n2.toArray⟩, .slice a2 l2 c2] 55)).drew.cell? ⟨W.heap.size + 1, 1, none⟩ = some (.string ⟨n2.toArray⟩) := by
    refine ⟨?_, ?_, ?_, ?_⟩ <;> simp [go_sem]
  go_enter Tryz.func70, Tryz.ntmps70
  go_wp2
  go_region_held3 (fun w' => w'.cell? ⟨W.heap.size, 0, none⟩ = some (.int .i64 k1) ∧ w'.cell? ⟨W.heap.size, 1, none⟩ = some (.string ⟨n1.toArray⟩) ∧ w'.cell? ⟨W.heap.size + 1, 0, none⟩ = some (.int .i64 k2) ∧ w'.cell? ⟨W.heap.size + 1, 1, none⟩ = some (.string ⟨n2.toArray⟩))
    (first | with_reducible assumption | exact cells4_on (by with_reducible assumption) (on_alloc _ _))
    (first | (go_at_call 72; refine (HCI.out _).mono ?_; rintro e w' ⟨rfl, rfl⟩) | (go_at_call 73; refine (HCS.out _).mono ?_; rintro e w' ⟨rfl, rfl⟩) | (go_at_call 71; refine (or_two r1 r2 _ _ (by simp [go_sem]) (by simp [go_sem])).mono ?_; rintro e w' ⟨rfl, rfl⟩))
  go_wp2
  go_ret
  exact ⟨rfl, 1, _, by rw [alloc_eq_grow, alloc_eq_grow, alloc_eq_grow, grow_grow, grow_grow]; rfl⟩
theorem lt_eq (x y : SE) : ltOf cfE x y = Pl.keyLess x.1 y.1 := by
  unfold ltOf cfE orI Lib.compareInt cmpS Pl.keyLess
  by_cases h1 : x.1.1 < y.1.1
  · simp [h1]
  · by_cases h2 : y.1.1 < x.1.1
    · have h3 : ¬ x.1.1 = y.1.1 := by omega
      simp [h1, h2, h3]
    · have h3 : x.1.1 = y.1.1 := by omega
      cases h4 : Op.bytesLess x.1.2 y.1.2 with
      | true => simp [h3]
      | false => cases Op.bytesLess y.1.2 x.1.2 <;> simp [h3]
theorem swoE : SWO (ltOf cfE) where
  irrefl x := by rw [lt_eq]; exact Pl.kl_irrefl _
  trans x y z h1 h2 := by rw [lt_eq] at *; exact Pl.kl_trans h1 h2
  ntrans x y z h1 h2 := by
    rw [lt_eq] at *
    cases h3 : Pl.keyLess x.1 z.1 with
    | false => rfl
    | true =>
      rcases Pl.kl_total x.1 y.1 with a | a | a
      · rw [a] at h1; cases h1
      · rw [a] at h3; rw [h3] at h2; cases h2
      · have := Pl.kl_trans a h3
        rw [this] at h2; cases h2
theorem cmpLays76 (blk off size : Nat) (w : World) : CmpLays Tryz.prog 70 #[] encE 3 cfE blk off size w := fun _ _ _ _ x y => closure76 x y _
end Go.Proofs.YtagobgjlhdbhmaaGreatDoor
/-
  A row of entries that the sort has put in order.
-/
namespace Go.Proofs.YtagobgjlhdbhmaaGreatDoor
open Go.RowKit Go.Sort

theorem perm_lift {α β : Type} {f : α → β} : ∀ {l m : List β}, l.Perm m → ∀ qs : List α, m = qs.map f → ∃ qs' : List α, qs'.Perm qs ∧ qs'.map f = l := by
  intro l m h
  induction h with
  | nil =>
    intro qs hq
    obtain rfl : qs = [] := by simpa using hq.symm
    exact ⟨[], .nil, rfl⟩
  | cons x _ ih =>
    intro qs hq
    cases qs with
    | nil => simp at hq
    | cons q r =>
      simp only [List.map_cons, List.cons.injEq] at hq
      obtain ⟨r', h1, h2⟩ := ih r hq.2
      exact ⟨q :: r', h1.cons q, by simp [h2, hq.1]⟩
  | swap x y l =>
    intro qs hq
    cases qs with
    | nil => simp at hq
    | cons q r =>
      cases r with
      | nil => simp at hq
      | cons q2 r =>
        simp only [List.map_cons, List.cons.injEq] at hq
        exact ⟨q2 :: q :: r, .swap _ _ _, by simp [hq.1, hq.2.1, hq.2.2]⟩
  | trans _ _ ih1 ih2 =>
    intro qs hq
    obtain ⟨q1, h1, h2⟩ := ih2 qs hq
    obtain ⟨q2, h3, h4⟩ := ih1 q1 h2.symm
    exact ⟨q2, h3.trans h1, h4⟩
/-- the parts of a slice -/
def slP : Value → Option Addr × Nat × Nat
  | .slice a l c => (a, l, c)
  | _ => (none, 0, 0)
def toSE (p : EP) : SE := (p.1.key, slP p.2)
/-- every entry's places are a slice -/
def Sls (qs : List EP) : Prop := ∀ p ∈ qs, ∃ a l c, p.2 = .slice a l c
theorem enc_to {p : EP} (h : ∃ a l c, p.2 = .slice a l c) : encE (toSE p) = [.int .i64 p.1.key.1, .string ⟨p.1.key.2.toArray⟩, p.2] := by
  obtain ⟨a, l, c, e⟩ := h
  simp [encE, toSE, slP, e]
theorem pCells_enc : ∀ {qs : List EP}, Sls qs → ∀ j, j < qs.length * 3 → (pCells qs)[j]? = some ((encE ((qs.map toSE).toArray)[j / 3]!)[j % 3]!) := by
  intro qs hs j hj
  have hi : j / 3 < qs.length := by omega
  obtain ⟨h0, h1, h2⟩ := pCells_get qs (j / 3) hi
  have he : ((qs.map toSE).toArray)[j / 3]! = toSE qs[j / 3] := by
    rw [getElem!_pos _ _ (by simpa using hi)]
    simp
  rw [he, enc_to (hs _ (List.getElem_mem hi))]
  have hm : j % 3 = 0 ∨ j % 3 = 1 ∨ j % 3 = 2 := by omega
  rcases hm with e | e | e
  · rw [e]
    have : j = j / 3 * 3 := by omega
    rw [← this] at h0
    simpa using h0
  · rw [e]
    have : j = j / 3 * 3 + 1 := by omega
    rw [← this] at h1
    simpa using h1
  · rw [e]
    have : j = j / 3 * 3 + 2 := by omega
    rw [← this] at h2
    simpa using h2
theorem holds_row {w : World} {B g n cap : Nat} {qs : List EP} (h : w.ownsRow B 55 3 (.slice (some ⟨g, 0, none⟩) n cap) n (pCells qs)) (hn : qs.length = n) (hs : Sls qs) : HoldsK encE 3 w g 0 (qs.map toSE).toArray := by
  intro j hj
  have hj' : j < qs.length * 3 := by simpa using hj
  refine ⟨?_, ?_⟩
  · rw [Nat.zero_add, World.ownsRow.cellAt h j (by omega), pCells_enc hs j hj', get_flatK _ _ _ _ (by simpa using hj')]
    rfl
  · exact World.ownsRow.frozenAt h _
theorem sorted_row {w : World} {B g n cap m : Nat} {qs qs' : List EP} {os : Array Obj} (h : w.ownsRow B 55 3 (.slice (some ⟨g, 0, none⟩) n cap) n (pCells qs)) (hn : qs.length = n) (hs : Sls qs) (hp : qs'.Perm qs) :
    (sortWorldK encE 3 w g 0 m (qs'.map toSE).toArray os).ownsRow B 55 3 (.slice (some ⟨g, 0, none⟩) n cap) n (pCells qs') ∧ w.grownBy (sortWorldK encE 3 w g 0 m (qs'.map toSE).toArray os) (some g) := by
  have hl : qs'.length = n := hp.length_eq.trans hn
  have hs' : Sls qs' := fun p hp' => hs p (hp.mem_iff.1 hp')
  have hH := holds_row h hn hs
  have hlt := (World.ownsRow.lt h g rfl).2
  have hH' := holdsK_sortWorldK_c encE 3 w g 0 (qs.map toSE).toArray (qs'.map toSE).toArray m os hH hlt (by simp [hl, hn])
  rcases h.2 with ⟨h0, _⟩ | ⟨g', cap', cur, h', hb, hg, hnc, hcm, hcs, htake⟩
  · cases h0
  simp only [Value.slice.injEq, Option.some.injEq, Addr.mk.injEq, and_true, true_and] at h'
  obtain ⟨rfl, rfl⟩ := h'
  have hblk : (sortWorldK encE 3 w g 0 m (qs'.map toSE).toArray os).heap[g]? = some (.cells (putCells id 0 (flatK encE 3 (qs'.map toSE).toArray) cur) 55 (0, 0)) := by
    unfold sortWorldK
    rw [heap_grow_old _ _ (by simpa [putRowK, putRow, mapBlock, Sort.ahead] using hlt)]
    simp [putRowK, putRow, mapBlock, Sort.ahead, Array.getElem?_modify, hg, onCells]
  have hsz : (putCells id 0 (flatK encE 3 (qs'.map toSE).toArray) cur).size = cur.size := by simp [putCells]
  refine ⟨⟨by rw [pCells_len, hl], Or.inr ⟨g, cap, _, rfl, hb, hblk, hnc, hcm, by rw [hsz]; exact hcs, ?_⟩⟩, ⟨rfl, rfl, rfl, by simp [sortWorldK, grow, putRowK, putRow, mapBlock, Sort.ahead], fun k hk hne => ?_⟩⟩
  · apply List.ext_getElem?
    intro j
    rw [List.getElem?_take]
    by_cases hj : j < n * 3
    · rw [if_pos hj, pCells_enc hs' j (by rw [hl]; exact hj)]
      have hc := (hH' j (by simpa [hl] using hj)).1
      rw [Nat.zero_add, cell_of_row _ g j _ 55 (0, 0) hblk, get_flatK _ _ _ _ (by simpa [hl] using hj)] at hc
      simpa using hc
    · rw [if_neg hj, List.getElem?_eq_none (by rw [pCells_len, hl]; omega)]
  · unfold sortWorldK
    rw [heap_grow_old _ _ (by simpa [putRowK, putRow, mapBlock, Sort.ahead] using hk)]
    have : g ≠ k := fun e => hne (by rw [e])
    simp [putRowK, putRow, mapBlock, Sort.ahead, Array.getElem?_modify, this]
end Go.Proofs.YtagobgjlhdbhmaaGreatDoor
