/-
  Lists of numbers: whether they are the same, as live tells it.
-/
import Derived.Test.YtagobgjlhdbhmaaGreatDoorIdxM
import Derived.Test.YtagobgjlhdbhmaaGreatDoorFor
import Derived.Test.YtagobgjlhdbhmaaGreatDoorPag
import Derived.Deep.RegionLaw
import Derived.Test.YtagobgjlhdbhmaaGreatDoorRmD
import Derived.Test.YtagobgjlhdbhmaaGreatDoorMbD
import Derived.Test.YtagobgjlhdbhmaaGreatDoorOwnD
import Derived.Test.YtagobgjlhdbhmaaGreatDoorIdxP
import Derived.Test.YtagobgjlhdbhmaaGreatDoorRcB
import Derived.Test.YtagobgjlhdbhmaaGreatDoorRcE
namespace Go.Proofs.YtagobgjlhdbhmaaGreatDoor
open Go.RowKit

def sameEn (x y : Pl.Er) : Bool := decide (x = y)
end Go.Proofs.YtagobgjlhdbhmaaGreatDoor
/-
  live's inner calls: a document made a page, a page checked.
-/
namespace Go.Proofs.YtagobgjlhdbhmaaGreatDoor
open Go.RowKit

/-- what indexed answers -/
def IdxSays (err : Int) (ns : List Pl.Nd) (w : World) (e : Ending) (w' : World) : Prop :=
  ∃ v, e = .returned (.tuple #[v, .int .i64 (pgErr err ns)]) ∧ PgAt w' v (pgDoc err ns) (pgIdx err ns) ∧ Below w.heap.size w w'
theorem two_boxes (w : World) (o1 o2 : Obj) : ((w.alloc o1).alloc o2).heap.size = w.heap.size + 2 := by simp
set_option maxRecDepth 100000 in
set_option maxHeartbeats 2000000 in
theorem indexed_any (v : Value) (ns : List Pl.Nd) (err : Int) (w : World) (hd : DocAt w v ns) :
    Calls Tryz.prog 98 #[.agg #[v], .int .i64 err] w fun e w' => IdxSays err ns w e w' := by
  obtain ⟨a, c, rfl⟩ := hd.form
  have hb0 := boxes w (.cells #[.slice a ns.length c] 24) (.cells #[.slice none 0 0, .slice none 0 0] 59)
  have bR : Blk2 ((w.alloc (.cells #[.slice a ns.length c] 24)).alloc (.cells #[.slice none 0 0, .slice none 0 0] 59)) (w.heap.size + 1) (.slice none 0 0) (.slice none 0 0) := by
    have := Blk2.new (w.alloc (.cells #[.slice a ns.length c] 24)) (.slice none 0 0) (.slice none 0 0)
    simpa using this
  have bS : Blk1 ((w.alloc (.cells #[.slice a ns.length c] 24)).alloc (.cells #[.slice none 0 0, .slice none 0 0] 59)) w.heap.size (.slice a ns.length c) := (Blk1.new w _).on (on_alloc _ _)
  have hz := two_boxes w (.cells #[.slice a ns.length c] 24) (.cells #[.slice none 0 0, .slice none 0 0] 59)
  have HD : Hid (DocAt ((w.alloc (.cells #[.slice a ns.length c] 24)).alloc (.cells #[.slice none 0 0, .slice none 0 0] 59)) (.slice a ns.length c) ns) := hd.on hb0
  have HB0 : Hid (Below _ _ _) := hb0
  have HBR : Hid (Blk2 _ _ _ _) := bR
  have HBS : Hid (Blk1 _ _ _) := bS
  clear hd hb0 bR bS
  cases he : (err != 0) with
  | true =>
    have HA : Hid (pgErr err ns = err ∧ pgDoc err ns = [] ∧ pgIdx err ns = []) := by
      have : ¬ err = 0 := by simpa using he
      unfold Hid pgErr pgDoc pgIdx
      simp [this]
    obtain ⟨⟨r0, r1⟩, fR⟩ := HBR.out.facts
    go_enter Tryz.func98, Tryz.ntmps98
    go_wp2
    exact bodyPost_ret (v := .tuple #[.agg #[.slice none 0 0, .slice none 0 0], .int .i64 err]) (by simp [results, Tryz.results98, go_sem]) rfl
      ⟨_, by rw [HA.out.1], by rw [HA.out.2.1, HA.out.2.2]; exact PgAt.nil _, HB0.out⟩
  | false =>
    have he0 : err = 0 := by simpa using he
    have HA : Hid (pgErr err ns = Pl.checkDoc ns ∧ pgDoc err ns = (if Pl.checkDoc ns = 0 then ns else []) ∧ pgIdx err ns = Pl.idxAns ns) := by
      unfold Hid pgErr pgDoc pgIdx
      simp [he0]
    clear he0
    obtain ⟨s0, _⟩ := HBS.out.facts
    go_enter Tryz.func98, Tryz.ntmps98
    go_wp2_with fail
    generalize (w.alloc (.cells #[.slice a ns.length c] 24)).alloc (.cells #[.slice none 0 0, .slice none 0 0] 59) = w0 at *
    refine (build_any _ ns _ HD.out).mono ?_
    rintro e w1 ⟨u, rfl, hen, hb1⟩
    obtain ⟨au, cu, rfl⟩ := hen.form
    have HB1 : Hid (Below w.heap.size w w1) := below_trans HB0.out hb1
    have bR1 := Blk2.on HBR.out hb1
    have bS1 := Blk1.on HBS.out hb1
    have hd1 : DocAt w1 (.slice a ns.length c) ns := DocAt.on HD.out hb1
    obtain ⟨⟨r0, r1⟩, fR⟩ := bR1.facts
    obtain ⟨t0, _⟩ := bS1.facts
    cases hc : (Pl.checkDoc ns != 0) with
    | true =>
      have hc0 : ¬ Pl.checkDoc ns = 0 := by simpa using hc
      have HI : Hid (Pl.idxAns ns = []) := by unfold Hid Pl.idxAns; rw [if_neg hc0]
      have HDD : Hid ((if Pl.checkDoc ns = 0 then ns else []) = ([] : List Pl.Nd)) := if_neg hc0
      obtain ⟨p1, p2⟩ := PgAt.box (ns := []) (l := []) (DocAt.nil _) (EnsAt.nil _) bR1
      obtain ⟨⟨q0, q1⟩, _⟩ := p2.facts
      simp only [List.length_nil] at p1 q0 q1
      have HP1 : Hid (PgAt _ _ _ _) := p1
      have HQ0 : Hid _ := q0
      have HQ1 : Hid _ := q1
      clear p1 p2 q0 q1 hc0 hen hd1 bR1 bS1 hb1 s0
      generalize Pl.checkDoc ns = r at *
      go_wp2
      have q0 := HQ0.out
      have q1 := HQ1.out
      exact bodyPost_ret (v := .tuple #[.agg #[.slice none 0 0, .slice none 0 0], .int .i64 r]) (by simp [results, Tryz.results98, go_sem, q0, q1]) rfl
        ⟨_, by rw [HA.out.1], by rw [HA.out.2.1, HA.out.2.2, HI.out, HDD.out]; exact HP1.out, (HB1.out.setCell (p := ⟨w.heap.size + 1, 0, none⟩) (by simp) _).setCell (p := ⟨w.heap.size + 1, 1, none⟩) (by simp) _⟩
    | false =>
      have hc0 : Pl.checkDoc ns = 0 := by simpa using hc
      have HDD : Hid ((if Pl.checkDoc ns = 0 then ns else []) = ns) := if_pos hc0
      have HE0 : Hid (pgErr err ns = 0) := by rw [HA.out.1]; exact hc0
      obtain ⟨p1, p2⟩ := PgAt.box hd1 hen bR1
      obtain ⟨⟨q0, q1⟩, _⟩ := p2.facts
      have HP1 : Hid (PgAt _ _ _ _) := p1
      have HQ0 : Hid _ := q0
      have HQ1 : Hid _ := q1
      clear p1 p2 q0 q1 hc0 hen hd1 bR1 bS1 hb1 s0
      generalize Pl.checkDoc ns = r at *
      generalize Pl.idxAns ns = l at *
      go_wp2
      have q0 := HQ0.out
      have q1 := HQ1.out
      exact bodyPost_ret (v := .tuple #[.agg #[.slice a ns.length c, .slice au l.length cu], .int .i64 0]) (by simp [results, Tryz.results98, go_sem, q0, q1]) rfl
        ⟨_, by rw [HE0.out], by rw [HA.out.2.1, HA.out.2.2, HDD.out]; exact HP1.out, (HB1.out.setCell (p := ⟨w.heap.size + 1, 0, none⟩) (by simp) _).setCell (p := ⟨w.heap.size + 1, 1, none⟩) (by simp) _⟩
/-- an index that fits -/
def IxFit (l : List Pl.Er) : Prop := l.length ≤ maxLen ∧ ∀ e ∈ l, e.2.length ≤ maxLen
theorem ix_ans (ns : List Pl.Nd) : IxFit (Pl.idxAns ns) := ⟨by have := (idx_small ns).1; unfold maxLen; omega, fun e he => by have := (idx_small ns).2 e he; unfold maxLen; omega⟩
end Go.Proofs.YtagobgjlhdbhmaaGreatDoor
/-
  live's change, whatever closure it is handed.
-/
namespace Go.Proofs.YtagobgjlhdbhmaaGreatDoor
open Go.RowKit

theorem PgAt.form {w : World} {v : Value} {ns : List Pl.Nd} {l : List Pl.Er} (h : PgAt w v ns l) : ∃ a c a2 c2, v = .agg #[.slice a ns.length c, .slice a2 l.length c2] := by
  obtain ⟨a, c, a2, c2, e, _, _⟩ := h
  exact ⟨a, c, a2, c2, e⟩
end Go.Proofs.YtagobgjlhdbhmaaGreatDoor
/-
  Pages, as the document's own answer has them.
-/
namespace Go.Proofs.YtagobgjlhdbhmaaGreatDoor
open Go.RowKit

theorem ref_idx {ns : List Pl.Nd} {ps : List EP} (hc : Pl.checkDoc ns = 0) (hm : ps.map (·.1) = Pl.idxTo ns ns.length) : ps.map (fun p => Pl.erOf p.1) = Pl.idxAns ns := by
  unfold Pl.idxAns
  rw [if_pos hc, ← hm, List.map_map]
  rfl
theorem pair_on {w W w' : World} {p0 p1 : Addr} {v0 v1 : Value} (h : W.cell? p0 = some v0 ∧ W.cell? p1 = some v1 ∧ Below w.heap.size w W) (hb : Below W.heap.size W w') : w'.cell? p0 = some v0 ∧ w'.cell? p1 = some v1 ∧ Below w.heap.size w w' := ⟨cell_on hb h.1, cell_on hb h.2.1, below_trans h.2.2 hb⟩
theorem pair_last {w W : World} {p0 p1 : Addr} {v0 v1 : Value} (h : W.cell? p0 = some v0 ∧ W.cell? p1 = some v1 ∧ Below w.heap.size w W) : Below w.heap.size w W := h.2.2
end Go.Proofs.YtagobgjlhdbhmaaGreatDoor
/-
  What a path asks for, in plain lists: a path that asks for what nobody has matches nobody, so leaving it out changes nothing. No program in this text.
-/
namespace Go.Proofs.YtagobgjlhdbhmaaGreatDoor

section
variable {α : Type}
def askT (t : Pl.Tst α) : List Pl.Key := if t.kind = 2 then [(2, t.name)] else if t.kind = 1 then [(3, t.name)] else []
def askS (s : Pl.Stp α) : List Pl.Key := (if s.tag = [] then [] else [(1, s.tag)]) ++ s.tests.flatMap askT
def askP (p : Pl.Pth α) : List Pl.Key := p.steps.flatMap askS
/-- somebody has each that the path asks for -/
def openB (ns : List Pl.Nd) (p : Pl.Pth α) : Bool := (askP p).all fun k => !(Pl.whoTo ns k ns.length).isEmpty
theorem who_some {ns : List Pl.Nd} {k : Pl.Key} {n : Nat} {x : Pl.Nd} (hx : ns[n]? = some x) (hk : k ∈ Pl.keysOf x) : (Pl.whoTo ns k ns.length).isEmpty = false := by
  have hn : n < ns.length := (List.getElem?_eq_some_iff.1 hx).1
  have hm : n ∈ Pl.whoTo ns k ns.length := by
    unfold Pl.whoTo
    rw [List.mem_filter]
    refine ⟨List.mem_range.2 hn, ?_⟩
    rw [hx]
    exact decide_eq_true hk
  cases e : Pl.whoTo ns k ns.length with
  | nil => rw [e] at hm; cases hm
  | cons a r => rfl
/-- who matches a step has what the step asks for -/
theorem stp_keys {ns : List Pl.Nd} {g : List α → Nat → Bool} {s : Pl.Stp α} {n : Nat} (hn : n < ns.length) (hf : ∀ t ∈ s.tests, Pl.tForm Pl.isName Pl.isValue t = true) (h : stpM ns g s n = true) : ∀ k ∈ askS s, (Pl.whoTo ns k ns.length).isEmpty = false := by
  intro k hk
  obtain ⟨x, hx⟩ : ∃ x, ns[n]? = some x := ⟨_, List.getElem?_eq_getElem hn⟩
  refine who_some hx ?_
  unfold stpM at h
  rw [Bool.and_eq_true, List.all_eq_true] at h
  unfold askS at hk
  rw [List.mem_append] at hk
  rcases hk with hk | hk
  · by_cases e : s.tag = []
    · rw [if_pos e] at hk; cases hk
    · rw [if_neg e, List.mem_singleton] at hk
      have h1 := h.1
      rw [Bool.or_eq_true] at h1
      rcases h1 with h1 | h1
      · exact absurd (List.isEmpty_iff.1 h1) e
      · have h2 : s.tag = tagAt ns n := beq_iff_eq.1 h1
        unfold tagAt at h2
        rw [hx] at h2
        rw [hk, h2]
        unfold Pl.keysOf
        exact List.mem_cons_self
  · rw [List.mem_flatMap] at hk
    obtain ⟨t, ht, hk⟩ := hk
    have h1 := h.2 t ht
    have hft := hf t ht
    unfold askT at hk
    unfold tstM at h1
    by_cases e2 : t.kind = 2
    · rw [if_pos e2, List.mem_singleton] at hk
      rw [if_neg (by rw [e2]; decide), if_pos e2] at h1
      have h2 : idAt ns n = t.name := beq_iff_eq.1 h1
      unfold idAt at h2
      rw [hx] at h2
      have hne : t.name ≠ [] := by
        intro e
        unfold Pl.tForm at hft
        rw [e2, e] at hft
        have : Pl.isName [] = false := rfl
        simp [Pl.kName, Pl.asked, this] at hft
      have h3 : x.id ≠ [] := by
        intro e
        exact hne (h2.symm.trans e)
      rw [hk, ← h2]
      unfold Pl.keysOf
      rw [if_neg h3]
      exact List.mem_cons_of_mem _ (List.mem_append_left _ (List.mem_singleton.2 rfl))
    · rw [if_neg e2] at hk
      by_cases e1 : t.kind = 1
      · rw [if_pos e1, List.mem_singleton] at hk
        rw [if_pos e1] at h1
        unfold clsAt at h1
        rw [hx, List.any_eq_true] at h1
        obtain ⟨c, hc, he⟩ := h1
        have he : c = t.name := beq_iff_eq.1 he
        rw [hk, ← he]
        unfold Pl.keysOf
        exact List.mem_cons_of_mem _ (List.mem_append_right _ (List.mem_map.2 ⟨c, hc, rfl⟩))
      · rw [if_neg e1] at hk
        cases hk
/-- each step of a path that matches has an element of its own -/
theorem pth_steps {ns : List Pl.Nd} {g : List α → Nat → Bool} {p : Pl.Pth α} : ∀ (k n : Nat), n < ns.length → pthM ns g p k n = true → ∀ j, j ≤ k → ∃ m, m < ns.length ∧ stpM ns g (stpAt p j) m = true
  | 0, n, hn, h, j, hj => by
    obtain rfl : j = 0 := by omega
    exact ⟨n, hn, h⟩
  | k + 1, n, hn, h, j, hj => by
    unfold pthM at h
    rw [Bool.and_eq_true, List.any_eq_true] at h
    by_cases e : j = k + 1
    · subst e
      exact ⟨n, hn, h.1⟩
    · obtain ⟨m, hm, h2⟩ := h.2
      rw [Bool.and_eq_true] at h2
      have hmn := List.mem_range.1 hm
      exact pth_steps k m (by omega) h2.2 j (by omega)
theorem pth_open {ns : List Pl.Nd} {g : List α → Nat → Bool} {p : Pl.Pth α} {n : Nat} (hn : n < ns.length) (hf : Pl.pForm Pl.isName Pl.isValue p = true) (h : pthM ns g p (p.steps.length - 1) n = true) : openB ns p = true := by
  unfold openB
  rw [List.all_eq_true]
  intro k hk
  unfold askP at hk
  rw [List.mem_flatMap] at hk
  obtain ⟨s, hs, hk⟩ := hk
  obtain ⟨j, hj, rfl⟩ := List.mem_iff_getElem.1 hs
  obtain ⟨m, hm, hst⟩ := pth_steps _ n hn h j (by omega)
  have e : stpAt p j = p.steps[j] := by
    unfold stpAt
    rw [List.getElem?_eq_getElem hj]
    rfl
  rw [e] at hst
  unfold Pl.pForm at hf
  rw [Bool.and_eq_true, List.all_eq_true, List.all_eq_true] at hf
  rw [stp_keys hm (fun t ht => hf.2 t (List.mem_flatMap.2 ⟨_, hs, ht⟩)) hst k hk]
  rfl
theorem lst_open {ns : List Pl.Nd} {g : List α → Nat → Bool} {l : List (Pl.Pth α)} {n : Nat} (hn : n < ns.length) (hf : ∀ p ∈ l, Pl.pForm Pl.isName Pl.isValue p = true) : lstM ns g (l.filter (openB ns)) n = lstM ns g l n := by
  unfold lstM
  induction l with
  | nil => rfl
  | cons p r ih =>
    have ih := ih fun q hq => hf q (List.mem_cons_of_mem _ hq)
    rw [List.any_cons, ← ih]
    cases ho : openB ns p with
    | true => rw [List.filter_cons_of_pos ho, List.any_cons]
    | false =>
      rw [List.filter_cons_of_neg (by rw [ho]; exact Bool.false_ne_true)]
      cases hp : pthM ns g p (p.steps.length - 1) n with
      | false => rfl
      | true =>
        have := pth_open hn (hf p List.mem_cons_self) hp
        rw [ho] at this
        cases this
theorem evUp_filter {r : Pl.Pth α → Bool} {f : List α → Bool} {l : List (Pl.Pth α)} (q : Pl.Pth α → Bool) (h : Pl.evUp r f l = true) : Pl.evUp r f (l.filter q) = true := by
  unfold Pl.evUp at *
  rw [List.all_eq_true] at *
  exact fun p hp => h p (List.mem_filter.1 hp).1
theorem fitUp_filter {f : List α → Bool} {l : List (Pl.Pth α)} (q : Pl.Pth α → Bool) (h : Pl.fitUp f l = true) (hne : l.filter q ≠ []) : Pl.fitUp f (l.filter q) = true := by
  unfold Pl.fitUp at *
  rw [Bool.and_eq_true, List.all_eq_true, decide_eq_true_eq] at *
  refine ⟨⟨?_, ?_⟩, fun p hp => h.2 p (List.mem_filter.1 hp).1⟩
  · exact List.length_pos_iff.2 hne
  · exact Nat.le_trans (List.length_filter_le _ _) h.1.2
end
theorem chk_parts {l : List Pl.D3} (h : chkList l = 0) : Pl.fit3 l = true ∧ Pl.kind3 l = true ∧ Pl.form3 l = true ∧ nth3 l = true := by
  unfold chkList Pl.pick4 at h
  revert h
  cases Pl.fit3 l <;> cases Pl.kind3 l <;> cases Pl.form3 l <;> cases nth3 l <;> simp
theorem m3_open {ns : List Pl.Nd} {l : List Pl.D3} {n : Nat} (hn : n < ns.length) (h : chkList l = 0) : m3 ns (l.filter (openB ns)) n = m3 ns l n := by
  refine lst_open hn fun p hp => ?_
  have h1 := (chk_parts h).2.2.1
  unfold Pl.form3 Pl.evUp at h1
  rw [List.all_eq_true] at h1
  have h2 := h1 p hp
  rw [Bool.and_eq_true] at h2
  exact h2.1
theorem chk_filter {l : List Pl.D3} (q : Pl.D3 → Bool) (h : chkList l = 0) (hne : l.filter q ≠ []) : chkList (l.filter q) = 0 := by
  obtain ⟨h1, h2, h3, h4⟩ := chk_parts h
  have e1 : Pl.fit3 (l.filter q) = true := fitUp_filter q h1 hne
  have e2 : Pl.kind3 (l.filter q) = true := evUp_filter q h2
  have e3 : Pl.form3 (l.filter q) = true := evUp_filter q h3
  have e4 : nth3 (l.filter q) = true := by
    unfold nth3 nthL at *
    rw [List.all_eq_true] at *
    exact fun p hp => h4 p (List.mem_filter.1 hp).1
  unfold chkList Pl.pick4
  rw [e1, e2, e3, e4]
  rfl
end Go.Proofs.YtagobgjlhdbhmaaGreatDoor
