/-
  Pages, as the document's own answer has them.
-/
import Derived.Test.YtephhllfodlfbaaGreatDoorLiy
import Derived.Test.YtephhllfodlfbaaGreatDoorIsR
import Derived.Test.YtephhllfodlfbaaGreatDoorAsk
import Derived.BigQuiet
import Derived.Deep.QuietTactic
import Derived.Test.YtephhllfodlfbaaGreatDoorKids
import Derived.Test.YtephhllfodlfbaaGreatDoorMbD
import Derived.Test.YtephhllfodlfbaaGreatDoorOwnD
import Derived.Test.YtephhllfodlfbaaGreatDoorVLiy
import Derived.Test.YtephhllfodlfbaaGreatDoorVLix
import Derived.Test.YtephhllfodlfbaaGreatDoorVAsk
import Derived.Test.YtephhllfodlfbaaGreatDoorRem
import Derived.Test.YtephhllfodlfbaaGreatDoorMem
import Derived.Test.YtephhllfodlfbaaGreatDoorRcB
import Derived.Test.YtephhllfodlfbaaGreatDoorVRem
import Derived.Test.YtephhllfodlfbaaGreatDoorMapK
import Derived.Test.YtephhllfodlfbaaGreatDoorFor
import Derived.Test.YtephhllfodlfbaaGreatDoorRmD
import Derived.Deep.RegionHeld3
import Derived.Test.YtephhllfodlfbaaGreatDoorAdd
import Derived.Test.YtephhllfodlfbaaGreatDoorFresh
import Derived.Test.YtephhllfodlfbaaGreatDoorIdxM
import Derived.Deep.RegionLaw
import Derived.Test.YtephhllfodlfbaaGreatDoorMtQ
import Derived.Test.YtephhllfodlfbaaGreatDoorIdxO
import Derived.Test.YtephhllfodlfbaaGreatDoorVIdxU
import Derived.Test.YtephhllfodlfbaaGreatDoorVPut
import Derived.Test.YtephhllfodlfbaaGreatDoorTrek
import Derived.Test.YtephhllfodlfbaaGreatDoorPut
import Derived.Test.YtephhllfodlfbaaGreatDoorIdxP
import Derived.Test.YtephhllfodlfbaaGreatDoorPkA
namespace Go.Proofs.YtephhllfodlfbaaGreatDoor
open Go.RowKit

theorem ref_idx {ns : List Pl.Nd} {ps : List EP} (hc : Pl.checkDoc ns = 0) (hm : ps.map (·.1) = Pl.idxTo ns ns.length) : ps.map (fun p => Pl.erOf p.1) = Pl.idxAns ns := by
  unfold Pl.idxAns
  rw [if_pos hc, ← hm, List.map_map]
  rfl
theorem sameIdx_ref {l : List Pl.Er} {ns : List Pl.Nd} {B : Nat} {w : World} {v v1 : Value} {ps : List EP} {b : Bool} (hc : Pl.checkDoc ns = 0) (hrow : ERow B w v ps) (hm : ps.map (·.1) = Pl.idxTo ns ns.length) (h1 : EnsAt w v1 l) (hl : IxFit l) (hb : sameE l (Pl.idxAns ns) = b) :
    Calls Tryz.prog 32 #[v1, v] w fun e w' => e = .returned (.bool b) ∧ Below w.heap.size w w' := by
  have h2 := hrow.ens
  rw [ref_idx hc hm] at h2
  refine (sameIndexes_any v1 v l (Pl.idxAns ns) w hl.1 hl.2 h1 h2).mono ?_
  rintro e w' ⟨rfl, hd⟩
  exact ⟨by rw [hb], hd.below⟩
theorem pair_on {w W w' : World} {p0 p1 : Addr} {v0 v1 : Value} (h : W.cell? p0 = some v0 ∧ W.cell? p1 = some v1 ∧ Below w.heap.size w W) (hb : Below W.heap.size W w') : w'.cell? p0 = some v0 ∧ w'.cell? p1 = some v1 ∧ Below w.heap.size w w' := ⟨cell_on hb h.1, cell_on hb h.2.1, below_trans h.2.2 hb⟩
theorem pair_last {w W : World} {p0 p1 : Addr} {v0 v1 : Value} (h : W.cell? p0 = some v0 ∧ W.cell? p1 = some v1 ∧ Below w.heap.size w W) : Below w.heap.size w W := h.2.2
end Go.Proofs.YtephhllfodlfbaaGreatDoor
/-
  The small page, and what its changes come to.
-/
namespace Go.Proofs.YtephhllfodlfbaaGreatDoor
open Go.RowKit

def nodeX1 : Pl.Nd := ⟨-1, [120], [], [], []⟩
def nodeY1 : Pl.Nd := ⟨0, [121], [], [], []⟩
/-- what is left, what is put in, what is changed -/
def nsA : List Pl.Nd := [⟨-1, [108, 105, 115, 116], [116, 111, 112], [], []⟩, ⟨0, [105, 116, 101, 109], [], [[97]], []⟩, ⟨0, [105, 116, 101, 109], [], [[97]], []⟩]
def nsB : List Pl.Nd := [⟨-1, [108, 105, 115, 116], [116, 111, 112], [], []⟩, ⟨0, [105, 116, 101, 109], [], [[97]], []⟩, ⟨0, [105, 116, 101, 109], [], [[97]], []⟩, ⟨0, [120], [], [], []⟩]
def nsC : List Pl.Nd := [⟨-1, [108, 105, 115, 116], [116, 111, 112], [], []⟩, ⟨0, [105, 116, 101, 109], [], [[97]], []⟩, ⟨0, [105, 116, 101, 109], [], [[97]], []⟩, ⟨0, [121], [], [], []⟩]
theorem a_err : remErr smallNs 2 = 0 := by kernel_rfl
theorem a_of : remOf smallNs 2 = nsA := by kernel_rfl
theorem b_err : insErr nsA 0 2 [nodeX1] = 0 := by kernel_rfl
theorem b_of : insOf nsA 0 2 [nodeX1] = nsB := by kernel_rfl
theorem c_err : putErr nsB 3 nodeY1 = 0 := by kernel_rfl
theorem c_of : putOf nsB 3 nodeY1 = nsC := by kernel_rfl
theorem a_len : (Pl.idxAns nsA).length = 4 := by kernel_rfl
theorem b_len : (Pl.idxAns nsB).length = 5 := by kernel_rfl
theorem a_chk : Pl.checkDoc nsA = 0 := by rw [← a_of]; exact rem_right a_err
theorem b_chk : Pl.checkDoc nsB = 0 := by rw [← b_of]; exact ins_right b_err
theorem c_chk : Pl.checkDoc nsC = 0 := by rw [← c_of]; exact put_right c_err
theorem page_ok {ns : List Pl.Nd} (h : Pl.checkDoc ns = 0) : pageErr ns (Pl.idxAns ns) = 0 := by
  unfold pageErr
  rw [if_pos h, if_pos rfl]
theorem pg_ok {ms : List Pl.Nd} (h : Pl.checkDoc ms = 0) : pgErr 0 ms = 0 ∧ pgDoc 0 ms = ms ∧ pgIdx 0 ms = Pl.idxAns ms := by
  unfold pgErr pgDoc pgIdx
  simp [h]
theorem ch_ok {ns ms : List Pl.Nd} {E : Int} (h : Pl.checkDoc ns = 0) (hE : E = 0) (hm : Pl.checkDoc ms = 0) : chErr (pageErr ns (Pl.idxAns ns)) E ms = 0 ∧ chDoc (pageErr ns (Pl.idxAns ns)) E ms = ms ∧ chIdx (pageErr ns (Pl.idxAns ns)) E ms = Pl.idxAns ms := by
  unfold chErr chDoc chIdx
  rw [page_ok h, hE, if_pos rfl, if_pos rfl, if_pos rfl]
  exact pg_ok hm
end Go.Proofs.YtephhllfodlfbaaGreatDoor
/-
  What a path asks for, in plain lists: a path that asks for what nobody has matches nobody, so leaving it out changes nothing. No program in this text.
-/
namespace Go.Proofs.YtephhllfodlfbaaGreatDoor

section
variable {α : Type}
def askT (t : Pl.Tst α) : List Pl.Key := if t.kind = 2 then [(2, t.name)] else if t.kind = 1 then [(3, t.name)] else []
def askS (s : Pl.Stp α) : List Pl.Key := (if s.tag = [] then [] else [(1, s.tag)]) ++ s.tests.flatMap askT
def askP (p : Pl.Pth α) : List Pl.Key := p.steps.flatMap askS
/-- somebody has each that the path asks for -/
def openB (ns : List Pl.Nd) (p : Pl.Pth α) : Bool := (askP p).all fun k => !(Pl.whoTo ns k ns.length).isEmpty
theorem who_some {ns : List Pl.Nd} {k : Pl.Key} {n : Nat} {x : Pl.Nd} (hx : ns[n]? = some x) (hk : k ∈ Pl.keysOf x) : (Pl.whoTo ns k ns.length).isEmpty = false := by
  have hn : n < ns.length := (List.getElem?_eq_some_iff.1 hx).1
  have hm : n ∈ Pl.whoTo ns k ns.length := by
    unfold Pl.whoTo
    rw [List.mem_filter]
    refine ⟨List.mem_range.2 hn, ?_⟩
    rw [hx]
    exact decide_eq_true hk
  cases e : Pl.whoTo ns k ns.length with
  | nil => rw [e] at hm; cases hm
  | cons a r => rfl
/-- who matches a step has what the step asks for -/
theorem stp_keys {ns : List Pl.Nd} {g : List α → Nat → Bool} {s : Pl.Stp α} {n : Nat} (hn : n < ns.length) (hf : ∀ t ∈ s.tests, Pl.tForm Pl.isName Pl.isValue t = true) (h : stpM ns g s n = true) : ∀ k ∈ askS s, (Pl.whoTo ns k ns.length).isEmpty = false := by
  intro k hk
  obtain ⟨x, hx⟩ : ∃ x, ns[n]? = some x := ⟨_, List.getElem?_eq_getElem hn⟩
  refine who_some hx ?_
  unfold stpM at h
  rw [Bool.and_eq_true, List.all_eq_true] at h
  unfold askS at hk
  rw [List.mem_append] at hk
  rcases hk with hk | hk
  · by_cases e : s.tag = []
    · rw [if_pos e] at hk; cases hk
    · rw [if_neg e, List.mem_singleton] at hk
      have h1 := h.1
      rw [Bool.or_eq_true] at h1
      rcases h1 with h1 | h1
      · exact absurd (List.isEmpty_iff.1 h1) e
      · have h2 : s.tag = tagAt ns n := beq_iff_eq.1 h1
        unfold tagAt at h2
        rw [hx] at h2
        rw [hk, h2]
        unfold Pl.keysOf
        exact List.mem_cons_self
  · rw [List.mem_flatMap] at hk
    obtain ⟨t, ht, hk⟩ := hk
    have h1 := h.2 t ht
    have hft := hf t ht
    unfold askT at hk
    unfold tstM at h1
    by_cases e2 : t.kind = 2
    · rw [if_pos e2, List.mem_singleton] at hk
      rw [if_neg (by rw [e2]; decide), if_pos e2] at h1
      have h2 : idAt ns n = t.name := beq_iff_eq.1 h1
      unfold idAt at h2
      rw [hx] at h2
      have hne : t.name ≠ [] := by
        intro e
        unfold Pl.tForm at hft
        rw [e2, e] at hft
        have : Pl.isName [] = false := rfl
        simp [Pl.kName, Pl.asked, this] at hft
      have h3 : x.id ≠ [] := by
        intro e
        exact hne (h2.symm.trans e)
      rw [hk, ← h2]
      unfold Pl.keysOf
      rw [if_neg h3]
      exact List.mem_cons_of_mem _ (List.mem_append_left _ (List.mem_singleton.2 rfl))
    · rw [if_neg e2] at hk
      by_cases e1 : t.kind = 1
      · rw [if_pos e1, List.mem_singleton] at hk
        rw [if_pos e1] at h1
        unfold clsAt at h1
        rw [hx, List.any_eq_true] at h1
        obtain ⟨c, hc, he⟩ := h1
        have he : c = t.name := beq_iff_eq.1 he
        rw [hk, ← he]
        unfold Pl.keysOf
        exact List.mem_cons_of_mem _ (List.mem_append_right _ (List.mem_map.2 ⟨c, hc, rfl⟩))
      · rw [if_neg e1] at hk
        cases hk
/-- each step of a path that matches has an element of its own -/
theorem pth_steps {ns : List Pl.Nd} {g : List α → Nat → Bool} {p : Pl.Pth α} : ∀ (k n : Nat), n < ns.length → pthM ns g p k n = true → ∀ j, j ≤ k → ∃ m, m < ns.length ∧ stpM ns g (stpAt p j) m = true
  | 0, n, hn, h, j, hj => by
    obtain rfl : j = 0 := by omega
    exact ⟨n, hn, h⟩
  | k + 1, n, hn, h, j, hj => by
    unfold pthM at h
    rw [Bool.and_eq_true, List.any_eq_true] at h
    by_cases e : j = k + 1
    · subst e
      exact ⟨n, hn, h.1⟩
    · obtain ⟨m, hm, h2⟩ := h.2
      rw [Bool.and_eq_true] at h2
      have hmn := List.mem_range.1 hm
      exact pth_steps k m (by omega) h2.2 j (by omega)
theorem pth_open {ns : List Pl.Nd} {g : List α → Nat → Bool} {p : Pl.Pth α} {n : Nat} (hn : n < ns.length) (hf : Pl.pForm Pl.isName Pl.isValue p = true) (h : pthM ns g p (p.steps.length - 1) n = true) : openB ns p = true := by
  unfold openB
  rw [List.all_eq_true]
  intro k hk
  unfold askP at hk
  rw [List.mem_flatMap] at hk
  obtain ⟨s, hs, hk⟩ := hk
  obtain ⟨j, hj, rfl⟩ := List.mem_iff_getElem.1 hs
  obtain ⟨m, hm, hst⟩ := pth_steps _ n hn h j (by omega)
  have e : stpAt p j = p.steps[j] := by
    unfold stpAt
    rw [List.getElem?_eq_getElem hj]
    rfl
  rw [e] at hst
  unfold Pl.pForm at hf
  rw [Bool.and_eq_true, List.all_eq_true, List.all_eq_true] at hf
  rw [stp_keys hm (fun t ht => hf.2 t (List.mem_flatMap.2 ⟨_, hs, ht⟩)) hst k hk]
  rfl
theorem lst_open {ns : List Pl.Nd} {g : List α → Nat → Bool} {l : List (Pl.Pth α)} {n : Nat} (hn : n < ns.length) (hf : ∀ p ∈ l, Pl.pForm Pl.isName Pl.isValue p = true) : lstM ns g (l.filter (openB ns)) n = lstM ns g l n := by
  unfold lstM
  induction l with
  | nil => rfl
  | cons p r ih =>
    have ih := ih fun q hq => hf q (List.mem_cons_of_mem _ hq)
    rw [List.any_cons, ← ih]
    cases ho : openB ns p with
    | true => rw [List.filter_cons_of_pos ho, List.any_cons]
    | false =>
      rw [List.filter_cons_of_neg (by rw [ho]; exact Bool.false_ne_true)]
      cases hp : pthM ns g p (p.steps.length - 1) n with
      | false => rfl
      | true =>
        have := pth_open hn (hf p List.mem_cons_self) hp
        rw [ho] at this
        cases this
theorem evUp_filter {r : Pl.Pth α → Bool} {f : List α → Bool} {l : List (Pl.Pth α)} (q : Pl.Pth α → Bool) (h : Pl.evUp r f l = true) : Pl.evUp r f (l.filter q) = true := by
  unfold Pl.evUp at *
  rw [List.all_eq_true] at *
  exact fun p hp => h p (List.mem_filter.1 hp).1
theorem fitUp_filter {f : List α → Bool} {l : List (Pl.Pth α)} (q : Pl.Pth α → Bool) (h : Pl.fitUp f l = true) (hne : l.filter q ≠ []) : Pl.fitUp f (l.filter q) = true := by
  unfold Pl.fitUp at *
  rw [Bool.and_eq_true, List.all_eq_true, decide_eq_true_eq] at *
  refine ⟨⟨?_, ?_⟩, fun p hp => h.2 p (List.mem_filter.1 hp).1⟩
  · exact List.length_pos_iff.2 hne
  · exact Nat.le_trans (List.length_filter_le _ _) h.1.2
end
theorem chk_parts {l : List Pl.D3} (h : chkList l = 0) : Pl.fit3 l = true ∧ Pl.kind3 l = true ∧ Pl.form3 l = true ∧ nth3 l = true := by
  unfold chkList Pl.pick4 at h
  revert h
  cases Pl.fit3 l <;> cases Pl.kind3 l <;> cases Pl.form3 l <;> cases nth3 l <;> simp
theorem m3_open {ns : List Pl.Nd} {l : List Pl.D3} {n : Nat} (hn : n < ns.length) (h : chkList l = 0) : m3 ns (l.filter (openB ns)) n = m3 ns l n := by
  refine lst_open hn fun p hp => ?_
  have h1 := (chk_parts h).2.2.1
  unfold Pl.form3 Pl.evUp at h1
  rw [List.all_eq_true] at h1
  have h2 := h1 p hp
  rw [Bool.and_eq_true] at h2
  exact h2.1
theorem chk_filter {l : List Pl.D3} (q : Pl.D3 → Bool) (h : chkList l = 0) (hne : l.filter q ≠ []) : chkList (l.filter q) = 0 := by
  obtain ⟨h1, h2, h3, h4⟩ := chk_parts h
  have e1 : Pl.fit3 (l.filter q) = true := fitUp_filter q h1 hne
  have e2 : Pl.kind3 (l.filter q) = true := evUp_filter q h2
  have e3 : Pl.form3 (l.filter q) = true := evUp_filter q h3
  have e4 : nth3 (l.filter q) = true := by
    unfold nth3 nthL at *
    rw [List.all_eq_true] at *
    exact fun p hp => h4 p (List.mem_filter.1 hp).1
  unfold chkList Pl.pick4
  rw [e1, e2, e3, e4]
  rfl
end Go.Proofs.YtephhllfodlfbaaGreatDoor
/-
  Whether two entries, and two lists of entries, are the same: slices.Equal, sameEntry, slices.EqualFunc.
-/
namespace Go.Proofs.YtephhllfodlfbaaGreatDoor
open Go.RowKit

set_option maxRecDepth 100000 in
set_option maxHeartbeats 4000000 in
theorem eqInts_any (v1 v2 : Value) (ks ls : List Int) (w : World) (hl : ks.length ≤ maxLen) (h1 : IntsAt w v1 ks) (h2 : IntsAt w v2 ls) :
    Calls Tryz.prog 92 #[v1, v2] w fun e w' => e = .returned (.bool (sameI ks ls)) ∧ Drawn w w' := by
  obtain ⟨a1, c1, rfl, h1⟩ := h1
  obtain ⟨a2, c2, rfl, h2⟩ := h2
  have H1 : Hid _ := h1
  have H2 : Hid _ := h2
  clear h1 h2
  unfold maxLen at hl
  by_cases hlen : ks.length = ls.length
  · have hle : ((ks.length : Int) == (ls.length : Int)) = true := by simp; omega
    have hle2 : ((ks.length : Int) != (ls.length : Int)) = false := by simp; omega
    go_enter Tryz.func92, Tryz.ntmps92
    go_wp2
    go_loopw [13] (fun i wr => ∃ k : Nat, k ≤ ks.length ∧ i = .int .i64 k ∧ Hid (ks.take k = ls.take k) ∧ Hid (Drawn w wr)) (fun i _ => ks.length - (intOf i).toNat)
    case atStart => exact ⟨0, Nat.zero_le _, rfl, by simp [Hid], Drawn.refl _⟩
    case round =>
      obtain ⟨k, hk, rfl, ht, hD⟩ := hrel
      have hB := hD.out.below
      by_cases hlt : k < ks.length
      · have hlt2 : k < ls.length := by omega
        rcases H1.out with h0 | ⟨b, o, rfl, hc⟩
        · subst h0; simp at hlt
        rcases H2.out with h0 | ⟨b2, o2, rfl, hc2⟩
        · subst h0; simp at hlt2
        have n0 : wr.cell? ⟨b, o + k, none⟩ = some (.int .i64 ks[k]) := cell_on hB (hc k hlt)
        have n1 : wr.cell? ⟨b2, o2 + k, none⟩ = some (.int .i64 ls[k]) := cell_on hB (hc2 k hlt2)
        have i1 : (0 : Int) ≤ (k : Int) := by omega
        have i2 : (k : Int) < (ks.length : Int) := by omega
        have i3 : (k : Int) < (ls.length : Int) := by omega
        clear hc hc2
        by_cases he : ks[k] = ls[k]
        · have HT : Hid (ks.take (k + 1) = ls.take (k + 1)) := take_next hlt hlt2 ht.out he
          rw [← he] at n1
          clear ht he
          generalize ks[k] = u at *
          go_wp2
          go_quiet (fail)
          go_wp2
          exact ⟨⟨k + 1, hlt, by go_num, HT, hD.out.next _⟩, by simp [intOf]; omega⟩
        · have HF : Hid (sameI ks ls = false) := by
            unfold Hid sameI
            rw [decide_eq_false_iff_not]
            intro e
            subst e
            exact he rfl
          have he2 : (ks[k] == ls[k]) = false := by simpa using he
          have he3 : (ks[k] != ls[k]) = true := by simpa using he
          clear ht he
          generalize ks[k] = u at *
          generalize ls[k] = t at *
          go_wp2
          go_quiet (fail)
          go_wp2
          go_ret
          exact ⟨by rw [HF.out]; rfl, hD.out.next _⟩
      · have HT : Hid (sameI ks ls = true) := by
          have := ht.out
          rw [List.take_of_length_le (by omega), List.take_of_length_le (by omega)] at this
          simp [Hid, sameI, this]
        go_wp2
        go_ret
        exact ⟨by rw [HT.out]; rfl, hD.out⟩
  · have hle : ((ks.length : Int) == (ls.length : Int)) = false := by simp; omega
    have hle2 : ((ks.length : Int) != (ls.length : Int)) = true := by simp; omega
    have HF : Hid (sameI ks ls = false) := by
      unfold Hid sameI
      rw [decide_eq_false_iff_not]
      intro e
      subst e
      exact hlen rfl
    go_enter Tryz.func92, Tryz.ntmps92
    go_wp2
    go_ret
    exact ⟨by rw [HF.out]; rfl, Drawn.refl _⟩
def enV (e : Pl.Er) (v : Value) : Value := .agg #[.int .i64 e.1.1, .string ⟨e.1.2.toArray⟩, v]
set_option maxRecDepth 100000 in
set_option maxHeartbeats 4000000 in
theorem sameEntry_any (x y : Pl.Er) (vx vy : Value) (w : World) (hl : x.2.length ≤ maxLen) (h1 : IntsAt w vx x.2) (h2 : IntsAt w vy y.2) :
    Calls Tryz.prog 43 #[enV x vx, enV y vy] w fun e w' => e = .returned (.bool (sameEn x y)) ∧ Below w.heap.size w w' := by
  obtain ⟨a1, c1, rfl, _⟩ := id h1
  obtain ⟨a2, c2, rfl, _⟩ := id h2
  obtain ⟨⟨k1, s1⟩, q1⟩ := x
  obtain ⟨⟨k2, s2⟩, q2⟩ := y
  unfold enV
  dsimp only at hl h1 h2 ⊢
  have hb0 := boxes w (.cells #[.int .i64 k1, .string ⟨s1.toArray⟩, .slice a1 q1.length c1] 61) (.cells #[.int .i64 k2, .string ⟨s2.toArray⟩, .slice a2 q2.length c2] 61)
  have HB0 : Hid (Below _ _ _) := hb0
  have q : Hid (Calls Tryz.prog 92 #[.slice a1 q1.length c1, .slice a2 q2.length c2] ((w.alloc (.cells #[.int .i64 k1, .string ⟨s1.toArray⟩, .slice a1 q1.length c1] 61)).alloc (.cells #[.int .i64 k2, .string ⟨s2.toArray⟩, .slice a2 q2.length c2] 61)) fun e w' => e = .returned (.bool (sameI q1 q2)) ∧ Drawn ((w.alloc (.cells #[.int .i64 k1, .string ⟨s1.toArray⟩, .slice a1 q1.length c1] 61)).alloc (.cells #[.int .i64 k2, .string ⟨s2.toArray⟩, .slice a2 q2.length c2] 61)) w') := eqInts_any _ _ q1 q2 _ hl (h1.on hb0) (h2.on hb0)
  clear h1 h2 hb0
  go_enter Tryz.func43, Tryz.ntmps43
  go_wp2_with fail
  · have e1 : k1 = k2 := by assumption
    have e2 : s1 = s2 := by assumption
    have HE : Hid (sameI q1 q2 = sameEn ((k1, s1), q1) ((k2, s2), q2)) := by
      unfold Hid sameI sameEn
      simp [e1, e2]
    rw [e1, e2] at q HB0
    refine q.out.mono ?_
    rintro e w5 ⟨rfl, hD⟩
    have HBZ : Hid (Below w.heap.size w w5) := below_trans HB0.out hD.below
    clear hD q HB0
    go_wp2_with fail
    all_goals first
      | (go_ret; exact ⟨by rw [← HE.out]; rfl, HBZ.out⟩)
      | (go_ret; refine ⟨?_, HBZ.out⟩; rw [← HE.out]; simp_all)
  · rename_i e1 e2
    rw [e1] at HB0
    go_ret
    refine ⟨?_, HB0.out⟩
    rw [show sameEn ((k2, s1), q1) ((k2, s2), q2) = false from decide_eq_false (by intro e; injection e with e3 _; injection e3 with _ e4; exact e2 e4)]
    rfl
  · rename_i e1
    go_ret
    refine ⟨?_, HB0.out⟩
    rw [show sameEn ((k1, s1), q1) ((k2, s2), q2) = false from decide_eq_false (by intro e; injection e with e3 _; injection e3 with e4 _; exact e1 e4)]
    rfl
end Go.Proofs.YtephhllfodlfbaaGreatDoor
