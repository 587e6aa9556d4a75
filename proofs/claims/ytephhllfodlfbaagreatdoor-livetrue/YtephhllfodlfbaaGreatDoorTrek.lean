/-
  index.Build: the index of a document, as entries.
-/
import Derived.Test.YtephhllfodlfbaaGreatDoorEnt
import Derived.Test.YtephhllfodlfbaaGreatDoorOwnD
import Derived.Test.YtephhllfodlfbaaGreatDoorKids
import Derived.Test.YtephhllfodlfbaaGreatDoorFor
import Derived.Test.YtephhllfodlfbaaGreatDoorIdxO
import Derived.Test.YtephhllfodlfbaaGreatDoorRmD
namespace Go.Proofs.YtephhllfodlfbaaGreatDoor
open Go.RowKit

namespace Pl
def erOf (e : En) : Er := (e.key, e.nodes.map fun (k : Nat) => (k : Int))
/-- the index that is answered -/
def idxAns (ns : List Nd) : List Er := if checkDoc ns = 0 then (idxTo ns ns.length).map erOf else []
theorem right_keys {x : Nd} (h : right x = true) : ∀ k ∈ keysOf x, Good k := by
  have hn : ∀ l, isName l = true → l.length ≤ 12 := by
    intro l hl
    unfold isName at hl
    simp only [Bool.and_eq_true, decide_eq_true_eq] at hl
    exact hl.1.1.2
  unfold right names at h
  simp only [Bool.and_eq_true, decide_eq_true_eq, Bool.or_eq_true] at h
  obtain ⟨⟨⟨⟨h1, h2⟩, h3⟩, _⟩, _⟩ := h
  intro k hk
  unfold keysOf at hk
  have small : ∀ (q : Int) (l : List UInt8), 1 ≤ q → q ≤ 3 → l.length ≤ 12 → Good (q, l) := by
    intro q l a b c
    refine ⟨?_, by unfold maxLen; simp only; omega⟩
    exact WalkArith.wf_i64 ⟨by simp only; omega, by simp only; omega⟩
  rcases List.mem_cons.1 hk with rfl | hk
  · exact small 1 _ (by omega) (by omega) (hn _ h1)
  · rcases List.mem_append.1 hk with hk | hk
    · split at hk
      · simp at hk
      · rename_i hid
        obtain rfl := List.mem_singleton.1 hk
        refine small 2 _ (by omega) (by omega) ?_
        rcases h2 with h2 | h2
        · exact absurd (List.isEmpty_iff.1 h2) hid
        · exact hn _ h2
    · obtain ⟨c, hc, rfl⟩ := List.mem_map.1 hk
      exact small 3 _ (by omega) (by omega) (hn _ (List.all_eq_true.1 h3.1.2 c hc))
end Pl
/-- an index that was built, read -/
theorem ERow.ens {B : Nat} {w : World} {v : Value} {ps : List EP} (h : ERow B w v ps) : EnsAt w v (ps.map fun p => Pl.erOf p.1) := by
  obtain ⟨a, c, rfl⟩ := h.form
  refine ⟨a, c, by rw [List.length_map], ?_⟩
  by_cases hp : ps = []
  · left; simp [hp]
  · have hpos : 0 < ps.length := List.length_pos_iff.2 hp
    obtain ⟨g, cg, eg, _, _⟩ := h.own.form hpos
    obtain ⟨rfl, rfl⟩ : a = some ⟨g, 0, none⟩ ∧ c = cg := by injection eg with q1 q2 q3; exact ⟨q1, q3⟩
    refine Or.inr ⟨g, 0, rfl, fun i hi => ?_⟩
    have hi' : i < ps.length := by simpa using hi
    obtain ⟨h0, h1, h2⟩ := own_three h.own hi' (pCells_get ps i hi')
    rw [Nat.zero_add, List.getElem_map]
    exact ⟨ps[i].2, h0, h1, h2, ints_of_row (h.ints ps[i] (List.getElem_mem hi'))⟩
theorem EnsAt.nil (w : World) : EnsAt w (.slice none 0 0) [] := ⟨none, 0, rfl, Or.inl rfl⟩
theorem check_keys {ns : List Pl.Nd} (h : Pl.checkDoc ns = 0) : (∀ x ∈ ns, ∀ k ∈ Pl.keysOf x, Good k) ∧ ∀ x ∈ ns, (Pl.keysOf x).Nodup := by
  obtain ⟨_, _, hk⟩ := check_zero h
  refine ⟨fun x hx => ?_, fun x hx => ?_⟩
  · obtain ⟨i, hi, rfl⟩ := List.getElem_of_mem hx
    exact Pl.right_keys (okTo_right hk hi hi).1
  · obtain ⟨i, hi, rfl⟩ := List.getElem_of_mem hx
    exact Pl.keys_nodup (okTo_right hk hi hi).1
theorem ent_idx {ns : List Pl.Nd} {ps qs : List EP} (h : Pl.checkDoc ns = 0) (hm : ps.map (·.1) = Pl.gathTo ns ns.length) (hp : qs.Perm ps) (hs : qs.Pairwise (fun p q => Pl.keyLess q.1.key p.1.key = false)) : qs.map (fun p => Pl.erOf p.1) = (Pl.idxTo ns ns.length).map Pl.erOf := by
  have h1 : (qs.map (·.1)).Perm (Pl.gathTo ns ns.length) := by rw [← hm]; exact hp.map _
  have hd : ((qs.map (·.1)).map (·.key)).Nodup := ((h1.map (·.key)).nodup_iff).2 (Pl.gath_nodup ns _)
  have h2 : (qs.map (·.1)).Pairwise (fun a b => Pl.keyLess a.key b.key = true) := by
    rw [List.map_map, List.nodup_iff_pairwise_ne, List.pairwise_map] at hd
    rw [List.pairwise_map]
    refine (hs.and hd).imp fun {p q} ⟨a, b⟩ => ?_
    rcases Pl.kl_total p.1.key q.1.key with c | c | c
    · exact c
    · exact absurd c b
    · rw [c] at a; cases a
  have h3 := Pl.gath_idx (check_keys h).2 h1 h2
  rw [← h3, List.map_map]
  rfl
theorem gath_ne {ns : List Pl.Nd} {ps : List EP} (h : 1 ≤ ns.length) (hm : ps.map (·.1) = Pl.gathTo ns ns.length) (hd : ∀ x ∈ ns, (Pl.keysOf x).Nodup) : ps ≠ [] := by
  intro e
  rw [e] at hm
  have hp := Pl.gath_places hd (1, (ns[0]'(by omega)).tag) ns.length
  rw [← hm] at hp
  have : (0 : Nat) ∈ Pl.whoTo ns (1, (ns[0]'(by omega)).tag) ns.length := by
    unfold Pl.whoTo
    rw [List.mem_filter]
    refine ⟨by simp; omega, ?_⟩
    rw [List.getElem?_eq_getElem (by omega)]
    simp [Pl.keysOf]
  rw [← hp] at this
  simp [Pl.placesOf] at this
set_option maxRecDepth 100000 in
set_option maxHeartbeats 2000000 in
theorem build_bad (v : Value) (ns : List Pl.Nd) (w : World) (hd : DocAt w v ns) (hc : (Pl.checkDoc ns != 0) = true) :
    Calls Tryz.prog 73 #[.agg #[v]] w fun e w' => e = .returned (.tuple #[.slice none 0 0, .int .i64 (Pl.checkDoc ns)]) ∧ Below w.heap.size w w' := by
  obtain ⟨a, c, rfl⟩ := hd.form
  have hb := on_alloc w (.cells #[.slice a ns.length c] 24)
  have hchk := check_any (.slice a ns.length c) ns (w.alloc (.cells #[.slice a ns.length c] 24)) hd.2.2 (hd.1.on hb)
  have HCHK : Hid (Calls Tryz.prog 14 _ _ _) := hchk
  generalize Pl.checkDoc ns = r at *
  clear hchk hd
  go_enter Tryz.func73, Tryz.ntmps73
  go_wp2_with fail
  refine HCHK.out.mono ?_
  rintro e w1 ⟨rfl, h1⟩
  go_wp2
  go_ret2
  exact ⟨rfl, below_trans hb h1⟩
set_option maxRecDepth 100000 in
set_option maxHeartbeats 2000000 in
theorem build_good (v : Value) (ns : List Pl.Nd) (w : World) (hd : DocAt w v ns) (hc : Pl.checkDoc ns = 0) :
    Calls Tryz.prog 73 #[.agg #[v]] w fun e w' => ∃ u ps, e = .returned (.tuple #[u, .int .i64 0]) ∧ ERow (w.heap.size + 1) w' u ps ∧ ps.map (fun p => Pl.erOf p.1) = (Pl.idxTo ns ns.length).map Pl.erOf ∧ Below w.heap.size w w' := by
  obtain ⟨h1n, h64, _⟩ := check_zero hc
  have hsh := check_short hc
  obtain ⟨hgood, hndp⟩ := check_keys hc
  obtain ⟨a, c, rfl⟩ := hd.form
  obtain ⟨a2, c2, e2, hnil | ⟨b, o, ha, hcell⟩⟩ := hd.1
  · subst hnil; simp at h1n
  injection e2 with q1 _ q3
  subst q1 q3 ha
  have hb := on_alloc w (.cells #[.slice (some ⟨b, o, none⟩) ns.length c] 24)
  have bS := Blk1.new w (.slice (some ⟨b, o, none⟩) ns.length c)
  have hchk := check_any (.slice (some ⟨b, o, none⟩) ns.length c) ns (w.alloc (.cells #[.slice (some ⟨b, o, none⟩) ns.length c] 24)) hd.2.2 (hd.1.on hb)
  rw [hc] at hchk
  have HCHK : Hid (Calls Tryz.prog 14 _ _ _) := hchk
  have HB : Hid (Below _ _ _) := hb
  have HBS : Hid (Blk1 _ _ _) := bS
  have HCELL : Hid (∀ i (h : i < ns.length), NdAt w b (o + i * 5) ns[i]) := hcell
  have hz : (w.alloc (.cells #[.slice (some ⟨b, o, none⟩) ns.length c] 24)).heap.size = w.heap.size + 1 := by simp
  clear hchk hd hb bS hcell
  go_enter Tryz.func73, Tryz.ntmps73
  go_wp2_with fail
  generalize w.alloc (.cells #[.slice (some ⟨b, o, none⟩) ns.length c] 24) = w0 at *
  refine HCHK.out.mono ?_
  rintro e w1 ⟨rfl, h1⟩
  have s1 := (Blk1.on HBS.out h1).facts.1
  have hs1 := h1.size
  have HB1 : Hid (Below w.heap.size w w1) := below_trans HB.out h1
  clear h1
  go_wp2_with fail
  refine (gather_any b o c ns w1 h64 (fun x hx => (hsh x hx).1) hgood (fun i hi => (HCELL.out i hi).on HB1.out)).mono ?_
  rintro e w2 ⟨ps, rfl, hm2, hf2, hp2, hb2⟩
  have hbnd := Pl.gath_fit (fun x hx => (hsh x hx).1) ns.length
  have hpl : ps.length ≤ 1000 := by
    have := hbnd.1
    rw [← hp2, List.length_map] at this
    omega
  have hne := gath_ne h1n hp2 hndp
  have HM2 : Hid (MapAt _ _ _) := hm2
  have HF2 : Hid (Fam _ _ _) := hf2
  have HP2 : Hid _ := hp2
  have HB2 : Hid (Below w.heap.size w w2) := below_trans HB1.out hb2
  clear hm2 hf2 hp2 hb2 s1 hbnd
  go_wp2_with fail
  refine (entries_any w1.heap.size ps w2 HM2.out HF2.out hne hpl).mono ?_
  rintro e w3 ⟨u, qs, rfl, hperm, hsort, hrow, hb3⟩
  obtain ⟨au, cu, rfl⟩ := hrow.form
  have HR : Hid (ERow (w.heap.size + 1) w3 (.slice au qs.length cu) qs) := hrow.mono (by omega)
  have HE : Hid _ := ent_idx hc HP2.out hperm hsort
  have HB3 : Hid (Below w.heap.size w w3) := below_trans HB2.out hb3
  clear hperm hsort hrow hb3
  go_wp2
  go_ret2
  exact ⟨_, qs, rfl, HR.out, HE.out, HB3.out⟩
theorem build_any (v : Value) (ns : List Pl.Nd) (w : World) (hd : DocAt w v ns) :
    Calls Tryz.prog 73 #[.agg #[v]] w fun e w' => ∃ u, e = .returned (.tuple #[u, .int .i64 (Pl.checkDoc ns)]) ∧ EnsAt w' u (Pl.idxAns ns) ∧ Below w.heap.size w w' := by
  by_cases hc : Pl.checkDoc ns = 0
  · refine (build_good v ns w hd hc).mono ?_
    rintro e w' ⟨u, ps, rfl, h1, h2, h3⟩
    refine ⟨u, by rw [hc], ?_, h3⟩
    unfold Pl.idxAns
    rw [if_pos hc, ← h2]
    exact h1.ens
  · refine (build_bad v ns w hd (by simpa using hc)).mono ?_
    rintro e w' ⟨rfl, h3⟩
    refine ⟨_, rfl, ?_, h3⟩
    unfold Pl.idxAns
    rw [if_neg hc]
    exact EnsAt.nil _
end Go.Proofs.YtephhllfodlfbaaGreatDoor
/-
  What was laid in is there, and taken out again leaves all as it was: in plain lists.
-/
namespace Go.Proofs.YtephhllfodlfbaaGreatDoor
open Pl

/-- a place below k -/
structure Place (ns : List Pl.Nd) (k P : Nat) : Prop where
  lt : k < P
  le : P ≤ ns.length
  ins : ∀ m : Nat, k < m → m < P → (k : Int) ≤ upOf ns m
  nxt : P < ns.length → upOf ns P ≤ k

theorem up_low {ns : List Pl.Nd} (hg : GoodTo ns ns.length) {i : Nat} (h : i < ns.length) : -1 ≤ upOf ns i ∧ upOf ns i < i ∧ (0 < i → 0 ≤ upOf ns i) := by
  obtain ⟨a, b⟩ := hg i h
  rcases Nat.eq_zero_or_pos i with h0 | h0
  · have := a h0; omega
  · have := b h0; omega

section
variable {ns es : List Pl.Nd} {k P : Nat}
theorem ins_len : (insRow ns k P es).length = ns.length + es.length := insRow_len _ _ _ _
theorem ins_up1 (hP : P ≤ ns.length) {i : Nat} (h : i < P) : upOf (insRow ns k P es) i = upOf ns i := by
  unfold insRow
  rw [upOf_left (by simp; omega), upOf_left (by simp; omega), map_mvd_id, upOf_take h]
theorem ins_up2 (hP : P ≤ ns.length) {i : Nat} (h : P ≤ i) (h2 : i < P + es.length) : upOf (insRow ns k P es) i = mvIn k P (upOf es (i - P)) := by
  unfold insRow
  have hl : ((ns.take P).map (mvd id)).length = P := by simp; omega
  rw [upOf_left (by simp; omega), upOf_right (by omega), hl, upOf_map (by omega)]
theorem ins_up3 (hP : P ≤ ns.length) {i : Nat} (h : P + es.length ≤ i) (h2 : i < ns.length + es.length) : upOf (insRow ns k P es) i = mvOut P es.length (upOf ns (i - es.length)) := by
  unfold insRow
  have hl : ((ns.take P).map (mvd id) ++ es.map (mvd (mvIn k P))).length = P + es.length := by simp; omega
  rw [upOf_right (by omega), hl, upOf_map (by simp; omega), upOf_drop]
  congr 2
  omega
theorem mvIn_neg (u : Int) (h : u < 0) : mvIn k P u = k := by unfold mvIn; rw [if_pos h]
theorem mvIn_pos (u : Int) (h : 0 ≤ u) (h2 : u < 1000) (hP : P ≤ 1000) : mvIn k P u = u + P := by unfold mvIn; rw [if_neg (by omega), wr_in (by omega) (by omega)]
theorem mvOut_lt (d : Nat) (u : Int) (h : u < P) : mvOut P d u = u := by unfold mvOut; rw [if_pos h]
theorem mvOut_ge (d : Nat) (u : Int) (h : (P : Int) ≤ u) (h2 : u < 1000) (hd : d ≤ 1000) : mvOut P d u = u + d := by unfold mvOut; rw [if_neg (by omega), wr_in (by omega) (by omega)]

theorem ins_good (hg : GoodTo ns ns.length) (he : GoodTo es es.length) (he1 : 1 ≤ es.length) (h64 : ns.length + es.length ≤ 64) (hp : Place ns k P) : GoodTo (insRow ns k P es) (insRow ns k P es).length := by
  rw [ins_len]
  obtain ⟨p1, p2, p3, p4⟩ := hp
  have hE : ∀ i : Nat, i < es.length → (i = 0 → upOf (insRow ns k P es) (P + i) = k) ∧ (0 < i → 0 ≤ upOf es i ∧ upOf es i < i ∧ upOf (insRow ns k P es) (P + i) = upOf es i + P) := by
    intro i hi
    have h1 := ins_up2 (k := k) (es := es) p2 (i := P + i) (by omega) (by omega)
    rw [show P + i - P = i by omega] at h1
    refine ⟨fun h0 => ?_, fun h0 => ?_⟩
    · rw [h1, (he i hi).1 h0, mvIn_neg _ (by omega)]
    · have := (he i hi).2 h0
      exact ⟨this.1, this.2.1, by rw [h1, mvIn_pos _ this.1 (by omega) (by omega)]⟩
  have hO : ∀ i : Nat, P ≤ i → i < ns.length → (upOf ns i < P → upOf (insRow ns k P es) (i + es.length) = upOf ns i) ∧ ((P : Int) ≤ upOf ns i → upOf (insRow ns k P es) (i + es.length) = upOf ns i + es.length) := by
    intro i h1 h2
    have h3 := ins_up3 (k := k) (es := es) p2 (i := i + es.length) (by omega) (by omega)
    rw [show i + es.length - es.length = i by omega] at h3
    have hl := up_low hg h2
    refine ⟨fun h => by rw [h3, mvOut_lt _ _ h], fun h => by rw [h3, mvOut_ge _ _ h (by omega) (by omega)]⟩
  have hI : ∀ i : Nat, i < P → upOf (insRow ns k P es) i = upOf ns i := fun i h => ins_up1 p2 h
  intro n hn
  by_cases c1 : n < P
  · rw [hI n c1]
    obtain ⟨a, b⟩ := hg n (by omega)
    refine ⟨a, fun h0 => ?_⟩
    obtain ⟨b1, b2, b3⟩ := b h0
    exact ⟨b1, b2, fun m h1 h2 => by rw [hI m (by omega)]; exact b3 m h1 h2⟩
  refine ⟨fun h0 => by omega, fun _ => ?_⟩
  by_cases c2 : n < P + es.length
  · obtain ⟨i, rfl⟩ : ∃ i, n = P + i := ⟨n - P, by omega⟩
    obtain ⟨e1, e2⟩ := hE i (by omega)
    rcases Nat.eq_zero_or_pos i with h0 | h0
    · rw [e1 h0]
      refine ⟨by omega, by omega, fun m h1 h2 => ?_⟩
      rw [hI m (by omega)]
      exact p3 m (by omega) (by omega)
    · obtain ⟨q1, q2, q3⟩ := e2 h0
      rw [q3]
      refine ⟨by omega, by omega, fun m h1 h2 => ?_⟩
      obtain ⟨j, rfl⟩ : ∃ j, m = P + j := ⟨m - P, by omega⟩
      obtain ⟨_, f2⟩ := hE j (by omega)
      obtain ⟨r1, r2, r3⟩ := f2 (by omega)
      rw [r3]
      have := ((he i (by omega)).2 h0).2.2 j (by omega) (by omega)
      omega
  · obtain ⟨i, rfl⟩ : ∃ i, n = i + es.length := ⟨n - es.length, by omega⟩
    have hi : i < ns.length := by omega
    obtain ⟨o1, o2⟩ := hO i (by omega) hi
    have hl := up_low hg hi
    have hgi := (hg i hi).2 (by omega)
    by_cases hu : upOf ns i < P
    · rw [o1 hu]
      refine ⟨hgi.1, by omega, fun m h1 h2 => ?_⟩
      by_cases m1 : m < P
      · rw [hI m m1]; exact hgi.2.2 m h1 (by omega)
      · by_cases m2 : m < P + es.length
        · obtain ⟨j, rfl⟩ : ∃ j, m = P + j := ⟨m - P, by omega⟩
          obtain ⟨e1, e2⟩ := hE j (by omega)
          rcases Nat.eq_zero_or_pos j with h0 | h0
          · rw [e1 h0]
            have h4 := p4 (by omega)
            by_cases hPi : P = i
            · subst hPi; exact h4
            · have := hgi.2.2 P hu (by omega)
              omega
          · have := e2 h0
            omega
        · obtain ⟨j, rfl⟩ : ∃ j, m = j + es.length := ⟨m - es.length, by omega⟩
          obtain ⟨s1, s2⟩ := hO j (by omega) (by omega)
          have := hgi.2.2 j (by omega) (by omega)
          by_cases hv : upOf ns j < P
          · rw [s1 hv]; exact this
          · rw [s2 (by omega)]; omega
    · rw [o2 (by omega)]
      refine ⟨by omega, by omega, fun m h1 h2 => ?_⟩
      obtain ⟨j, rfl⟩ : ∃ j, m = j + es.length := ⟨m - es.length, by omega⟩
      obtain ⟨s1, s2⟩ := hO j (by omega) (by omega)
      have := hgi.2.2 j (by omega) (by omega)
      rw [s2 (by omega)]
      omega
theorem ins_rights (h : Rights ns) (h2 : Rights es) : Rights (insRow ns k P es) := rights_append (rights_append (rights_mvd (rights_take h)) (rights_mvd h2)) (rights_mvd (rights_drop h))
/-- what was laid in ends where it ends -/
theorem ins_behind (hg : GoodTo ns ns.length) (he : GoodTo es es.length) (he1 : 1 ≤ es.length) (h64 : ns.length + es.length ≤ 64) (hp : Place ns k P) : behind (insRow ns k P es) P = P + es.length := by
  obtain ⟨p1, p2, p3, p4⟩ := hp
  refine behind_eq (by rw [ins_len]; omega) (by omega) (by rw [ins_len]; omega) (fun m h1 h2 => ?_) (fun h => ?_)
  · rw [ins_up2 p2 (by omega) h2]
    have := (he (m - P) (by omega)).2 (by omega)
    rw [mvIn_pos _ this.1 (by omega) (by omega)]
    omega
  · rw [ins_len] at h
    rw [ins_up3 p2 (Nat.le_refl _) h, show P + es.length - es.length = P by omega]
    have := up_low hg (i := P) (by omega)
    rw [mvOut_lt _ _ this.2.1]
    exact this.2.1
theorem ins_part (hg : GoodTo ns ns.length) (he : GoodTo es es.length) (he1 : 1 ≤ es.length) (h64 : ns.length + es.length ≤ 64) (hp : Place ns k P) (hc : checkAtOf (insRow ns k P es) P = 0) : partOf (insRow ns k P es) P = es := by
  unfold partOf
  rw [if_pos hc, show ((P : Int)).toNat = P by omega, ins_behind hg he he1 h64 hp, show P + es.length - P = es.length by omega]
  have hx : ((insRow ns k P es).drop P).take es.length = es.map (mvd (mvIn k P)) := by
    unfold insRow
    have hl : ((ns.take P).map (mvd id)).length = P := by have := hp.le; simp; omega
    rw [List.append_assoc, List.drop_append_of_le_length (by omega), List.drop_of_length_le (by omega), List.nil_append, List.take_append_of_le_length (by simp), List.take_of_length_le (by simp)]
  rw [hx]
  refine mvd_back fun i hi => ?_
  obtain ⟨a, b⟩ := he i hi
  rcases Nat.eq_zero_or_pos i with h0 | h0
  · rw [a h0, mvIn_neg _ (by omega)]
    unfold mvPart
    have := hp.lt
    rw [if_pos (by omega)]
  · have hb := b h0
    rw [mvIn_pos _ hb.1 (by omega) (by have := hp.le; omega)]
    unfold mvPart
    rw [if_neg (by omega), wr_in (by omega) (by omega)]
    omega
theorem ins_rem (hg : GoodTo ns ns.length) (he : GoodTo es es.length) (he1 : 1 ≤ es.length) (h64 : ns.length + es.length ≤ 64) (hp : Place ns k P) (hc : remErr (insRow ns k P es) P = 0) : remOf (insRow ns k P es) P = ns := by
  unfold remOf
  rw [if_pos hc, show ((P : Int)).toNat = P by omega, ins_behind hg he he1 h64 hp]
  have hl : ((ns.take P).map (mvd id)).length = P := by have := hp.le; simp; omega
  have h1 : (insRow ns k P es).take P = ns.take P := by
    unfold insRow
    rw [List.append_assoc, List.take_append_of_le_length (by omega), List.take_of_length_le (by omega), map_mvd_id]
  have h2 : (insRow ns k P es).drop (P + es.length) = (ns.drop P).map (mvd (mvOut P es.length)) := by
    unfold insRow
    have hl2 : ((ns.take P).map (mvd id) ++ es.map (mvd (mvIn k P))).length = P + es.length := by rw [List.length_append, hl, List.length_map]
    rw [List.drop_append_of_le_length (by omega), List.drop_of_length_le (by omega), List.nil_append]
  rw [h1, h2, map_mvd_id, mvd_back, List.take_append_drop]
  intro i hi
  rw [upOf_drop]
  have hi' : P + i < ns.length := by simp at hi; omega
  have hlw := up_low hg hi'
  by_cases hu : upOf ns (P + i) < P
  · rw [mvOut_lt _ _ hu]
    unfold mvRem
    rw [if_pos hu]
  · rw [mvOut_ge _ _ (by omega) (by omega) (by omega)]
    unfold mvRem
    rw [if_neg (by omega), wr_in (by omega) (by omega)]
    omega
end
end Go.Proofs.YtephhllfodlfbaaGreatDoor
/-
  Kids, and the two ways back, in plain lists.
-/
namespace Go.Proofs.YtephhllfodlfbaaGreatDoor
open Pl

theorem kidsTo_split (ns : List Pl.Nd) (n : Int) (a : Nat) : ∀ b, a ≤ b → ∃ r, kidsTo ns n b = kidsTo ns n a ++ r ∧ ∀ x ∈ r, a ≤ x
  | 0, h => ⟨[], by rw [show a = 0 by omega]; simp, fun x hx => by simp at hx⟩
  | b + 1, h => by
    by_cases hb : a = b + 1
    · subst hb; exact ⟨[], by simp, fun x hx => by simp at hx⟩
    · obtain ⟨r, h1, h2⟩ := kidsTo_split ns n a b (by omega)
      cases hh : (upOf ns b == n) with
      | true =>
        refine ⟨r ++ [b], by rw [kidsTo_hit ns n b hh, h1, List.append_assoc], fun x hx => ?_⟩
        rcases List.mem_append.1 hx with hx | hx
        · exact h2 x hx
        · simp at hx; omega
      | false => exact ⟨r, by rw [kidsTo_miss ns n b hh, h1], h2⟩
theorem kidsTo_congr {xs ys : List Pl.Nd} (n : Int) (a : Nat) (h : ∀ i, i < a → upOf xs i = upOf ys i) : kidsTo xs n a = kidsTo ys n a := by
  unfold kidsTo
  refine List.filter_congr fun i hi => ?_
  rw [h i (by simpa using hi)]
theorem kids_mem {ns : List Pl.Nd} {n : Int} {i : Nat} (h : i ∈ kidsOf ns n) : i < ns.length ∧ upOf ns i = n := by
  unfold kidsOf kidsTo at h
  obtain ⟨h1, h2⟩ := List.mem_filter.1 h
  exact ⟨by simpa using h1, by simpa using h2⟩
theorem kid_at {ns : List Pl.Nd} {n : Int} {P : Nat} (h : P < ns.length) (hu : upOf ns P = n) : (kidsOf ns n)[(kidsTo ns n P).length]? = some P := by
  obtain ⟨r, h1, _⟩ := kidsTo_split ns n (P + 1) ns.length (by omega)
  unfold kidsOf
  rw [h1, kidsTo_hit ns n P (by simpa using hu), List.append_assoc, List.getElem?_append_right (Nat.le_refl _)]
  simp
theorem kids_sorted (ns : List Pl.Nd) (n : Int) : (kidsOf ns n).Pairwise (· < ·) := by
  unfold kidsOf kidsTo
  exact List.Pairwise.filter _ List.pairwise_lt_range
theorem kid_index {ns : List Pl.Nd} {n : Int} {P j : Nat} (h : (kidsOf ns n)[j]? = some P) : (kidsTo ns n P).length = j := by
  obtain ⟨hj, hv⟩ := List.getElem?_eq_some_iff.1 h
  obtain ⟨h1, h2⟩ := kids_mem (List.getElem_mem hj)
  rw [hv] at h1 h2
  obtain ⟨hj2, hv2⟩ := List.getElem?_eq_some_iff.1 (kid_at h1 h2)
  have hs := List.pairwise_iff_getElem.1 (kids_sorted ns n)
  rcases Nat.lt_trichotomy (kidsTo ns n P).length j with hh | hh | hh
  · have := hs _ _ hj2 hj hh; omega
  · exact hh
  · have := hs _ _ hj hj2 hh; omega

theorem ins_zero {ns es : List Pl.Nd} {up at_ : Int} (h : insErr ns up at_ es = 0) : checkDoc ns = 0 ∧ checkDoc es = 0 ∧ (∃ k : Nat, up = k ∧ k < ns.length) ∧ (∃ j : Nat, at_ = j ∧ j ≤ (kidsOf ns up).length) ∧ ns.length + es.length ≤ 64 := by
  unfold insErr at h
  split at h
  · split at h
    · split at h
      · rename_i h1 h2 h3
        unfold hasB at h3
        simp only [Bool.and_eq_true, decide_eq_true_eq] at h3
        split at h
        · omega
        · split at h
          · omega
          · exact ⟨h1, h2, ⟨up.toNat, by omega, by omega⟩, ⟨at_.toNat, by omega, by omega⟩, by omega⟩
      · omega
    · omega
  · omega
theorem place_ok {ns : List Pl.Nd} {k j : Nat} (hg : GoodTo ns ns.length) (hk : k < ns.length) (hj : j ≤ (kidsOf ns k).length) : Place ns k (placeOf ns k j) ∧ (kidsTo ns k (placeOf ns k j)).length = j := by
  unfold placeOf
  by_cases hjl : j < (kidsOf ns k).length
  · rw [if_pos (by omega), show ((j : Int)).toNat = j by omega]
    have hv : (kidsOf ns k)[j]? = some ((kidsOf ns k).getD j 0) := by rw [List.getD, List.getElem?_eq_getElem hjl]; rfl
    generalize (kidsOf ns k).getD j 0 = P at *
    obtain ⟨hj2, hv2⟩ := List.getElem?_eq_some_iff.1 hv
    obtain ⟨h1, h2⟩ := kids_mem (List.getElem_mem hj2)
    rw [hv2] at h1 h2
    have hl := up_low hg h1
    refine ⟨⟨by omega, by omega, fun m h3 h4 => ?_, fun _ => by omega⟩, kid_index hv⟩
    have := ((hg P h1).2 (by omega)).2.2 m (by omega) h4
    omega
  · rw [if_neg (by omega), show ((k : Int)).toNat = k by omega]
    obtain ⟨a, b, c, d⟩ := behind_spec hk
    refine ⟨⟨by omega, b, c, fun h => by have := d h; omega⟩, ?_⟩
    obtain ⟨r, h1, h2⟩ := kidsTo_split ns k (behind ns k) ns.length b
    have hr : r = [] := by
      rcases r with _ | ⟨x, r⟩
      · rfl
      · have hx : x ∈ kidsOf ns k := by unfold kidsOf; rw [h1]; simp
        obtain ⟨m1, m2⟩ := kids_mem hx
        have := h2 x (by simp)
        rcases behind_out hg hk x this m1 with h | h <;> omega
    rw [hr, List.append_nil] at h1
    have : (kidsOf ns k).length = (kidsTo ns k (behind ns k)).length := by unfold kidsOf; rw [h1]
    omega
theorem checkAt_of {ns : List Pl.Nd} {k : Nat} (h : checkDoc ns = 0) (hk : k < ns.length) : checkAtOf ns k = 0 := by
  unfold checkAtOf hasB
  rw [if_pos h, if_pos (by simp; omega)]
/-- what was laid in is the part there, and taken out again it leaves all as it was -/
theorem ins_back {ns es : List Pl.Nd} {up at_ : Int} (h : insErr ns up at_ es = 0) : ∃ j P : Nat, at_ = j ∧ checkDoc (insOf ns up at_ es) = 0 ∧ checkAtOf (insOf ns up at_ es) up = 0 ∧ (kidsAns (insOf ns up at_ es) up)[j]? = some P ∧
    checkAtOf (insOf ns up at_ es) P = 0 ∧ partOf (insOf ns up at_ es) P = es ∧ remErr (insOf ns up at_ es) P = 0 ∧ remOf (insOf ns up at_ es) P = ns := by
  obtain ⟨c1, c2, ⟨k, rfl, hk⟩, ⟨j, rfl, hj⟩, h64⟩ := ins_zero h
  obtain ⟨l1, l2, r1, g1⟩ := (check_iff ns).1 c1
  obtain ⟨m1, m2, r2, g2⟩ := (check_iff es).1 c2
  obtain ⟨hp, hkl⟩ := place_ok g1 hk hj
  have hX : insOf ns k j es = insRow ns k (placeOf ns k j) es := by unfold insOf; rw [if_pos h]
  rw [hX]
  generalize placeOf ns k j = P at *
  have hc : checkDoc (insRow ns k P es) = 0 := (check_iff _).2 ⟨by rw [ins_len]; omega, by rw [ins_len]; omega, ins_rights r1 r2, ins_good g1 g2 m1 h64 hp⟩
  have hlP := hp.lt
  have hlP2 := hp.le
  have hcP : checkAtOf (insRow ns k P es) P = 0 := checkAt_of hc (by rw [ins_len]; omega)
  have hck : checkAtOf (insRow ns k P es) k = 0 := checkAt_of hc (by rw [ins_len]; omega)
  have hr : remErr (insRow ns k P es) P = 0 := by unfold remErr; rw [if_pos hcP, if_neg (by omega)]
  refine ⟨j, P, rfl, hc, hck, ?_, hcP, ins_part g1 g2 m1 h64 hp hcP, hr, ins_rem g1 g2 m1 h64 hp hr⟩
  unfold kidsAns
  rw [if_pos hck]
  have hu : upOf (insRow ns k P es) P = k := by
    rw [ins_up2 hlP2 (Nat.le_refl _) (by omega), Nat.sub_self, (g2 0 (by omega)).1 rfl, mvIn_neg _ (by omega)]
  have := kid_at (by rw [ins_len]; omega : P < (insRow ns k P es).length) hu
  rw [kidsTo_congr k P (fun i hi => ins_up1 hlP2 hi), hkl] at this
  exact this
end Go.Proofs.YtephhllfodlfbaaGreatDoor
