/-
  index.Build: the index of a document, as entries.
-/
import Derived.Test.YtagobgjlhdbhmaaGreatDoorEnt
import Derived.Test.YtagobgjlhdbhmaaGreatDoorOwnD
import Derived.Test.YtagobgjlhdbhmaaGreatDoorKids
import Derived.Test.YtagobgjlhdbhmaaGreatDoorFor
import Derived.Test.YtagobgjlhdbhmaaGreatDoorIdxO
namespace Go.Proofs.YtagobgjlhdbhmaaGreatDoor
open Go.RowKit

namespace Pl
def erOf (e : En) : Er := (e.key, e.nodes.map fun (k : Nat) => (k : Int))
/-- the index that is answered -/
def idxAns (ns : List Nd) : List Er := if checkDoc ns = 0 then (idxTo ns ns.length).map erOf else []
theorem right_keys {x : Nd} (h : right x = true) : ∀ k ∈ keysOf x, Good k := by
  have hn : ∀ l, isName l = true → l.length ≤ 12 := by
    intro l hl
    unfold isName at hl
    simp only [Bool.and_eq_true, decide_eq_true_eq] at hl
    exact hl.1.1.2
  unfold right names at h
  simp only [Bool.and_eq_true, decide_eq_true_eq, Bool.or_eq_true] at h
  obtain ⟨⟨⟨⟨h1, h2⟩, h3⟩, _⟩, _⟩ := h
  intro k hk
  unfold keysOf at hk
  have small : ∀ (q : Int) (l : List UInt8), 1 ≤ q → q ≤ 3 → l.length ≤ 12 → Good (q, l) := by
    intro q l a b c
    refine ⟨?_, by unfold maxLen; simp only; omega⟩
    exact WalkArith.wf_i64 ⟨by simp only; omega, by simp only; omega⟩
  rcases List.mem_cons.1 hk with rfl | hk
  · exact small 1 _ (by omega) (by omega) (hn _ h1)
  · rcases List.mem_append.1 hk with hk | hk
    · split at hk
      · simp at hk
      · rename_i hid
        obtain rfl := List.mem_singleton.1 hk
        refine small 2 _ (by omega) (by omega) ?_
        rcases h2 with h2 | h2
        · exact absurd (List.isEmpty_iff.1 h2) hid
        · exact hn _ h2
    · obtain ⟨c, hc, rfl⟩ := List.mem_map.1 hk
      exact small 3 _ (by omega) (by omega) (hn _ (List.all_eq_true.1 h3.1.2 c hc))
end Pl
/-- an index that was built, read -/
theorem ERow.ens {B : Nat} {w : World} {v : Value} {ps : List EP} (h : ERow B w v ps) : EnsAt w v (ps.map fun p => Pl.erOf p.1) := by
  obtain ⟨a, c, rfl⟩ := h.form
  refine ⟨a, c, by rw [List.length_map], ?_⟩
  by_cases hp : ps = []
  · left; simp [hp]
  · have hpos : 0 < ps.length := List.length_pos_iff.2 hp
    obtain ⟨g, cg, eg, _, _⟩ := h.own.form hpos
    obtain ⟨rfl, rfl⟩ : a = some ⟨g, 0, none⟩ ∧ c = cg := by injection eg with q1 q2 q3; exact ⟨q1, q3⟩
    refine Or.inr ⟨g, 0, rfl, fun i hi => ?_⟩
    have hi' : i < ps.length := by simpa using hi
    obtain ⟨h0, h1, h2⟩ := own_three h.own hi' (pCells_get ps i hi')
    rw [Nat.zero_add, List.getElem_map]
    exact ⟨ps[i].2, h0, h1, h2, ints_of_row (h.ints ps[i] (List.getElem_mem hi'))⟩
theorem EnsAt.nil (w : World) : EnsAt w (.slice none 0 0) [] := ⟨none, 0, rfl, Or.inl rfl⟩
theorem check_keys {ns : List Pl.Nd} (h : Pl.checkDoc ns = 0) : (∀ x ∈ ns, ∀ k ∈ Pl.keysOf x, Good k) ∧ ∀ x ∈ ns, (Pl.keysOf x).Nodup := by
  obtain ⟨_, _, hk⟩ := check_zero h
  refine ⟨fun x hx => ?_, fun x hx => ?_⟩
  · obtain ⟨i, hi, rfl⟩ := List.getElem_of_mem hx
    exact Pl.right_keys (okTo_right hk hi hi).1
  · obtain ⟨i, hi, rfl⟩ := List.getElem_of_mem hx
    exact Pl.keys_nodup (okTo_right hk hi hi).1
theorem ent_idx {ns : List Pl.Nd} {ps qs : List EP} (h : Pl.checkDoc ns = 0) (hm : ps.map (·.1) = Pl.gathTo ns ns.length) (hp : qs.Perm ps) (hs : qs.Pairwise (fun p q => Pl.keyLess q.1.key p.1.key = false)) : qs.map (fun p => Pl.erOf p.1) = (Pl.idxTo ns ns.length).map Pl.erOf := by
  have h1 : (qs.map (·.1)).Perm (Pl.gathTo ns ns.length) := by rw [← hm]; exact hp.map _
  have hd : ((qs.map (·.1)).map (·.key)).Nodup := ((h1.map (·.key)).nodup_iff).2 (Pl.gath_nodup ns _)
  have h2 : (qs.map (·.1)).Pairwise (fun a b => Pl.keyLess a.key b.key = true) := by
    rw [List.map_map, List.nodup_iff_pairwise_ne, List.pairwise_map] at hd
    rw [List.pairwise_map]
    refine (hs.and hd).imp fun {p q} ⟨a, b⟩ => ?_
    rcases Pl.kl_total p.1.key q.1.key with c | c | c
    · exact c
    · exact absurd c b
    · rw [c] at a; cases a
  have h3 := Pl.gath_idx (check_keys h).2 h1 h2
  rw [← h3, List.map_map]
  rfl
theorem gath_ne {ns : List Pl.Nd} {ps : List EP} (h : 1 ≤ ns.length) (hm : ps.map (·.1) = Pl.gathTo ns ns.length) (hd : ∀ x ∈ ns, (Pl.keysOf x).Nodup) : ps ≠ [] := by
  intro e
  rw [e] at hm
  have hp := Pl.gath_places hd (1, (ns[0]'(by omega)).tag) ns.length
  rw [← hm] at hp
  have : (0 : Nat) ∈ Pl.whoTo ns (1, (ns[0]'(by omega)).tag) ns.length := by
    unfold Pl.whoTo
    rw [List.mem_filter]
    refine ⟨by simp; omega, ?_⟩
    rw [List.getElem?_eq_getElem (by omega)]
    simp [Pl.keysOf]
  rw [← hp] at this
  simp [Pl.placesOf] at this
set_option maxRecDepth 100000 in
set_option maxHeartbeats 2000000 in
theorem build_bad (v : Value) (ns : List Pl.Nd) (w : World) (hd : DocAt w v ns) (hc : (Pl.checkDoc ns != 0) = true) :
    Calls Tryz.prog 20 #[.agg #[v]] w fun e w' => e = .returned (.tuple #[.slice none 0 0, .int .i64 (Pl.checkDoc ns)]) ∧ Below w.heap.size w w' := by
  obtain ⟨a, c, rfl⟩ := hd.form
  have hb := on_alloc w (.cells #[.slice a ns.length c] 24)
  have hchk := check_any (.slice a ns.length c) ns (w.alloc (.cells #[.slice a ns.length c] 24)) hd.2.2 (hd.1.on hb)
  have HCHK : Hid (Calls Tryz.prog 46 _ _ _) := hchk
  generalize Pl.checkDoc ns = r at *
  clear hchk hd
  go_enter Tryz.func20, Tryz.ntmps20
  go_wp2_with fail
  refine HCHK.out.mono ?_
  rintro e w1 ⟨rfl, h1⟩
  go_wp2
  go_ret2
  exact ⟨rfl, below_trans hb h1⟩
set_option maxRecDepth 100000 in
set_option maxHeartbeats 2000000 in
theorem build_good (v : Value) (ns : List Pl.Nd) (w : World) (hd : DocAt w v ns) (hc : Pl.checkDoc ns = 0) :
    Calls Tryz.prog 20 #[.agg #[v]] w fun e w' => ∃ u ps, e = .returned (.tuple #[u, .int .i64 0]) ∧ ERow (w.heap.size + 1) w' u ps ∧ ps.map (fun p => Pl.erOf p.1) = (Pl.idxTo ns ns.length).map Pl.erOf ∧ Below w.heap.size w w' := by
  obtain ⟨h1n, h64, _⟩ := check_zero hc
  have hsh := check_short hc
  obtain ⟨hgood, hndp⟩ := check_keys hc
  obtain ⟨a, c, rfl⟩ := hd.form
  obtain ⟨a2, c2, e2, hnil | ⟨b, o, ha, hcell⟩⟩ := hd.1
  · subst hnil; simp at h1n
  injection e2 with q1 _ q3
  subst q1 q3 ha
  have hb := on_alloc w (.cells #[.slice (some ⟨b, o, none⟩) ns.length c] 24)
  have bS := Blk1.new w (.slice (some ⟨b, o, none⟩) ns.length c)
  have hchk := check_any (.slice (some ⟨b, o, none⟩) ns.length c) ns (w.alloc (.cells #[.slice (some ⟨b, o, none⟩) ns.length c] 24)) hd.2.2 (hd.1.on hb)
  rw [hc] at hchk
  have HCHK : Hid (Calls Tryz.prog 46 _ _ _) := hchk
  have HB : Hid (Below _ _ _) := hb
  have HBS : Hid (Blk1 _ _ _) := bS
  have HCELL : Hid (∀ i (h : i < ns.length), NdAt w b (o + i * 5) ns[i]) := hcell
  have hz : (w.alloc (.cells #[.slice (some ⟨b, o, none⟩) ns.length c] 24)).heap.size = w.heap.size + 1 := by simp
  clear hchk hd hb bS hcell
  go_enter Tryz.func20, Tryz.ntmps20
  go_wp2_with fail
  generalize w.alloc (.cells #[.slice (some ⟨b, o, none⟩) ns.length c] 24) = w0 at *
  refine HCHK.out.mono ?_
  rintro e w1 ⟨rfl, h1⟩
  have s1 := (Blk1.on HBS.out h1).facts.1
  have hs1 := h1.size
  have HB1 : Hid (Below w.heap.size w w1) := below_trans HB.out h1
  clear h1
  go_wp2_with fail
  refine (gather_any b o c ns w1 h64 (fun x hx => (hsh x hx).1) hgood (fun i hi => (HCELL.out i hi).on HB1.out)).mono ?_
  rintro e w2 ⟨ps, rfl, hm2, hf2, hp2, hb2⟩
  have hbnd := Pl.gath_fit (fun x hx => (hsh x hx).1) ns.length
  have hpl : ps.length ≤ 1000 := by
    have := hbnd.1
    rw [← hp2, List.length_map] at this
    omega
  have hne := gath_ne h1n hp2 hndp
  have HM2 : Hid (MapAt _ _ _) := hm2
  have HF2 : Hid (Fam _ _ _) := hf2
  have HP2 : Hid _ := hp2
  have HB2 : Hid (Below w.heap.size w w2) := below_trans HB1.out hb2
  clear hm2 hf2 hp2 hb2 s1 hbnd
  go_wp2_with fail
  refine (entries_any w1.heap.size ps w2 HM2.out HF2.out hne hpl).mono ?_
  rintro e w3 ⟨u, qs, rfl, hperm, hsort, hrow, hb3⟩
  obtain ⟨au, cu, rfl⟩ := hrow.form
  have HR : Hid (ERow (w.heap.size + 1) w3 (.slice au qs.length cu) qs) := hrow.mono (by omega)
  have HE : Hid _ := ent_idx hc HP2.out hperm hsort
  have HB3 : Hid (Below w.heap.size w w3) := below_trans HB2.out hb3
  clear hperm hsort hrow hb3
  go_wp2
  go_ret2
  exact ⟨_, qs, rfl, HR.out, HE.out, HB3.out⟩
theorem build_any (v : Value) (ns : List Pl.Nd) (w : World) (hd : DocAt w v ns) :
    Calls Tryz.prog 20 #[.agg #[v]] w fun e w' => ∃ u, e = .returned (.tuple #[u, .int .i64 (Pl.checkDoc ns)]) ∧ EnsAt w' u (Pl.idxAns ns) ∧ Below w.heap.size w w' := by
  by_cases hc : Pl.checkDoc ns = 0
  · refine (build_good v ns w hd hc).mono ?_
    rintro e w' ⟨u, ps, rfl, h1, h2, h3⟩
    refine ⟨u, by rw [hc], ?_, h3⟩
    unfold Pl.idxAns
    rw [if_pos hc, ← h2]
    exact h1.ens
  · refine (build_bad v ns w hd (by simpa using hc)).mono ?_
    rintro e w' ⟨rfl, h3⟩
    refine ⟨_, rfl, ?_, h3⟩
    unfold Pl.idxAns
    rw [if_neg hc]
    exact EnsAt.nil _
end Go.Proofs.YtagobgjlhdbhmaaGreatDoor
