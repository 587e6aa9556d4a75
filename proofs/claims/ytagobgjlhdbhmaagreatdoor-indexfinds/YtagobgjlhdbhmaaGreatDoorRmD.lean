/-
  What the document says of attributes, of places in lists, of those above.
-/
import Derived.Test.YtagobgjlhdbhmaaGreatDoorRefN
import Derived.Test.YtagobgjlhdbhmaaGreatDoorRefK
import Derived.RangeFuncBox
namespace Go.Proofs.YtagobgjlhdbhmaaGreatDoor
open Go.RowKit

/-- the value of the first attribute of a name -/
def attr1 (ats : List (List UInt8 × List UInt8)) (name : List UInt8) : Option (List UInt8) := (ats.find? fun a => a.1 == name).map (·.2)
theorem attr1_hit {ats : List (List UInt8 × List UInt8)} {name : List UInt8} {k : Nat} (hk : k < ats.length) (h : ∀ j (hj : j < ats.length), j < k → (ats[j].1 == name) = false) (he : (ats[k].1 == name) = true) : attr1 ats name = some ats[k].2 := by
  unfold attr1
  have : ats.find? (fun a => a.1 == name) = some ats[k] := by
    rw [List.find?_eq_some_iff_getElem]
    exact ⟨he, k, hk, rfl, fun j hj => by rw [h j (by omega) hj]; rfl⟩
  rw [this]
  rfl
theorem attr1_miss {ats : List (List UInt8 × List UInt8)} {name : List UInt8} (h : ∀ j (hj : j < ats.length), (ats[j].1 == name) = false) : attr1 ats name = none := by
  unfold attr1
  have : ats.find? (fun a => a.1 == name) = none := by
    rw [List.find?_eq_none]
    intro x hx
    obtain ⟨j, hj, rfl⟩ := List.getElem_of_mem hx
    rw [h j hj]
    simp
  rw [this]
  rfl
theorem blk5_cells {W : World} {N : Nat} {T : TypeId} {u0 u1 u2 u3 u4 : Value} (h : W.heap[N]? = some (.cells #[u0, u1, u2, u3, u4] T)) : W.cell? ⟨N, 0, none⟩ = some u0 ∧ W.cell? ⟨N, 1, none⟩ = some u1 ∧ W.cell? ⟨N, 2, none⟩ = some u2 ∧ W.cell? ⟨N, 3, none⟩ = some u3 ∧ W.cell? ⟨N, 4, none⟩ = some u4 := by
  refine ⟨?_, ?_, ?_, ?_, ?_⟩ <;> simp [World.cell?, h]
set_option maxRecDepth 100000 in
set_option maxHeartbeats 2000000 in
theorem attrOf_any (v : Value) (x : Pl.Nd) (name : List UInt8) (w : World) (hv : NdV w v x) (hl : x.ats.length ≤ 64) :
    Calls Tryz.prog 34 #[v, .string ⟨name.toArray⟩] w fun e w' => e = .returned (.tuple #[.string ⟨((attr1 x.ats name).getD []).toArray⟩, .bool (attr1 x.ats name).isSome]) ∧ Below w.heap.size w w' := by
  obtain ⟨up, tag, idn, cls, ats⟩ := x
  obtain ⟨vc, va, rfl, hs, ha⟩ := hv
  dsimp only at hs ha hl ⊢
  obtain ⟨aa, ca, rfl, hc⟩ := ha
  have HB : Hid (Below w.heap.size w (w.alloc (.cells #[.int .i64 up, .string ⟨tag.toArray⟩, .string ⟨idn.toArray⟩, vc, .slice aa ats.length ca] 77))) := on_alloc _ _
  have HC : Hid (∀ i (h : i < ats.length), ∃ b o, aa = some ⟨b, o, none⟩ ∧ (w.alloc (.cells #[.int .i64 up, .string ⟨tag.toArray⟩, .string ⟨idn.toArray⟩, vc, .slice aa ats.length ca] 77)).cell? ⟨b, o + i * 2, none⟩ = some (.string ⟨ats[i].1.toArray⟩) ∧ (w.alloc (.cells #[.int .i64 up, .string ⟨tag.toArray⟩, .string ⟨idn.toArray⟩, vc, .slice aa ats.length ca] 77)).cell? ⟨b, o + i * 2 + 1, none⟩ = some (.string ⟨ats[i].2.toArray⟩)) := fun i hi => by
    rcases hc with rfl | ⟨b, o, rfl, hc⟩
    · simp at hi
    · exact ⟨b, o, rfl, cell_on HB.out (hc i hi).1, cell_on HB.out (hc i hi).2⟩
  have X := World.alloc_heap_new w (.cells #[.int .i64 up, .string ⟨tag.toArray⟩, .string ⟨idn.toArray⟩, vc, .slice aa ats.length ca] 77)
  have c4 : (w.alloc (.cells #[.int .i64 up, .string ⟨tag.toArray⟩, .string ⟨idn.toArray⟩, vc, .slice aa ats.length ca] 77)).cell? ⟨w.heap.size, 4, none⟩ = some (.slice aa ats.length ca) := (blk5_cells X).2.2.2.2
  clear hc hs X
  go_enter Tryz.func34, Tryz.ntmps34
  go_wp2_with fail
  generalize w.alloc (.cells #[.int .i64 up, .string ⟨tag.toArray⟩, .string ⟨idn.toArray⟩, vc, .slice aa ats.length ca] 77) = W at *
  go_loop [6] (fun n => ∃ k : Nat, k ≤ ats.length ∧ n = .int .i64 k ∧ Hid (∀ j (hj : j < ats.length), j < k → (ats[j].1 == name) = false)) (fun n => ats.length - (intOf n).toNat)
  case atStart => exact ⟨0, Nat.zero_le _, rfl, fun j _ hj => by omega⟩
  case round =>
    obtain ⟨k, hk, rfl, HD⟩ := hrel
    by_cases hlt : k < ats.length
    · obtain ⟨b, o, rfl, d1, d2⟩ := HC.out k hlt
      cases he : (ats[k].1 == name) with
      | true =>
        have HY : Hid (attr1 ats name = some ats[k].2) := attr1_hit hlt HD.out he
        have e : ats[k].1 = name := by simpa using he
        rw [e] at d1
        clear he e
        generalize ats[k].2 = vl at *
        go_wp2
        go_ret2
        exact ⟨by rw [HY.out]; rfl, HB.out⟩
      | false =>
        have HD2 : Hid (∀ j (hj : j < ats.length), j < k + 1 → (ats[j].1 == name) = false) := by
          intro j h hj
          by_cases e : j = k
          · subst e
            exact he
          · exact HD.out j h (by omega)
        generalize ats[k].1 = q at *
        have he2 : ¬ (⟨q.toArray⟩ : ByteArray) = ⟨name.toArray⟩ := fun e => by
          have := congrArg (fun x : ByteArray => x.data.toList) e
          simp at this
          rw [this] at he
          simp at he
        clear d2
        go_wp2
        go_round
        case rel => exact ⟨k + 1, by omega, by go_num, HD2⟩
        case measure => simp [intOf]; omega
    · have HN : Hid (attr1 ats name = none) := attr1_miss fun j hj => HD.out j hj (by omega)
      go_wp2
      go_ret2
      exact ⟨by rw [HN.out]; rfl, HB.out⟩
/-- the first place of a number in a list -/
def plc (ks : List Int) (n : Int) : Int := match (List.range ks.length).find? fun i => ks[i]? == some n with
  | some i => i
  | none => -1
theorem plc_hit {ks : List Int} {n : Int} {k : Nat} (hk : k < ks.length) (h : ∀ j, j < k → ¬ ks[j]? = some n) (he : ks[k]? = some n) : plc ks n = k := by
  unfold plc
  have : (List.range ks.length).find? (fun i => ks[i]? == some n) = some k := by
    rw [List.find?_range_eq_some]
    exact ⟨by simpa using he, by simpa using hk, fun j hj => by simpa using h j hj⟩
  rw [this]
theorem plc_miss {ks : List Int} {n : Int} (h : ∀ j, j < ks.length → ¬ ks[j]? = some n) : plc ks n = -1 := by
  unfold plc
  have : (List.range ks.length).find? (fun i => ks[i]? == some n) = none := by
    rw [List.find?_eq_none]
    intro x hx
    simpa using h x (by simpa using hx)
  rw [this]
set_option maxHeartbeats 1000000 in
theorem placeIn_any (v : Value) (ks : List Int) (n : Int) (w : World) (hv : IntsAt w v ks) (hl : ks.length ≤ 65536) :
    Calls Tryz.prog 37 #[v, .int .i64 n] w fun e w' => e = .returned (.int .i64 (plc ks n)) ∧ w' = w := by
  obtain ⟨a, cap, rfl, hc⟩ := hv
  have HC : Hid (∀ i (h : i < ks.length), ∃ b o, a = some ⟨b, o, none⟩ ∧ w.cell? ⟨b, o + i, none⟩ = some (.int .i64 ks[i])) := fun i hi => by
    rcases hc with rfl | ⟨b, o, rfl, hc⟩
    · simp at hi
    · exact ⟨b, o, rfl, hc i hi⟩
  clear hc
  go_enter Tryz.func37, Tryz.ntmps37
  go_wp2_with fail
  go_loop [5] (fun m => ∃ k : Nat, k ≤ ks.length ∧ m = .int .i64 k ∧ Hid (∀ j, j < k → ¬ ks[j]? = some n)) (fun m => ks.length - (intOf m).toNat)
  case atStart => exact ⟨0, Nat.zero_le _, rfl, fun j hj => by omega⟩
  case round =>
    obtain ⟨k, hk, rfl, HD⟩ := hrel
    by_cases hlt : k < ks.length
    · obtain ⟨b, o, rfl, d1⟩ := HC.out k hlt
      have hg : ks[k]? = some ks[k] := List.getElem?_eq_getElem hlt
      cases he : (ks[k] == n) with
      | true =>
        have e : ks[k] = n := by simpa using he
        have HY : Hid (plc ks n = k) := plc_hit hlt HD.out (by rw [hg, e])
        clear hg
        generalize ks[k] = q at *
        subst e
        clear he
        go_wp2
        go_ret
        exact ⟨by rw [HY.out]; rfl, rfl⟩
      | false =>
        have HD2 : Hid (∀ j, j < k + 1 → ¬ ks[j]? = some n) := by
          intro j hj
          by_cases e : j = k
          · subst e
            rw [hg]
            intro h
            rw [Option.some.inj h] at he
            simp at he
          · exact HD.out j (by omega)
        clear hg
        generalize ks[k] = q at *
        go_wp2
        go_round
        case rel => exact ⟨k + 1, by omega, by go_num, HD2⟩
        case measure => simp [intOf]; omega
    · have HN : Hid (plc ks n = -1) := plc_miss fun j hj => HD.out j (by omega)
      go_wp2
      go_ret
      exact ⟨by rw [HN.out]; rfl, rfl⟩
set_option maxHeartbeats 400000 in
theorem above_some (b o cap : Nat) (ns : List Pl.Nd) (a n : Nat) (w : World) (hn : n < ns.length) (_h64 : ns.length ≤ 64) (hl : Pl.Low ns ns.length) (hc : ∀ i (h : i < ns.length), NdAt w b (o + i * 5) ns[i]) :
    Calls Tryz.prog 39 #[.agg #[.slice (some ⟨b, o, none⟩) ns.length cap], .int .i64 a, .int .i64 n] w fun e w' => e = .returned (.bool (aboveB ns a n)) ∧ Below w.heap.size w w' := by
  have HC2 : Hid (∀ k, k < ns.length → (w.alloc (.cells #[.slice (some ⟨b, o, none⟩) ns.length cap] 24)).cell? ⟨b, o + k * 5, none⟩ = some (.int .i64 (Pl.upOf ns k))) := fun k h => cell_on (on_alloc _ _) (up_cell hc k h)
  have cn := HC2.out n hn
  have HH : Hid (aboveB ns a n = way ns (Pl.upOf ns n) a) := rfl
  have HL : Hid (Pl.Low ns ns.length) := hl
  obtain ⟨v1, v2⟩ := hl n hn
  clear hc hl
  generalize Pl.upOf ns n = t at *
  go_enter Tryz.func39, Tryz.ntmps39
  go_wp2
  go_loop [7] (fun u => ∃ q : Int, u = .int .i64 q ∧ -1 ≤ q ∧ q < ns.length ∧ Hid (aboveB ns a n = way ns q a)) (fun u => (intOf u + 1).toNat)
  case atStart => exact ⟨t, rfl, by omega, by omega, HH⟩
  case round =>
    obtain ⟨q, rfl, hq1, hq2, hw⟩ := hrel
    by_cases hneg : q < 0
    · have HF : Hid (aboveB ns a n = false) := by
        have : q = -1 := by omega
        subst this
        exact hw.out.trans (way_neg ns a)
      go_wp2
      go_ret
      exact ⟨by rw [HF.out]; rfl, on_alloc _ _⟩
    · obtain ⟨k, rfl⟩ : ∃ k : Nat, q = k := ⟨q.toNat, by omega⟩
      have hk : k < ns.length := by omega
      cases he : ((k : Int) == (a : Int)) with
      | true =>
        have HF : Hid (aboveB ns a n = true) := by
          have : (k : Int) = a := by simpa using he
          rw [Hid, hw.out, ← this]; exact way_hit ns k
        go_wp2
        go_ret
        exact ⟨by rw [HF.out]; rfl, on_alloc _ _⟩
      | false =>
        have ck := HC2.out k (by omega)
        obtain ⟨u1, u2⟩ := HL.out k hk
        have HS : Hid (aboveB ns a n = way ns (Pl.upOf ns k) a) := hw.out.trans (way_step HL.out k hk a he)
        generalize Pl.upOf ns k = u at *
        go_wp2
        exact ⟨⟨u, rfl, u1, by omega, HS⟩, by simp [intOf]; omega⟩
end Go.Proofs.YtagobgjlhdbhmaaGreatDoor
