/-
  Names that rise: asked of attributes.
-/
import Derived.Test.YthlpcmgeelkncaaRise
import Derived.Deep.RegionHeld3
namespace Go.Proofs.Ythlpcmgeelkncaa
open Go.RowKit

set_option maxHeartbeats 400000 in
theorem nameOf_any (n v : List UInt8) (w : World) :
    Calls Try.prog 70 #[.agg #[.string ⟨n.toArray⟩, .string ⟨v.toArray⟩]] w fun e w' => e = .returned (.string ⟨n.toArray⟩) ∧ Below w.heap.size w w' := by
  go_enter Try.func70, Try.ntmps70
  go_wp2
  go_ret
  exact ⟨rfl, on_alloc w _⟩

theorem four_on {w wr w' : World} {b p0 p1 p2 p3 : Nat} {v0 v1 v2 v3 : Value} (h : wr.cell? ⟨b, p0, none⟩ = some v0 ∧ wr.cell? ⟨b, p1, none⟩ = some v1 ∧ wr.cell? ⟨b, p2, none⟩ = some v2 ∧ wr.cell? ⟨b, p3, none⟩ = some v3 ∧ Below w.heap.size w wr)
    (hb : Below wr.heap.size wr w') : w'.cell? ⟨b, p0, none⟩ = some v0 ∧ w'.cell? ⟨b, p1, none⟩ = some v1 ∧ w'.cell? ⟨b, p2, none⟩ = some v2 ∧ w'.cell? ⟨b, p3, none⟩ = some v3 ∧ Below w.heap.size w w' :=
  ⟨cell_on hb h.1, cell_on hb h.2.1, cell_on hb h.2.2.1, cell_on hb h.2.2.2.1, below_trans h.2.2.2.2 hb⟩

theorem four_below {w wr : World} {b p0 p1 p2 p3 : Nat} {v0 v1 v2 v3 : Value} (h : wr.cell? ⟨b, p0, none⟩ = some v0 ∧ wr.cell? ⟨b, p1, none⟩ = some v1 ∧ wr.cell? ⟨b, p2, none⟩ = some v2 ∧ wr.cell? ⟨b, p3, none⟩ = some v3 ∧ Below w.heap.size w wr) : Below w.heap.size w wr := h.2.2.2.2
set_option maxHeartbeats 1000000 in
theorem riseA_some (b o cap : Nat) (ss : List (List UInt8 × List UInt8)) (w : World) (hlen : ss.length ≤ 4)
    (hc : ∀ i (h : i < ss.length), w.cell? ⟨b, o + i * 2, none⟩ = some (.string ⟨ss[i].1.toArray⟩) ∧ w.cell? ⟨b, o + i * 2 + 1, none⟩ = some (.string ⟨ss[i].2.toArray⟩)) :
    Calls Try.prog 87 #[.slice (some ⟨b, o, none⟩) ss.length cap, .func (.func 70) #[] #[]] w fun e w' => e = .returned (.bool (Pl.rise (ss.map (·.1)))) ∧ Below w.heap.size w w' := by
  have HC : Hid _ := hc
  clear hc
  go_enter Try.func87, Try.ntmps87
  go_wp2
  go_loopw [5] (fun i wr => ∃ j : Nat, i = .int .i64 ((j : Int) + 1) ∧ Hid (Pl.rise (ss.map (·.1)) = Pl.rise ((ss.map (·.1)).drop j)) ∧ Below w.heap.size w wr) (fun i _ => ss.length - (intOf i).toNat)
  case atStart => exact ⟨0, rfl, by simp [Hid], Below.refl _ _⟩
  case round =>
    obtain ⟨j, rfl, hd, hB⟩ := hrel
    by_cases hlt : j + 1 < ss.length
    · obtain ⟨c0, c1⟩ := HC.out j (by omega)
      obtain ⟨c2, c3⟩ := HC.out (j + 1) hlt
      replace c0 := cell_on hB c0
      replace c1 := cell_on hB c1
      replace c2 := cell_on hB c2
      replace c3 := cell_on hB c3
      have i1 : (0 : Int) ≤ (j : Int) := by omega
      have i2 : (j : Int) < (ss.length : Int) := by omega
      have i3 : (j : Int) + 1 < (ss.length : Int) := by omega
      have i4 : (0 : Int) ≤ (j : Int) + 1 := by omega
      have i5 : IntKind.i64.wrap ((j : Int) + 1 - 1) = (j : Int) := by rw [IntWalk.i64_left, IntWalk.wrap64_in _ ⟨by omega, by omega⟩]; omega
      have i6 : ((j : Int) + 1).toNat = j + 1 := by omega
      have i7 : IntKind.i64.wrap (j : Int) = (j : Int) := by rw [IntWalk.i64_left, IntWalk.wrap64_in _ ⟨by omega, by omega⟩]
      cases hle : Op.bytesLess ss[j].1 ss[j + 1].1 with
      | true =>
        have HR : Hid (Pl.rise (ss.map (·.1)) = Pl.rise ((ss.map (·.1)).drop (j + 1))) := hd.out.trans (rise_step (ss.map (·.1)) j (by simpa using hlt) (by simpa using hle))
        have S0 : wr.drew.cell? ⟨b, o + j * 2, none⟩ = some (.string ⟨ss[j].1.toArray⟩) ∧ wr.drew.cell? ⟨b, o + j * 2 + 1, none⟩ = some (.string ⟨ss[j].2.toArray⟩) ∧ wr.drew.cell? ⟨b, o + (j + 1) * 2, none⟩ = some (.string ⟨ss[j + 1].1.toArray⟩) ∧ wr.drew.cell? ⟨b, o + (j + 1) * 2 + 1, none⟩ = some (.string ⟨ss[j + 1].2.toArray⟩) ∧ Below w.heap.size w wr.drew := ⟨c0, c1, c2, c3, hB.drew⟩
        clear hd
        go_wp2
        clear c0 c1 c2 c3
        go_region_held3 (fun w' => w'.cell? ⟨b, o + j * 2, none⟩ = some (.string ⟨ss[j].1.toArray⟩) ∧ w'.cell? ⟨b, o + j * 2 + 1, none⟩ = some (.string ⟨ss[j].2.toArray⟩) ∧ w'.cell? ⟨b, o + (j + 1) * 2, none⟩ = some (.string ⟨ss[j + 1].1.toArray⟩) ∧ w'.cell? ⟨b, o + (j + 1) * 2 + 1, none⟩ = some (.string ⟨ss[j + 1].2.toArray⟩) ∧ Below w.heap.size w w')
          (first | assumption | exact four_on (by assumption) (by assumption))
          (first | (go_at_call 70; refine (nameOf_any _ _ _).mono ?_; rintro e w' ⟨rfl, hw⟩))
        go_wp2
        exact ⟨⟨j + 1, by go_num, HR, four_below (by assumption)⟩, by simp [intOf]; omega⟩
      | false =>
        have HR : Hid (Pl.rise (ss.map (·.1)) = false) := hd.out.trans (rise_stop (ss.map (·.1)) j (by simpa using hlt) (by simpa using hle))
        have S0 : wr.drew.cell? ⟨b, o + j * 2, none⟩ = some (.string ⟨ss[j].1.toArray⟩) ∧ wr.drew.cell? ⟨b, o + j * 2 + 1, none⟩ = some (.string ⟨ss[j].2.toArray⟩) ∧ wr.drew.cell? ⟨b, o + (j + 1) * 2, none⟩ = some (.string ⟨ss[j + 1].1.toArray⟩) ∧ wr.drew.cell? ⟨b, o + (j + 1) * 2 + 1, none⟩ = some (.string ⟨ss[j + 1].2.toArray⟩) ∧ Below w.heap.size w wr.drew := ⟨c0, c1, c2, c3, hB.drew⟩
        clear hd
        go_wp2
        clear c0 c1 c2 c3
        go_region_held3 (fun w' => w'.cell? ⟨b, o + j * 2, none⟩ = some (.string ⟨ss[j].1.toArray⟩) ∧ w'.cell? ⟨b, o + j * 2 + 1, none⟩ = some (.string ⟨ss[j].2.toArray⟩) ∧ w'.cell? ⟨b, o + (j + 1) * 2, none⟩ = some (.string ⟨ss[j + 1].1.toArray⟩) ∧ w'.cell? ⟨b, o + (j + 1) * 2 + 1, none⟩ = some (.string ⟨ss[j + 1].2.toArray⟩) ∧ Below w.heap.size w w')
          (first | assumption | exact four_on (by assumption) (by assumption))
          (first | (go_at_call 70; refine (nameOf_any _ _ _).mono ?_; rintro e w' ⟨rfl, hw⟩))
        go_wp2
        go_ret
        exact ⟨by rw [HR.out]; rfl, four_below (by assumption)⟩
    · have HR : Hid (Pl.rise (ss.map (·.1)) = true) := hd.out.trans (rise_end (ss.map (·.1)) j (by simpa using hlt))
      go_wp2
      go_ret
      exact ⟨by rw [HR.out]; rfl, hB⟩
set_option maxHeartbeats 400000 in
theorem riseA_none (a : Option Addr) (cap : Nat) (w : World) :
    Calls Try.prog 87 #[.slice a 0 cap, .func (.func 70) #[] #[]] w fun e w' => e = .returned (.bool (Pl.rise [])) ∧ Below w.heap.size w w' := by
  go_enter Try.func87, Try.ntmps87
  go_wp2
  refine wp_loop_rounds 1 ?_
  rw [rounds_succ]
  go_wp2
  go_ret
  exact ⟨rfl, Below.refl _ _⟩
theorem riseA_any (v : Value) (ss : List (List UInt8 × List UInt8)) (w : World) (hlen : ss.length ≤ 4) (hs : AtsAt w v ss) :
    Calls Try.prog 87 #[v, .func (.func 70) #[] #[]] w fun e w' => e = .returned (.bool (Pl.rise (ss.map (·.1)))) ∧ Below w.heap.size w w' := by
  obtain ⟨a, cap, rfl, h⟩ := hs
  rcases h with rfl | ⟨b, o, rfl, hc⟩
  · exact riseA_none a cap w
  · exact riseA_some b o cap ss w hlen hc
end Go.Proofs.Ythlpcmgeelkncaa
