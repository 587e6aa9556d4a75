/-
  Kids, and what stands behind an element, as the program tells them.
-/
import Derived.Test.YtagobgjlhdbhmaaGreatDoorCheck
import Derived.Deep.AppendLies
namespace Go.Proofs.YtagobgjlhdbhmaaGreatDoor
open Go.RowKit

namespace Pl
/-- the kids of n among the first k -/
def kidsTo (ns : List Nd) (n : Int) (k : Nat) : List Nat := (List.range k).filter fun i => upOf ns i == n
def kidsOf (ns : List Nd) (n : Int) : List Nat := kidsTo ns n ns.length
theorem kidsTo_hit (ns : List Nd) (n : Int) (k : Nat) (h : (upOf ns k == n) = true) : kidsTo ns n (k + 1) = kidsTo ns n k ++ [k] := by
  unfold kidsTo; rw [List.range_succ, List.filter_append]; simp [h]
theorem kidsTo_miss (ns : List Nd) (n : Int) (k : Nat) (h : (upOf ns k == n) = false) : kidsTo ns n (k + 1) = kidsTo ns n k := by
  unfold kidsTo; rw [List.range_succ, List.filter_append]; simp [h]
theorem kidsTo_len (ns : List Nd) (n : Int) (k : Nat) : (kidsTo ns n k).length ≤ k := by
  unfold kidsTo; exact Nat.le_trans (List.length_filter_le _ _) (by simp)
/-- the end of those from e on whose Up is n at least -/
def behindFrom (ns : List Nd) (n : Nat) : Nat → Nat → Nat
  | 0, e => e
  | f + 1, e => if e < ns.length ∧ (n : Int) ≤ upOf ns e then behindFrom ns n f (e + 1) else e
def behind (ns : List Nd) (n : Nat) : Nat := behindFrom ns n (ns.length - n) (n + 1)
end Pl
/-- numbers as cells -/
def natCells (l : List Nat) : List Value := l.map fun (k : Nat) => Value.int .i64 (k : Int)

theorem Tryz.info3 : (Tryz.prog.info? 3).map (fun i => (i.zero, i.size, i.bytes)) = some (some (.int .i64 0), 1, 8) := by kernel_rfl

theorem ints_of_row {w : World} {B : Nat} {v : Value} {l : List Nat} (h : w.ownsRow B 3 1 v l.length (natCells l)) : IntsAt w v (l.map fun (k : Nat) => (k : Int)) := by
  have hh := h
  obtain ⟨_, h0 | ⟨g, cap, cur, rfl, _⟩⟩ := h
  · obtain ⟨rfl, hl⟩ := h0
    have : l = [] := by simpa using hl
    subst this
    exact ⟨none, 0, rfl, Or.inl rfl⟩
  · refine ⟨_, cap, by simp, Or.inr ⟨g, 0, rfl, fun i hi => ?_⟩⟩
    have hl : i < l.length := by simpa using hi
    have := World.ownsRow.cells hh rfl i (.int .i64 (l[i] : Int)) (by simp [natCells, List.getElem?_eq_getElem hl])
    rw [Addr.add_lit] at this
    simpa using this

set_option maxHeartbeats 400000 in
theorem behind_some (b o cap : Nat) (ns : List Pl.Nd) (n : Nat) (w : World) (hn : n < ns.length) (h64 : ns.length ≤ 64) (hc : ∀ i (h : i < ns.length), NdAt w b (o + i * 5) ns[i]) :
    Calls Tryz.prog 126 #[.slice (some ⟨b, o, none⟩) ns.length cap, .int .i64 n] w fun e w' => e = .returned (.int .i64 (Pl.behind ns n)) ∧ w' = w := by
  have HC : Hid (∀ k, k < ns.length → w.cell? ⟨b, o + k * 5, none⟩ = some (.int .i64 (Pl.upOf ns k))) := fun k h => up_cell hc k h
  clear hc
  go_enter Tryz.func126, Tryz.ntmps126
  go_wp2
  go_loop [5] (fun e => ∃ k : Nat, n + 1 ≤ k ∧ k ≤ ns.length ∧ e = .int .i64 k ∧ Hid (Pl.behind ns n = Pl.behindFrom ns n (ns.length + 1 - k) k)) (fun e => ns.length - (intOf e).toNat)
  case atStart => exact ⟨n + 1, by omega, by omega, by go_num, by unfold Hid Pl.behind; rw [show ns.length + 1 - (n + 1) = ns.length - n by omega]⟩
  case round =>
    obtain ⟨k, hk1, hk2, rfl, hd⟩ := hrel
    by_cases hlt : k < ns.length
    · have ck := HC.out k hlt
      by_cases hu : (n : Int) ≤ Pl.upOf ns k
      · have HS : Hid (Pl.behind ns n = Pl.behindFrom ns n (ns.length + 1 - (k + 1)) (k + 1)) := by
          unfold Hid
          rw [hd.out, show ns.length + 1 - k = (ns.length + 1 - (k + 1)) + 1 by omega, Pl.behindFrom, if_pos ⟨hlt, hu⟩]
        generalize Pl.upOf ns k = u at *
        go_wp2
        exact ⟨⟨k + 1, by omega, hlt, by go_num, HS⟩, by simp [intOf]; omega⟩
      · have HS : Hid (Pl.behind ns n = k) := by
          unfold Hid
          rw [hd.out, show ns.length + 1 - k = (ns.length - k) + 1 by omega, Pl.behindFrom, if_neg (fun h => hu h.2)]
        generalize Pl.upOf ns k = u at *
        go_wp2
        go_ret
        exact ⟨by rw [HS.out]; rfl, rfl⟩
    · have HS : Hid (Pl.behind ns n = k) := by
        unfold Hid
        rw [hd.out, show ns.length + 1 - k = 0 + 1 by omega, Pl.behindFrom, if_neg (fun h => hlt h.1)]
      go_wp2
      go_ret
      exact ⟨by rw [HS.out]; rfl, rfl⟩

def hasB (len : Nat) (n : Int) : Bool := decide (0 ≤ n) && decide (n < len)
set_option maxHeartbeats 400000 in
theorem d_has_any (a : Option Addr) (len cap : Nat) (n : Int) (w : World) (_hm : len ≤ maxLen) :
    Calls Tryz.prog 155 #[.agg #[.slice a len cap], .int .i64 n] w fun e w' => e = .returned (.bool (hasB len n)) ∧ Below w.heap.size w w' := by
  unfold maxLen at _hm
  by_cases h0 : 0 ≤ n
  · have HH : Hid (hasB len n = decide (n < (len : Int))) := by simp [Hid, hasB, h0]
    go_enter Tryz.func155, Tryz.ntmps155
    go_wp2
    go_ret
    exact ⟨by rw [HH.out]; rfl, on_alloc _ _⟩
  · have HH : Hid (hasB len n = false) := by simp [Hid, hasB, h0]
    go_enter Tryz.func155, Tryz.ntmps155
    go_wp2
    go_ret
    exact ⟨by rw [HH.out]; rfl, on_alloc _ _⟩

/-- what calls that ask for one element tell first -/
def checkAtOf (ns : List Pl.Nd) (n : Int) : Int := if Pl.checkDoc ns = 0 then (if hasB ns.length n = true then 0 else 5) else Pl.checkDoc ns
set_option maxHeartbeats 400000 in
theorem checkAt_any (v : Value) (ns : List Pl.Nd) (n : Int) (w : World) (hf : FitsAll ns) (hv : NdsAt w v ns) :
    Calls Tryz.prog 124 #[.agg #[v], .int .i64 n] w fun e w' => e = .returned (.int .i64 (checkAtOf ns n)) ∧ Below w.heap.size w w' := by
  obtain ⟨a, cap, rfl, _⟩ := id hv
  have HV : Hid _ := hv
  clear hv
  cases hz : (Pl.checkDoc ns != 0) with
  | true =>
    have HH : Hid (checkAtOf ns n = Pl.checkDoc ns) := by unfold Hid checkAtOf; rw [if_neg (by simpa using hz)]
    go_enter Tryz.func124, Tryz.ntmps124
    go_wp2_with fail
    refine (check_any _ ns _ hf (NdsAt.on HV.out (on_alloc _ _))).mono ?_
    rintro e w1 ⟨rfl, h1⟩
    have hB := below_trans (on_alloc _ _) h1
    go_wp2
    go_ret
    exact ⟨by rw [HH.out]; rfl, hB⟩
  | false =>
    have hz0 : Pl.checkDoc ns = 0 := by simpa using hz
    clear hz
    cases hh : hasB ns.length n with
    | true =>
      have HH : Hid (checkAtOf ns n = 0) := by unfold Hid checkAtOf; rw [if_pos hz0, hh]; rfl
      go_enter Tryz.func124, Tryz.ntmps124
      go_wp2_with fail
      refine (check_any _ ns _ hf (NdsAt.on HV.out (on_alloc _ _))).mono ?_
      rintro e w1 ⟨rfl, h1⟩
      rw [hz0]
      have hB := below_trans (on_alloc _ _) h1
      have c0 := cell_on (p := ⟨w.heap.size, 0, none⟩) (v := .slice a ns.length cap) h1 (by simp [go_sem])
      clear h1
      go_wp2_with fail
      refine (d_has_any _ _ _ _ _ hf.1).mono ?_
      rintro e w2 ⟨rfl, h2⟩
      go_wp2
      go_ret
      exact ⟨by rw [HH.out]; rfl, below_trans hB h2⟩
    | false =>
      have HH : Hid (checkAtOf ns n = 5) := by unfold Hid checkAtOf; rw [if_pos hz0, hh]; rfl
      go_enter Tryz.func124, Tryz.ntmps124
      go_wp2_with fail
      refine (check_any _ ns _ hf (NdsAt.on HV.out (on_alloc _ _))).mono ?_
      rintro e w1 ⟨rfl, h1⟩
      rw [hz0]
      have hB := below_trans (on_alloc _ _) h1
      have c0 := cell_on (p := ⟨w.heap.size, 0, none⟩) (v := .slice a ns.length cap) h1 (by simp [go_sem])
      clear h1
      go_wp2_with fail
      refine (d_has_any _ _ _ _ _ hf.1).mono ?_
      rintro e w2 ⟨rfl, h2⟩
      go_wp2
      go_ret
      exact ⟨by rw [HH.out]; rfl, below_trans hB h2⟩
end Go.Proofs.YtagobgjlhdbhmaaGreatDoor
