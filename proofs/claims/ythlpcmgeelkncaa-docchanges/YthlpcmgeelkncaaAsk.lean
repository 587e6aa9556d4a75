/-
  Kids and Under.
-/
import Derived.Test.YthlpcmgeelkncaaInsert
namespace Go.Proofs.Ythlpcmgeelkncaa
open Go.RowKit

def kidsAns (ns : List Pl.Nd) (n : Int) : List Nat := if checkAtOf ns n = 0 then Pl.kidsOf ns n else []
def underAns (ns : List Pl.Nd) (n : Int) : Int := if checkAtOf ns n = 0 then (Pl.behind ns n.toNat : Int) - n - 1 else 0

set_option maxHeartbeats 2000000 in
theorem kids_any (v : Value) (ns : List Pl.Nd) (n : Int) (w : World) (hd : DocAt w v ns) :
    Calls Try.prog 9 #[.agg #[v], .int .i64 n] w fun e w' => ∃ v', e = .returned (.tuple #[v', .int .i64 (checkAtOf ns n)]) ∧ IntsAt w' v' ((kidsAns ns n).map fun (k : Nat) => (k : Int)) ∧ Below w.heap.size w w' := by
  obtain ⟨hv, hcap, hf⟩ := hd
  obtain ⟨a, cap, rfl, hc⟩ := id hv
  have HV : Hid _ := hv
  clear hv hcap
  have HC : Hid _ := hc
  clear hc
  go_enter Try.func9, Try.ntmps9
  go_wp2_with fail
  refine (checkAt_any _ ns _ _ hf (NdsAt.on HV.out (on_alloc _ _))).mono ?_
  rintro e w1 ⟨rfl, h1⟩
  have hB : Below w.heap.size w w1 := below_trans (on_alloc _ _) h1
  have c0 := cell_on (p := ⟨w.heap.size, 0, none⟩) (v := .slice a ns.length cap) h1 (by simp [go_sem])
  clear h1
  cases hz : (checkAtOf ns n != 0) with
  | true =>
    have HP : Hid (kidsAns ns n = []) := by unfold Hid kidsAns; rw [if_neg (by simpa using hz)]
    generalize hE : checkAtOf ns n = E at *
    go_wp2
    exact bodyPost_ret (v := .tuple #[.slice none 0 0, .int .i64 E]) (by simp [results, Try.results9, go_sem]) rfl ⟨_, by rw [hE], by rw [HP.out]; exact ⟨none, 0, rfl, Or.inl rfl⟩, hB⟩
  | false =>
    have hz0 : checkAtOf ns n = 0 := by simpa using hz
    clear hz
    obtain ⟨hk0, k, rfl, hk⟩ := checkAt_zero hz0
    obtain ⟨hl1, hl64, _⟩ := check_zero hk0
    have HP : Hid (kidsAns ns k = Pl.kidsOf ns k) := by unfold Hid kidsAns; rw [if_pos hz0]
    rcases HC.out with hc | ⟨b, o, rfl, hc⟩
    · subst hc; simp at hl1
    clear HC
    have HC : Hid _ := hc
    clear hc
    rw [hz0]
    go_wp2_with fail
    refine (kids_some b o cap ns _ _ hl64 (fun i hi => (HC.out i hi).on hB)).mono ?_
    rintro e w4 ⟨vk, rfl, hown, h1⟩
    replace hB := below_trans hB h1
    have hik := ints_of_row hown
    have HI : Hid (IntsAt w4 vk ((Pl.kidsOf ns k).map fun (k : Nat) => (k : Int))) := hik
    obtain ⟨ak, ck, rfl, _⟩ := hik
    clear hown h1
    go_wp2
    exact bodyPost_ret (v := .tuple #[.slice ak (Pl.kidsOf ns k).length ck, .int .i64 0]) (by simp [results, Try.results9, go_sem]) rfl ⟨_, by rw [hz0], by have h := HI.out; rw [List.length_map] at h; rw [HP.out]; exact h, hB⟩
set_option maxHeartbeats 2000000 in
theorem under_any (v : Value) (ns : List Pl.Nd) (n : Int) (w : World) (hd : DocAt w v ns) :
    Calls Try.prog 10 #[.agg #[v], .int .i64 n] w fun e w' => e = .returned (.tuple #[.int .i64 (underAns ns n), .int .i64 (checkAtOf ns n)]) ∧ Below w.heap.size w w' := by
  obtain ⟨hv, hcap, hf⟩ := hd
  obtain ⟨a, cap, rfl, hc⟩ := id hv
  have HV : Hid _ := hv
  clear hv hcap
  have HC : Hid _ := hc
  clear hc
  go_enter Try.func10, Try.ntmps10
  go_wp2_with fail
  refine (checkAt_any _ ns _ _ hf (NdsAt.on HV.out (on_alloc _ _))).mono ?_
  rintro e w1 ⟨rfl, h1⟩
  have hB : Below w.heap.size w w1 := below_trans (on_alloc _ _) h1
  have c0 := cell_on (p := ⟨w.heap.size, 0, none⟩) (v := .slice a ns.length cap) h1 (by simp [go_sem])
  clear h1
  cases hz : (checkAtOf ns n != 0) with
  | true =>
    have HP : Hid (underAns ns n = 0) := by unfold Hid underAns; rw [if_neg (by simpa using hz)]
    generalize hE : checkAtOf ns n = E at *
    go_wp2
    exact bodyPost_ret (v := .tuple #[.int .i64 0, .int .i64 E]) (by simp [results, Try.results10, go_sem]) rfl ⟨by rw [hE, HP.out], hB⟩
  | false =>
    have hz0 : checkAtOf ns n = 0 := by simpa using hz
    clear hz
    obtain ⟨hk0, k, rfl, hk⟩ := checkAt_zero hz0
    obtain ⟨hl1, hl64, _⟩ := check_zero hk0
    have HP : Hid (underAns ns k = (Pl.behind ns k : Int) - k - 1) := by unfold Hid underAns; rw [if_pos hz0]; rfl
    rcases HC.out with hc | ⟨b, o, rfl, hc⟩
    · subst hc; simp at hl1
    clear HC
    have HC : Hid _ := hc
    clear hc
    have hbe := behind_le hk
    rw [hz0]
    go_wp2_with fail
    refine (behind_some b o cap ns k _ hk hl64 (fun i hi => (HC.out i hi).on hB)).mono ?_
    rintro e w9 ⟨rfl, hw⟩
    rw [hw]
    clear hw w9
    generalize Pl.behind ns k = E at *
    go_wp2
    exact bodyPost_ret (v := .tuple #[.int .i64 ((E : Int) - k - 1), .int .i64 0]) (by simp [results, Try.results10, go_sem]) rfl ⟨by rw [hz0, HP.out], hB⟩
end Go.Proofs.Ythlpcmgeelkncaa
