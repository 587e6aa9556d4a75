/-
  Kids, and what stands behind an element, as the program tells them.
-/
import Derived.Test.YtephhllfodlfbaaGreatDoorKids
import Derived.Deep.AppendLies
import Derived.Test.YtephhllfodlfbaaGreatDoorMem
import Derived.Test.YtephhllfodlfbaaGreatDoorRem
import Derived.Test.YtephhllfodlfbaaGreatDoorAdd
import Derived.Test.YtephhllfodlfbaaGreatDoorIdxM
namespace Go.Proofs.YtephhllfodlfbaaGreatDoor
open Go.RowKit

namespace Pl
end Pl
set_option maxHeartbeats 1600000 in
theorem kids_some (b o cap : Nat) (ns : List Pl.Nd) (n : Int) (w : World) (h64 : ns.length ≤ 64) (hc : ∀ i (h : i < ns.length), NdAt w b (o + i * 5) ns[i]) :
    Calls Tryz.prog 81 #[.slice (some ⟨b, o, none⟩) ns.length cap, .int .i64 n] w fun e w' =>
      ∃ v, e = .returned v ∧ w'.ownsRow w.heap.size 3 1 v (Pl.kidsOf ns n).length (natCells (Pl.kidsOf ns n)) ∧ Below w.heap.size w w' := by
  have HC : Hid (∀ i (h : i < ns.length), NdAt w b (o + i * 5) ns[i]) := hc
  clear hc
  obtain ⟨i0, hi, hz0, hz1, hz2⟩ := info_parts Tryz.info3
  go_enter Tryz.func81, Tryz.ntmps81
  go_wp2
  go_loopw [5, 10] (fun v i wr => ∃ k : Nat, k ≤ ns.length ∧ i = .int .i64 k ∧ wr.ownsRow w.heap.size 3 1 v (Pl.kidsTo ns n k).length (natCells (Pl.kidsTo ns n k)) ∧ Below w.heap.size w wr) (fun _ i _ => ns.length - (intOf i).toNat)
  case atStart => exact ⟨0, Nat.zero_le _, rfl, World.ownsRow_nil _ _ _ _, Below.refl _ _⟩
  case round =>
    obtain ⟨k, hk, rfl, hown, hB⟩ := hrel
    by_cases hlt : k < ns.length
    · obtain ⟨vc, va, n0, n1, n2, n3, n4, nc, na⟩ := (HC.out k hlt).on hB
      obtain ⟨ac, cc, rfl, _⟩ := id nc
      obtain ⟨aa, ca, rfl, _⟩ := id na
      clear nc na
      have hu := upOf_at ns k hlt
      rw [← hu] at n0
      have HU : Hid _ := hu
      clear hu
      generalize hU : Pl.upOf ns k = u at n0
      have HU2 : Hid _ := hU
      clear hU
      cases he : (u == n) with
      | true =>
        have HK : Hid (Pl.kidsTo ns n (k + 1) = Pl.kidsTo ns n k ++ [k]) := Pl.kidsTo_hit ns n k (by rw [HU2.out]; exact he)
        have hkl := Pl.kidsTo_len ns n k
        go_wp2_with (at_builtin; refine wpList_append_own _ rfl _ _ 40 rfl w.heap.size 3 i0 (.int .i64 0) 1 8 Tryz.underlying40 hi hz0 hz1 hz2 rfl (by decide) _ _ _ rfl ((hown.alloc _).alloc _) ⟨wr.heap.size + 1, 0, none⟩ 1 1 [.int .i64 k] rfl rfl ?c1 ?c2 ?c3 ?c4 ?c5 ?_)
        case c1 =>
          intro j u hj
          match j, hj with
          | 0, hj => simp at hj; subst hj; simp [Addr.add, go_sem]
        case c2 => intro u hu; simp at hu; subst hu; rfl
        case c3 => unfold maxLen; omega
        case c4 => omega
        case c5 => have := hB.size; simp; omega
        intro v' w1 hown' hgrow _
        have hB1 : Below w.heap.size w w1 := ((hB.alloc hB.size _).alloc (by have := hB.size; simp; omega) _).grown hgrow (by have := hB.size; simp; omega) (fun g hg => (World.ownsRow.lt hown g hg).1)
        clear hgrow hown
        go_wp2
        refine ⟨⟨k + 1, hlt, by go_num, ?_, hB1⟩, by simp [intOf]; omega⟩
        rw [HK.out]
        simpa [natCells] using hown'
      | false =>
        have HK : Hid (Pl.kidsTo ns n (k + 1) = Pl.kidsTo ns n k) := Pl.kidsTo_miss ns n k (by rw [HU2.out]; exact he)
        go_wp2
        refine ⟨⟨k + 1, hlt, by go_num, ?_, hB.alloc hB.size _⟩, by simp [intOf]; omega⟩
        rw [HK.out]
        exact hown.alloc _
    · have hkl : k = ns.length := by omega
      subst hkl
      go_wp2
      go_ret
      exact ⟨_, rfl, hown, hB⟩

end Go.Proofs.YtephhllfodlfbaaGreatDoor
/-
  Where Up goes: the five rules that elements are copied by.
-/
namespace Go.Proofs.YtephhllfodlfbaaGreatDoor
open Go.RowKit

namespace Pl
end Pl

set_option maxHeartbeats 400000 in
theorem stay_any (u : Int) (w : World) : Calls Tryz.prog 83 #[.int .i64 u] w fun e w' => e = .returned (.int .i64 u) ∧ w' = w := by
  go_enter Tryz.func83, Tryz.ntmps83
  go_wp2
  go_ret
  exact ⟨rfl, rfl⟩
set_option maxHeartbeats 400000 in
theorem rem1_any (M N : Nat) (n e u : Int) (w : World) (hc : w.cell? ⟨M, 0, none⟩ = some (.int .i64 n)) (hd : w.cell? ⟨N, 0, none⟩ = some (.int .i64 e)) (hw : IntKind.i64.wrap (e - n) = e - n) : Calls Tryz.prog 84 #[.int .i64 u, .pointer (some ⟨M, 0, none⟩), .pointer (some ⟨N, 0, none⟩)] w fun r w' => r = .returned (.int .i64 (Pl.mvRem n (e - n) u)) ∧ w' = w := by
  by_cases h : u < n
  · have HH : Hid (Pl.mvRem n (e - n) u = u) := by unfold Hid Pl.mvRem; rw [if_pos h]
    go_enter Tryz.func84, Tryz.ntmps84
    go_wp2
    go_ret
    exact ⟨by rw [HH.out]; rfl, rfl⟩
  · have HH : Hid (Pl.mvRem n (e - n) u = RowKit.wrap64 (u - (e - n))) := by unfold Hid Pl.mvRem Pl.wr; rw [if_neg h]
    go_enter Tryz.func84, Tryz.ntmps84
    go_wp2
    go_ret
    exact ⟨by rw [HH.out]; rfl, rfl⟩
set_option maxHeartbeats 400000 in
theorem ins1_any (M N : Nat) (up p u : Int) (w : World) (hc : w.cell? ⟨M, 0, none⟩ = some (.int .i64 up)) (hd : w.cell? ⟨N, 0, none⟩ = some (.int .i64 p)) : Calls Tryz.prog 120 #[.int .i64 u, .pointer (some ⟨M, 0, none⟩), .pointer (some ⟨N, 0, none⟩)] w fun r w' => r = .returned (.int .i64 (Pl.mvIn up p u)) ∧ w' = w := by
  by_cases h : u < 0
  · have HH : Hid (Pl.mvIn up p u = up) := by unfold Hid Pl.mvIn; rw [if_pos h]
    go_enter Tryz.func120, Tryz.ntmps120
    go_wp2
    go_ret
    exact ⟨by rw [HH.out]; rfl, rfl⟩
  · have HH : Hid (Pl.mvIn up p u = RowKit.wrap64 (u + p)) := by unfold Hid Pl.mvIn Pl.wr; rw [if_neg h]
    go_enter Tryz.func120, Tryz.ntmps120
    go_wp2
    go_ret
    exact ⟨by rw [HH.out]; rfl, rfl⟩
set_option maxHeartbeats 400000 in
theorem ins2_any (M N : Nat) (p u : Int) (a : Option Addr) (k cap : Nat) (w : World) (hc : w.cell? ⟨M, 0, none⟩ = some (.int .i64 p)) (hd : w.cell? ⟨N, 0, none⟩ = some (.slice a k cap)) : Calls Tryz.prog 121 #[.int .i64 u, .pointer (some ⟨M, 0, none⟩), .pointer (some ⟨N, 0, none⟩)] w fun r w' => r = .returned (.int .i64 (Pl.mvOut p k u)) ∧ w' = w := by
  by_cases h : u < p
  · have HH : Hid (Pl.mvOut p k u = u) := by unfold Hid Pl.mvOut; rw [if_pos h]
    go_enter Tryz.func121, Tryz.ntmps121
    go_wp2
    go_ret
    exact ⟨by rw [HH.out]; rfl, rfl⟩
  · have HH : Hid (Pl.mvOut p k u = RowKit.wrap64 (u + (k : Int))) := by unfold Hid Pl.mvOut Pl.wr; rw [if_neg h]
    go_enter Tryz.func121, Tryz.ntmps121
    go_wp2
    go_ret
    exact ⟨by rw [HH.out]; rfl, rfl⟩

theorem enter52 (args : Array Value) (W : World) : (callFunc 83 args).run Tryz.prog W = .ok (.enter 83 args) W := by simp [callFunc, go_sem, Tryz.func83, Tryz.f83]
theorem enter53 (args : Array Value) (W : World) : (callFunc 84 args).run Tryz.prog W = .ok (.enter 84 args) W := by simp [callFunc, go_sem, Tryz.func84, Tryz.f84]
theorem enter75 (args : Array Value) (W : World) : (callFunc 120 args).run Tryz.prog W = .ok (.enter 120 args) W := by simp [callFunc, go_sem, Tryz.func120, Tryz.f120]
theorem enter76 (args : Array Value) (W : World) : (callFunc 121 args).run Tryz.prog W = .ok (.enter 121 args) W := by simp [callFunc, go_sem, Tryz.func121, Tryz.f121]

end Go.Proofs.YtephhllfodlfbaaGreatDoor
/-
  Part: the elements under one, copied.
-/
namespace Go.Proofs.YtephhllfodlfbaaGreatDoor
open Go.RowKit

end Go.Proofs.YtephhllfodlfbaaGreatDoor
/-
  Remove: what is under an element left out.
-/
namespace Go.Proofs.YtephhllfodlfbaaGreatDoor
open Go.RowKit

set_option maxRecDepth 100000 in
set_option maxHeartbeats 4000000 in
theorem remove_any (v : Value) (ns : List Pl.Nd) (n : Int) (w : World) (hd : DocAt w v ns) :
    Calls Tryz.prog 37 #[.agg #[v], .int .i64 n] w fun e w' => ∃ v', e = .returned (.tuple #[.agg #[v'], .int .i64 (remErr ns n)]) ∧ DocAt w' v' (remOf ns n) ∧ Below w.heap.size w w' := by
  obtain ⟨hv, hcap, hf⟩ := hd
  obtain ⟨a, cap, rfl, hc⟩ := id hv
  have HV : Hid _ := hv
  clear hv
  obtain ⟨_, _, _, e0, hc1, hc2⟩ := hcap
  injection e0 with e1 e2 e3
  subst e1 e2 e3
  cases hz : (checkAtOf ns n != 0) with
  | true =>
    have hz1 : ¬ checkAtOf ns n = 0 := by simpa using hz
    have HE : Hid (remErr ns n = checkAtOf ns n) := by unfold Hid remErr; rw [if_neg hz1]
    have HP : Hid (remOf ns n = []) := by unfold Hid remOf; rw [if_neg (by rw [HE.out]; exact hz1)]
    clear hc hz1
    go_enter Tryz.func37, Tryz.ntmps37
    go_wp2_with fail
    refine (checkAt_any _ ns _ _ hf (NdsAt.on HV.out (((Below.refl _ _).alloc (Nat.le_refl _) _).alloc (by simp) _ |>.alloc (by simp; omega) _))).mono ?_
    rintro e w1 ⟨rfl, h1⟩
    have hB : Below w.heap.size w w1 := below_trans (((Below.refl _ _).alloc (Nat.le_refl _) _).alloc (by simp) _ |>.alloc (by simp; omega) _) h1
    have c0 := cell_on (p := ⟨w.heap.size + 1 + 1, 0, none⟩) (v := .slice none 0 0) h1 (by simp [go_sem])
    have f0 : w1.frozen? ⟨w.heap.size + 1 + 1, 0, none⟩ = false := by rw [h1.frozen (by simp)]; simp [go_sem]
    generalize hE : checkAtOf ns n = E at *
    clear h1
    go_wp2
    have q := World.cell?_setCell_same w1 ⟨w.heap.size + 1 + 1, 0, none⟩ (.slice none 0 0) c0
    exact bodyPost_ret (v := .tuple #[.agg #[.slice none 0 0], .int .i64 E]) (by simp [results, Tryz.results37, go_sem, q]) rfl
      ⟨_, by rw [HE.out], by rw [HP.out]; exact DocAt.nil _, hB.setCell (p := ⟨w.heap.size + 1 + 1, 0, none⟩) (by simp; omega) _⟩
  | false =>
    have hz0 : checkAtOf ns n = 0 := by simpa using hz
    obtain ⟨hk0, k, rfl, hk⟩ := checkAt_zero hz0
    obtain ⟨hl1, hl64, _⟩ := check_zero hk0
    have hsh := check_short hk0
    rcases hc with hc | ⟨b, o, rfl, hc⟩
    · subst hc; simp at hl1
    have hbe := behind_le hk
    have HC : Hid _ := hc
    have HS : Hid _ := hsh
    clear hc hz hk0 hsh
    by_cases hk1 : (k : Int) = 0
    · have HE : Hid (remErr ns k = 3) := by unfold Hid remErr; rw [if_pos hz0, if_pos hk1]
      have HP : Hid (remOf ns k = []) := by unfold Hid remOf; rw [if_neg (by rw [HE.out]; omega)]
      go_enter Tryz.func37, Tryz.ntmps37
      go_wp2_with fail
      refine (checkAt_any _ ns _ _ hf (NdsAt.on HV.out (((Below.refl _ _).alloc (Nat.le_refl _) _).alloc (by simp) _ |>.alloc (by simp; omega) _))).mono ?_
      rintro e w1 ⟨rfl, h1⟩
      rw [show checkAtOf ns 0 = 0 by rw [hk1] at hz0; exact hz0]
      have hB : Below w.heap.size w w1 := below_trans (((Below.refl _ _).alloc (Nat.le_refl _) _).alloc (by simp) _ |>.alloc (by simp; omega) _) h1
      have c1 := cell_on (p := ⟨w.heap.size + 1, 0, none⟩) (v := .int .i64 0) h1 (by simp [go_sem])
      have c0 := cell_on (p := ⟨w.heap.size + 1 + 1, 0, none⟩) (v := .slice none 0 0) h1 (by simp [go_sem])
      have f0 : w1.frozen? ⟨w.heap.size + 1 + 1, 0, none⟩ = false := by rw [h1.frozen (by simp)]; simp [go_sem]
      clear h1
      go_wp2
      have q := World.cell?_setCell_same w1 ⟨w.heap.size + 1 + 1, 0, none⟩ (.slice none 0 0) c0
      exact bodyPost_ret (v := .tuple #[.agg #[.slice none 0 0], .int .i64 3]) (by simp [results, Tryz.results37, go_sem, q]) rfl
        ⟨_, by rw [HE.out], by rw [HP.out]; exact DocAt.nil _, hB.setCell (p := ⟨w.heap.size + 1 + 1, 0, none⟩) (by simp; omega) _⟩
    · have HE : Hid (remErr ns k = 0) := by unfold Hid remErr; rw [if_pos hz0, if_neg hk1]
      have HP : Hid (remOf ns k = (ns.take k).map (Pl.mvd id) ++ (ns.drop (Pl.behind ns k)).map (Pl.mvd (Pl.mvRem k ((Pl.behind ns k : Int) - k)))) := by unfold Hid remOf; rw [if_pos HE.out]; rfl
      have i1 : (0 : Int) ≤ (k : Int) := by omega
      have i3 : (Pl.behind ns k : Int) ≤ (ns.length : Int) := by omega
      have i5 : (ns.length : Int) ≤ (cap : Int) := by omega
      have i6 : (0 : Int) ≤ (Pl.behind ns k : Int) := by omega
      have i7 : (k : Int) ≤ (cap : Int) := by omega
      go_enter Tryz.func37, Tryz.ntmps37
      go_wp2_with fail
      have hB0 := (((Below.refl w.heap.size w).alloc (Nat.le_refl _) (.cells #[.slice (some ⟨b, o, none⟩) ns.length cap] 24)).alloc (by simp) (.cells #[.int .i64 k] 3)).alloc (by simp; omega) (.cells #[.slice none 0 0] 24)
      refine (checkAt_any _ ns _ _ hf (NdsAt.on HV.out hB0)).mono ?_
      rintro e w1 ⟨rfl, h1⟩
      rw [hz0]
      have hB : Below w.heap.size w w1 := below_trans hB0 h1
      have c0 := cell_on (p := ⟨w.heap.size, 0, none⟩) (v := .slice (some ⟨b, o, none⟩) ns.length cap) h1 (by simp [go_sem])
      have c1 := cell_on (p := ⟨w.heap.size + 1, 0, none⟩) (v := .int .i64 k) h1 (by simp [go_sem])
      have c2 := cell_on (p := ⟨w.heap.size + 1 + 1, 0, none⟩) (v := .slice none 0 0) h1 (by simp [go_sem])
      have f2 : w1.frozen? ⟨w.heap.size + 1 + 1, 0, none⟩ = false := by rw [h1.frozen (by simp)]; simp [go_sem]
      have hsz : w.heap.size + 3 ≤ w1.heap.size := by have := h1.size; simp at this; omega
      clear h1 hB0
      go_wp2_with fail
      refine (behind_some b o cap ns k _ hk hl64 (fun i hi => (HC.out i hi).on hB)).mono ?_
      rintro e w9 ⟨rfl, hw⟩
      rw [hw]
      clear hw w9
      have d0 := cell_on (on_alloc w1 (.cells #[.int .i64 (Pl.behind ns k)] 3)) c0
      have d1 := cell_on (on_alloc w1 (.cells #[.int .i64 (Pl.behind ns k)] 3)) c1
      have d2 := cell_on (on_alloc w1 (.cells #[.int .i64 (Pl.behind ns k)] 3)) c2
      have d3 : (w1.alloc (.cells #[.int .i64 (Pl.behind ns k)] 3)).cell? ⟨w1.heap.size, 0, none⟩ = some (.int .i64 (Pl.behind ns k)) := by simp [go_sem]
      have f3 : (w1.alloc (.cells #[.int .i64 (Pl.behind ns k)] 3)).frozen? ⟨w.heap.size + 1 + 1, 0, none⟩ = false := by rw [(on_alloc w1 _).frozen (by simp; omega)]; exact f2
      have hB2 := below_trans hB (on_alloc w1 (.cells #[.int .i64 (Pl.behind ns k)] 3))
      have hsz2 : (w1.alloc (.cells #[.int .i64 (Pl.behind ns k)] 3)).heap.size = w1.heap.size + 1 := by simp
      go_wp2_with fail
      generalize w1.alloc (.cells #[.int .i64 (Pl.behind ns k)] 3) = w2 at *
      clear c0 c1 c2 f2 hB
      have HC2 : Hid (∀ W, Below w2.heap.size w2 W → ∀ i (h : i < ns.length), NdAt W b (o + i * 5) ns[i]) := fun W hW i hi => ((HC.out i hi).on hB2).on hW
      refine (add_any 83 #[] id w2.heap.size _ _ [] (ns.take k) w2 (Nat.le_refl _) (Row.nil _ _) (by simp; omega) enter52 (fun x hx => HS.out x (List.mem_of_mem_take hx)) (NdsAt.head (HC2.out _ (Below.refl _ _)) k cap (by omega)) (fun W hW => NdsAt.head (HC2.out _ hW) k cap (by omega)) (fun W u _ => stay_any u W)).mono ?_
      rintro e w3 ⟨v3, rfl, hrow, hb3⟩
      rw [List.nil_append] at hrow
      replace d0 := cell_on hb3 d0
      replace d1 := cell_on hb3 d1
      replace d2 := cell_on hb3 d2
      replace d3 := cell_on hb3 d3
      replace f3 : w3.frozen? ⟨w.heap.size + 1 + 1, 0, none⟩ = false := by rw [hb3.frozen (by simp; omega)]; exact f3
      obtain ⟨a3, l3, c3, rfl, _, _⟩ := Row.cap hrow
      have HR : Hid _ := hrow
      have HB3 : Hid _ := hb3
      have HB2 : Hid _ := hB2
      clear hrow hb3 hB2
      go_wp2_with fail
      all_goals
        refine (add_any 84 #[.pointer (some ⟨w.heap.size + 1, 0, none⟩), .pointer (some ⟨w1.heap.size, 0, none⟩)] (Pl.mvRem k ((Pl.behind ns k : Int) - k)) w2.heap.size _ _ _ (ns.drop (Pl.behind ns k)) w3 HB3.out.size HR.out ?_ enter53 (fun x hx => HS.out x (List.mem_of_mem_drop hx)) ?_ ?_ ?_).mono ?_
        · simp; omega
        · first | exact NdsAt.tail (HC2.out _ HB3.out) (Pl.behind ns k) _ (by omega) | exact NdsAt.void _ _ _ (by omega)
        · intro W hW
          first | exact NdsAt.tail (HC2.out _ (HB3.out.trans hW)) (Pl.behind ns k) _ (by omega) | exact NdsAt.void _ _ _ (by omega)
        · intro W u hW
          refine rem1_any _ _ _ _ _ _ ?_ ?_ ?_
          · rw [hW.cell (by simp; omega)]; exact d1
          · rw [hW.cell (by simp; omega)]; exact d3
          · rw [IntWalk.i64_left, IntWalk.wrap64_in _ ⟨by omega, by omega⟩]
        rintro e w4 ⟨v4, rfl, hrow, hb4⟩
        have e2 : w4.cell? ⟨w.heap.size + 1 + 1, 0, none⟩ = some (.slice none 0 0) := by rw [hb4.cell (by simp; omega)]; exact d2
        have f4 : w4.frozen? ⟨w.heap.size + 1 + 1, 0, none⟩ = false := by rw [hb4.frozen (by simp; omega)]; exact f3
        have hB4 : Below w.heap.size w w4 := below_trans HB2.out (HB3.out.trans hb4)
        obtain ⟨a4, l4, c4, rfl, _, _⟩ := Row.cap hrow
        have HR4 : Hid _ := hrow
        clear hb4 hrow d0 d1 d2 d3 f3
        go_wp2
        have q := World.cell?_setCell_same w4 ⟨w.heap.size + 1 + 1, 0, none⟩ (.slice a4 l4 c4) e2
        refine bodyPost_ret (v := .tuple #[.agg #[.slice a4 l4 c4], .int .i64 0]) (by simp [results, Tryz.results37, go_sem, q]) rfl
          ⟨_, by rw [HE.out], ?_, hB4.setCell (p := ⟨w.heap.size + 1 + 1, 0, none⟩) (by simp; omega) _⟩
        rw [HP.out]
        have hr := Row.set HR4.out (M := w.heap.size + 1 + 1) (j := 0) (by omega) e2 (by simp) (.slice a4 l4 c4)
        refine hr.doc (by simp; omega) ?_
        intro x hx
        rcases List.mem_append.1 hx with hx | hx
        · exact mvd_short (fun x hx => HS.out x (List.mem_of_mem_take hx)) x hx
        · exact mvd_short (fun x hx => HS.out x (List.mem_of_mem_drop hx)) x hx
end Go.Proofs.YtephhllfodlfbaaGreatDoor
