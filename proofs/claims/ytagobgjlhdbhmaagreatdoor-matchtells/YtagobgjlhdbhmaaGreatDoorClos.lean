/-
  Where Up goes: the five rules that elements are copied by.
-/
import Derived.Test.YtagobgjlhdbhmaaGreatDoorAdd
namespace Go.Proofs.YtagobgjlhdbhmaaGreatDoor
open Go.RowKit

namespace Pl
def wr (u : Int) : Int := RowKit.wrap64 u
theorem wr_in {u : Int} (h : -9223372036854775808 ≤ u) (h2 : u ≤ 9223372036854775807) : wr u = u := by
  unfold wr; rw [IntWalk.wrap64_in _ ⟨by omega, by omega⟩]
def mvPart (n : Int) (u : Int) : Int := if u < n then -1 else wr (u - n)
def mvRem (n d : Int) (u : Int) : Int := if u < n then u else wr (u - d)
def mvIn (up place : Int) (u : Int) : Int := if u < 0 then up else wr (u + place)
def mvOut (place k : Int) (u : Int) : Int := if u < place then u else wr (u + k)
end Pl

set_option maxHeartbeats 400000 in
theorem part1_any (M : Nat) (n u : Int) (w : World) (hc : w.cell? ⟨M, 0, none⟩ = some (.int .i64 n)) : Calls Tryz.prog 127 #[.int .i64 u, .pointer (some ⟨M, 0, none⟩)] w fun e w' => e = .returned (.int .i64 (Pl.mvPart n u)) ∧ w' = w := by
  by_cases h : u < n
  · have HH : Hid (Pl.mvPart n u = -1) := by unfold Hid Pl.mvPart; rw [if_pos h]
    go_enter Tryz.func127, Tryz.ntmps127
    go_wp2
    go_ret
    exact ⟨by rw [HH.out]; rfl, rfl⟩
  · have HH : Hid (Pl.mvPart n u = RowKit.wrap64 (u - n)) := by unfold Hid Pl.mvPart Pl.wr; rw [if_neg h]
    go_enter Tryz.func127, Tryz.ntmps127
    go_wp2
    go_ret
    exact ⟨by rw [HH.out]; rfl, rfl⟩
theorem enter36 (args : Array Value) (W : World) : (callFunc 127 args).run Tryz.prog W = .ok (.enter 127 args) W := by simp [callFunc, go_sem, Tryz.func127, Tryz.f127]
set_option maxHeartbeats 400000 in
theorem add_none (F : Fn) (caps bs : Array Value) (v0 : Value) (a : Option Addr) (cap : Nat) (w : World) :
    Calls Tryz.prog 125 #[v0, .slice a 0 cap, .func F bs caps] w fun e w' => e = .returned v0 ∧ w' = w := by
  go_enter Tryz.func125, Tryz.ntmps125
  go_wp2
  refine wp_loop_rounds 1 ?_
  rw [rounds_succ]
  go_wp2
  go_ret
  exact ⟨rfl, rfl⟩
theorem add_any (F : Nat) (caps : Array Value) (mv : Int → Int) (B : Nat) (v0 v1 : Value) (ns ms : List Pl.Nd) (w : World) (hB : B ≤ w.heap.size) (hr : Row B w v0 ns) (h64 : ns.length + ms.length ≤ 64)
    (hen : ∀ args W, (callFunc F args).run Tryz.prog W = .ok (.enter F args) W) (hl : ∀ x ∈ ms, x.cls.length ≤ 6 ∧ x.ats.length ≤ 4) (hm : NdsAt w v1 ms) (hlow : ∀ W, Below B w W → NdsAt W v1 ms)
    (hf : ∀ W (u : Int), Below B w W → Calls Tryz.prog F (#[.int .i64 u] ++ caps) W fun e w' => e = .returned (.int .i64 (mv u)) ∧ w' = W) :
    Calls Tryz.prog 125 #[v0, v1, .func (.func F) #[] caps] w fun e w' => ∃ v', e = .returned v' ∧ Row B w' v' (ns ++ ms.map (Pl.mvd mv)) ∧ Below B w w' := by
  obtain ⟨a, cap, rfl, hc⟩ := hm
  rcases hc with rfl | ⟨b, o, rfl, hc⟩
  · refine (add_none (.func F) caps #[] v0 a cap w).mono ?_
    rintro e w' ⟨rfl, rfl⟩
    exact ⟨v0, rfl, by simpa using hr, Below.refl _ _⟩
  · refine (add_some F caps mv B b o cap v0 ns ms w hB hr h64 hen hl ?_ hf)
    intro W hW i hi
    obtain ⟨a', cap', e, hc'⟩ := hlow W hW
    injection e with e1 e2 e3
    subst e1
    rcases hc' with h0 | ⟨b', o', e', hc'⟩
    · subst h0; simp at hi
    · injection e' with e'; injection e' with e1 e2; subst e1 e2; exact hc' i hi
end Go.Proofs.YtagobgjlhdbhmaaGreatDoor
