/-
  path's fits, at the three levels.
-/
import Derived.Test.YtagobgjlhdbhmaaDoorFit
namespace Go.Proofs.YtagobgjlhdbhmaaDoor
open Go.RowKit Go.Shelf

attribute [local go_sem] Oper.semAt_some

set_option maxRecDepth 100000 in
set_option maxHeartbeats 2000000 in
theorem fits_z (d : Int) (d1 : 3 < d) (w : World) (v : Value) (l : List Unit) (h : ZAt w v l) : Calls Tryd.prog 25 #[v, .int .i64 d] w fun e w' => e = .returned (.bool ((fun _ => false : List Unit → Bool) l)) ∧ Below w.heap.size w w' := by
  obtain ⟨a, c, rfl, -⟩ := h
  have HB0 : Hid (Below w.heap.size w ((w.alloc (.cells #[.int .i64 d] 3)).alloc (.cells #[.bool false] 4))) := ((Below.refl _ w).alloc (Nat.le_refl _) _).alloc (by simp) _
  refine (callsIn_wide (n := 6)).1 ?_
  refine callsIn_of_wp_marks Tryd.func25 rfl trivial ?_ rfl
  simp only [Tryd.ntmps25, List.size_toArray, List.length_cons, List.length_nil, Nat.reduceAdd, Nat.reduceSub, Array.replicate_succ, Array.replicate_zero, List.push_toArray, List.append_toArray, List.nil_append, List.cons_append]
  gi_wp2
  exact ⟨.bool false, by simp [results, Tryd.results25, go_sem], rfl, HB0.out⟩
theorem fits_1 (w : World) (v : Value) (l : List Pl.D1) (h : A1 w v l) (hF : FormsAt w) : Calls Tryd.prog 25 #[v, .int .i64 3] w fun e w' => e = .returned (.bool (Pl.fitUp (fun _ => false) l)) ∧ Below w.heap.size w w' :=
  fits_up isL_z 3 (by omega) (fun _ => false) (fun w v l h _ => fits_z (3 + 1) (by omega) w v l h) w v l h hF
theorem fits_2 (w : World) (v : Value) (l : List Pl.D2) (h : A2 w v l) (hF : FormsAt w) : Calls Tryd.prog 25 #[v, .int .i64 2] w fun e w' => e = .returned (.bool (Pl.fitUp (Pl.fitUp fun _ => false) l)) ∧ Below w.heap.size w w' :=
  fits_up isL_1 2 (by omega) (Pl.fitUp fun _ => false) (fun w v l h hF => by rw [show (2 : Int) + 1 = 3 from rfl]; exact fits_1 w v l h hF) w v l h hF
theorem fits_3 (w : World) (v : Value) (l : List Pl.D3) (h : A3 w v l) (hF : FormsAt w) : Calls Tryd.prog 25 #[v, .int .i64 1] w fun e w' => e = .returned (.bool (Pl.fit3 l)) ∧ Below w.heap.size w w' :=
  fits_up isL_2 1 (by omega) (Pl.fitUp (Pl.fitUp fun _ => false)) (fun w v l h hF => by rw [show (1 : Int) + 1 = 2 from rfl]; exact fits_2 w v l h hF) w v l h hF
end Go.Proofs.YtagobgjlhdbhmaaDoor
