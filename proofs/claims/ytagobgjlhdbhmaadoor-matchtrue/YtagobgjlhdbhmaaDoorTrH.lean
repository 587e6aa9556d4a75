/-
  MatchTrue: the law, all cases.
-/
import Derived.Test.YtagobgjlhdbhmaaDoorTrD
import Derived.Test.YtagobgjlhdbhmaaDoorTrE
import Derived.Test.YtagobgjlhdbhmaaDoorTrF
import Derived.Test.YtagobgjlhdbhmaaDoorTrG
namespace Go.Proofs.YtagobgjlhdbhmaaDoor
open Go.RowKit

set_option maxRecDepth 100000 in
set_option maxHeartbeats 4000000 in
theorem true_no (v u x : Value) (ns : List Pl.Nd) (l m : List Pl.D3) (n : Int) (w : World) (hv : DocAt w v ns) (hl : A3 w u l) (hm : A3 w x m) (hL : Laid w) (hE0 : ¬ matchErr ns l n = 0) :
    Calls Tryd.prog 3 #[.agg #[v], u, x, .int .i64 n] w fun e w' => e = .returned (.bool true) ∧ Below w.heap.size w w' := by
  obtain ⟨av, cv, rfl, -⟩ := id hv.1
  obtain ⟨al, cl, rfl, -⟩ := isL_3.form hl
  obtain ⟨am, cm, rfl, -⟩ := isL_3.form hm
  have hb0 := on_alloc w (.cells #[.slice av ns.length cv] 24)
  have HB0 : Hid (Below w.heap.size w (w.alloc (.cells #[.slice av ns.length cv] 24))) := hb0
  have c0 : (w.alloc (.cells #[.slice av ns.length cv] 24)).cell? ⟨w.heap.size, 0, none⟩ = some (.slice av ns.length cv) := by simp [go_sem]
  have H4 : Hid (Calls Tryd.prog 4 _ _ _) := matches_call _ _ ns l n _ (hv.on hb0) (isL_3.on hl hb0) (hL.forms.on hb0) (hL.glob.on hb0)
  have H5 : Hid (∀ W, Below w.heap.size w W → Calls Tryd.prog 5 #[] W fun e w' => e = .returned (.bool true) ∧ Below W.heap.size W w') := fun W hW => begun_any W (hL.on hW)
  have hEb : (matchErr ns l n == 0) = false := by simpa using hE0
  clear hv hl hm hL hb0 hE0
  generalize matchErr ns l n = E at *
  generalize matB ns l n = mb at *
  go_enter Tryd.func3, Tryd.ntmps3
  go_wp2_with fail
  refine H4.out.mono ?_
  rintro e w1 ⟨rfl, hb1⟩
  have HB1 : Hid (Below w.heap.size w w1) := below_trans HB0.out hb1
  clear hb1 c0
  go_wp2_with fail
  refine (H5.out _ HB1.out).mono ?_
  rintro e w2 ⟨rfl, hb2⟩
  have HB2 : Hid (Below w.heap.size w w2) := below_trans HB1.out hb2
  clear hb2
  go_wp2
  go_ret
  exact ⟨rfl, HB2.out⟩
theorem true_law (v u x : Value) (ns : List Pl.Nd) (l m : List Pl.D3) (n : Int) (w : World) (hv : DocAt w v ns) (hl : A3 w u l) (hm : A3 w x m) (hsz : m.length * 48 ≤ 140737488351232) (hL : Laid w) :
    Calls Tryd.prog 3 #[.agg #[v], u, x, .int .i64 n] w fun e w' => e = .returned (.bool true) ∧ Below w.heap.size w w' := by
  by_cases hE : matchErr ns l n = 0
  · cases hI : m3 ns l n.toNat with
    | false =>
      by_cases hF : matchErr ns (oneL (t13 l)) n = 0
      · by_cases h1 : matchErr ns m n = 0
        · by_cases h2 : matchErr ns (l ++ m) n = 0
          · exact true_fy2 v u x ns l m n w hv hl hm hsz hL hE hI hF h1 h2
          · exact true_fy1 v u x ns l m n w hv hl hm hsz hL hE hI hF h1 h2
        · exact true_fy0 v u x ns l m n w hv hl hm hsz hL hE hI hF h1
      · by_cases h1 : matchErr ns m n = 0
        · by_cases h2 : matchErr ns (l ++ m) n = 0
          · exact true_fn2 v u x ns l m n w hv hl hm hsz hL hE hI hF h1 h2
          · exact true_fn1 v u x ns l m n w hv hl hm hsz hL hE hI hF h1 h2
        · exact true_fn0 v u x ns l m n w hv hl hm hsz hL hE hI hF h1
    | true =>
      by_cases hF : matchErr ns (oneL (t13 l)) n = 0
      · by_cases h1 : matchErr ns m n = 0
        · by_cases h2 : matchErr ns (l ++ m) n = 0
          · exact true_ty2 v u x ns l m n w hv hl hm hsz hL hE hI hF h1 h2
          · exact true_ty1 v u x ns l m n w hv hl hm hsz hL hE hI hF h1 h2
        · exact true_ty0 v u x ns l m n w hv hl hm hsz hL hE hI hF h1
      · by_cases h1 : matchErr ns m n = 0
        · by_cases h2 : matchErr ns (l ++ m) n = 0
          · exact true_tn2 v u x ns l m n w hv hl hm hsz hL hE hI hF h1 h2
          · exact true_tn1 v u x ns l m n w hv hl hm hsz hL hE hI hF h1 h2
        · exact true_tn0 v u x ns l m n w hv hl hm hsz hL hE hI hF h1
  · exact true_no v u x ns l m n w hv hl hm hL hE
end Go.Proofs.YtagobgjlhdbhmaaDoor
