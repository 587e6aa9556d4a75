/-
  MatchTrue: the law.
-/
import Derived.Test.YtagobgjlhdbhmaaDoorTrC
import Derived.Deep.RegionLaw
import Derived.Deep.DeepCutAuto
namespace Go.Proofs.YtagobgjlhdbhmaaDoor
open Go.RowKit

set_option maxRecDepth 100000 in
set_option maxHeartbeats 8000000 in
theorem true_fn0 (v u x : Value) (ns : List Pl.Nd) (l m : List Pl.D3) (n : Int) (w : World) (hv : DocAt w v ns) (hl : A3 w u l) (hm : A3 w x m) (hsz : m.length * 48 ≤ 140737488351232) (hL : Laid w) (hE0 : matchErr ns l n = 0) (hI : m3 ns l n.toNat = false) (hF0 : ¬ matchErr ns (oneL (t13 l)) n = 0) (hm0 : ¬ matchErr ns m n = 0) :
    Calls Tryd.prog 3 #[.agg #[v], u, x, .int .i64 n] w fun e w' => e = .returned (.bool true) ∧ Below w.heap.size w w' := by
  have hC0 : chkBoth ns l = 0 := matchErr_both hE0
  obtain ⟨-, hz2, k, rfl, hk⟩ := matchErr_zero hE0
  obtain ⟨b, o, cv, rfl, hRD, -, -, -⟩ := doc_parts hv (chkBoth_zero hC0).1
  obtain ⟨al, cl, rfl, -⟩ := isL_3.form hl
  obtain ⟨am, cm, rfl, -⟩ := isL_3.form hm
  rw [Int.toNat_natCast] at hI
  have hl5 : l.length ≤ 5 := ((R3_iff l).2 hz2).1.2
  have hsz2 : (0 + l.length + m.length) * 48 ≤ 140737488355328 := by omega
  have hsz1 : (0 + l.length) * 48 ≤ 140737488355328 := by omega
  have hal : (allA ns l).length ≤ 64 := by simpa using allA_len ns l
  have HB0 : Hid (Below w.heap.size w (w.alloc (.cells #[.slice (some ⟨b, o, none⟩) ns.length cv] 24))) := on_alloc _ _
  have c0 : (w.alloc (.cells #[.slice (some ⟨b, o, none⟩) ns.length cv] 24)).cell? ⟨w.heap.size, 0, none⟩ = some (.slice (some ⟨b, o, none⟩) ns.length cv) := by simp [go_sem]
  have HER : Hid (∀ j : Nat, j < ns.length → matchErr ns l j = 0) := fun j hj => by
      rw [matchErr_eq, if_pos hC0, if_pos (by unfold hasB; simp; omega)]
  have H4 : Hid (∀ W, Below w.heap.size w W → ∀ j : Nat, j < ns.length → Calls Tryd.prog 4 #[.agg #[.slice (some ⟨b, o, none⟩) ns.length cv], .slice al l.length cl, .int .i64 j] W fun e w' => e = .returned (.tuple #[.bool (m3 ns l j), .int .i64 0]) ∧ Below W.heap.size W w') := fun W hW j hj => by
      have h1 := matches_call _ _ ns l j W (hv.on hW) (isL_3.on hl hW) (hL.forms.on hW) (hL.glob.on hW)
      unfold matB at h1
      rw [HER.out j hj, if_pos rfl] at h1
      exact h1
  have H4k : Hid (∀ W, Below w.heap.size w W → Calls Tryd.prog 4 #[.agg #[.slice (some ⟨b, o, none⟩) ns.length cv], .slice al l.length cl, .int .i64 k] W fun e w' => e = .returned (.tuple #[.bool false, .int .i64 0]) ∧ Below W.heap.size W w') := fun W hW => by
      have h1 := H4.out W hW k hk
      rw [hI] at h1
      exact h1
  have H6a : Hid (∀ W, Below w.heap.size w W → Calls Tryd.prog 6 #[.agg #[.slice (some ⟨b, o, none⟩) ns.length cv], .agg #[.int .i64 13, .string ⟨#[]⟩, .string ⟨#[]⟩, .int .i64 0, .int .i64 0, .slice al l.length cl], .int .i64 k] W fun e w' => e = .returned (.tuple #[.bool false, .int .i64 (matchErr ns (oneL (t13 l)) k)]) ∧ Below W.heap.size W w') := fun W hW => by
    have h1 := test_call _ _ ns (t13 l) k W (hv.on hW) (tr_mem (isL_3.on hl hW)) (hL.forms.on hW) (hL.glob.on hW)
    have e1 : matB ns (oneL (t13 l)) k = false := by unfold matB; rw [if_neg (by exact hF0)]
    rw [e1] at h1
    exact h1
  have H6b : Hid (∀ W, Below w.heap.size w W → Calls Tryd.prog 6 #[.agg #[.slice (some ⟨b, o, none⟩) ns.length cv], .agg #[.int .i64 14, .string ⟨#[]⟩, .string ⟨#[]⟩, .int .i64 0, .int .i64 0, .slice al l.length cl], .int .i64 k] W fun e w' => e = .returned (.tuple #[.bool false, .int .i64 (matchErr ns (oneL (t13 l)) k)]) ∧ Below W.heap.size W w') := fun W hW => by
    have h1 := test_call _ _ ns (t14 l) k W (hv.on hW) (tr_mem (isL_3.on hl hW)) (hL.forms.on hW) (hL.glob.on hW)
    have e1 : matB ns (oneL (t14 l)) k = false := by unfold matB; rw [if_neg (by rw [err_same]; exact hF0)]
    rw [e1, err_same] at h1
    exact h1
  have H4m : Hid (∀ W, Below w.heap.size w W → Calls Tryd.prog 4 #[.agg #[.slice (some ⟨b, o, none⟩) ns.length cv], .slice am m.length cm, .int .i64 k] W fun e w' => e = .returned (.tuple #[.bool (matB ns m k), .int .i64 (matchErr ns m k)]) ∧ Below W.heap.size W w') := fun W hW => matches_call _ _ ns m k W (hv.on hW) (isL_3.on hm hW) (hL.forms.on hW) (hL.glob.on hW)
  have H4b : Hid (∀ W y, Below w.heap.size w W → A3 W y (l ++ m) → Calls Tryd.prog 4 #[.agg #[.slice (some ⟨b, o, none⟩) ns.length cv], y, .int .i64 k] W fun e w' => e = .returned (.tuple #[.bool (matB ns (l ++ m) k), .int .i64 (matchErr ns (l ++ m) k)]) ∧ Below W.heap.size W w') := fun W y hW hy => matches_call _ _ ns (l ++ m) k W (hv.on hW) hy (hL.forms.on hW) (hL.glob.on hW)
  have H7 : Hid (∀ W, Below w.heap.size w W → Calls Tryd.prog 7 #[.agg #[.slice (some ⟨b, o, none⟩) ns.length cv], .slice al l.length cl] W fun e w' => ∃ a c, e = .returned (.tuple #[.slice a (allA ns l).length c, .int .i64 0]) ∧ IntsAt w' (.slice a (allA ns l).length c) ((allA ns l).map fun (k : Nat) => (k : Int)) ∧ Below W.heap.size W w') := fun W hW => by
      have h1 := all_form _ _ ns l W (hv.on hW) (isL_3.on hl hW) (hL.on hW)
      rw [hC0] at h1
      exact h1
  have eN : nearA ns l k = (upL ns (k + 2) k).find? (m3 ns l) := by
      unfold nearA
      rw [if_pos hE0, Int.toNat_natCast, nearL_eq]
  have H8 : Hid (∀ W, Below w.heap.size w W → Calls Tryd.prog 8 #[.agg #[.slice (some ⟨b, o, none⟩) ns.length cv], .slice al l.length cl, .int .i64 k] W fun e w' => e = .returned (.tuple #[.int .i64 ((nearA ns l k).getD 0 : Nat), .bool (nearA ns l k).isSome, .int .i64 0]) ∧ Below W.heap.size W w') := fun W hW => by
      have h1 := nearest_call _ _ ns l k W (hv.on hW) (isL_3.on hl hW) (hL.forms.on hW) (hL.glob.on hW)
      rw [hE0] at h1
      exact h1
  have H5 : Hid (∀ W, Below w.heap.size w W → Calls Tryd.prog 5 #[] W fun e w' => e = .returned (.bool true) ∧ Below W.heap.size W w') := fun W hW => begun_any W (hL.on hW)
  have HTH : Hid (((allA ns l).any fun j => (j : Int) == (k : Int)) = false) := by
      rw [← hI]
      exact all_has hC0 hk
  have HUP : Hid (∀ W, Below w.heap.size w W → ∀ j : Nat, j < ns.length → W.cell? ⟨b, o + j * 5, none⟩ = some (.int .i64 (Pl.upOf ns j))) := fun W hW j hj => cell_on hW (up_cell hRD.at_ j hj)
  have HLOW : Hid (Pl.Low ns ns.length) := hRD.low
  have HAL : Hid (A3 w (.slice al l.length cl) l) := hl
  have HAM : Hid (A3 w (.slice am m.length cm) m) := hm
  have h64 := hRD.n64
  have HNF : Hid (nearA ns l k = (upL ns (k + 2) k).find? (m3 ns l)) := eN
  have hmb : (matchErr ns m k == 0) = false := by simpa using hm0
  have hFb : (matchErr ns (oneL (t13 l)) k == 0) = false := by simpa using hF0
  clear hv hl hm hL hE0 hC0 hz2 hRD hI hF0 hm0 eN hsz HER
  generalize matchErr ns (oneL (t13 l)) k = F at *
  generalize matB ns m k = mb at *
  generalize matB ns (l ++ m) k = bb at *
  generalize matchErr ns m k = Em at *
  generalize matchErr ns (l ++ m) k = Eb at *
  generalize allA ns l = aL at *
  generalize nearA ns l k = NA at *
  obtain ⟨q, hq⟩ : ∃ q, q = m3 ns l := ⟨_, rfl⟩
  rw [← hq] at HNF
  simp only [← hq] at H4
  clear hq
  go_enter Tryd.func3, Tryd.ntmps3
  go_wp2_with fail
  refine (H4k.out _ HB0.out).mono ?_
  rintro e w1 ⟨rfl, hb1⟩
  have HB1 : Hid (Below w.heap.size w w1) := below_trans HB0.out hb1
  have c1 := cell_on hb1 c0
  clear hb1 c0 HB0
  go_wp2_with fail
  refine (H6a.out _ HB1.out).mono ?_
  rintro e w2 ⟨rfl, hb2⟩
  have HB2 : Hid (Below w.heap.size w w2) := below_trans HB1.out hb2
  have c2 := cell_on hb2 c1
  clear hb2 c1 HB1
  go_wp2_with fail
  refine (H6b.out _ HB2.out).mono ?_
  rintro e w3 ⟨rfl, hb3⟩
  have HB3 : Hid (Below w.heap.size w w3) := below_trans HB2.out hb3
  have c3 := cell_on hb3 c2
  clear hb3 c2 HB2
  go_wp2_with fail
  refine (H4m.out _ HB3.out).mono ?_
  rintro e w4 ⟨rfl, hb4⟩
  have HB4 : Hid (Below w.heap.size w w4) := below_trans HB3.out hb4
  have c4 := cell_on hb4 c3
  clear hb4 c3 HB3
  go_wp2_with fail
  have HD4 : Hid (Below w.heap.size w w4) := HB4
  have a4 := cell_on (on_alloc w4 (.cells #[] 59)) c4
  have HA5 : Hid (Below w4.heap.size w4 (w4.alloc (.cells #[] 59)).drew) := (on_alloc w4 (.cells #[] 59)).drew
  have HO5 : Hid ((w4.alloc (.cells #[] 59)).drew.ownsRow w4.heap.size 59 2 (.slice (some ⟨w4.heap.size, 0, none⟩) 0 0) 0 []) := cat_made w4
  have HL5 : Hid (Below w.heap.size w (w4.alloc (.cells #[] 59)).drew) := below_trans HD4.out HA5.out
  have HS5 : Hid (w4.heap.size ≤ (w4.alloc (.cells #[] 59)).drew.heap.size) := HA5.out.size
  go_cut [17, 18] (fun s t wx => s = .bool bb ∧ t = .int .i64 Eb ∧ wx.cell? ⟨w.heap.size, 0, none⟩ = some (.slice (some ⟨b, o, none⟩) ns.length cv) ∧ Hid (Below w.heap.size w wx))
  case first =>
    go_region_law (first | (refine step_cat (by rfl) (.tmp 85) (.tmp 86) (by rfl) w4.heap.size w4.heap.size 0 0 [] (by go_simp) HO5.out al cl l (by go_simp) w HAL.out HL5.out hsz1 HS5.out ?_; intro g5 c5 w5 ys5 hpv5 hln5 hown5 hb5; have hbb5 : Below w4.heap.size w4 w5 := HA5.out.trans hb5; have a5 := cell_on hbb5 c4) | (refine step_cat (by rfl) (.tmp 87) (.tmp 88) (by rfl) w4.heap.size g5 (0 + l.length) c5 ([] ++ ys5) (by go_simp) hown5 am cm m (by go_simp) w HAM.out (below_trans HD4.out hbb5) hsz2 hbb5.size ?_; intro g6 c6 w6 ys6 hpv6 hln6 hown6 hb6; have hbb6 : Below w4.heap.size w4 w6 := hbb5.trans hb6; have a6 := cell_on hbb6 c4) | (go_simp; go_at_call 4; refine (H4b.out _ _ ?_ ?_).mono ?_; exact below_trans HD4.out hbb6; exact cat_a3 hpv5 hpv6 hown6 hln5 (below_trans HD4.out hbb6); rintro e w7 ⟨rfl, hb7⟩))
    all_goals
      have HB7 : Hid (Below w.heap.size w w7) := below_trans (below_trans HD4.out hbb6) hb7
      have a7 := cell_on hb7 a6
      clear hb7 hpv5 hpv6 hown5 hown6 hb5 hb6 hbb5 hbb6 a5 a6
      go_wp2_with fail
      go_meet
      exact ⟨rfl, rfl, a7, HB7⟩
  case rest =>
    obtain ⟨rfl, rfl, c5, HB5⟩ := hcut
    clear a4 c4 HA5 HO5 HL5 HS5 HD4 HB4
    go_wp2_with fail
    refine (H7.out _ HB5.out).mono ?_
    rintro e w6 ⟨ax, cx, rfl, hx, hb6⟩
    have HB6 : Hid (Below w.heap.size w w6) := below_trans HB5.out hb6
    have c6 := cell_on hb6 c5
    have HX6 : Hid (IntsAt w6 (.slice ax aL.length cx) (aL.map fun (k : Nat) => (k : Int))) := hx
    clear hx hb6 c5 HB5
    go_wp2_with fail
    go_loopw [21, 22] (fun t i wr => ∃ j : Nat, j ≤ aL.length ∧ i = .int .i64 j ∧ t = .bool (thB aL k j) ∧ wr = w6) (fun _ i _ => aL.length - (intOf i).toNat)
    case atStart => exact ⟨0, Nat.zero_le _, rfl, rfl, rfl⟩
    case round =>
      obtain ⟨j, hj, rfl, rfl, rfl⟩ := hrel
      by_cases hlt : j < aL.length
      · have HNX : Hid (thB aL k (j + 1) = (thB aL k j || ((aL[j] : Int) == (k : Int)))) := thB_next hlt
        obtain ⟨b2, o2, rfl, m0⟩ := ints_at HX6.out hlt
        have i1 : (0 : Int) ≤ (j : Int) := by omega
        have i2 : (j : Int) < (aL.length : Int) := by omega
        generalize (aL[j] : Int) = y at *
        cases hth : thB aL k j with
        | true =>
          have HN : Hid (thB aL k (j + 1) = true) := by
                unfold Hid
                rw [HNX.out, hth]
                rfl
          clear hth
          go_wp2
          exact ⟨⟨j + 1, by omega, by go_num, by rw [HN.out], by first | rfl | trivial⟩, by simp [intOf]; omega⟩
        | false =>
          by_cases he : y = (k : Int)
          · have HN : Hid (thB aL k (j + 1) = true) := by
                  unfold Hid
                  rw [HNX.out, hth, he]
                  simp
            subst he
            clear hth
            go_wp2
            exact ⟨⟨j + 1, by omega, by go_num, by rw [HN.out], by first | rfl | trivial⟩, by simp [intOf]; omega⟩
          · have HN : Hid (thB aL k (j + 1) = false) := by
                  unfold Hid
                  rw [HNX.out, hth]
                  simpa using he
            have heb : (y == (k : Int)) = false := by simpa using he
            clear hth he
            go_wp2
            exact ⟨⟨j + 1, by omega, by go_num, by rw [HN.out], by first | rfl | trivial⟩, by simp [intOf]; omega⟩
      · have hjl : j = aL.length := by omega
        have hth : thB aL k j = false := by
              rw [hjl]
              unfold thB
              rw [List.take_length]
              exact HTH.out
        rw [hth]
        clear hjl hth HTH
        go_wp2_with fail
        cases NA with
        | none =>
          refine (H8.out _ HB6.out).mono ?_
          rintro e w7 ⟨rfl, hb7⟩
          have HB7 : Hid (Below w.heap.size w w7) := below_trans HB6.out hb7
          have HC7 : Hid (w7.cell? ⟨w.heap.size, 0, none⟩ = some (.slice (some ⟨b, o, none⟩) ns.length cv)) := cell_on hb7 c6
          clear hb7 c6 HB6 HX6
          go_wp2_with fail
          go_loopw [26] (fun i wr => ∃ (u : Int) (f : Nat), i = .int .i64 u ∧ -1 ≤ u ∧ u < ns.length ∧ Hid ((upL ns f u).find? q = none) ∧ Hid (u + 1 ≤ f) ∧ Hid (Below w.heap.size w wr) ∧ Hid (wr.cell? ⟨w.heap.size, 0, none⟩ = some (.slice (some ⟨b, o, none⟩) ns.length cv))) (fun i _ => (intOf i + 1).toNat)
          case atStart => exact ⟨k, k + 2, rfl, by omega, by omega, HNF.out.symm, by unfold Hid; omega, HB7, HC7⟩
          case round =>
            obtain ⟨u, f, rfl, hu1, hu2, HF, Hf, HBR, HCR⟩ := hrel
            clear HB7 HC7 HNF
            by_cases hu : 0 ≤ u
            · obtain ⟨j, rfl⟩ := Int.eq_ofNat_of_zero_le hu
              obtain ⟨f, rfl⟩ : ∃ f', f = f' + 1 := ⟨f - 1, by have := Hf.out; omega⟩
              have hj : j < ns.length := by omega
              have HUL : Hid (upL ns (f + 1) (j : Int) = j :: upL ns f (Pl.upOf ns j)) := by
                    unfold Hid
                    rw [upL, if_neg (by omega), Int.toNat_natCast]
              have hqj : q j = false := by
                    have h1 := HF.out
                    rw [HUL.out, List.find?_cons] at h1
                    cases hb : q j with
                    | true => rw [hb] at h1; cases h1
                    | false => rfl
              have HNX : Hid ((upL ns f (Pl.upOf ns j)).find? q = none) := by
                    have h1 := HF.out
                    rw [HUL.out, List.find?_cons, hqj] at h1
                    exact h1
              have H4j := H4.out _ HBR.out j hj
              rw [hqj] at H4j
              have HLM : Hid (-1 ≤ Pl.upOf ns j ∧ Pl.upOf ns j < j) := HLOW.out j hj
              have H4j2 : Hid (Calls Tryd.prog 4 _ _ _) := H4j
              have cR := HCR.out
              clear hqj H4j
              go_wp2_with fail
              refine H4j2.out.mono ?_
              rintro e w8 ⟨rfl, hb8⟩
              have HB8 : Hid (Below w.heap.size w w8) := below_trans HBR.out hb8
              have c8 := cell_on hb8 cR
              have HC8 : Hid (w8.cell? ⟨w.heap.size, 0, none⟩ = some (.slice (some ⟨b, o, none⟩) ns.length cv)) := c8
              have u8 := HUP.out _ HB8.out j hj
              have i1 : (0 : Int) ≤ (j : Int) := by omega
              have i2 : (j : Int) < (ns.length : Int) := by omega
              clear hb8 cR
              generalize Pl.upOf ns j = uu at *
              go_wp2
              exact ⟨⟨uu, f, rfl, HLM.out.1, by have := HLM.out.2; omega, HNX, by have := Hf.out; have := HLM.out.2; unfold Hid; omega, HB8, HC8⟩, by have := HLM.out.2; simp [intOf]; omega⟩
            · clear HF
              go_wp2_with fail
              refine (H5.out _ HBR.out).mono ?_
              rintro e w9 ⟨rfl, hb9⟩
              have HB9 : Hid (Below w.heap.size w w9) := below_trans HBR.out hb9
              clear hb9
              go_wp2
              go_ret
              exact ⟨rfl, HB9.out⟩
        | some y =>
          refine (H8.out _ HB6.out).mono ?_
          rintro e w7 ⟨rfl, hb7⟩
          have HB7 : Hid (Below w.heap.size w w7) := below_trans HB6.out hb7
          have HC7 : Hid (w7.cell? ⟨w.heap.size, 0, none⟩ = some (.slice (some ⟨b, o, none⟩) ns.length cv)) := cell_on hb7 c6
          clear hb7 c6 HB6 HX6
          go_wp2_with fail
          go_loopw [26] (fun i wr => ∃ (u : Int) (f : Nat), i = .int .i64 u ∧ -1 ≤ u ∧ u < ns.length ∧ Hid ((upL ns f u).find? q = some y) ∧ Hid (u + 1 ≤ f) ∧ Hid (Below w.heap.size w wr) ∧ Hid (wr.cell? ⟨w.heap.size, 0, none⟩ = some (.slice (some ⟨b, o, none⟩) ns.length cv))) (fun i _ => (intOf i + 1).toNat)
          case atStart => exact ⟨k, k + 2, rfl, by omega, by omega, HNF.out.symm, by unfold Hid; omega, HB7, HC7⟩
          case round =>
            obtain ⟨u, f, rfl, hu1, hu2, HF, Hf, HBR, HCR⟩ := hrel
            clear HB7 HC7 HNF
            by_cases hu : 0 ≤ u
            · obtain ⟨j, rfl⟩ := Int.eq_ofNat_of_zero_le hu
              obtain ⟨f, rfl⟩ : ∃ f', f = f' + 1 := ⟨f - 1, by have := Hf.out; omega⟩
              have hj : j < ns.length := by omega
              have HUL : Hid (upL ns (f + 1) (j : Int) = j :: upL ns f (Pl.upOf ns j)) := by
                    unfold Hid
                    rw [upL, if_neg (by omega), Int.toNat_natCast]
              by_cases hjy : j = y
              · subst hjy
                clear HUL HF
                go_wp2_with fail
                refine (H5.out _ HBR.out).mono ?_
                rintro e w9 ⟨rfl, hb9⟩
                have HB9 : Hid (Below w.heap.size w w9) := below_trans HBR.out hb9
                clear hb9
                go_wp2
                go_ret
                exact ⟨rfl, HB9.out⟩
              · have hjb : ((j : Int) == (y : Int)) = false := by simp; omega
                have hjn : ¬ (j : Int) = (y : Int) := by omega
                have hqj : q j = false := by
                      have h1 := HF.out
                      rw [HUL.out, List.find?_cons] at h1
                      cases hb : q j with
                      | true => rw [hb] at h1; injection h1 with h1; exact absurd h1 hjy
                      | false => rfl
                have HNX : Hid ((upL ns f (Pl.upOf ns j)).find? q = some y) := by
                      have h1 := HF.out
                      rw [HUL.out, List.find?_cons, hqj] at h1
                      exact h1
                have H4j := H4.out _ HBR.out j hj
                rw [hqj] at H4j
                have HLM : Hid (-1 ≤ Pl.upOf ns j ∧ Pl.upOf ns j < j) := HLOW.out j hj
                have H4j2 : Hid (Calls Tryd.prog 4 _ _ _) := H4j
                have cR := HCR.out
                clear hqj H4j
                go_wp2_with fail
                refine H4j2.out.mono ?_
                rintro e w8 ⟨rfl, hb8⟩
                have HB8 : Hid (Below w.heap.size w w8) := below_trans HBR.out hb8
                have c8 := cell_on hb8 cR
                have HC8 : Hid (w8.cell? ⟨w.heap.size, 0, none⟩ = some (.slice (some ⟨b, o, none⟩) ns.length cv)) := c8
                have u8 := HUP.out _ HB8.out j hj
                have i1 : (0 : Int) ≤ (j : Int) := by omega
                have i2 : (j : Int) < (ns.length : Int) := by omega
                clear hb8 cR
                generalize Pl.upOf ns j = uu at *
                go_wp2
                exact ⟨⟨uu, f, rfl, HLM.out.1, by have := HLM.out.2; omega, HNX, by have := Hf.out; have := HLM.out.2; unfold Hid; omega, HB8, HC8⟩, by have := HLM.out.2; simp [intOf]; omega⟩
            · clear HF
              go_wp2_with fail
              refine (H5.out _ HBR.out).mono ?_
              rintro e w9 ⟨rfl, hb9⟩
              have HB9 : Hid (Below w.heap.size w w9) := below_trans HBR.out hb9
              clear hb9
              go_wp2
              go_ret
              exact ⟨rfl, HB9.out⟩
set_option maxRecDepth 100000 in
set_option maxHeartbeats 8000000 in
theorem true_fn1 (v u x : Value) (ns : List Pl.Nd) (l m : List Pl.D3) (n : Int) (w : World) (hv : DocAt w v ns) (hl : A3 w u l) (hm : A3 w x m) (hsz : m.length * 48 ≤ 140737488351232) (hL : Laid w) (hE0 : matchErr ns l n = 0) (hI : m3 ns l n.toNat = false) (hF0 : ¬ matchErr ns (oneL (t13 l)) n = 0) (hm0 : matchErr ns m n = 0) (hb0 : ¬ matchErr ns (l ++ m) n = 0) :
    Calls Tryd.prog 3 #[.agg #[v], u, x, .int .i64 n] w fun e w' => e = .returned (.bool true) ∧ Below w.heap.size w w' := by
  have hC0 : chkBoth ns l = 0 := matchErr_both hE0
  obtain ⟨-, hz2, k, rfl, hk⟩ := matchErr_zero hE0
  obtain ⟨b, o, cv, rfl, hRD, -, -, -⟩ := doc_parts hv (chkBoth_zero hC0).1
  obtain ⟨al, cl, rfl, -⟩ := isL_3.form hl
  obtain ⟨am, cm, rfl, -⟩ := isL_3.form hm
  rw [Int.toNat_natCast] at hI
  have hl5 : l.length ≤ 5 := ((R3_iff l).2 hz2).1.2
  have hsz2 : (0 + l.length + m.length) * 48 ≤ 140737488355328 := by omega
  have hsz1 : (0 + l.length) * 48 ≤ 140737488355328 := by omega
  have hal : (allA ns l).length ≤ 64 := by simpa using allA_len ns l
  have HB0 : Hid (Below w.heap.size w (w.alloc (.cells #[.slice (some ⟨b, o, none⟩) ns.length cv] 24))) := on_alloc _ _
  have c0 : (w.alloc (.cells #[.slice (some ⟨b, o, none⟩) ns.length cv] 24)).cell? ⟨w.heap.size, 0, none⟩ = some (.slice (some ⟨b, o, none⟩) ns.length cv) := by simp [go_sem]
  have HER : Hid (∀ j : Nat, j < ns.length → matchErr ns l j = 0) := fun j hj => by
      rw [matchErr_eq, if_pos hC0, if_pos (by unfold hasB; simp; omega)]
  have H4 : Hid (∀ W, Below w.heap.size w W → ∀ j : Nat, j < ns.length → Calls Tryd.prog 4 #[.agg #[.slice (some ⟨b, o, none⟩) ns.length cv], .slice al l.length cl, .int .i64 j] W fun e w' => e = .returned (.tuple #[.bool (m3 ns l j), .int .i64 0]) ∧ Below W.heap.size W w') := fun W hW j hj => by
      have h1 := matches_call _ _ ns l j W (hv.on hW) (isL_3.on hl hW) (hL.forms.on hW) (hL.glob.on hW)
      unfold matB at h1
      rw [HER.out j hj, if_pos rfl] at h1
      exact h1
  have H4k : Hid (∀ W, Below w.heap.size w W → Calls Tryd.prog 4 #[.agg #[.slice (some ⟨b, o, none⟩) ns.length cv], .slice al l.length cl, .int .i64 k] W fun e w' => e = .returned (.tuple #[.bool false, .int .i64 0]) ∧ Below W.heap.size W w') := fun W hW => by
      have h1 := H4.out W hW k hk
      rw [hI] at h1
      exact h1
  have H6a : Hid (∀ W, Below w.heap.size w W → Calls Tryd.prog 6 #[.agg #[.slice (some ⟨b, o, none⟩) ns.length cv], .agg #[.int .i64 13, .string ⟨#[]⟩, .string ⟨#[]⟩, .int .i64 0, .int .i64 0, .slice al l.length cl], .int .i64 k] W fun e w' => e = .returned (.tuple #[.bool false, .int .i64 (matchErr ns (oneL (t13 l)) k)]) ∧ Below W.heap.size W w') := fun W hW => by
    have h1 := test_call _ _ ns (t13 l) k W (hv.on hW) (tr_mem (isL_3.on hl hW)) (hL.forms.on hW) (hL.glob.on hW)
    have e1 : matB ns (oneL (t13 l)) k = false := by unfold matB; rw [if_neg (by exact hF0)]
    rw [e1] at h1
    exact h1
  have H6b : Hid (∀ W, Below w.heap.size w W → Calls Tryd.prog 6 #[.agg #[.slice (some ⟨b, o, none⟩) ns.length cv], .agg #[.int .i64 14, .string ⟨#[]⟩, .string ⟨#[]⟩, .int .i64 0, .int .i64 0, .slice al l.length cl], .int .i64 k] W fun e w' => e = .returned (.tuple #[.bool false, .int .i64 (matchErr ns (oneL (t13 l)) k)]) ∧ Below W.heap.size W w') := fun W hW => by
    have h1 := test_call _ _ ns (t14 l) k W (hv.on hW) (tr_mem (isL_3.on hl hW)) (hL.forms.on hW) (hL.glob.on hW)
    have e1 : matB ns (oneL (t14 l)) k = false := by unfold matB; rw [if_neg (by rw [err_same]; exact hF0)]
    rw [e1, err_same] at h1
    exact h1
  have H4m : Hid (∀ W, Below w.heap.size w W → Calls Tryd.prog 4 #[.agg #[.slice (some ⟨b, o, none⟩) ns.length cv], .slice am m.length cm, .int .i64 k] W fun e w' => e = .returned (.tuple #[.bool (matB ns m k), .int .i64 (matchErr ns m k)]) ∧ Below W.heap.size W w') := fun W hW => matches_call _ _ ns m k W (hv.on hW) (isL_3.on hm hW) (hL.forms.on hW) (hL.glob.on hW)
  have H4b : Hid (∀ W y, Below w.heap.size w W → A3 W y (l ++ m) → Calls Tryd.prog 4 #[.agg #[.slice (some ⟨b, o, none⟩) ns.length cv], y, .int .i64 k] W fun e w' => e = .returned (.tuple #[.bool (matB ns (l ++ m) k), .int .i64 (matchErr ns (l ++ m) k)]) ∧ Below W.heap.size W w') := fun W y hW hy => matches_call _ _ ns (l ++ m) k W (hv.on hW) hy (hL.forms.on hW) (hL.glob.on hW)
  have H7 : Hid (∀ W, Below w.heap.size w W → Calls Tryd.prog 7 #[.agg #[.slice (some ⟨b, o, none⟩) ns.length cv], .slice al l.length cl] W fun e w' => ∃ a c, e = .returned (.tuple #[.slice a (allA ns l).length c, .int .i64 0]) ∧ IntsAt w' (.slice a (allA ns l).length c) ((allA ns l).map fun (k : Nat) => (k : Int)) ∧ Below W.heap.size W w') := fun W hW => by
      have h1 := all_form _ _ ns l W (hv.on hW) (isL_3.on hl hW) (hL.on hW)
      rw [hC0] at h1
      exact h1
  have eN : nearA ns l k = (upL ns (k + 2) k).find? (m3 ns l) := by
      unfold nearA
      rw [if_pos hE0, Int.toNat_natCast, nearL_eq]
  have H8 : Hid (∀ W, Below w.heap.size w W → Calls Tryd.prog 8 #[.agg #[.slice (some ⟨b, o, none⟩) ns.length cv], .slice al l.length cl, .int .i64 k] W fun e w' => e = .returned (.tuple #[.int .i64 ((nearA ns l k).getD 0 : Nat), .bool (nearA ns l k).isSome, .int .i64 0]) ∧ Below W.heap.size W w') := fun W hW => by
      have h1 := nearest_call _ _ ns l k W (hv.on hW) (isL_3.on hl hW) (hL.forms.on hW) (hL.glob.on hW)
      rw [hE0] at h1
      exact h1
  have H5 : Hid (∀ W, Below w.heap.size w W → Calls Tryd.prog 5 #[] W fun e w' => e = .returned (.bool true) ∧ Below W.heap.size W w') := fun W hW => begun_any W (hL.on hW)
  have HTH : Hid (((allA ns l).any fun j => (j : Int) == (k : Int)) = false) := by
      rw [← hI]
      exact all_has hC0 hk
  have HUP : Hid (∀ W, Below w.heap.size w W → ∀ j : Nat, j < ns.length → W.cell? ⟨b, o + j * 5, none⟩ = some (.int .i64 (Pl.upOf ns j))) := fun W hW j hj => cell_on hW (up_cell hRD.at_ j hj)
  have HLOW : Hid (Pl.Low ns ns.length) := hRD.low
  have HAL : Hid (A3 w (.slice al l.length cl) l) := hl
  have HAM : Hid (A3 w (.slice am m.length cm) m) := hm
  have h64 := hRD.n64
  have HNF : Hid (nearA ns l k = (upL ns (k + 2) k).find? (m3 ns l)) := eN
  rw [hm0] at H4m
  have hbb : (matchErr ns (l ++ m) k == 0) = false := by simpa using hb0
  have hFb : (matchErr ns (oneL (t13 l)) k == 0) = false := by simpa using hF0
  clear hv hl hm hL hE0 hC0 hz2 hRD hI hF0 hm0 eN hsz HER hb0
  generalize matchErr ns (oneL (t13 l)) k = F at *
  generalize matB ns m k = mb at *
  generalize matB ns (l ++ m) k = bb at *
  generalize matchErr ns (l ++ m) k = Eb at *
  generalize allA ns l = aL at *
  generalize nearA ns l k = NA at *
  obtain ⟨q, hq⟩ : ∃ q, q = m3 ns l := ⟨_, rfl⟩
  rw [← hq] at HNF
  simp only [← hq] at H4
  clear hq
  go_enter Tryd.func3, Tryd.ntmps3
  go_wp2_with fail
  refine (H4k.out _ HB0.out).mono ?_
  rintro e w1 ⟨rfl, hb1⟩
  have HB1 : Hid (Below w.heap.size w w1) := below_trans HB0.out hb1
  have c1 := cell_on hb1 c0
  clear hb1 c0 HB0
  go_wp2_with fail
  refine (H6a.out _ HB1.out).mono ?_
  rintro e w2 ⟨rfl, hb2⟩
  have HB2 : Hid (Below w.heap.size w w2) := below_trans HB1.out hb2
  have c2 := cell_on hb2 c1
  clear hb2 c1 HB1
  go_wp2_with fail
  refine (H6b.out _ HB2.out).mono ?_
  rintro e w3 ⟨rfl, hb3⟩
  have HB3 : Hid (Below w.heap.size w w3) := below_trans HB2.out hb3
  have c3 := cell_on hb3 c2
  clear hb3 c2 HB2
  go_wp2_with fail
  refine (H4m.out _ HB3.out).mono ?_
  rintro e w4 ⟨rfl, hb4⟩
  have HB4 : Hid (Below w.heap.size w w4) := below_trans HB3.out hb4
  have c4 := cell_on hb4 c3
  clear hb4 c3 HB3
  go_wp2_with fail
  have HD4 : Hid (Below w.heap.size w w4) := HB4
  have a4 := cell_on (on_alloc w4 (.cells #[] 59)) c4
  have HA5 : Hid (Below w4.heap.size w4 (w4.alloc (.cells #[] 59)).drew) := (on_alloc w4 (.cells #[] 59)).drew
  have HO5 : Hid ((w4.alloc (.cells #[] 59)).drew.ownsRow w4.heap.size 59 2 (.slice (some ⟨w4.heap.size, 0, none⟩) 0 0) 0 []) := cat_made w4
  have HL5 : Hid (Below w.heap.size w (w4.alloc (.cells #[] 59)).drew) := below_trans HD4.out HA5.out
  have HS5 : Hid (w4.heap.size ≤ (w4.alloc (.cells #[] 59)).drew.heap.size) := HA5.out.size
  go_cut [17, 18] (fun s t wx => s = .bool bb ∧ t = .int .i64 Eb ∧ wx.cell? ⟨w.heap.size, 0, none⟩ = some (.slice (some ⟨b, o, none⟩) ns.length cv) ∧ Hid (Below w.heap.size w wx))
  case first =>
    go_region_law (first | (refine step_cat (by rfl) (.tmp 85) (.tmp 86) (by rfl) w4.heap.size w4.heap.size 0 0 [] (by go_simp) HO5.out al cl l (by go_simp) w HAL.out HL5.out hsz1 HS5.out ?_; intro g5 c5 w5 ys5 hpv5 hln5 hown5 hb5; have hbb5 : Below w4.heap.size w4 w5 := HA5.out.trans hb5; have a5 := cell_on hbb5 c4) | (refine step_cat (by rfl) (.tmp 87) (.tmp 88) (by rfl) w4.heap.size g5 (0 + l.length) c5 ([] ++ ys5) (by go_simp) hown5 am cm m (by go_simp) w HAM.out (below_trans HD4.out hbb5) hsz2 hbb5.size ?_; intro g6 c6 w6 ys6 hpv6 hln6 hown6 hb6; have hbb6 : Below w4.heap.size w4 w6 := hbb5.trans hb6; have a6 := cell_on hbb6 c4) | (go_simp; go_at_call 4; refine (H4b.out _ _ ?_ ?_).mono ?_; exact below_trans HD4.out hbb6; exact cat_a3 hpv5 hpv6 hown6 hln5 (below_trans HD4.out hbb6); rintro e w7 ⟨rfl, hb7⟩))
    all_goals
      have HB7 : Hid (Below w.heap.size w w7) := below_trans (below_trans HD4.out hbb6) hb7
      have a7 := cell_on hb7 a6
      clear hb7 hpv5 hpv6 hown5 hown6 hb5 hb6 hbb5 hbb6 a5 a6
      go_wp2_with fail
      go_meet
      exact ⟨rfl, rfl, a7, HB7⟩
  case rest =>
    obtain ⟨rfl, rfl, c5, HB5⟩ := hcut
    clear a4 c4 HA5 HO5 HL5 HS5 HD4 HB4
    go_wp2_with fail
    refine (H7.out _ HB5.out).mono ?_
    rintro e w6 ⟨ax, cx, rfl, hx, hb6⟩
    have HB6 : Hid (Below w.heap.size w w6) := below_trans HB5.out hb6
    have c6 := cell_on hb6 c5
    have HX6 : Hid (IntsAt w6 (.slice ax aL.length cx) (aL.map fun (k : Nat) => (k : Int))) := hx
    clear hx hb6 c5 HB5
    go_wp2_with fail
    go_loopw [21, 22] (fun t i wr => ∃ j : Nat, j ≤ aL.length ∧ i = .int .i64 j ∧ t = .bool (thB aL k j) ∧ wr = w6) (fun _ i _ => aL.length - (intOf i).toNat)
    case atStart => exact ⟨0, Nat.zero_le _, rfl, rfl, rfl⟩
    case round =>
      obtain ⟨j, hj, rfl, rfl, rfl⟩ := hrel
      by_cases hlt : j < aL.length
      · have HNX : Hid (thB aL k (j + 1) = (thB aL k j || ((aL[j] : Int) == (k : Int)))) := thB_next hlt
        obtain ⟨b2, o2, rfl, m0⟩ := ints_at HX6.out hlt
        have i1 : (0 : Int) ≤ (j : Int) := by omega
        have i2 : (j : Int) < (aL.length : Int) := by omega
        generalize (aL[j] : Int) = y at *
        cases hth : thB aL k j with
        | true =>
          have HN : Hid (thB aL k (j + 1) = true) := by
                unfold Hid
                rw [HNX.out, hth]
                rfl
          clear hth
          go_wp2
          exact ⟨⟨j + 1, by omega, by go_num, by rw [HN.out], by first | rfl | trivial⟩, by simp [intOf]; omega⟩
        | false =>
          by_cases he : y = (k : Int)
          · have HN : Hid (thB aL k (j + 1) = true) := by
                  unfold Hid
                  rw [HNX.out, hth, he]
                  simp
            subst he
            clear hth
            go_wp2
            exact ⟨⟨j + 1, by omega, by go_num, by rw [HN.out], by first | rfl | trivial⟩, by simp [intOf]; omega⟩
          · have HN : Hid (thB aL k (j + 1) = false) := by
                  unfold Hid
                  rw [HNX.out, hth]
                  simpa using he
            have heb : (y == (k : Int)) = false := by simpa using he
            clear hth he
            go_wp2
            exact ⟨⟨j + 1, by omega, by go_num, by rw [HN.out], by first | rfl | trivial⟩, by simp [intOf]; omega⟩
      · have hjl : j = aL.length := by omega
        have hth : thB aL k j = false := by
              rw [hjl]
              unfold thB
              rw [List.take_length]
              exact HTH.out
        rw [hth]
        clear hjl hth HTH
        go_wp2_with fail
        cases NA with
        | none =>
          refine (H8.out _ HB6.out).mono ?_
          rintro e w7 ⟨rfl, hb7⟩
          have HB7 : Hid (Below w.heap.size w w7) := below_trans HB6.out hb7
          have HC7 : Hid (w7.cell? ⟨w.heap.size, 0, none⟩ = some (.slice (some ⟨b, o, none⟩) ns.length cv)) := cell_on hb7 c6
          clear hb7 c6 HB6 HX6
          go_wp2_with fail
          go_loopw [26] (fun i wr => ∃ (u : Int) (f : Nat), i = .int .i64 u ∧ -1 ≤ u ∧ u < ns.length ∧ Hid ((upL ns f u).find? q = none) ∧ Hid (u + 1 ≤ f) ∧ Hid (Below w.heap.size w wr) ∧ Hid (wr.cell? ⟨w.heap.size, 0, none⟩ = some (.slice (some ⟨b, o, none⟩) ns.length cv))) (fun i _ => (intOf i + 1).toNat)
          case atStart => exact ⟨k, k + 2, rfl, by omega, by omega, HNF.out.symm, by unfold Hid; omega, HB7, HC7⟩
          case round =>
            obtain ⟨u, f, rfl, hu1, hu2, HF, Hf, HBR, HCR⟩ := hrel
            clear HB7 HC7 HNF
            by_cases hu : 0 ≤ u
            · obtain ⟨j, rfl⟩ := Int.eq_ofNat_of_zero_le hu
              obtain ⟨f, rfl⟩ : ∃ f', f = f' + 1 := ⟨f - 1, by have := Hf.out; omega⟩
              have hj : j < ns.length := by omega
              have HUL : Hid (upL ns (f + 1) (j : Int) = j :: upL ns f (Pl.upOf ns j)) := by
                    unfold Hid
                    rw [upL, if_neg (by omega), Int.toNat_natCast]
              have hqj : q j = false := by
                    have h1 := HF.out
                    rw [HUL.out, List.find?_cons] at h1
                    cases hb : q j with
                    | true => rw [hb] at h1; cases h1
                    | false => rfl
              have HNX : Hid ((upL ns f (Pl.upOf ns j)).find? q = none) := by
                    have h1 := HF.out
                    rw [HUL.out, List.find?_cons, hqj] at h1
                    exact h1
              have H4j := H4.out _ HBR.out j hj
              rw [hqj] at H4j
              have HLM : Hid (-1 ≤ Pl.upOf ns j ∧ Pl.upOf ns j < j) := HLOW.out j hj
              have H4j2 : Hid (Calls Tryd.prog 4 _ _ _) := H4j
              have cR := HCR.out
              clear hqj H4j
              go_wp2_with fail
              refine H4j2.out.mono ?_
              rintro e w8 ⟨rfl, hb8⟩
              have HB8 : Hid (Below w.heap.size w w8) := below_trans HBR.out hb8
              have c8 := cell_on hb8 cR
              have HC8 : Hid (w8.cell? ⟨w.heap.size, 0, none⟩ = some (.slice (some ⟨b, o, none⟩) ns.length cv)) := c8
              have u8 := HUP.out _ HB8.out j hj
              have i1 : (0 : Int) ≤ (j : Int) := by omega
              have i2 : (j : Int) < (ns.length : Int) := by omega
              clear hb8 cR
              generalize Pl.upOf ns j = uu at *
              go_wp2
              exact ⟨⟨uu, f, rfl, HLM.out.1, by have := HLM.out.2; omega, HNX, by have := Hf.out; have := HLM.out.2; unfold Hid; omega, HB8, HC8⟩, by have := HLM.out.2; simp [intOf]; omega⟩
            · clear HF
              go_wp2_with fail
              refine (H5.out _ HBR.out).mono ?_
              rintro e w9 ⟨rfl, hb9⟩
              have HB9 : Hid (Below w.heap.size w w9) := below_trans HBR.out hb9
              clear hb9
              go_wp2
              go_ret
              exact ⟨rfl, HB9.out⟩
        | some y =>
          refine (H8.out _ HB6.out).mono ?_
          rintro e w7 ⟨rfl, hb7⟩
          have HB7 : Hid (Below w.heap.size w w7) := below_trans HB6.out hb7
          have HC7 : Hid (w7.cell? ⟨w.heap.size, 0, none⟩ = some (.slice (some ⟨b, o, none⟩) ns.length cv)) := cell_on hb7 c6
          clear hb7 c6 HB6 HX6
          go_wp2_with fail
          go_loopw [26] (fun i wr => ∃ (u : Int) (f : Nat), i = .int .i64 u ∧ -1 ≤ u ∧ u < ns.length ∧ Hid ((upL ns f u).find? q = some y) ∧ Hid (u + 1 ≤ f) ∧ Hid (Below w.heap.size w wr) ∧ Hid (wr.cell? ⟨w.heap.size, 0, none⟩ = some (.slice (some ⟨b, o, none⟩) ns.length cv))) (fun i _ => (intOf i + 1).toNat)
          case atStart => exact ⟨k, k + 2, rfl, by omega, by omega, HNF.out.symm, by unfold Hid; omega, HB7, HC7⟩
          case round =>
            obtain ⟨u, f, rfl, hu1, hu2, HF, Hf, HBR, HCR⟩ := hrel
            clear HB7 HC7 HNF
            by_cases hu : 0 ≤ u
            · obtain ⟨j, rfl⟩ := Int.eq_ofNat_of_zero_le hu
              obtain ⟨f, rfl⟩ : ∃ f', f = f' + 1 := ⟨f - 1, by have := Hf.out; omega⟩
              have hj : j < ns.length := by omega
              have HUL : Hid (upL ns (f + 1) (j : Int) = j :: upL ns f (Pl.upOf ns j)) := by
                    unfold Hid
                    rw [upL, if_neg (by omega), Int.toNat_natCast]
              by_cases hjy : j = y
              · subst hjy
                clear HUL HF
                go_wp2_with fail
                refine (H5.out _ HBR.out).mono ?_
                rintro e w9 ⟨rfl, hb9⟩
                have HB9 : Hid (Below w.heap.size w w9) := below_trans HBR.out hb9
                clear hb9
                go_wp2
                go_ret
                exact ⟨rfl, HB9.out⟩
              · have hjb : ((j : Int) == (y : Int)) = false := by simp; omega
                have hjn : ¬ (j : Int) = (y : Int) := by omega
                have hqj : q j = false := by
                      have h1 := HF.out
                      rw [HUL.out, List.find?_cons] at h1
                      cases hb : q j with
                      | true => rw [hb] at h1; injection h1 with h1; exact absurd h1 hjy
                      | false => rfl
                have HNX : Hid ((upL ns f (Pl.upOf ns j)).find? q = some y) := by
                      have h1 := HF.out
                      rw [HUL.out, List.find?_cons, hqj] at h1
                      exact h1
                have H4j := H4.out _ HBR.out j hj
                rw [hqj] at H4j
                have HLM : Hid (-1 ≤ Pl.upOf ns j ∧ Pl.upOf ns j < j) := HLOW.out j hj
                have H4j2 : Hid (Calls Tryd.prog 4 _ _ _) := H4j
                have cR := HCR.out
                clear hqj H4j
                go_wp2_with fail
                refine H4j2.out.mono ?_
                rintro e w8 ⟨rfl, hb8⟩
                have HB8 : Hid (Below w.heap.size w w8) := below_trans HBR.out hb8
                have c8 := cell_on hb8 cR
                have HC8 : Hid (w8.cell? ⟨w.heap.size, 0, none⟩ = some (.slice (some ⟨b, o, none⟩) ns.length cv)) := c8
                have u8 := HUP.out _ HB8.out j hj
                have i1 : (0 : Int) ≤ (j : Int) := by omega
                have i2 : (j : Int) < (ns.length : Int) := by omega
                clear hb8 cR
                generalize Pl.upOf ns j = uu at *
                go_wp2
                exact ⟨⟨uu, f, rfl, HLM.out.1, by have := HLM.out.2; omega, HNX, by have := Hf.out; have := HLM.out.2; unfold Hid; omega, HB8, HC8⟩, by have := HLM.out.2; simp [intOf]; omega⟩
            · clear HF
              go_wp2_with fail
              refine (H5.out _ HBR.out).mono ?_
              rintro e w9 ⟨rfl, hb9⟩
              have HB9 : Hid (Below w.heap.size w w9) := below_trans HBR.out hb9
              clear hb9
              go_wp2
              go_ret
              exact ⟨rfl, HB9.out⟩
set_option maxRecDepth 100000 in
set_option maxHeartbeats 8000000 in
theorem true_fn2 (v u x : Value) (ns : List Pl.Nd) (l m : List Pl.D3) (n : Int) (w : World) (hv : DocAt w v ns) (hl : A3 w u l) (hm : A3 w x m) (hsz : m.length * 48 ≤ 140737488351232) (hL : Laid w) (hE0 : matchErr ns l n = 0) (hI : m3 ns l n.toNat = false) (hF0 : ¬ matchErr ns (oneL (t13 l)) n = 0) (hm0 : matchErr ns m n = 0) (hb0 : matchErr ns (l ++ m) n = 0) :
    Calls Tryd.prog 3 #[.agg #[v], u, x, .int .i64 n] w fun e w' => e = .returned (.bool true) ∧ Below w.heap.size w w' := by
  have hC0 : chkBoth ns l = 0 := matchErr_both hE0
  obtain ⟨-, hz2, k, rfl, hk⟩ := matchErr_zero hE0
  obtain ⟨b, o, cv, rfl, hRD, -, -, -⟩ := doc_parts hv (chkBoth_zero hC0).1
  obtain ⟨al, cl, rfl, -⟩ := isL_3.form hl
  obtain ⟨am, cm, rfl, -⟩ := isL_3.form hm
  rw [Int.toNat_natCast] at hI
  have hl5 : l.length ≤ 5 := ((R3_iff l).2 hz2).1.2
  have hsz2 : (0 + l.length + m.length) * 48 ≤ 140737488355328 := by omega
  have hsz1 : (0 + l.length) * 48 ≤ 140737488355328 := by omega
  have hal : (allA ns l).length ≤ 64 := by simpa using allA_len ns l
  have HB0 : Hid (Below w.heap.size w (w.alloc (.cells #[.slice (some ⟨b, o, none⟩) ns.length cv] 24))) := on_alloc _ _
  have c0 : (w.alloc (.cells #[.slice (some ⟨b, o, none⟩) ns.length cv] 24)).cell? ⟨w.heap.size, 0, none⟩ = some (.slice (some ⟨b, o, none⟩) ns.length cv) := by simp [go_sem]
  have HER : Hid (∀ j : Nat, j < ns.length → matchErr ns l j = 0) := fun j hj => by
      rw [matchErr_eq, if_pos hC0, if_pos (by unfold hasB; simp; omega)]
  have H4 : Hid (∀ W, Below w.heap.size w W → ∀ j : Nat, j < ns.length → Calls Tryd.prog 4 #[.agg #[.slice (some ⟨b, o, none⟩) ns.length cv], .slice al l.length cl, .int .i64 j] W fun e w' => e = .returned (.tuple #[.bool (m3 ns l j), .int .i64 0]) ∧ Below W.heap.size W w') := fun W hW j hj => by
      have h1 := matches_call _ _ ns l j W (hv.on hW) (isL_3.on hl hW) (hL.forms.on hW) (hL.glob.on hW)
      unfold matB at h1
      rw [HER.out j hj, if_pos rfl] at h1
      exact h1
  have H4k : Hid (∀ W, Below w.heap.size w W → Calls Tryd.prog 4 #[.agg #[.slice (some ⟨b, o, none⟩) ns.length cv], .slice al l.length cl, .int .i64 k] W fun e w' => e = .returned (.tuple #[.bool false, .int .i64 0]) ∧ Below W.heap.size W w') := fun W hW => by
      have h1 := H4.out W hW k hk
      rw [hI] at h1
      exact h1
  have H6a : Hid (∀ W, Below w.heap.size w W → Calls Tryd.prog 6 #[.agg #[.slice (some ⟨b, o, none⟩) ns.length cv], .agg #[.int .i64 13, .string ⟨#[]⟩, .string ⟨#[]⟩, .int .i64 0, .int .i64 0, .slice al l.length cl], .int .i64 k] W fun e w' => e = .returned (.tuple #[.bool false, .int .i64 (matchErr ns (oneL (t13 l)) k)]) ∧ Below W.heap.size W w') := fun W hW => by
    have h1 := test_call _ _ ns (t13 l) k W (hv.on hW) (tr_mem (isL_3.on hl hW)) (hL.forms.on hW) (hL.glob.on hW)
    have e1 : matB ns (oneL (t13 l)) k = false := by unfold matB; rw [if_neg (by exact hF0)]
    rw [e1] at h1
    exact h1
  have H6b : Hid (∀ W, Below w.heap.size w W → Calls Tryd.prog 6 #[.agg #[.slice (some ⟨b, o, none⟩) ns.length cv], .agg #[.int .i64 14, .string ⟨#[]⟩, .string ⟨#[]⟩, .int .i64 0, .int .i64 0, .slice al l.length cl], .int .i64 k] W fun e w' => e = .returned (.tuple #[.bool false, .int .i64 (matchErr ns (oneL (t13 l)) k)]) ∧ Below W.heap.size W w') := fun W hW => by
    have h1 := test_call _ _ ns (t14 l) k W (hv.on hW) (tr_mem (isL_3.on hl hW)) (hL.forms.on hW) (hL.glob.on hW)
    have e1 : matB ns (oneL (t14 l)) k = false := by unfold matB; rw [if_neg (by rw [err_same]; exact hF0)]
    rw [e1, err_same] at h1
    exact h1
  have H4m : Hid (∀ W, Below w.heap.size w W → Calls Tryd.prog 4 #[.agg #[.slice (some ⟨b, o, none⟩) ns.length cv], .slice am m.length cm, .int .i64 k] W fun e w' => e = .returned (.tuple #[.bool (matB ns m k), .int .i64 (matchErr ns m k)]) ∧ Below W.heap.size W w') := fun W hW => matches_call _ _ ns m k W (hv.on hW) (isL_3.on hm hW) (hL.forms.on hW) (hL.glob.on hW)
  have H4b : Hid (∀ W y, Below w.heap.size w W → A3 W y (l ++ m) → Calls Tryd.prog 4 #[.agg #[.slice (some ⟨b, o, none⟩) ns.length cv], y, .int .i64 k] W fun e w' => e = .returned (.tuple #[.bool (matB ns (l ++ m) k), .int .i64 (matchErr ns (l ++ m) k)]) ∧ Below W.heap.size W w') := fun W y hW hy => matches_call _ _ ns (l ++ m) k W (hv.on hW) hy (hL.forms.on hW) (hL.glob.on hW)
  have H7 : Hid (∀ W, Below w.heap.size w W → Calls Tryd.prog 7 #[.agg #[.slice (some ⟨b, o, none⟩) ns.length cv], .slice al l.length cl] W fun e w' => ∃ a c, e = .returned (.tuple #[.slice a (allA ns l).length c, .int .i64 0]) ∧ IntsAt w' (.slice a (allA ns l).length c) ((allA ns l).map fun (k : Nat) => (k : Int)) ∧ Below W.heap.size W w') := fun W hW => by
      have h1 := all_form _ _ ns l W (hv.on hW) (isL_3.on hl hW) (hL.on hW)
      rw [hC0] at h1
      exact h1
  have eN : nearA ns l k = (upL ns (k + 2) k).find? (m3 ns l) := by
      unfold nearA
      rw [if_pos hE0, Int.toNat_natCast, nearL_eq]
  have H8 : Hid (∀ W, Below w.heap.size w W → Calls Tryd.prog 8 #[.agg #[.slice (some ⟨b, o, none⟩) ns.length cv], .slice al l.length cl, .int .i64 k] W fun e w' => e = .returned (.tuple #[.int .i64 ((nearA ns l k).getD 0 : Nat), .bool (nearA ns l k).isSome, .int .i64 0]) ∧ Below W.heap.size W w') := fun W hW => by
      have h1 := nearest_call _ _ ns l k W (hv.on hW) (isL_3.on hl hW) (hL.forms.on hW) (hL.glob.on hW)
      rw [hE0] at h1
      exact h1
  have H5 : Hid (∀ W, Below w.heap.size w W → Calls Tryd.prog 5 #[] W fun e w' => e = .returned (.bool true) ∧ Below W.heap.size W w') := fun W hW => begun_any W (hL.on hW)
  have HTH : Hid (((allA ns l).any fun j => (j : Int) == (k : Int)) = false) := by
      rw [← hI]
      exact all_has hC0 hk
  have HUP : Hid (∀ W, Below w.heap.size w W → ∀ j : Nat, j < ns.length → W.cell? ⟨b, o + j * 5, none⟩ = some (.int .i64 (Pl.upOf ns j))) := fun W hW j hj => cell_on hW (up_cell hRD.at_ j hj)
  have HLOW : Hid (Pl.Low ns ns.length) := hRD.low
  have HAL : Hid (A3 w (.slice al l.length cl) l) := hl
  have HAM : Hid (A3 w (.slice am m.length cm) m) := hm
  have h64 := hRD.n64
  have HNF : Hid (nearA ns l k = (upL ns (k + 2) k).find? (m3 ns l)) := eN
  have eB : matB ns (l ++ m) k = (matB ns l k || matB ns m k) := both_val hE0 hm0 hb0
  have eL : matB ns l k = false := by unfold matB; rw [if_pos hE0, Int.toNat_natCast, hI]
  rw [eL, Bool.false_or] at eB
  rw [eB, hb0] at H4b
  rw [hm0] at H4m
  clear eB eL
  have hFb : (matchErr ns (oneL (t13 l)) k == 0) = false := by simpa using hF0
  clear hv hl hm hL hE0 hC0 hz2 hRD hI hF0 hm0 eN hsz HER hb0
  generalize matchErr ns (oneL (t13 l)) k = F at *
  generalize matB ns m k = mb at *
  generalize allA ns l = aL at *
  generalize nearA ns l k = NA at *
  obtain ⟨q, hq⟩ : ∃ q, q = m3 ns l := ⟨_, rfl⟩
  rw [← hq] at HNF
  simp only [← hq] at H4
  clear hq
  go_enter Tryd.func3, Tryd.ntmps3
  go_wp2_with fail
  refine (H4k.out _ HB0.out).mono ?_
  rintro e w1 ⟨rfl, hb1⟩
  have HB1 : Hid (Below w.heap.size w w1) := below_trans HB0.out hb1
  have c1 := cell_on hb1 c0
  clear hb1 c0 HB0
  go_wp2_with fail
  refine (H6a.out _ HB1.out).mono ?_
  rintro e w2 ⟨rfl, hb2⟩
  have HB2 : Hid (Below w.heap.size w w2) := below_trans HB1.out hb2
  have c2 := cell_on hb2 c1
  clear hb2 c1 HB1
  go_wp2_with fail
  refine (H6b.out _ HB2.out).mono ?_
  rintro e w3 ⟨rfl, hb3⟩
  have HB3 : Hid (Below w.heap.size w w3) := below_trans HB2.out hb3
  have c3 := cell_on hb3 c2
  clear hb3 c2 HB2
  go_wp2_with fail
  refine (H4m.out _ HB3.out).mono ?_
  rintro e w4 ⟨rfl, hb4⟩
  have HB4 : Hid (Below w.heap.size w w4) := below_trans HB3.out hb4
  have c4 := cell_on hb4 c3
  clear hb4 c3 HB3
  go_wp2_with fail
  have HD4 : Hid (Below w.heap.size w w4) := HB4
  have a4 := cell_on (on_alloc w4 (.cells #[] 59)) c4
  have HA5 : Hid (Below w4.heap.size w4 (w4.alloc (.cells #[] 59)).drew) := (on_alloc w4 (.cells #[] 59)).drew
  have HO5 : Hid ((w4.alloc (.cells #[] 59)).drew.ownsRow w4.heap.size 59 2 (.slice (some ⟨w4.heap.size, 0, none⟩) 0 0) 0 []) := cat_made w4
  have HL5 : Hid (Below w.heap.size w (w4.alloc (.cells #[] 59)).drew) := below_trans HD4.out HA5.out
  have HS5 : Hid (w4.heap.size ≤ (w4.alloc (.cells #[] 59)).drew.heap.size) := HA5.out.size
  go_cut [17, 18] (fun s t wx => s = .bool mb ∧ t = .int .i64 0 ∧ wx.cell? ⟨w.heap.size, 0, none⟩ = some (.slice (some ⟨b, o, none⟩) ns.length cv) ∧ Hid (Below w.heap.size w wx))
  case first =>
    go_region_law (first | (refine step_cat (by rfl) (.tmp 85) (.tmp 86) (by rfl) w4.heap.size w4.heap.size 0 0 [] (by go_simp) HO5.out al cl l (by go_simp) w HAL.out HL5.out hsz1 HS5.out ?_; intro g5 c5 w5 ys5 hpv5 hln5 hown5 hb5; have hbb5 : Below w4.heap.size w4 w5 := HA5.out.trans hb5; have a5 := cell_on hbb5 c4) | (refine step_cat (by rfl) (.tmp 87) (.tmp 88) (by rfl) w4.heap.size g5 (0 + l.length) c5 ([] ++ ys5) (by go_simp) hown5 am cm m (by go_simp) w HAM.out (below_trans HD4.out hbb5) hsz2 hbb5.size ?_; intro g6 c6 w6 ys6 hpv6 hln6 hown6 hb6; have hbb6 : Below w4.heap.size w4 w6 := hbb5.trans hb6; have a6 := cell_on hbb6 c4) | (go_simp; go_at_call 4; refine (H4b.out _ _ ?_ ?_).mono ?_; exact below_trans HD4.out hbb6; exact cat_a3 hpv5 hpv6 hown6 hln5 (below_trans HD4.out hbb6); rintro e w7 ⟨rfl, hb7⟩))
    all_goals
      have HB7 : Hid (Below w.heap.size w w7) := below_trans (below_trans HD4.out hbb6) hb7
      have a7 := cell_on hb7 a6
      clear hb7 hpv5 hpv6 hown5 hown6 hb5 hb6 hbb5 hbb6 a5 a6
      go_wp2_with fail
      go_meet
      exact ⟨rfl, rfl, a7, HB7⟩
  case rest =>
    obtain ⟨rfl, rfl, c5, HB5⟩ := hcut
    clear a4 c4 HA5 HO5 HL5 HS5 HD4 HB4
    go_wp2_with fail
    refine (H7.out _ HB5.out).mono ?_
    rintro e w6 ⟨ax, cx, rfl, hx, hb6⟩
    have HB6 : Hid (Below w.heap.size w w6) := below_trans HB5.out hb6
    have c6 := cell_on hb6 c5
    have HX6 : Hid (IntsAt w6 (.slice ax aL.length cx) (aL.map fun (k : Nat) => (k : Int))) := hx
    clear hx hb6 c5 HB5
    go_wp2_with fail
    go_loopw [21, 22] (fun t i wr => ∃ j : Nat, j ≤ aL.length ∧ i = .int .i64 j ∧ t = .bool (thB aL k j) ∧ wr = w6) (fun _ i _ => aL.length - (intOf i).toNat)
    case atStart => exact ⟨0, Nat.zero_le _, rfl, rfl, rfl⟩
    case round =>
      obtain ⟨j, hj, rfl, rfl, rfl⟩ := hrel
      by_cases hlt : j < aL.length
      · have HNX : Hid (thB aL k (j + 1) = (thB aL k j || ((aL[j] : Int) == (k : Int)))) := thB_next hlt
        obtain ⟨b2, o2, rfl, m0⟩ := ints_at HX6.out hlt
        have i1 : (0 : Int) ≤ (j : Int) := by omega
        have i2 : (j : Int) < (aL.length : Int) := by omega
        generalize (aL[j] : Int) = y at *
        cases hth : thB aL k j with
        | true =>
          have HN : Hid (thB aL k (j + 1) = true) := by
                unfold Hid
                rw [HNX.out, hth]
                rfl
          clear hth
          go_wp2
          exact ⟨⟨j + 1, by omega, by go_num, by rw [HN.out], by first | rfl | trivial⟩, by simp [intOf]; omega⟩
        | false =>
          by_cases he : y = (k : Int)
          · have HN : Hid (thB aL k (j + 1) = true) := by
                  unfold Hid
                  rw [HNX.out, hth, he]
                  simp
            subst he
            clear hth
            go_wp2
            exact ⟨⟨j + 1, by omega, by go_num, by rw [HN.out], by first | rfl | trivial⟩, by simp [intOf]; omega⟩
          · have HN : Hid (thB aL k (j + 1) = false) := by
                  unfold Hid
                  rw [HNX.out, hth]
                  simpa using he
            have heb : (y == (k : Int)) = false := by simpa using he
            clear hth he
            go_wp2
            exact ⟨⟨j + 1, by omega, by go_num, by rw [HN.out], by first | rfl | trivial⟩, by simp [intOf]; omega⟩
      · have hjl : j = aL.length := by omega
        have hth : thB aL k j = false := by
              rw [hjl]
              unfold thB
              rw [List.take_length]
              exact HTH.out
        rw [hth]
        clear hjl hth HTH
        go_wp2_with fail
        cases NA with
        | none =>
          refine (H8.out _ HB6.out).mono ?_
          rintro e w7 ⟨rfl, hb7⟩
          have HB7 : Hid (Below w.heap.size w w7) := below_trans HB6.out hb7
          have HC7 : Hid (w7.cell? ⟨w.heap.size, 0, none⟩ = some (.slice (some ⟨b, o, none⟩) ns.length cv)) := cell_on hb7 c6
          clear hb7 c6 HB6 HX6
          go_wp2_with fail
          go_loopw [26] (fun i wr => ∃ (u : Int) (f : Nat), i = .int .i64 u ∧ -1 ≤ u ∧ u < ns.length ∧ Hid ((upL ns f u).find? q = none) ∧ Hid (u + 1 ≤ f) ∧ Hid (Below w.heap.size w wr) ∧ Hid (wr.cell? ⟨w.heap.size, 0, none⟩ = some (.slice (some ⟨b, o, none⟩) ns.length cv))) (fun i _ => (intOf i + 1).toNat)
          case atStart => exact ⟨k, k + 2, rfl, by omega, by omega, HNF.out.symm, by unfold Hid; omega, HB7, HC7⟩
          case round =>
            obtain ⟨u, f, rfl, hu1, hu2, HF, Hf, HBR, HCR⟩ := hrel
            clear HB7 HC7 HNF
            by_cases hu : 0 ≤ u
            · obtain ⟨j, rfl⟩ := Int.eq_ofNat_of_zero_le hu
              obtain ⟨f, rfl⟩ : ∃ f', f = f' + 1 := ⟨f - 1, by have := Hf.out; omega⟩
              have hj : j < ns.length := by omega
              have HUL : Hid (upL ns (f + 1) (j : Int) = j :: upL ns f (Pl.upOf ns j)) := by
                    unfold Hid
                    rw [upL, if_neg (by omega), Int.toNat_natCast]
              have hqj : q j = false := by
                    have h1 := HF.out
                    rw [HUL.out, List.find?_cons] at h1
                    cases hb : q j with
                    | true => rw [hb] at h1; cases h1
                    | false => rfl
              have HNX : Hid ((upL ns f (Pl.upOf ns j)).find? q = none) := by
                    have h1 := HF.out
                    rw [HUL.out, List.find?_cons, hqj] at h1
                    exact h1
              have H4j := H4.out _ HBR.out j hj
              rw [hqj] at H4j
              have HLM : Hid (-1 ≤ Pl.upOf ns j ∧ Pl.upOf ns j < j) := HLOW.out j hj
              have H4j2 : Hid (Calls Tryd.prog 4 _ _ _) := H4j
              have cR := HCR.out
              clear hqj H4j
              go_wp2_with fail
              refine H4j2.out.mono ?_
              rintro e w8 ⟨rfl, hb8⟩
              have HB8 : Hid (Below w.heap.size w w8) := below_trans HBR.out hb8
              have c8 := cell_on hb8 cR
              have HC8 : Hid (w8.cell? ⟨w.heap.size, 0, none⟩ = some (.slice (some ⟨b, o, none⟩) ns.length cv)) := c8
              have u8 := HUP.out _ HB8.out j hj
              have i1 : (0 : Int) ≤ (j : Int) := by omega
              have i2 : (j : Int) < (ns.length : Int) := by omega
              clear hb8 cR
              generalize Pl.upOf ns j = uu at *
              go_wp2
              exact ⟨⟨uu, f, rfl, HLM.out.1, by have := HLM.out.2; omega, HNX, by have := Hf.out; have := HLM.out.2; unfold Hid; omega, HB8, HC8⟩, by have := HLM.out.2; simp [intOf]; omega⟩
            · clear HF
              go_wp2_with fail
              refine (H5.out _ HBR.out).mono ?_
              rintro e w9 ⟨rfl, hb9⟩
              have HB9 : Hid (Below w.heap.size w w9) := below_trans HBR.out hb9
              clear hb9
              go_wp2
              go_ret
              exact ⟨rfl, HB9.out⟩
        | some y =>
          refine (H8.out _ HB6.out).mono ?_
          rintro e w7 ⟨rfl, hb7⟩
          have HB7 : Hid (Below w.heap.size w w7) := below_trans HB6.out hb7
          have HC7 : Hid (w7.cell? ⟨w.heap.size, 0, none⟩ = some (.slice (some ⟨b, o, none⟩) ns.length cv)) := cell_on hb7 c6
          clear hb7 c6 HB6 HX6
          go_wp2_with fail
          go_loopw [26] (fun i wr => ∃ (u : Int) (f : Nat), i = .int .i64 u ∧ -1 ≤ u ∧ u < ns.length ∧ Hid ((upL ns f u).find? q = some y) ∧ Hid (u + 1 ≤ f) ∧ Hid (Below w.heap.size w wr) ∧ Hid (wr.cell? ⟨w.heap.size, 0, none⟩ = some (.slice (some ⟨b, o, none⟩) ns.length cv))) (fun i _ => (intOf i + 1).toNat)
          case atStart => exact ⟨k, k + 2, rfl, by omega, by omega, HNF.out.symm, by unfold Hid; omega, HB7, HC7⟩
          case round =>
            obtain ⟨u, f, rfl, hu1, hu2, HF, Hf, HBR, HCR⟩ := hrel
            clear HB7 HC7 HNF
            by_cases hu : 0 ≤ u
            · obtain ⟨j, rfl⟩ := Int.eq_ofNat_of_zero_le hu
              obtain ⟨f, rfl⟩ : ∃ f', f = f' + 1 := ⟨f - 1, by have := Hf.out; omega⟩
              have hj : j < ns.length := by omega
              have HUL : Hid (upL ns (f + 1) (j : Int) = j :: upL ns f (Pl.upOf ns j)) := by
                    unfold Hid
                    rw [upL, if_neg (by omega), Int.toNat_natCast]
              by_cases hjy : j = y
              · subst hjy
                clear HUL HF
                go_wp2_with fail
                refine (H5.out _ HBR.out).mono ?_
                rintro e w9 ⟨rfl, hb9⟩
                have HB9 : Hid (Below w.heap.size w w9) := below_trans HBR.out hb9
                clear hb9
                go_wp2
                go_ret
                exact ⟨rfl, HB9.out⟩
              · have hjb : ((j : Int) == (y : Int)) = false := by simp; omega
                have hjn : ¬ (j : Int) = (y : Int) := by omega
                have hqj : q j = false := by
                      have h1 := HF.out
                      rw [HUL.out, List.find?_cons] at h1
                      cases hb : q j with
                      | true => rw [hb] at h1; injection h1 with h1; exact absurd h1 hjy
                      | false => rfl
                have HNX : Hid ((upL ns f (Pl.upOf ns j)).find? q = some y) := by
                      have h1 := HF.out
                      rw [HUL.out, List.find?_cons, hqj] at h1
                      exact h1
                have H4j := H4.out _ HBR.out j hj
                rw [hqj] at H4j
                have HLM : Hid (-1 ≤ Pl.upOf ns j ∧ Pl.upOf ns j < j) := HLOW.out j hj
                have H4j2 : Hid (Calls Tryd.prog 4 _ _ _) := H4j
                have cR := HCR.out
                clear hqj H4j
                go_wp2_with fail
                refine H4j2.out.mono ?_
                rintro e w8 ⟨rfl, hb8⟩
                have HB8 : Hid (Below w.heap.size w w8) := below_trans HBR.out hb8
                have c8 := cell_on hb8 cR
                have HC8 : Hid (w8.cell? ⟨w.heap.size, 0, none⟩ = some (.slice (some ⟨b, o, none⟩) ns.length cv)) := c8
                have u8 := HUP.out _ HB8.out j hj
                have i1 : (0 : Int) ≤ (j : Int) := by omega
                have i2 : (j : Int) < (ns.length : Int) := by omega
                clear hb8 cR
                generalize Pl.upOf ns j = uu at *
                go_wp2
                exact ⟨⟨uu, f, rfl, HLM.out.1, by have := HLM.out.2; omega, HNX, by have := Hf.out; have := HLM.out.2; unfold Hid; omega, HB8, HC8⟩, by have := HLM.out.2; simp [intOf]; omega⟩
            · clear HF
              go_wp2_with fail
              refine (H5.out _ HBR.out).mono ?_
              rintro e w9 ⟨rfl, hb9⟩
              have HB9 : Hid (Below w.heap.size w w9) := below_trans HBR.out hb9
              clear hb9
              go_wp2
              go_ret
              exact ⟨rfl, HB9.out⟩
end Go.Proofs.YtagobgjlhdbhmaaDoor
