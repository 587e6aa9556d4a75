/-
  PlainSame, walked: what matched matches, no list becomes greater, what is plain stays.
-/
import Derived.Test.YtephhllfodlfbaaGreatDoorMbD
import Derived.Test.YtephhllfodlfbaaGreatDoorPsA
import Derived.Test.YtephhllfodlfbaaGreatDoorPsB
import Derived.Test.YtephhllfodlfbaaGreatDoorBgA
namespace Go.Proofs.YtephhllfodlfbaaGreatDoor
open Go.RowKit

theorem sub3 : IsSub A3 := isSub_up (isSub_up (isSub_up isSub_z))
/-- what All answers, as cells -/
theorem psAll (ms : List Pl.Nd) (l : List Pl.D3) (v u : Value) (W : World) (hd : DocAt W v ms) (hl : A3 W u l) (hL : Laid W) (ks : List Nat) (er : Int) (hk : allA ms l = ks) (he : chkBoth ms l = er) : Calls Tryz.prog 12 #[.agg #[v], u] W fun e w' => ∃ a c, e = .returned (.tuple #[.slice a ks.length c, .int .i64 er]) ∧ IntsAt w' (.slice a ks.length c) (ks.map fun (k : Nat) => (k : Int)) ∧ Below W.heap.size W w' := by
  subst hk he
  refine (all_call v u ms l W hd hl hL.forms hL.glob).mono ?_
  rintro e w' ⟨x, rfl, hx, hb⟩
  have h1 := hx.ints
  obtain ⟨a, c, rfl, -⟩ := id hx
  exact ⟨a, c, rfl, h1, hb⟩
theorem psPlain (l m : List Pl.D3) (u : Value) (W : World) (hl : A3 W u l) (hL : Laid W) (er : Int) (hm : plainOfL l = m) (he : chkList l = er) : Calls Tryz.prog 15 #[u] W fun e w' => ∃ a c, e = .returned (.tuple #[.slice a m.length c, .int .i64 er]) ∧ A3 w' (.slice a m.length c) m ∧ Below W.heap.size W w' := by
  subst hm he
  refine (plainPlain_any W u l hl hL.forms).mono ?_
  rintro e w' ⟨a, c, rfl, h, hb⟩
  exact ⟨a, c, rfl, sub3.sub h (incl_real _ _), hb⟩
theorem psOnce (l m : List Pl.D3) (u : Value) (W : World) (hl : A3 W u l) (hL : Laid W) (er : Int) (hm : onceOfL l = m) (he : chkList l = er) : Calls Tryz.prog 17 #[u] W fun e w' => ∃ a c, e = .returned (.tuple #[.slice a m.length c, .int .i64 er]) ∧ A3 w' (.slice a m.length c) m ∧ Below W.heap.size W w' := by
  subst hm he
  refine (plainOnce_any W u l hl hL.forms).mono ?_
  rintro e w' ⟨a, c, rfl, h, hb⟩
  exact ⟨a, c, rfl, sub3.sub h (incl_real _ _), hb⟩
theorem psSize (l : List Pl.D3) (n : Nat) (u : Value) (W : World) (hl : A3 W u l) (hL : Laid W) (er : Int) (hm : sizeOfL l = n) (he : chkList l = er) : Calls Tryz.prog 18 #[u] W fun e w' => e = .returned (.tuple #[.int .i64 n, .int .i64 er]) ∧ Below W.heap.size W w' := by
  subst hm he
  exact plainSize_any W u l hl hL.forms
set_option maxRecDepth 100000 in
set_option maxHeartbeats 8000000 in
theorem psame_bad (v u : Value) (ns : List Pl.Nd) (l : List Pl.D3) (w : World) (hv : DocAt w v ns) (hl : A3 w u l) (hL : Laid w) (h0 : ¬ chkList l = 0) : Calls Tryz.prog 4 #[.agg #[v], u] w fun e w' => e = .returned (.bool true) ∧ Below w.heap.size w w' := by
  obtain ⟨av, cv, rfl, -⟩ := id hv.1
  obtain ⟨al, cl, rfl, -⟩ := isL_3.form hl
  have hb := on_alloc w (.cells #[.slice av ns.length cv] 24)
  have HC : Hid (Calls Tryz.prog 15 _ _ _) := psPlain l [] _ _ (isL_3.on hl hb) (hL.on hb) (chkList l) (by unfold plainOfL; rw [if_neg h0]) rfl
  have HL : Hid (Laid w) := hL
  have HB : Hid (Below w.heap.size w (w.alloc (.cells #[.slice av ns.length cv] 24))) := hb
  have hne : (chkList l != 0) = true := by simpa using h0
  generalize chkList l = er at *
  clear hv hl hL h0 hb
  go_enter Tryz.func4, Tryz.ntmps4
  go_wp2_with fail
  refine HC.out.mono ?_
  rintro e w1 ⟨a1, c1, rfl, -, hb1⟩
  have HB1 : Hid (Below w.heap.size w w1) := below_trans HB.out hb1
  have HP : Hid (Calls Tryz.prog 16 _ _ _) := plainBegun_any w1 (HL.out.on HB1.out).forms
  clear hb1 HC HB
  go_wp2_with fail
  refine HP.out.mono ?_
  rintro e w2 ⟨rfl, hb2⟩
  have HB2 : Hid (Below w.heap.size w w2) := below_trans HB1.out hb2
  clear hb2
  go_wp2
  go_ret
  exact ⟨rfl, HB2.out⟩
set_option maxRecDepth 100000 in
set_option maxHeartbeats 16000000 in
theorem psame_good (v u : Value) (ns : List Pl.Nd) (l m o : List Pl.D3) (n k : Nat) (ks : List Nat) (er : Int) (w : World) (hv : DocAt w v ns) (hl : A3 w u l) (hL : Laid w) (hc : chkList l = 0) (hPl : plainOfL l = m) (hOn : onceOfL l = o) (hSz : sizeOfL l = n) (hcm : chkList m = 0) (hSm : sizeOfL m = k) (hPm : plainOfL m = m) (hkn : k ≤ n) (hWm : Pl.L3.W m)
    (hk : ks.length ≤ 64) (hA : allA ns l = ks) (hA1 : allA ns m = ks) (hA2 : allA ns o = ks) (he : chkBoth ns l = er) (he1 : chkBoth ns m = er) (he2 : chkBoth ns o = er) : Calls Tryz.prog 4 #[.agg #[v], u] w fun e w' => e = .returned (.bool true) ∧ Below w.heap.size w w' := by
  obtain ⟨av, cv, rfl, -⟩ := id hv.1
  obtain ⟨al, cl, rfl, -⟩ := isL_3.form hl
  obtain ⟨wA, hwA⟩ : ∃ q, q = w.alloc (.cells #[.slice av ns.length cv] 24) := ⟨_, rfl⟩
  have HB : Hid (Below w.heap.size w wA) := by rw [hwA]; exact on_alloc w _
  have HD : Hid (DocAt wA (.slice av ns.length cv) ns) := hv.on HB.out
  have HLl : Hid (A3 wA (.slice al l.length cl) l) := isL_3.on hl HB.out
  have HL : Hid (Laid wA) := hL.on HB.out
  have HBX : Hid (wA.heap[w.heap.size]? = some (.cells #[.slice av ns.length cv] 24)) := by rw [hwA]; exact heap_alloc_new w _
  have HC : Hid (Calls Tryz.prog 15 _ _ _) := psPlain l m _ _ HLl.out HL.out 0 hPl hc
  have HPLM : Hid (plainOfL m = m) := hPm
  have HCL : Hid (chkList l = 0) := hc
  have HCM : Hid (chkList m = 0) := hcm
  have HON : Hid (onceOfL l = o) := hOn
  have HSZ : Hid (sizeOfL l = n) := hSz
  have HSM : Hid (sizeOfL m = k) := hSm
  have HKN : Hid (k ≤ n) := hkn
  have HWM : Hid (Pl.L3.W m) := hWm
  have HK : Hid (ks.length ≤ 64) := hk
  have HA : Hid (allA ns l = ks ∧ allA ns m = ks ∧ allA ns o = ks ∧ chkBoth ns l = er ∧ chkBoth ns m = er ∧ chkBoth ns o = er) := ⟨hA, hA1, hA2, he, he1, he2⟩
  clear hv hl hL hc hPl hOn hSz hcm hSm hPm hWm hk hA hA1 hA2 he he1 he2 hkn
  go_enter Tryz.func4, Tryz.ntmps4
  go_wp2_with fail
  rw [← hwA]
  clear hwA
  refine HC.out.mono ?_
  rintro e w1 ⟨am, cm, rfl, h1, hb1⟩
  have HM1 : Hid (A3 w1 (.slice am m.length cm) m) := h1
  have HB1 : Hid (Below wA.heap.size wA w1) := hb1
  have HC1 : Hid (Calls Tryz.prog 17 _ _ _) := psOnce l o _ w1 (isL_3.on HLl.out hb1) (HL.out.on hb1) 0 HON.out HCL.out
  clear h1 hb1 HC
  go_wp2_with fail
  refine HC1.out.mono ?_
  rintro e w2 ⟨ao, co, rfl, h2, hb2⟩
  have HO2 : Hid (A3 w2 (.slice ao o.length co) o) := h2
  have HM2 : Hid (A3 w2 (.slice am m.length cm) m) := isL_3.on HM1.out hb2
  have HB2 : Hid (Below wA.heap.size wA w2) := below_trans HB1.out hb2
  have HC2 : Hid (Calls Tryz.prog 18 _ _ _) := psSize l n _ w2 (isL_3.on HLl.out HB2.out) (HL.out.on HB2.out) 0 HSZ.out HCL.out
  clear h2 hb2 HC1 HM1 HB1
  go_wp2_with fail
  refine HC2.out.mono ?_
  rintro e w3 ⟨rfl, hb3⟩
  have HO3 : Hid (A3 w3 (.slice ao o.length co) o) := isL_3.on HO2.out hb3
  have HM3 : Hid (A3 w3 (.slice am m.length cm) m) := isL_3.on HM2.out hb3
  have HB3 : Hid (Below wA.heap.size wA w3) := below_trans HB2.out hb3
  have HC3 : Hid (Calls Tryz.prog 18 _ _ _) := psSize m k _ w3 HM3.out (HL.out.on HB3.out) 0 HSM.out HCM.out
  clear hb3 HC2 HM2 HB2 HO2
  go_wp2_with fail
  refine HC3.out.mono ?_
  rintro e w4 ⟨rfl, hb4⟩
  have HO4 : Hid (A3 w4 (.slice ao o.length co) o) := isL_3.on HO3.out hb4
  have HM4 : Hid (A3 w4 (.slice am m.length cm) m) := isL_3.on HM3.out hb4
  have HB4 : Hid (Below wA.heap.size wA w4) := below_trans HB3.out hb4
  have HC4 : Hid (Calls Tryz.prog 15 _ _ _) := psPlain m m _ w4 HM4.out (HL.out.on HB4.out) 0 HPLM.out HCM.out
  clear hb4 HC3 HM3 HB3 HO3
  go_wp2_with fail
  refine HC4.out.mono ?_
  rintro e w5 ⟨ag, cg, rfl, h5, hb5⟩
  have HO5 : Hid (A3 w5 (.slice ao o.length co) o) := isL_3.on HO4.out hb5
  have HM5 : Hid (A3 w5 (.slice am m.length cm) m) := isL_3.on HM4.out hb5
  have HB5 : Hid (Below wA.heap.size wA w5) := below_trans HB4.out hb5
  have HC5 : Hid (Calls Tryz.prog 19 _ _ _) := dSameL_3 w5 _ _ m m h5 HM5.out HWM.out HWM.out
  have hs1 : sm m m = true := by unfold sm; simp
  rw [hs1] at HC5
  have hgt : decide ((n : Int) < (k : Int)) = false := decide_eq_false (by have := HKN.out; omega)
  clear h5 hb5 HC4 HM4 HB4 HO4 hs1
  go_wp2_with fail
  refine HC5.out.mono ?_
  rintro e w6 ⟨rfl, hb6⟩
  have HO6 : Hid (A3 w6 (.slice ao o.length co) o) := isL_3.on HO5.out hb6
  have HM6 : Hid (A3 w6 (.slice am m.length cm) m) := isL_3.on HM5.out hb6
  have HB6 : Hid (Below wA.heap.size wA w6) := below_trans HB5.out hb6
  have HC6 : Hid (Calls Tryz.prog 12 _ _ _) := psAll ns l _ _ w6 (HD.out.on HB6.out) (isL_3.on HLl.out HB6.out) (HL.out.on HB6.out) ks er HA.out.1 HA.out.2.2.2.1
  have x6 : w6.cell? ⟨w.heap.size, 0, none⟩ = some (.slice av ns.length cv) := by simp [World.cell?, hblk HBX.out HB6.out]
  clear hb6 HC5 HM5 HB5 HO5
  go_wp2_with fail
  refine HC6.out.mono ?_
  rintro e w7 ⟨a7, c7, rfl, h7, hb7⟩
  have HI7 : Hid (IntsAt w7 (.slice a7 ks.length c7) (ks.map fun (k : Nat) => (k : Int))) := h7
  have HO7 : Hid (A3 w7 (.slice ao o.length co) o) := isL_3.on HO6.out hb7
  have HB7 : Hid (Below wA.heap.size wA w7) := below_trans HB6.out hb7
  have HC7 : Hid (Calls Tryz.prog 12 _ _ _) := psAll ns m _ _ w7 (HD.out.on HB7.out) (isL_3.on HM6.out hb7) (HL.out.on HB7.out) ks er HA.out.2.1 HA.out.2.2.2.2.1
  have x7 : w7.cell? ⟨w.heap.size, 0, none⟩ = some (.slice av ns.length cv) := by simp [World.cell?, hblk HBX.out HB7.out]
  clear h7 hb7 HC6 HM6 HB6 HO6 x6
  go_wp2_with fail
  refine HC7.out.mono ?_
  rintro e w8 ⟨a8, c8, rfl, h8, hb8⟩
  have HI8 : Hid (IntsAt w8 (.slice a7 ks.length c7) (ks.map fun (k : Nat) => (k : Int))) := HI7.out.on hb8
  have HJ8 : Hid (IntsAt w8 (.slice a8 ks.length c8) (ks.map fun (k : Nat) => (k : Int))) := h8
  have HB8 : Hid (Below wA.heap.size wA w8) := below_trans HB7.out hb8
  have HC8 : Hid (Calls Tryz.prog 12 _ _ _) := psAll ns o _ _ w8 (HD.out.on HB8.out) (isL_3.on HO7.out hb8) (HL.out.on HB8.out) ks er HA.out.2.2.1 HA.out.2.2.2.2.2
  have x8 : w8.cell? ⟨w.heap.size, 0, none⟩ = some (.slice av ns.length cv) := by simp [World.cell?, hblk HBX.out HB8.out]
  clear h8 hb8 HC7 HB7 HO7 x7 HI7
  go_wp2_with fail
  refine HC8.out.mono ?_
  rintro e w9 ⟨a9, c9, rfl, h9, hb9⟩
  have HB9 : Hid (Below wA.heap.size wA w9) := below_trans HB8.out hb9
  have HI9 : Hid (IntsAt w9 (.slice a7 ks.length c7) (ks.map fun (k : Nat) => (k : Int))) := HI8.out.on hb9
  have HJ9 : Hid (IntsAt w9 (.slice a8 ks.length c8) (ks.map fun (k : Nat) => (k : Int))) := HJ8.out.on hb9
  have HK9 : Hid (IntsAt w9 (.slice a9 ks.length c9) (ks.map fun (k : Nat) => (k : Int))) := h9
  have HP : Hid (Calls Tryz.prog 16 _ _ _) := plainBegun_any w9 (HL.out.on HB9.out).forms
  clear h9 hb9 HC8 HB8 x8 HI8 HJ8
  go_wp2_with fail
  refine HP.out.mono ?_
  rintro e w10 ⟨rfl, hb10⟩
  have HB10 : Hid (Below wA.heap.size wA w10) := below_trans HB9.out hb10
  have HI10 : Hid (IntsAt w10 (.slice a7 ks.length c7) (ks.map fun (k : Nat) => (k : Int))) := HI9.out.on hb10
  have HJ10 : Hid (IntsAt w10 (.slice a8 ks.length c8) (ks.map fun (k : Nat) => (k : Int))) := HJ9.out.on hb10
  have HK10 : Hid (IntsAt w10 (.slice a9 ks.length c9) (ks.map fun (k : Nat) => (k : Int))) := HK9.out.on hb10
  have HCa : Hid (Calls Tryz.prog 13 _ _ _) := sameInts_eq _ _ _ w10 (by rw [List.length_map]; exact HK.out) HI10.out HJ10.out
  clear hb10 HP HB9 HI9 HJ9 HK9
  go_wp2_with fail
  refine HCa.out.mono ?_
  rintro e w11 ⟨rfl, hb11⟩
  have HB11 : Hid (Below wA.heap.size wA w11) := below_trans HB10.out hb11
  have HCb : Hid (Calls Tryz.prog 13 _ _ _) := sameInts_eq _ _ _ w11 (by rw [List.length_map]; exact HK.out) (HI10.out.on hb11) (HK10.out.on hb11)
  clear hb11 HCa HB10 HI10 HJ10 HK10
  go_wp2_with fail
  refine HCb.out.mono ?_
  rintro e w12 ⟨rfl, hb12⟩
  have HB12 : Hid (Below w.heap.size w w12) := below_trans HB.out (below_trans HB11.out hb12)
  clear hb12 HCb HB11
  go_wp2
  go_ret
  exact ⟨rfl, HB12.out⟩
theorem psame_law (v u : Value) (ns : List Pl.Nd) (l : List Pl.D3) (w : World) (hv : DocAt w v ns) (hl : A3 w u l) (hL : Laid w) : Calls Tryz.prog 4 #[.agg #[v], u] w fun e w' => e = .returned (.bool true) ∧ Below w.heap.size w w' := by
  by_cases h0 : chkList l = 0
  · have hw : Pl.W3 l := W3_of h0
    obtain ⟨f1, f2, f3⟩ := Pl.plain_fix _ l hw (Nat.le_refl _)
    have hcm : chkList (Pl.plain3 l) = 0 := Pl.plain_right h0
    have hco : chkList (Pl.once3 l) = 0 := Pl.once_right h0
    have em : ∀ k : List Pl.D3, chkList k = 0 → m3 ns k = m3 ns l → chkBoth ns k = chkBoth ns l ∧ allA ns k = allA ns l := fun k hk hm => by
      have e : chkBoth ns k = chkBoth ns l := by unfold chkBoth; rw [hk, h0]
      refine ⟨e, ?_⟩
      unfold allA
      rw [e, hm]
    obtain ⟨a1, a2⟩ := em _ hcm (funext fun n => Pl.plain_m hw n)
    obtain ⟨b1, b2⟩ := em _ hco (funext fun n => Pl.once_m hw n)
    exact psame_good v u ns l (Pl.plain3 l) (Pl.once3 l) (Pl.size3 l) (Pl.size3 (Pl.plain3 l)) (allA ns l) (chkBoth ns l) w hv hl hL h0 (by unfold plainOfL; rw [if_pos h0]) (by unfold onceOfL; rw [if_pos h0]) (by unfold sizeOfL; rw [if_pos h0]) hcm (by unfold sizeOfL; rw [if_pos hcm]) (by unfold plainOfL; rw [if_pos hcm]; exact Pl.plain_stays f1) f3 f2 (by have := allA_len ns l; simpa using this) rfl a2 b2 rfl a1 b1
  · exact psame_bad v u ns l w hv hl hL h0
end Go.Proofs.YtephhllfodlfbaaGreatDoor
