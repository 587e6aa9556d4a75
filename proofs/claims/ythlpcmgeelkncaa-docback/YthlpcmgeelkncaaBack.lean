/-
  The law of the two ways back, walked.
-/
import Derived.Test.YthlpcmgeelkncaaTrer
import Derived.Test.YthlpcmgeelkncaaBegun
import Derived.Test.YthlpcmgeelkncaaBox
namespace Go.Proofs.Ythlpcmgeelkncaa
open Go.RowKit

set_option maxRecDepth 100000 in
set_option maxHeartbeats 8000000 in
theorem docBack_any (v v2 : Value) (ns es : List Pl.Nd) (up at_ n : Int) (w : World) (hd : DocAt w v ns) (hd2 : DocAt w v2 es) :
    Calls Try.prog 6 #[.agg #[v], .int .i64 up, .int .i64 at_, .agg #[v2], .int .i64 n] w fun e w' => e = .returned (.bool true) ∧ Below w.heap.size w w' := by
  obtain ⟨a, cap, rfl⟩ := hd.form
  obtain ⟨a2, cap2, rfl⟩ := hd2.form
  have hB := boxes w (.cells #[.slice a ns.length cap] 24) (.cells #[.slice a2 es.length cap2] 24)
  have D1 : Hid _ := DocAt.on hd hB
  have D2 : Hid _ := DocAt.on hd2 hB
  have c5 : ((w.alloc (.cells #[.slice a ns.length cap] 24)).alloc (.cells #[.slice a2 es.length cap2] 24)).cell? ⟨w.heap.size, 0, none⟩ = some (.slice a ns.length cap) := by simp [go_sem]
  have c8 : ((w.alloc (.cells #[.slice a ns.length cap] 24)).alloc (.cells #[.slice a2 es.length cap2] 24)).cell? ⟨w.heap.size + 1, 0, none⟩ = some (.slice a2 es.length cap2) := by simp [go_sem]
  clear hd hd2
  go_enter Try.func6, Try.ntmps6
  go_wp2_with fail
  generalize (w.alloc (.cells #[.slice a ns.length cap] 24)).alloc (.cells #[.slice a2 es.length cap2] 24) = w0 at *
  refine (insert_any _ _ ns es up at_ _ D1.out D2.out).mono ?_
  rintro e w1 ⟨vx, rfl, dx, h1⟩
  obtain ⟨ax, cx, rfl⟩ := dx.form
  have h2 := below_trans h1 (on_alloc w1 (.cells #[.slice ax (insOf ns up at_ es).length cx] 24))
  have DX : Hid _ := DocAt.on dx (on_alloc w1 (.cells #[.slice ax (insOf ns up at_ es).length cx] 24))
  replace D1 : Hid _ := DocAt.on D1.out h2
  replace D2 : Hid _ := DocAt.on D2.out h2
  replace c5 := cell_on h2 c5
  replace c8 := cell_on h2 c8
  replace hB := below_trans hB h2
  clear h1 h2 dx
  by_cases hz : insErr ns up at_ es = 0
  case' pos =>
    obtain ⟨j, P, rfl, k1, k2, k3, k4, k5, k6, k7⟩ := ins_back hz
    rw [hz]
    have p11 : (w1.alloc (.cells #[.slice ax (insOf ns up j es).length cx] 24)).cell? ⟨w1.heap.size, 0, none⟩ = some (.slice ax (insOf ns up j es).length cx) := by simp [go_sem]
    go_wp2_with fail
    generalize w1.alloc (.cells #[.slice ax (insOf ns up j es).length cx] 24) = w2 at *
    generalize insOf ns up j es = X at *
    refine (kids_any _ X _ _ DX.out).mono ?_
    rintro e w3 ⟨vl, rfl, il, h1⟩
    rw [k2]
    obtain ⟨al, cl, rfl, hil⟩ := il
    rw [List.length_map] at *
    replace D1 : Hid _ := DocAt.on D1.out h1
    replace D2 : Hid _ := DocAt.on D2.out h1
    replace DX : Hid _ := DocAt.on DX.out h1
    replace c5 := cell_on h1 c5
    replace c8 := cell_on h1 c8
    replace p11 := cell_on h1 p11
    replace hB := below_trans hB h1
    clear h1
    obtain ⟨hj, hjv⟩ := List.getElem?_eq_some_iff.1 k3
    obtain ⟨bl, ol, rfl, lc⟩ : ∃ bl ol, al = some ⟨bl, ol, none⟩ ∧ w3.cell? ⟨bl, ol + j, none⟩ = some (.int .i64 P) := by
      rcases hil with h0 | ⟨b, o, rfl, hc⟩
      · rw [List.map_eq_nil_iff] at h0; rw [h0] at hj; simp at hj
      · have := hc j (by simpa using hj)
        rw [List.getElem_map, hjv] at this
        exact ⟨b, o, rfl, this⟩
    clear hil k3 hjv
    go_wp2_with fail
    refine (check_any _ X _ DX.out.2.2 DX.out.1).mono ?_
    rintro e w4 ⟨rfl, h1⟩
    rw [k1]
    replace D1 : Hid _ := DocAt.on D1.out h1
    replace D2 : Hid _ := DocAt.on D2.out h1
    replace DX : Hid _ := DocAt.on DX.out h1
    replace c5 := cell_on h1 c5
    replace c8 := cell_on h1 c8
    replace p11 := cell_on h1 p11
    replace lc := cell_on h1 lc
    replace hB := below_trans hB h1
    clear h1
    have hkl : (kidsAns X up).length ≤ 64 := by
      unfold kidsAns
      rw [if_pos k2]
      have := (check_zero k1).2.1
      exact Nat.le_trans (Pl.kidsTo_len X up X.length) this
    have g1 : (j : Int) < ((kidsAns X up).length : Int) := by omega
    have g2 : (0 : Int) ≤ (j : Int) := by omega
    go_wp2_with fail
    have S0 : w4.drew.cell? ⟨w1.heap.size, 0, none⟩ = some (.slice ax X.length cx) ∧ w4.drew.cell? ⟨bl, ol + j, none⟩ = some (.int .i64 P) ∧ Below w4.heap.size w4 w4.drew := ⟨p11, lc, (Below.refl _ _).drew⟩
    have hlt0 : w1.heap.size < w4.heap.size := cell_lt p11
    have hlt1 : bl < w4.heap.size := cell_lt lc
    go_cut [15, 16] (fun s15 s16 wx => ∃ M, s15 = .pointer (some ⟨M, 0, none⟩) ∧ s16 = .int .i64 0 ∧ Hid (BoxAt wx M es) ∧ Hid (Below w4.heap.size w4 wx))
    case first =>
      clear p11 lc
      go_region_held3 (fun w' => w'.cell? ⟨w1.heap.size, 0, none⟩ = some (.slice ax X.length cx) ∧ w'.cell? ⟨bl, ol + j, none⟩ = some (.int .i64 P) ∧ Below w4.heap.size w4 w')
        (first | with_reducible assumption | exact duo_on (by with_reducible assumption) (by with_reducible assumption) | exact duo_on (by with_reducible assumption) (on_alloc _ _) | exact duo_set hlt0 hlt1 (by with_reducible assumption) | exact duo_re hlt0 hlt1 hw.size (by with_reducible assumption))
        (first | (go_at_call 11; refine (part_far _ X _ _ (DocAt.on DX.out (duo_last (by with_reducible assumption)))).mono ?_; rintro e w5 ⟨vp, rfl, dp, hw, far⟩; have ex := cell_all hw ⟨w4.heap.size, 0, none⟩; have fx := hw.frozen (p := ⟨w4.heap.size, 0, none⟩); (try simp [go_sem] at ex); (try simp [go_sem] at fx); rw [k4]; rw [k5] at dp; obtain ⟨ap, cp, rfl⟩ := dp.form))
      all_goals
        have hwx := duo_last (by with_reducible assumption)
        go_wp2_with fail
        go_meet
        first | exact ⟨_, rfl, rfl, BoxAt.new dp, hwx⟩ | exact ⟨_, rfl, rfl, ⟨ap, cp, World.cell?_setCell_same w5 _ _ ex, DocAt.set dp far (by simp) ex (by simp)⟩, hwx⟩
    case' rest =>
      clear S0 hlt0 hlt1
      obtain ⟨M1, rfl, rfl, B1, h1⟩ := hcut
      replace D1 : Hid _ := DocAt.on D1.out h1.out
      replace D2 : Hid _ := DocAt.on D2.out h1.out
      replace DX : Hid _ := DocAt.on DX.out h1.out
      replace c5 := cell_on h1.out c5
      replace c8 := cell_on h1.out c8
      replace p11 := cell_on h1.out p11
      replace lc := cell_on h1.out lc
      replace hB := below_trans hB h1.out
      clear h1
      go_wp2_with fail
      have S0 : wc.drew.cell? ⟨w1.heap.size, 0, none⟩ = some (.slice ax X.length cx) ∧ wc.drew.cell? ⟨bl, ol + j, none⟩ = some (.int .i64 P) ∧ Below wc.heap.size wc wc.drew := ⟨p11, lc, (Below.refl _ _).drew⟩
      have hlt0 : w1.heap.size < wc.heap.size := cell_lt p11
      have hlt1 : bl < wc.heap.size := cell_lt lc
      go_cut [17, 18] (fun s17 s18 wx => ∃ M, s17 = .pointer (some ⟨M, 0, none⟩) ∧ s18 = .int .i64 0 ∧ Hid (BoxAt wx M ns) ∧ Hid (Below wc.heap.size wc wx))
      case first =>
        clear p11 lc
        go_region_held3 (fun w' => w'.cell? ⟨w1.heap.size, 0, none⟩ = some (.slice ax X.length cx) ∧ w'.cell? ⟨bl, ol + j, none⟩ = some (.int .i64 P) ∧ Below wc.heap.size wc w')
          (first | with_reducible assumption | exact duo_on (by with_reducible assumption) (by with_reducible assumption) | exact duo_on (by with_reducible assumption) (on_alloc _ _) | exact duo_set hlt0 hlt1 (by with_reducible assumption) | exact duo_re hlt0 hlt1 hw.size (by with_reducible assumption))
          (first | (go_at_call 23; refine (remove_far _ X _ _ (DocAt.on DX.out (duo_last (by with_reducible assumption)))).mono ?_; rintro e w5 ⟨vp, rfl, dp, hw, far⟩; have ex := cell_all hw ⟨wc.heap.size, 0, none⟩; have fx := hw.frozen (p := ⟨wc.heap.size, 0, none⟩); (try simp [go_sem] at ex); (try simp [go_sem] at fx); rw [k6]; rw [k7] at dp; obtain ⟨ap, cp, rfl⟩ := dp.form))
        all_goals
          have hwx := duo_last (by with_reducible assumption)
          go_wp2_with fail
          go_meet
          first | exact ⟨_, rfl, rfl, BoxAt.new dp, hwx⟩ | exact ⟨_, rfl, rfl, ⟨ap, cp, World.cell?_setCell_same w5 _ _ ex, DocAt.set dp far (by simp) ex (by simp)⟩, hwx⟩
      case' rest =>
        clear S0 hlt0 hlt1
        obtain ⟨M2, rfl, rfl, B2, h1⟩ := hcut
        replace D1 : Hid _ := DocAt.on D1.out h1.out
        replace D2 : Hid _ := DocAt.on D2.out h1.out
        replace DX : Hid _ := DocAt.on DX.out h1.out
        replace c5 := cell_on h1.out c5
        replace c8 := cell_on h1.out c8
        replace p11 := cell_on h1.out p11
        replace lc := cell_on h1.out lc
        replace hB := below_trans hB h1.out
        replace B1 : Hid _ := BoxAt.on B1.out h1.out
        clear h1
        obtain ⟨y1, z1, q1, E1⟩ := B1.out
        obtain ⟨y2, z2, q2, E2⟩ := B2.out
        have E1 : Hid _ := E1
        have E2 : Hid _ := E2
        clear B1 B2
        go_wp2_with fail
        refine (sameDocs_eq _ _ es _ E1.out D2.out).mono ?_
        rintro e w6 ⟨rfl, h1⟩
        replace D1 : Hid _ := DocAt.on D1.out h1
        replace E2 : Hid _ := DocAt.on E2.out h1
        replace c5 := cell_on h1 c5
        replace q2 := cell_on h1 q2
        replace hB := below_trans hB h1
        clear h1 E1 q1 c8 p11 lc D2 DX
        go_wp2_with fail
        refine (sameDocs_eq _ _ ns _ E2.out D1.out).mono ?_
        rintro e w7 ⟨rfl, h1⟩
        replace D1 : Hid _ := DocAt.on D1.out h1
        replace c5 := cell_on h1 c5
        replace hB := below_trans hB h1
        clear h1 E2 q2 hkl g1 g2 hj k1 k2 k4 k5 k6 k7 hz
        go_wp2_with fail
  case' neg =>
    have hzb : (insErr ns up at_ es == 0) = false := by simpa using hz
    clear hz c8 D2 DX
    generalize insErr ns up at_ es = E at *
    go_wp2_with fail
  all_goals
    refine (part_any _ ns n _ D1.out).mono ?_
    rintro e t1 ⟨vp, rfl, dp, h1⟩
    obtain ⟨ap, cp, rfl⟩ := dp.form
    have h2 := below_trans h1 (on_alloc t1 (.cells #[.slice ap (partOf ns n).length cp] 24))
    have p19 : (t1.alloc (.cells #[.slice ap (partOf ns n).length cp] 24)).cell? ⟨t1.heap.size, 0, none⟩ = some (.slice ap (partOf ns n).length cp) := by simp [go_sem]
    have DP : Hid _ := DocAt.on dp (on_alloc t1 (.cells #[.slice ap (partOf ns n).length cp] 24))
    replace D1 : Hid _ := DocAt.on D1.out h2
    replace c5 := cell_on h2 c5
    replace hB := below_trans hB h2
    clear h1 h2 dp
    go_wp2_with fail
    generalize t1.alloc (.cells #[.slice ap (partOf ns n).length cp] 24) = t2 at *
    refine (remove_any _ ns n _ D1.out).mono ?_
    rintro e t3 ⟨vr, rfl, dr, h1⟩
    obtain ⟨ar, cr, rfl⟩ := dr.form
    have h2 := below_trans h1 (on_alloc t3 (.cells #[.slice ar (remOf ns n).length cr] 24))
    have p21 : (t3.alloc (.cells #[.slice ar (remOf ns n).length cr] 24)).cell? ⟨t3.heap.size, 0, none⟩ = some (.slice ar (remOf ns n).length cr) := by simp [go_sem]
    have DR : Hid _ := DocAt.on dr (on_alloc t3 (.cells #[.slice ar (remOf ns n).length cr] 24))
    replace D1 : Hid _ := DocAt.on D1.out h2
    replace DP : Hid _ := DocAt.on DP.out h2
    replace c5 := cell_on h2 c5
    replace p19 := cell_on h2 p19
    replace hB := below_trans hB h2
    clear h1 h2 dr
    by_cases hk : checkAtOf ns n = 0
    · by_cases hr : remErr ns n = 0
      · obtain ⟨N, u, rfl, hN, hu, hcu, hkid, hl64, hie, hio⟩ := rem_back hk hr
        rw [hk, hr]
        obtain ⟨a', cap', e', hc⟩ := id D1.out.1
        injection e' with e1 e2 e3
        subst e1 e3
        rcases hc with h0 | ⟨b, o, rfl, hc⟩
        · subst h0; simp at hN
        have upc := up_cell hc N hN
        rw [hu] at upc
        clear hc e2
        have i1 : (0 : Int) ≤ (N : Int) := by omega
        have i2 : (N : Int) < (ns.length : Int) := by omega
        go_wp2_with fail
        generalize t3.alloc (.cells #[.slice ar (remOf ns N).length cr] 24) = t5 at *
        refine (kids_any _ ns _ _ D1.out).mono ?_
        rintro e t6 ⟨vl, rfl, il, h1⟩
        rw [hcu]
        replace D1 : Hid _ := DocAt.on D1.out h1
        replace DP : Hid _ := DocAt.on DP.out h1
        replace DR : Hid _ := DocAt.on DR.out h1
        replace c5 := cell_on h1 c5
        replace p19 := cell_on h1 p19
        replace p21 := cell_on h1 p21
        replace hB := below_trans hB h1
        clear h1 upc
        have hka : kidsAns ns u = Pl.kidsOf ns u := by unfold kidsAns; rw [if_pos hcu]
        rw [hka] at il
        obtain ⟨al, cl, rfl, hil⟩ := il
        obtain ⟨hj, hjv⟩ := List.getElem?_eq_some_iff.1 hkid
        have hLl : (Pl.kidsOf ns u).length ≤ 64 := Nat.le_trans (Pl.kidsTo_len ns u ns.length) hl64
        obtain ⟨bl, ol, rfl, hlc⟩ : ∃ bl ol, al = some ⟨bl, ol, none⟩ ∧ ∀ i (h : i < (Pl.kidsOf ns u).length), t6.cell? ⟨bl, ol + i, none⟩ = some (.int .i64 ((Pl.kidsOf ns u)[i] : Nat)) := by
          rcases hil with h0 | ⟨b, o, rfl, hc⟩
          · rw [List.map_eq_nil_iff] at h0; rw [h0] at hj; simp at hj
          · refine ⟨b, o, rfl, fun i hi => ?_⟩
            have := hc i (by simpa using hi)
            rw [List.getElem_map] at this
            exact this
        rw [List.length_map]
        have hne : ∀ i (h : i < (Pl.kidsOf ns u).length), i < (Pl.kidsTo ns u N).length → (Pl.kidsOf ns u)[i] ≠ N := by
          intro i hi hip he
          have := kid_index (List.getElem?_eq_some_iff.2 ⟨hi, he⟩)
          omega
        generalize (Pl.kidsTo ns u N).length = Q at *
        have HIE : Hid _ := hie
        have HIO : Hid _ := hio
        have HIL : Hid _ := hlc
        have HNE : Hid _ := hne
        have HJV : Hid _ := hjv
        clear hie hio hil hlc hne hjv hkid hka hcu
        go_wp2
        go_loop [26] (fun i => ∃ k : Nat, k ≤ Q ∧ i = .int .i64 k) (fun i => Q - (intOf i).toNat)
        case atStart => exact ⟨0, Nat.zero_le _, rfl⟩
        case round =>
          obtain ⟨k, hkQ, rfl⟩ := hrel
          have lk := HIL.out k (by omega)
          have j1 : (0 : Int) ≤ (k : Int) := by omega
          have j2 : (k : Int) < ((Pl.kidsOf ns u).length : Int) := by omega
          by_cases hlt : k < Q
          · have hx := HNE.out k (by omega) hlt
            generalize (Pl.kidsOf ns u)[k] = y at *
            have hxb : ((y : Int) != (N : Int)) = true := by simp; omega
            go_wp2
            exact ⟨⟨k + 1, by omega, by go_num⟩, by simp [intOf]; omega⟩
          · have hkq : k = Q := by omega
            subst hkq
            rw [HJV.out] at lk
            go_wp2_with fail
            refine (insert_any _ _ (remOf ns N) (partOf ns N) _ _ _ DR.out DP.out).mono ?_
            rintro e t7 ⟨vz, rfl, dz, h1⟩
            rw [HIE.out]
            rw [HIO.out] at dz
            obtain ⟨az, cz, rfl⟩ := dz.form
            have h2 := below_trans h1 (on_alloc t7 (.cells #[.slice az ns.length cz] 24))
            have p27 : (t7.alloc (.cells #[.slice az ns.length cz] 24)).cell? ⟨t7.heap.size, 0, none⟩ = some (.slice az ns.length cz) := by simp [go_sem]
            have DZ : Hid _ := DocAt.on dz (on_alloc t7 (.cells #[.slice az ns.length cz] 24))
            replace D1 : Hid _ := DocAt.on D1.out h2
            replace c5 := cell_on h2 c5
            replace hB := below_trans hB h2
            clear h1 h2 dz DP DR p19 p21 lk
            go_wp2_with fail
            generalize t7.alloc (.cells #[.slice az ns.length cz] 24) = t8 at *
            refine (docBegun_any _).mono ?_
            rintro e t9 ⟨rfl, h1⟩
            replace D1 : Hid _ := DocAt.on D1.out h1
            replace DZ : Hid _ := DocAt.on DZ.out h1
            replace c5 := cell_on h1 c5
            replace p27 := cell_on h1 p27
            replace hB := below_trans hB h1
            clear h1
            go_wp2_with fail
            refine (sameDocs_eq _ _ ns _ DZ.out D1.out).mono ?_
            rintro e t10 ⟨rfl, h1⟩
            replace hB := below_trans hB h1
            clear h1 D1 DZ c5 p27
            go_wp2
            go_ret
            exact ⟨rfl, hB⟩
      · have hrb : (remErr ns n != 0) = true := by simpa using hr
        rw [hk]
        clear hr
        generalize remErr ns n = E2 at *
        go_wp2_with fail
        refine (docBegun_any _).mono ?_
        rintro e t4 ⟨rfl, h1⟩
        replace hB := below_trans hB h1
        clear h1
        go_wp2
        go_ret
        exact ⟨rfl, hB⟩
    · have hkb : (checkAtOf ns n != 0) = true := by simpa using hk
      clear hk
      generalize checkAtOf ns n = E1 at *
      generalize remErr ns n = E2 at *
      go_wp2_with fail
      refine (docBegun_any _).mono ?_
      rintro e t4 ⟨rfl, h1⟩
      replace hB := below_trans hB h1
      clear h1
      go_wp2
      go_ret
      exact ⟨rfl, hB⟩
end Go.Proofs.Ythlpcmgeelkncaa
