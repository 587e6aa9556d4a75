/-
  grow: the tree of a right document, walked.
-/
import Derived.Test.YtephhllfodlfbaaGreatDoorMaU
namespace Go.Proofs.YtephhllfodlfbaaGreatDoor
open Go.RowKit

set_option maxRecDepth 100000 in
set_option maxHeartbeats 8000000 in
theorem grow_call (w : World) (b o cap : Nat) (ns : List Pl.Nd) (hG : Glob w) (hD : RD w b o ns) (h1 : 1 ≤ ns.length) (hgd : Pl.GoodTo ns ns.length) (hcap : ns.length ≤ cap) :
    Calls Tryz.prog 47 #[(.slice (some ⟨b, o, none⟩) ns.length cap)] w fun e w' => ∃ bk bn bl, e = .returned (.agg #[.slice (some ⟨b, o, none⟩) ns.length cap, .slice (some ⟨bk, 0, none⟩) ns.length ns.length, .slice (some ⟨bn, 0, none⟩) ns.length ns.length, .slice (some ⟨bl, 0, none⟩) ns.length ns.length]) ∧ TR w' b o bk bn bl ns ∧ Below w.heap.size w w' := by
  have h64 := hD.n64
  have hmk := make_ints ns.length h64
  obtain ⟨IZ, hIZ⟩ : ∃ x, ((List.replicate ns.length (0 : Int)).map (Value.int .i64)).toArray = x := ⟨_, rfl⟩
  have HIZ : Hid (((List.replicate ns.length (0 : Int)).map (Value.int .i64)).toArray = IZ) := hIZ
  rw [hIZ] at hmk
  clear hIZ
  have HD : Hid (RD w b o ns) := hD
  have HG : Hid (Glob w) := hG
  have HGD : Hid (Pl.GoodTo ns ns.length) := hgd
  clear hD hG hgd
  go_enter Tryz.func47, Tryz.ntmps47
  go_wp2_with fail
  go_cut [3] (fun v wx => ∃ bk bn bl bt, v = .pointer (some ⟨bt, 0, none⟩) ∧ Hid (GT w wx (.slice (some ⟨b, o, none⟩) ns.length cap) ns.length bk bn bl bt (List.replicate ns.length 0) (List.replicate ns.length 0) (List.replicate ns.length 0)))
  case first =>
    go_region
    all_goals
      go_wp2_with fail
      go_meet
      obtain ⟨r0, r1, r2, r3, r4, hb⟩ := gt_chain w _ _ _ _ _
      exact ⟨_, _, _, _, rfl, gt_mk HIZ.out hb r0 (by first | exact r4 | exact r3 | exact r2 | exact r1) (by first | exact r1 | exact r2 | exact r3 | exact r4) (by first | exact r1 | exact r2 | exact r3 | exact r4) (by first | exact r1 | exact r2 | exact r3 | exact r4) (by omega)⟩
  case rest =>
    obtain ⟨bk, bn, bl, bt, rfl, HGT⟩ := hcut
    have HG2 : Hid (GT w wc (.slice (some ⟨b, o, none⟩) ns.length cap) ns.length bk bn bl bt (kdL ns 1) (List.replicate ns.length 0) (List.replicate ns.length 0)) := by
      have := HGT.out
      unfold Hid
      rw [← kd_one HGD.out h1]
      exact this
    clear HGT
    obtain ⟨x0, x1, x2, x3⟩ := blk4c HG2.out.box
    have n0 : wc.cell? ⟨bn, 0, none⟩ = some (.int .i64 0) := by
      have := HG2.out.num.cell (i := 0) (by simp; omega)
      simpa using this
    have l0 : wc.cell? ⟨bl, 0, none⟩ = some (.int .i64 0) := by
      have := HG2.out.lst.cell (i := 0) (by simp; omega)
      simpa using this
    have nf := HG2.out.num.frozen 0
    have lf := HG2.out.lst.frozen 0
    have HG3 : Hid (GT w (wc.setCell ⟨bn, 0, none⟩ (.int .i64 1)) (.slice (some ⟨b, o, none⟩) ns.length cap) ns.length bk bn bl bt (kdL ns 1) (nmL ns 1) (List.replicate ns.length 0)) := by
      have := HG2.out.setN 0 1
      rw [nm_one] at this
      exact this
    have HG4 : Hid (GT w (wc.setCell ⟨bl, 0, none⟩ (.int .i64 1)) (.slice (some ⟨b, o, none⟩) ns.length cap) ns.length bk bn bl bt (kdL ns 1) (List.replicate ns.length 0) (lsL ns 1)) := by
      have := HG2.out.setL 0 1
      rw [ls_one] at this
      exact this
    obtain ⟨y0, y1, y2, y3⟩ := blk4c HG3.out.box
    have m0 : (wc.setCell ⟨bn, 0, none⟩ (.int .i64 1)).cell? ⟨bl, 0, none⟩ = some (.int .i64 0) := by
      have := HG3.out.lst.cell (i := 0) (by simp; omega)
      simpa using this
    obtain ⟨z0, z1, z2, z3⟩ := blk4c HG4.out.box
    have k0 : (wc.setCell ⟨bl, 0, none⟩ (.int .i64 1)).cell? ⟨bn, 0, none⟩ = some (.int .i64 0) := by
      have := HG4.out.num.cell (i := 0) (by simp; omega)
      simpa using this
    have HG5 : Hid (GT w ((wc.setCell ⟨bn, 0, none⟩ (.int .i64 1)).setCell ⟨bl, 0, none⟩ (.int .i64 1)).drew (.slice (some ⟨b, o, none⟩) ns.length cap) ns.length bk bn bl bt (kdL ns 1) (nmL ns 1) (lsL ns 1)) := by
      have := HG3.out.setL 0 1
      rw [ls_one] at this
      exact this.on (Below.refl _ _).drew
    have HG6 : Hid (GT w ((wc.setCell ⟨bl, 0, none⟩ (.int .i64 1)).setCell ⟨bn, 0, none⟩ (.int .i64 1)).drew (.slice (some ⟨b, o, none⟩) ns.length cap) ns.length bk bn bl bt (kdL ns 1) (nmL ns 1) (lsL ns 1)) := by
      have := HG4.out.setN 0 1
      rw [nm_one] at this
      exact this.on (Below.refl _ _).drew
    have hl0 : (0 : Int) < (ns.length : Int) := by omega
    have hl1 : 0 < ns.length := by omega
    go_wp2_with fail
    go_cut [19] (fun v wx => Hid (GT w wx (.slice (some ⟨b, o, none⟩) ns.length cap) ns.length bk bn bl bt (kdL ns 1) (nmL ns 1) (lsL ns 1)))
    case first =>
      go_region_law (fail)
      all_goals
        go_wp2_with fail
        go_meet
        first | exact HG5 | exact HG6
    case rest =>
      have HGA : Hid (GT w wc (.slice (some ⟨b, o, none⟩) ns.length cap) ns.length bk bn bl bt (kdL ns 1) (nmL ns 1) (lsL ns 1)) := hcut
      clear hcut HG2 HG3 HG4 HG5 HG6 x0 x1 x2 x3 y0 y1 y2 y3 z0 z1 z2 z3 n0 l0 m0 k0 nf lf
      have c1 : (1 : Int) ≤ (ns.length : Int) := by omega
      have c2 : (ns.length : Int) ≤ (cap : Int) := by omega
      by_cases hN : ns.length = 1
      · have e1 : ((ns.length - 1 : Nat) : Int) = 0 := by omega
        have e2 : ns.length - 1 = 0 := by omega
        have HGN : Hid (GT w wc (.slice (some ⟨b, o, none⟩) ns.length cap) ns.length bk bn bl bt (kdL ns ns.length) (nmL ns ns.length) (lsL ns ns.length)) := by
          have := HGA.out
          rw [show kdL ns 1 = kdL ns ns.length by rw [hN], show nmL ns 1 = nmL ns ns.length by rw [hN], show lsL ns 1 = lsL ns ns.length by rw [hN]] at this
          exact this
        clear hN HGA
        by_cases hc1 : cap = 1
        · subst hc1
          go_wp2_with fail
          go_loopw [28] (fun i wr => i = .int .i64 0 ∧ Hid (GT w wr (.slice (some ⟨b, o, none⟩) ns.length 1) ns.length bk bn bl bt (kdL ns ns.length) (nmL ns ns.length) (lsL ns ns.length))) (fun _ _ => 0)
          case atStart => exact ⟨rfl, HGN⟩
          case round =>
            obtain ⟨rfl, HR⟩ := hrel
            clear HGN
            go_wp2_with fail
            obtain ⟨wq, hwq⟩ : ∃ q, q = wr := ⟨_, rfl⟩
            subst hwq
            go_loopw [56] (fun i wr => i = .int .i64 0 ∧ Hid (GT w wr (.slice (some ⟨b, o, none⟩) ns.length 1) ns.length bk bn bl bt (kdL ns ns.length) (nmL ns ns.length) (lsL ns ns.length))) (fun _ _ => 0)
            case atStart => exact ⟨rfl, HR⟩
            case round =>
              obtain ⟨rfl, HGC⟩ := hrel
              clear HR
              obtain ⟨q0, q1, q2, q3⟩ := blk4c HGC.out.box
              obtain ⟨p0, p1, p2, p3⟩ := blk4c HGC.out.res
              have f0 := cells_frozen HGC.out.res 0
              have f1 := cells_frozen HGC.out.res 1
              have f2 := cells_frozen HGC.out.res 2
              have f3 := cells_frozen HGC.out.res 3
              obtain ⟨hTR, hBE, hRS⟩ := gt_end HGC.out HD.out HG.out
              have HE : Hid _ := And.intro hTR hBE
              have HRS : Hid _ := hRS
              clear hTR hBE hRS
              go_wp2_with fail
              obtain ⟨r0, r1, r2, r3⟩ := blk4c HRS.out
              refine bodyPost_ret (v := .agg #[.slice (some ⟨b, o, none⟩) ns.length 1, .slice (some ⟨bk, 0, none⟩) ns.length ns.length, .slice (some ⟨bn, 0, none⟩) ns.length ns.length, .slice (some ⟨bl, 0, none⟩) ns.length ns.length]) ?_ rfl ⟨bk, bn, bl, rfl, HE.out⟩
              simp [results, Tryz.results47, go_sem, r0, r1, r2, r3]
        · skip
          go_wp2_with fail
          go_loopw [28] (fun i wr => i = .int .i64 0 ∧ Hid (GT w wr (.slice (some ⟨b, o, none⟩) ns.length cap) ns.length bk bn bl bt (kdL ns ns.length) (nmL ns ns.length) (lsL ns ns.length))) (fun _ _ => 0)
          case atStart => exact ⟨rfl, HGN⟩
          case round =>
            obtain ⟨rfl, HR⟩ := hrel
            clear HGN
            go_wp2_with fail
            obtain ⟨wq, hwq⟩ : ∃ q, q = wr := ⟨_, rfl⟩
            subst hwq
            go_loopw [56] (fun i wr => i = .int .i64 0 ∧ Hid (GT w wr (.slice (some ⟨b, o, none⟩) ns.length cap) ns.length bk bn bl bt (kdL ns ns.length) (nmL ns ns.length) (lsL ns ns.length))) (fun _ _ => 0)
            case atStart => exact ⟨rfl, HR⟩
            case round =>
              obtain ⟨rfl, HGC⟩ := hrel
              clear HR
              obtain ⟨q0, q1, q2, q3⟩ := blk4c HGC.out.box
              obtain ⟨p0, p1, p2, p3⟩ := blk4c HGC.out.res
              have f0 := cells_frozen HGC.out.res 0
              have f1 := cells_frozen HGC.out.res 1
              have f2 := cells_frozen HGC.out.res 2
              have f3 := cells_frozen HGC.out.res 3
              obtain ⟨hTR, hBE, hRS⟩ := gt_end HGC.out HD.out HG.out
              have HE : Hid _ := And.intro hTR hBE
              have HRS : Hid _ := hRS
              clear hTR hBE hRS
              go_wp2_with fail
              obtain ⟨r0, r1, r2, r3⟩ := blk4c HRS.out
              refine bodyPost_ret (v := .agg #[.slice (some ⟨b, o, none⟩) ns.length cap, .slice (some ⟨bk, 0, none⟩) ns.length ns.length, .slice (some ⟨bn, 0, none⟩) ns.length ns.length, .slice (some ⟨bl, 0, none⟩) ns.length ns.length]) ?_ rfl ⟨bk, bn, bl, rfl, HE.out⟩
              simp [results, Tryz.results47, go_sem, r0, r1, r2, r3]
      · have hcap1 : ¬ cap = 1 := by omega
        have hn2 : 2 ≤ ns.length := by omega
        have e1 : ((ns.length - 1 : Nat) : Int) = (ns.length : Int) - 1 := by omega
        clear hN
        go_wp2_with fail
        clear e1
        go_loopw [28] (fun i wr => ∃ k : Nat, k + 1 ≤ ns.length ∧ i = .int .i64 k ∧ Hid (GT w wr (.slice (some ⟨b, o, none⟩) ns.length cap) ns.length bk bn bl bt (kdL ns (k + 1)) (nmL ns (k + 1)) (lsL ns 1))) (fun i _ => ns.length - (intOf i).toNat)
        case atStart => exact ⟨0, h1, rfl, HGA⟩
        case round =>
          obtain ⟨k, hk, rfl, HR⟩ := hrel
          clear HGA
          by_cases hlt : k + 1 < ns.length
          · obtain ⟨vc, va, m0, m1, m2, m3, m4, hvc, hva⟩ := (HD.out.at_ (k + 1) hlt).on HR.out.bel
            rw [show o + (k + 1) * 5 = o + 5 + k * 5 by omega] at m0 m1 m2 m3 m4
            obtain ⟨ac, cc, rfl, -⟩ := hvc
            obtain ⟨aa, ca, rfl, -⟩ := hva
            obtain ⟨hg1, hg2, -⟩ := (HGD.out (k + 1) hlt).2 (by omega)
            obtain ⟨u, hu⟩ := Int.eq_ofNat_of_zero_le hg1
            have huk : u < k + 1 := by omega
            rw [← (at_parts hlt).2.2.2.2, hu] at m0
            have HU : Hid (Pl.upOf ns (k + 1) = (u : Int)) := hu
            clear hg1 hg2 hu
            have hba := on_alloc wr (.cells #[.int .i64 u, .string ⟨ns[k + 1].tag.toArray⟩, .string ⟨ns[k + 1].id.toArray⟩, .slice ac ns[k + 1].cls.length cc, .slice aa ns[k + 1].ats.length ca] 28)
            have HR1 : Hid (GT w (wr.alloc (.cells #[.int .i64 u, .string ⟨ns[k + 1].tag.toArray⟩, .string ⟨ns[k + 1].id.toArray⟩, .slice ac ns[k + 1].cls.length cc, .slice aa ns[k + 1].ats.length ca] 28)) (.slice (some ⟨b, o, none⟩) ns.length cap) ns.length bk bn bl bt (kdL ns (k + 1)) (nmL ns (k + 1)) (lsL ns 1)) := HR.out.on hba
            have xb := World.alloc_heap_new wr (.cells #[.int .i64 u, .string ⟨ns[k + 1].tag.toArray⟩, .string ⟨ns[k + 1].id.toArray⟩, .slice ac ns[k + 1].cls.length cc, .slice aa ns[k + 1].ats.length ca] 28)
            have x0 : (wr.alloc (.cells #[.int .i64 u, .string ⟨ns[k + 1].tag.toArray⟩, .string ⟨ns[k + 1].id.toArray⟩, .slice ac ns[k + 1].cls.length cc, .slice aa ns[k + 1].ats.length ca] 28)).cell? ⟨wr.heap.size, 0, none⟩ = some (.int .i64 u) := by
              unfold World.cell?
              dsimp only
              rw [xb]
              rfl
            obtain ⟨q0, q1, q2, q3⟩ := blk4c HR1.out.box
            have kc : (wr.alloc (.cells #[.int .i64 u, .string ⟨ns[k + 1].tag.toArray⟩, .string ⟨ns[k + 1].id.toArray⟩, .slice ac ns[k + 1].cls.length cc, .slice aa ns[k + 1].ats.length ca] 28)).cell? ⟨bk, u, none⟩ = some (.int .i64 (Pl.kidsTo ns (u : Int) (k + 1)).length) := by
              have := HR1.out.kid.cell (i := u) (by rw [kd_len]; omega)
              rw [kd_get] at this
              exact this
            have kf := HR1.out.kid.frozen u
            have hkl := Pl.kidsTo_len ns (u : Int) (k + 1)
            have HC : Hid ((Pl.kidsTo ns (u : Int) (k + 1 + 1)).length = (Pl.kidsTo ns (u : Int) (k + 1)).length + 1) := by
              unfold Hid
              rw [Pl.kidsTo_hit ns (u : Int) (k + 1) (by rw [HU.out]; simp)]
              simp
            have w1 : IntKind.i64.wrap (((Pl.kidsTo ns (u : Int) (k + 1)).length : Int) + 1) = ((Pl.kidsTo ns (u : Int) (k + 1)).length : Int) + 1 := IntWalk.i64_in _ ⟨by omega, by omega⟩
            have w2 : wrap64 (((Pl.kidsTo ns (u : Int) (k + 1)).length : Int) + 1) = ((Pl.kidsTo ns (u : Int) (k + 1)).length : Int) + 1 := IntWalk.wrap64_in _ ⟨by omega, by omega⟩
            have HR2 : Hid (GT w ((wr.alloc (.cells #[.int .i64 u, .string ⟨ns[k + 1].tag.toArray⟩, .string ⟨ns[k + 1].id.toArray⟩, .slice ac ns[k + 1].cls.length cc, .slice aa ns[k + 1].ats.length ca] 28)).setCell ⟨bk, u, none⟩ (.int .i64 (((Pl.kidsTo ns (u : Int) (k + 1)).length : Int) + 1))) (.slice (some ⟨b, o, none⟩) ns.length cap) ns.length bk bn bl bt (kdL ns (k + 1 + 1)) (nmL ns (k + 1)) (lsL ns 1)) := by
              have := HR1.out.setK u (((Pl.kidsTo ns (u : Int) (k + 1)).length : Int) + 1)
              rw [kd_step HU.out] at this
              exact this
            have i1 : (0 : Int) ≤ (u : Int) := by omega
            have i2 : (u : Int) < (ns.length : Int) := by omega
            have i3 : (k : Int) < (ns.length : Int) - 1 := by omega
            have i4 : (0 : Int) ≤ (k : Int) := by omega
            have i5 : k < ns.length - 1 := by omega
            clear hba xb
            generalize ns[k + 1].tag = tg at *
            generalize ns[k + 1].id = tid at *
            generalize ns[k + 1].cls.length = lc at *
            generalize ns[k + 1].ats.length = la at *
            have j1 : (0 : Int) ≤ (k : Int) + 1 := by omega
            have j2 : (k : Int) + 1 < (ns.length : Int) := by omega
            have j3 : wrap64 ((k : Int) + 1) = (k : Int) + 1 := IntWalk.wrap64_in _ ⟨by omega, by omega⟩
            have j4 : IntKind.i64.wrap ((k : Int) + 1) = (k : Int) + 1 := IntWalk.i64_in _ ⟨by omega, by omega⟩
            have z0 : ((wr.alloc (.cells #[.int .i64 u, .string ⟨tg.toArray⟩, .string ⟨tid.toArray⟩, .slice ac lc cc, .slice aa la ca] 28)).setCell ⟨bk, u, none⟩ (.int .i64 (((Pl.kidsTo ns (u : Int) (k + 1)).length : Int) + 1))).cell? ⟨wr.heap.size, 0, none⟩ = some (.int .i64 u) := (World.cell?_of_block (Below.heap_setCell _ _ _ _ (by show wr.heap.size ≠ bk; have := HR.out.kid.lt; omega))).trans x0
            go_wp2_with fail
            clear x0 q0 q1 q2 q3 kc kf m0 m1 m2 m3 m4 HR1 HR
            generalize (wr.alloc (.cells #[.int .i64 u, .string ⟨tg.toArray⟩, .string ⟨tid.toArray⟩, .slice ac lc cc, .slice aa la ca] 28)).setCell ⟨bk, u, none⟩ (.int .i64 (((Pl.kidsTo ns (u : Int) (k + 1)).length : Int) + 1)) = W2 at *
            obtain ⟨q0, q1, q2, q3⟩ := blk4c HR2.out.box
            have kc : W2.cell? ⟨bk, u, none⟩ = some (.int .i64 (((Pl.kidsTo ns (u : Int) (k + 1)).length : Int) + 1)) := by
              have := HR2.out.kid.cell (i := u) (by rw [kd_len]; omega)
              rw [kd_get, HC.out] at this
              exact this
            have nc := HR2.out.num.cell (i := k + 1) (by rw [nm_len]; omega)
            have nf := HR2.out.num.frozen (k + 1)
            have HR3 : Hid (GT w (W2.setCell ⟨bn, k + 1, none⟩ (.int .i64 (((Pl.kidsTo ns (u : Int) (k + 1)).length : Int) + 1))).drew (.slice (some ⟨b, o, none⟩) ns.length cap) ns.length bk bn bl bt (kdL ns (k + 1 + 1)) (nmL ns (k + 1 + 1)) (lsL ns 1)) := by
              have := HR2.out.setN (k + 1) (((Pl.kidsTo ns (u : Int) (k + 1)).length : Int) + 1)
              have e := nm_step HU.out (by omega) hlt
              rw [HC.out] at e
              rw [show (((Pl.kidsTo ns (u : Int) (k + 1)).length + 1 : Nat) : Int) = ((Pl.kidsTo ns (u : Int) (k + 1)).length : Int) + 1 by omega] at e
              rw [e] at this
              exact this.on (Below.refl _ _).drew
            clear HR2
            generalize ((Pl.kidsTo ns (u : Int) (k + 1)).length : Int) + 1 = cv at *
            go_region
            all_goals
              go_wp2_with fail
              exact ⟨⟨k + 1, by omega, by go_num, HR3⟩, by simp [intOf]; omega⟩
          · have hkN : k + 1 = ns.length := by omega
            have HGB : Hid (GT w wr (.slice (some ⟨b, o, none⟩) ns.length cap) ns.length bk bn bl bt (kdL ns ns.length) (nmL ns ns.length) (lsL ns 1)) := by
              have := HR.out
              rw [hkN] at this
              exact this
            have i3 : ¬ (k : Int) < (ns.length : Int) - 1 := by omega
            have e1 : ((ns.length - 1 : Nat) : Int) = (ns.length : Int) - 1 := by omega
            clear hkN hlt hk HR
            go_wp2_with fail
            clear e1 i3
            obtain ⟨wq, hwq⟩ : ∃ q, q = wr := ⟨_, rfl⟩
            subst hwq
            go_loopw [56] (fun i wr => ∃ k : Nat, k + 1 ≤ ns.length ∧ i = .int .i64 k ∧ Hid (GT w wr (.slice (some ⟨b, o, none⟩) ns.length cap) ns.length bk bn bl bt (kdL ns ns.length) (nmL ns ns.length) (lsL ns (k + 1)))) (fun i _ => ns.length - (intOf i).toNat)
            case atStart => exact ⟨0, h1, rfl, HGB⟩
            case round =>
              obtain ⟨k, hk, rfl, HR⟩ := hrel
              clear HGB
              by_cases hlt : k + 1 < ns.length
              · obtain ⟨vc, va, m0, m1, m2, m3, m4, hvc, hva⟩ := (HD.out.at_ (k + 1) hlt).on HR.out.bel
                rw [show o + (k + 1) * 5 = o + 5 + k * 5 by omega] at m0 m1 m2 m3 m4
                obtain ⟨ac, cc, rfl, -⟩ := hvc
                obtain ⟨aa, ca, rfl, -⟩ := hva
                obtain ⟨hg1, hg2, -⟩ := (HGD.out (k + 1) hlt).2 (by omega)
                obtain ⟨u, hu⟩ := Int.eq_ofNat_of_zero_le hg1
                have huk : u < k + 1 := by omega
                rw [← (at_parts hlt).2.2.2.2, hu] at m0
                have HU : Hid (Pl.upOf ns (k + 1) = (u : Int)) := hu
                clear hg1 hg2 hu
                have hba := on_alloc wr (.cells #[.int .i64 u, .string ⟨ns[k + 1].tag.toArray⟩, .string ⟨ns[k + 1].id.toArray⟩, .slice ac ns[k + 1].cls.length cc, .slice aa ns[k + 1].ats.length ca] 28)
                have HR1 : Hid (GT w (wr.alloc (.cells #[.int .i64 u, .string ⟨ns[k + 1].tag.toArray⟩, .string ⟨ns[k + 1].id.toArray⟩, .slice ac ns[k + 1].cls.length cc, .slice aa ns[k + 1].ats.length ca] 28)) (.slice (some ⟨b, o, none⟩) ns.length cap) ns.length bk bn bl bt (kdL ns ns.length) (nmL ns ns.length) (lsL ns (k + 1))) := HR.out.on hba
                have xb := World.alloc_heap_new wr (.cells #[.int .i64 u, .string ⟨ns[k + 1].tag.toArray⟩, .string ⟨ns[k + 1].id.toArray⟩, .slice ac ns[k + 1].cls.length cc, .slice aa ns[k + 1].ats.length ca] 28)
                have x0 : (wr.alloc (.cells #[.int .i64 u, .string ⟨ns[k + 1].tag.toArray⟩, .string ⟨ns[k + 1].id.toArray⟩, .slice ac ns[k + 1].cls.length cc, .slice aa ns[k + 1].ats.length ca] 28)).cell? ⟨wr.heap.size, 0, none⟩ = some (.int .i64 u) := by
                  unfold World.cell?
                  dsimp only
                  rw [xb]
                  rfl
                have hkl := Pl.kidsTo_len ns (u : Int) ns.length
                have hpl := plc_low (famOf ns (k + 1)) ((k + 1 : Nat) : Int)
                have hfl := famOf_len ns (k + 1) h64
                have i3 : (k : Int) < (ns.length : Int) - 1 := by omega
                have i4 : (0 : Int) ≤ (k : Int) := by omega
                have i5 : k < ns.length - 1 := by omega
                have i1 : (0 : Int) ≤ (u : Int) := by omega
                have i2 : (u : Int) < (ns.length : Int) := by omega
                have j1 : (0 : Int) ≤ (k : Int) + 1 := by omega
                have j2 : (k : Int) + 1 < (ns.length : Int) := by omega
                have j3 : wrap64 ((k : Int) + 1) = (k : Int) + 1 := IntWalk.wrap64_in _ ⟨by omega, by omega⟩
                have j4 : IntKind.i64.wrap ((k : Int) + 1) = (k : Int) + 1 := IntWalk.i64_in _ ⟨by omega, by omega⟩
                obtain ⟨A, hA⟩ : ∃ A : Int, A = ((Pl.kidsTo ns (u : Int) ns.length).length : Int) := ⟨_, rfl⟩
                obtain ⟨Bv, hBv⟩ : ∃ Bv : Int, Bv = plc (famOf ns (k + 1)) ((k + 1 : Nat) : Int) + 1 := ⟨_, rfl⟩
                have w1 : wrap64 (A - Bv) = A - Bv := IntWalk.wrap64_in _ ⟨by omega, by omega⟩
                have w2 : wrap64 (A - Bv + 1) = A - Bv + 1 := IntWalk.wrap64_in _ ⟨by omega, by omega⟩
                have w3 : IntKind.i64.wrap (A - Bv) = A - Bv := IntWalk.i64_in _ ⟨by omega, by omega⟩
                have w4 : IntKind.i64.wrap (A - Bv + 1) = A - Bv + 1 := IntWalk.i64_in _ ⟨by omega, by omega⟩
                obtain ⟨q0, q1, q2, q3⟩ := blk4c HR1.out.box
                have kc : (wr.alloc (.cells #[.int .i64 u, .string ⟨ns[k + 1].tag.toArray⟩, .string ⟨ns[k + 1].id.toArray⟩, .slice ac ns[k + 1].cls.length cc, .slice aa ns[k + 1].ats.length ca] 28)).cell? ⟨bk, u, none⟩ = some (.int .i64 A) := by
                  have := HR1.out.kid.cell (i := u) (by rw [kd_len]; omega)
                  rw [kd_get, ← hA] at this
                  exact this
                have nc : (wr.alloc (.cells #[.int .i64 u, .string ⟨ns[k + 1].tag.toArray⟩, .string ⟨ns[k + 1].id.toArray⟩, .slice ac ns[k + 1].cls.length cc, .slice aa ns[k + 1].ats.length ca] 28)).cell? ⟨bn, k + 1, none⟩ = some (.int .i64 Bv) := by
                  have := HR1.out.num.cell (i := k + 1) (by rw [nm_len]; omega)
                  rw [nm_get, ← hBv] at this
                  exact this
                obtain ⟨lv, lc0⟩ : ∃ lv, (wr.alloc (.cells #[.int .i64 u, .string ⟨ns[k + 1].tag.toArray⟩, .string ⟨ns[k + 1].id.toArray⟩, .slice ac ns[k + 1].cls.length cc, .slice aa ns[k + 1].ats.length ca] 28)).cell? ⟨bl, k + 1, none⟩ = some (.int .i64 lv) := ⟨_, HR1.out.lst.cell (i := k + 1) (by rw [ls_len]; omega)⟩
                have lf := HR1.out.lst.frozen (k + 1)
                have HR3 : Hid (GT w ((wr.alloc (.cells #[.int .i64 u, .string ⟨ns[k + 1].tag.toArray⟩, .string ⟨ns[k + 1].id.toArray⟩, .slice ac ns[k + 1].cls.length cc, .slice aa ns[k + 1].ats.length ca] 28)).setCell ⟨bl, k + 1, none⟩ (.int .i64 (A - Bv + 1))).drew (.slice (some ⟨b, o, none⟩) ns.length cap) ns.length bk bn bl bt (kdL ns ns.length) (nmL ns ns.length) (lsL ns (k + 1 + 1))) := by
                  have := HR1.out.setL (k + 1) (A - Bv + 1)
                  have e := ls_step HU.out (by omega) hlt
                  rw [← hA, ← hBv] at e
                  rw [e] at this
                  exact this.on (Below.refl _ _).drew
                clear hba xb hA hBv hkl hpl hfl HR1 HR
                generalize ns[k + 1].tag = tg at *
                generalize ns[k + 1].id = tid at *
                generalize ns[k + 1].cls.length = lc at *
                generalize ns[k + 1].ats.length = la at *
                go_wp2_with fail
                clear m0 m1 m2 m3 m4
                generalize wr.alloc (.cells #[.int .i64 u, .string ⟨tg.toArray⟩, .string ⟨tid.toArray⟩, .slice ac lc cc, .slice aa la ca] 28) = W2 at *
                go_region
                all_goals
                  go_wp2_with fail
                  exact ⟨⟨k + 1, by omega, by go_num, HR3⟩, by simp [intOf]; omega⟩
              · have hkN : k + 1 = ns.length := by omega
                have HGC : Hid (GT w wr (.slice (some ⟨b, o, none⟩) ns.length cap) ns.length bk bn bl bt (kdL ns ns.length) (nmL ns ns.length) (lsL ns ns.length)) := by
                  have := HR.out
                  rw [hkN] at this
                  exact this
                have i3 : ¬ (k : Int) < (ns.length : Int) - 1 := by omega
                clear hkN hlt hk HR
                obtain ⟨q0, q1, q2, q3⟩ := blk4c HGC.out.box
                obtain ⟨p0, p1, p2, p3⟩ := blk4c HGC.out.res
                have f0 := cells_frozen HGC.out.res 0
                have f1 := cells_frozen HGC.out.res 1
                have f2 := cells_frozen HGC.out.res 2
                have f3 := cells_frozen HGC.out.res 3
                obtain ⟨hTR, hBE, hRS⟩ := gt_end HGC.out HD.out HG.out
                have HE : Hid _ := And.intro hTR hBE
                have HRS : Hid _ := hRS
                clear hTR hBE hRS
                go_wp2_with fail
                obtain ⟨r0, r1, r2, r3⟩ := blk4c HRS.out
                refine bodyPost_ret (v := .agg #[.slice (some ⟨b, o, none⟩) ns.length cap, .slice (some ⟨bk, 0, none⟩) ns.length ns.length, .slice (some ⟨bn, 0, none⟩) ns.length ns.length, .slice (some ⟨bl, 0, none⟩) ns.length ns.length]) ?_ rfl ⟨bk, bn, bl, rfl, HE.out⟩
                simp [results, Tryz.results47, go_sem, r0, r1, r2, r3]
end Go.Proofs.YtephhllfodlfbaaGreatDoor
