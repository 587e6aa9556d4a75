/-
  The document's own text of a list.
-/
import Derived.Test.YtbfkopjpfkgjhaaGreatDoorTxA
import Derived.Deep.DeepCutAuto
namespace Go.Proofs.YtbfkopjpfkgjhaaGreatDoor
open Go.RowKit

theorem comma_app (x : List UInt8) (k : Nat) (hk : k ≠ 0) : (⟨x.toArray⟩ : ByteArray) ++ (⟨#[44, 32]⟩ : ByteArray) = ⟨(x ++ if k = 0 then [] else [44, 32]).toArray⟩ := by
  rw [if_neg hk]
  exact Nt.ba_app _ [44, 32]
theorem comma_none (x : List UInt8) (k : Nat) (hk : k = 0) : (⟨x.toArray⟩ : ByteArray) = ⟨(x ++ if k = 0 then [] else [44, 32]).toArray⟩ := by
  rw [if_pos hk, List.append_nil]
theorem link_new (W : World) (n : Nat) (h : n ≤ 4) : (W.alloc (.cells #[.string ⟨#[]⟩, .string ⟨#[32]⟩, .string ⟨#[32, 62, 32]⟩, .string ⟨#[32, 43, 32]⟩, .string ⟨#[32, 126, 32]⟩] 9)).cell? ⟨W.heap.size, n, none⟩ = some (.string ⟨(Pl.lnk n).toArray⟩) := by
  have : n = 0 ∨ n = 1 ∨ n = 2 ∨ n = 3 ∨ n = 4 := by omega
  rcases this with rfl | rfl | rfl | rfl | rfl <;> simp [go_sem, Pl.lnk]
theorem tag_app (x t : List UInt8) (h : t ≠ []) : (⟨x.toArray⟩ : ByteArray) ++ (⟨t.toArray⟩ : ByteArray) = ⟨(x ++ Pl.showTag t).toArray⟩ := by
  unfold Pl.showTag
  rw [if_neg (by simpa using h)]
  exact Nt.ba_app _ _
theorem tag_none (x t : List UInt8) (h : t = []) : (⟨x.toArray⟩ : ByteArray) ++ (⟨#[42]⟩ : ByteArray) ++ (⟨#[]⟩ : ByteArray) = ⟨(x ++ Pl.showTag t).toArray⟩ := by
  subst h
  have := Nt.ba_app x [42]
  rw [show (⟨#[42]⟩ : ByteArray) = ⟨([42] : List UInt8).toArray⟩ from rfl, this, show (⟨#[]⟩ : ByteArray) = ⟨([] : List UInt8).toArray⟩ from rfl, Nt.ba_app]
  simp [Pl.showTag]
theorem txt_step {α : Type} (g : List α → List UInt8) (X : List UInt8) (p : Pl.Pth α) {k : Nat} (h : k < p.steps.length) (hL : X.length + (Pl.showP g p).length ≤ 1000000000) : ∃ Y : List UInt8,
    (k = 0 → Y = X ++ Pl.pTo g p k) ∧ (∀ n : Nat, k ≠ 0 → p.links.getD (k - 1) 0 = n → (⟨(X ++ Pl.pTo g p k).toArray⟩ : ByteArray) ++ (⟨(Pl.lnk n).toArray⟩ : ByteArray) = ⟨Y.toArray⟩) ∧
    X ++ Pl.pTo g p (k + 1) = Y ++ Pl.showTag p.steps[k].tag ++ p.steps[k].tests.flatMap (Pl.showT g) ∧ (X ++ Pl.pTo g p k).length ≤ 1000000000 ∧ Y.length + p.steps[k].tag.length + 1 ≤ 1000000001 ∧ Y.length + 1 ≤ 1000000000 ∧
    (Y ++ Pl.showTag p.steps[k].tag).length + (p.steps[k].tests.flatMap (Pl.showT g)).length ≤ 1000000000 := by
  have hn := Pl.pTo_next g p h
  have hly : (Pl.pTo g p (k + 1)).length ≤ (Pl.showP g p).length := Pl.pTo_le g p h
  have htl : p.steps[k].tag.length ≤ (Pl.showTag p.steps[k].tag).length ∧ 1 ≤ (Pl.showTag p.steps[k].tag).length := by
    unfold Pl.showTag
    cases p.steps[k].tag with
    | nil => simp
    | cons x r => simp
  rw [hn] at hly
  unfold Pl.showS at hn hly
  simp only [List.length_append] at hly
  refine ⟨X ++ Pl.pTo g p k ++ (if k = 0 then [] else Pl.lnk (p.links.getD (k - 1) 0).toNat), ?_, ?_, ?_, ?_, ?_, ?_, ?_⟩
  · intro h0
    rw [if_pos h0, List.append_nil]
  · intro n h0 e
    rw [if_neg h0, e, Nt.ba_app]
    rfl
  · rw [hn]
    simp only [List.append_assoc]
  all_goals
    simp only [List.length_append]
    omega
set_option maxRecDepth 100000 in
set_option maxHeartbeats 4000000 in
theorem texts_up {α : Type} {A : MemL α} {g : List α → List UInt8} {R : List α → Prop} (hA : IsL A) (hg0 : g [] = []) (hT : Texts A g R) : Texts (LstAt A) (Pl.showL g) (RL R) := by
  intro w v l h hR hlen
  obtain ⟨a, c, rfl⟩ := RowAt.form h
  have HL : Hid (LstAt A w (.slice a l.length c) l) := h
  have HT : Hid (Texts A g R) := hT
  have HA : Hid (IsL A) := hA
  have HR : Hid (RL R l) := hR
  have HG : Hid (g [] = []) := hg0
  have HLEN : Hid ((Pl.lTo g l l.length).length ≤ 1000000000) := hlen
  have fl0 := RowAt.fit h
  unfold maxLen at fl0
  clear h hT hA hR hg0 hlen
  unfold Pl.showL
  go_enter Tryz.func8, Tryz.ntmps8
  go_wp2_with fail
  go_loopw [3, 4] (fun s i wr => ∃ k : Nat, k ≤ l.length ∧ s = .string ⟨(Pl.lTo g l k).toArray⟩ ∧ i = .int .i64 k ∧ Hid (Below w.heap.size w wr)) (fun _ i _ => l.length - (intOf i).toNat)
  case atStart => exact ⟨0, Nat.zero_le _, rfl, rfl, Below.refl _ _⟩
  case round =>
    obtain ⟨i, hi, rfl, rfl, HB⟩ := hrel
    obtain ⟨wp, hwp⟩ : ∃ q, q = wr := ⟨_, rfl⟩
    subst hwp
    by_cases hlt : i < l.length
    · obtain ⟨-, b, o, rfl, hc⟩ := RowAt.at HL.out (by omega)
      obtain ⟨vs, vl, n0, n1, rs, rl⟩ := (hc i hlt).on HA.out HB.out
      obtain ⟨ax, cx, rfl⟩ := rs.form
      obtain ⟨al, cl, rfl⟩ := rl.form
      have i1 : (0 : Int) ≤ (i : Int) := by omega
      have i2 : (i : Int) < (l.length : Int) := by omega
      have HRP : Hid (RP R l[i]) := HR.out.2 _ (List.getElem_mem hlt)
      have HNX : Hid (Pl.lTo g l (i + 1) = Pl.lTo g l i ++ (if i = 0 then [] else [44, 32]) ++ Pl.showP g l[i]) := Pl.lTo_next g l hlt
      have hlx : (Pl.lTo g l (i + 1)).length ≤ 1000000000 := Nat.le_trans (Pl.lTo_le g l hlt) HLEN.out
      rw [HNX.out, List.length_append, List.length_append] at hlx
      have HLX : Hid ((Pl.lTo g l i ++ (if i = 0 then [] else [44, 32])).length + (Pl.showP g l[i]).length ≤ 1000000000) := by unfold Hid; rw [List.length_append]; exact hlx
      have hl1 : (Pl.lTo g l i).length ≤ 1000000000 := by omega
      clear hc hlx
      generalize l[i] = p at *
      have fs := rs.fit
      have fl := rl.fit
      unfold maxLen at fs fl
      have HRS : Hid (RowAt (StpAt A) 2 _ (.slice ax p.steps.length cx) p.steps) := rs
      have HRL : Hid (RowAt IntAt 1 _ (.slice al p.links.length cl) p.links) := rl
      clear rs rl
      have HE0 : Hid (i = 0 → (⟨(Pl.lTo g l i).toArray⟩ : ByteArray) = ⟨(Pl.lTo g l i ++ (if i = 0 then [] else [44, 32])).toArray⟩) := comma_none _ _
      have HE1 : Hid (i ≠ 0 → (⟨(Pl.lTo g l i).toArray⟩ : ByteArray) ++ (⟨#[44, 32]⟩ : ByteArray) = ⟨(Pl.lTo g l i ++ (if i = 0 then [] else [44, 32])).toArray⟩) := comma_app _ _
      generalize (Pl.lTo g l i ++ (if i = 0 then [] else [44, 32])) = X at *
      generalize Pl.lTo g l i = X0 at *
      by_cases hi0 : i = 0
      case' pos =>
        have HE : Hid (_ = _) := HE0.out hi0
        have hi3 : ¬ (0 : Int) < (i : Int) := by omega
        clear hi0
        go_wp2_with fail
        rw [HE.out]
        clear HE hi3
      case' neg =>
        have HE : Hid (_ = _) := HE1.out hi0
        have hi3 : (0 : Int) < (i : Int) := by omega
        have hi4 : 0 < i := by omega
        clear hi0
        go_wp2_with fail
        rw [HE.out]
        clear HE hi3 hi4
      all_goals
        clear HE0 HE1 hl1
        go_loopw [3, 5] (fun s i wr => ∃ k : Nat, k ≤ p.steps.length ∧ s = .string ⟨(X ++ Pl.pTo g p k).toArray⟩ ∧ i = .int .i64 k ∧ Hid (Below wp.heap.size wp wr)) (fun _ i _ => p.steps.length - (intOf i).toNat)
        case atStart => exact ⟨0, Nat.zero_le _, by simp [Pl.pTo], rfl, Below.refl _ _⟩
        case round =>
          obtain ⟨k, hk, rfl, rfl, HB2⟩ := hrel
          obtain ⟨wq, hwq⟩ : ∃ q, q = wr := ⟨_, rfl⟩
          subst hwq
          have y0 := cell_on HB2.out n0
          have y1 := cell_on HB2.out n1
          by_cases hlt2 : k < p.steps.length
          · obtain ⟨-, b2, o2, rfl, hc2⟩ := RowAt.at HRS.out (by omega)
            obtain ⟨vt, m0, m1, rt⟩ := (hc2 k hlt2).on HA.out HB2.out
            obtain ⟨at_, ct, rfl⟩ := rt.form
            have k1 : (0 : Int) ≤ (k : Int) := by omega
            have k2 : (k : Int) < (p.steps.length : Int) := by omega
            have HRS1 : Hid (RS R p.steps[k]) := HRP.out.2.2 _ (List.getElem_mem hlt2)
            obtain ⟨Y, h0, hn, hx, l0, l1, l2, l3⟩ := txt_step g X p hlt2 HLX.out
            have HK0 : Hid (_ → _) := h0
            have HK1 : Hid (∀ n : Nat, _) := hn
            have HNY : Hid (_ = _) := hx
            have HLZ : Hid (_ ≤ _) := l3
            have HLP : Hid (k ≠ 0 → k - 1 < p.links.length ∧ ∀ x ∈ p.links, Pl.isLink x = true) := fun _ => ⟨by have := HRP.out.1.2.2; omega, HRP.out.2.1⟩
            clear hc2 h0 hn hx l3
            generalize p.steps[k] = st at *
            obtain ⟨tag, tests⟩ := st
            simp only at HNY HLZ l1 rt m0 m1 HRS1
            have ft := rt.fit
            unfold maxLen at ft
            have HRT : Hid (RowAt (TstAt A) 6 _ (.slice at_ tests.length ct) tests) := rt
            clear rt
            generalize X ++ Pl.pTo g p k = Y0 at *
            have HT0 : Hid (tag = [] → _) := tag_none Y tag
            have HT1 : Hid (tag ≠ [] → _) := tag_app Y tag
            generalize Y ++ Pl.showTag tag = Z at HNY HLZ HT0 HT1
            by_cases hk0 : k = 0
            case' pos =>
              have hk3 : ¬ (0 : Int) < (k : Int) := by omega
              obtain rfl : Y = Y0 := HK0.out hk0
              clear hk0
              obtain ⟨wz, hwz⟩ : ∃ q, q = wq := ⟨_, rfl⟩
              subst hwz
              have HZ : Hid (Below wp.heap.size wp wz) := HB2
              have HRTz : Hid (RowAt (TstAt A) 6 wz (.slice at_ tests.length ct) tests) := HRT
              clear HRT HB2
              rcases tag with _ | ⟨x, r⟩
              case' nil =>
                have HTE : Hid (_ = _) := HT0.out rfl
                go_wp2_with fail
                rw [HTE.out]
                have x1 := (Blk2s.new wz (.string ⟨#[]⟩) (.slice at_ tests.length ct)).2
                have hba := on_alloc wz (.cells #[.string ⟨#[]⟩, .slice at_ tests.length ct] 56)
                have HZ2 : Hid (Below wp.heap.size wp _) := below_trans HZ.out hba
                have HRT2 : Hid (RowAt (TstAt A) 6 _ (.slice at_ tests.length ct) tests) := HRTz.out.map fun b o x hx => hx.on HA.out hba
                clear hba HTE
                generalize wz.alloc (.cells #[.string ⟨#[]⟩, .slice at_ tests.length ct] 56) = W2 at *
                generalize wz.heap.size = B at *
                clear y0 y1 m0 m1 HZ HRTz hk3
              case' cons =>
                have HTE : Hid (_ = _) := HT1.out (by simp)
                have l4 : Y.length + (r.length + 1) ≤ 1000000000 := by simp only [List.length_cons] at l1; omega
                simp only [List.length_cons] at l1
                go_wp2_with fail
                rw [HTE.out]
                have x1 := (Blk2s.new wz (.string ⟨(x :: r).toArray⟩) (.slice at_ tests.length ct)).2
                have hba := on_alloc wz (.cells #[.string ⟨(x :: r).toArray⟩, .slice at_ tests.length ct] 56)
                have HZ2 : Hid (Below wp.heap.size wp _) := below_trans HZ.out hba
                have HRT2 : Hid (RowAt (TstAt A) 6 _ (.slice at_ tests.length ct) tests) := HRTz.out.map fun b o x hx => hx.on HA.out hba
                clear hba HTE
                generalize wz.alloc (.cells #[.string ⟨(x :: r).toArray⟩, .slice at_ tests.length ct] 56) = W2 at *
                generalize wz.heap.size = B at *
                clear y0 y1 m0 m1 HZ HRTz hk3
            case' neg =>
              have hk3 : (0 : Int) < (k : Int) := by omega
              have hk4 : 0 < k := by omega
              obtain ⟨hkl, hkk⟩ := HLP.out hk0
              obtain ⟨-, bl, ol, rfl, hcl⟩ := RowAt.at HRL.out (by omega)
              have lc : wq.cell? ⟨bl, ol + (k - 1), none⟩ = some (.int .i64 p.links[k - 1]) := by simpa [IntAt] using cell_on HB2.out (hcl (k - 1) hkl)
              obtain ⟨n, hn, hn4, hn1⟩ := link_nat (hkk _ (List.getElem_mem hkl))
              have HYE : Hid (_ = _) := HK1.out n hk0 (by rw [List.getD_eq_getElem?_getD, List.getElem?_eq_getElem hkl]; exact hn)
              rw [hn] at lc
              have hba := on_alloc wq (.cells #[.string ⟨#[]⟩, .string ⟨#[32]⟩, .string ⟨#[32, 62, 32]⟩, .string ⟨#[32, 43, 32]⟩, .string ⟨#[32, 126, 32]⟩] 9)
              have hln := lnk_len n
              have k3 : (0 : Int) ≤ (k : Int) - 1 := by omega
              have k4 : (k : Int) - 1 < (p.links.length : Int) := by omega
              have n3 : (0 : Int) ≤ (n : Int) := by omega
              have n4 : (n : Int) < 5 := by omega
              have cn := link_new wq n hn4
              have HZ : Hid (Below wp.heap.size wp _) := below_trans HB2.out hba
              have HRTz : Hid (RowAt (TstAt A) 6 _ (.slice at_ tests.length ct) tests) := HRT.out.map fun b o x hx => hx.on HA.out hba
              have y2 := cell_on hba y0
              have y3 := cell_on hba y1
              have m2 := cell_on hba m0
              have m3 := cell_on hba m1
              have lc2 := cell_on hba lc
              clear hk0 hcl hkk hn hn1 hn4 HRT hkl hba
              rcases tag with _ | ⟨x, r⟩
              case' nil =>
                have HTE : Hid (_ = _) := HT0.out rfl
                go_wp2_with fail
                rw [HYE.out, HTE.out]
                have x1 := (Blk2s.new (wq.alloc (.cells #[.string ⟨#[]⟩, .string ⟨#[32]⟩, .string ⟨#[32, 62, 32]⟩, .string ⟨#[32, 43, 32]⟩, .string ⟨#[32, 126, 32]⟩] 9)) (.string ⟨#[]⟩) (.slice at_ tests.length ct)).2
                simp only [World.size_alloc] at x1
                have hba := on_alloc (wq.alloc (.cells #[.string ⟨#[]⟩, .string ⟨#[32]⟩, .string ⟨#[32, 62, 32]⟩, .string ⟨#[32, 43, 32]⟩, .string ⟨#[32, 126, 32]⟩] 9)) (.cells #[.string ⟨#[]⟩, .slice at_ tests.length ct] 56)
                have HZ2 : Hid (Below wp.heap.size wp _) := below_trans HZ.out hba
                have HRT2 : Hid (RowAt (TstAt A) 6 _ (.slice at_ tests.length ct) tests) := HRTz.out.map fun b o x hx => hx.on HA.out hba
                clear hba HTE HYE
                generalize (wq.alloc (.cells #[.string ⟨#[]⟩, .string ⟨#[32]⟩, .string ⟨#[32, 62, 32]⟩, .string ⟨#[32, 43, 32]⟩, .string ⟨#[32, 126, 32]⟩] 9)).alloc (.cells #[.string ⟨#[]⟩, .slice at_ tests.length ct] 56) = W2 at *
                generalize wq.heap.size + 1 = B at *
                clear y0 y1 m0 m1 y2 y3 m2 m3 lc lc2 cn HZ HRTz hk3 hk4 k3 k4 n3 n4 hln
              case' cons =>
                have HTE : Hid (_ = _) := HT1.out (by simp)
                have l4 : Y.length + (r.length + 1) ≤ 1000000000 := by simp only [List.length_cons] at l1; omega
                simp only [List.length_cons] at l1
                go_wp2_with fail
                rw [HYE.out, HTE.out]
                have x1 := (Blk2s.new (wq.alloc (.cells #[.string ⟨#[]⟩, .string ⟨#[32]⟩, .string ⟨#[32, 62, 32]⟩, .string ⟨#[32, 43, 32]⟩, .string ⟨#[32, 126, 32]⟩] 9)) (.string ⟨(x :: r).toArray⟩) (.slice at_ tests.length ct)).2
                simp only [World.size_alloc] at x1
                have hba := on_alloc (wq.alloc (.cells #[.string ⟨#[]⟩, .string ⟨#[32]⟩, .string ⟨#[32, 62, 32]⟩, .string ⟨#[32, 43, 32]⟩, .string ⟨#[32, 126, 32]⟩] 9)) (.cells #[.string ⟨(x :: r).toArray⟩, .slice at_ tests.length ct] 56)
                have HZ2 : Hid (Below wp.heap.size wp _) := below_trans HZ.out hba
                have HRT2 : Hid (RowAt (TstAt A) 6 _ (.slice at_ tests.length ct) tests) := HRTz.out.map fun b o x hx => hx.on HA.out hba
                clear hba HTE HYE
                generalize (wq.alloc (.cells #[.string ⟨#[]⟩, .string ⟨#[32]⟩, .string ⟨#[32, 62, 32]⟩, .string ⟨#[32, 43, 32]⟩, .string ⟨#[32, 126, 32]⟩] 9)).alloc (.cells #[.string ⟨(x :: r).toArray⟩, .slice at_ tests.length ct] 56) = W2 at *
                generalize wq.heap.size + 1 = B at *
                clear y0 y1 m0 m1 y2 y3 m2 m3 lc lc2 cn HZ HRTz hk3 hk4 k3 k4 n3 n4 hln
            all_goals
              clear HT0 HT1 HK0 HK1 HLP l0 l1 l2
              go_loopw [3, 7] (fun s i wr => ∃ j : Nat, j ≤ tests.length ∧ s = .string ⟨(Z ++ (tests.take j).flatMap (Pl.showT g)).toArray⟩ ∧ i = .int .i64 j ∧ Hid (Below W2.heap.size W2 wr)) (fun _ i _ => tests.length - (intOf i).toNat)
              case atStart => exact ⟨0, Nat.zero_le _, by simp, rfl, Below.refl _ _⟩
              case round =>
                obtain ⟨j, hj, rfl, rfl, HB3⟩ := hrel
                have z1 := cell_on HB3.out x1
                by_cases hlt3 : j < tests.length
                · obtain ⟨-, b3, o3, rfl, hc3⟩ := RowAt.at HRT2.out (by omega)
                  obtain ⟨vu, q0, q1, q2, q3, q4, q5, rl⟩ := (hc3 j hlt3).on HA.out HB3.out
                  obtain ⟨au, cu, rfl, -⟩ := HA.out.form rl
                  have j1 : (0 : Int) ≤ (j : Int) := by omega
                  have j2 : (j : Int) < (tests.length : Int) := by omega
                  have hfn := Pl.flat_next (Pl.showT g) hlt3
                  have hfl := Pl.flat_le (Pl.showT g) tests (j + 1)
                  rw [hfn, List.length_append] at hfl
                  have hz0 := HLZ.out
                  have hl5 : (Z ++ (tests.take j).flatMap (Pl.showT g)).length + (Pl.showT g tests[j]).length ≤ 1000000000 := by rw [List.length_append]; omega
                  have HC : Hid (Calls Tryz.prog 22 _ _ _) := testText_any HA.out HG.out HT.out wr tests[j] au cu rl (HRS1.out.2.2 _ (List.getElem_mem hlt3)) (by omega)
                  have HFN : Hid (Z ++ (tests.take (j + 1)).flatMap (Pl.showT g) = (Z ++ (tests.take j).flatMap (Pl.showT g)) ++ Pl.showT g tests[j]) := by
                    unfold Hid
                    rw [hfn, List.append_assoc]
                  clear hc3 hfn hfl hz0 rl
                  generalize Z ++ (tests.take j).flatMap (Pl.showT g) = Q at *
                  generalize tests[j] = t at *
                  generalize Pl.showT g t = tt at *
                  go_wp2_with fail
                  refine HC.out.mono ?_
                  rintro e w5 ⟨rfl, hb5⟩
                  have HB5 : Hid (Below W2.heap.size W2 w5) := below_trans HB3.out hb5
                  clear hb5 HC q0 q1 q2 q3 q4 q5 z1
                  go_wp2
                  exact ⟨⟨j + 1, hlt3, by rw [HFN.out, Nt.ba_app], by go_num, HB5⟩, by simp [intOf]; omega⟩
                · have hjt : j = tests.length := by omega
                  have HFN : Hid (Z ++ (tests.take j).flatMap (Pl.showT g) = X ++ Pl.pTo g p (k + 1)) := by
                    unfold Hid
                    rw [HNY.out, hjt, List.take_length]
                  clear hjt
                  generalize Z ++ (tests.take j).flatMap (Pl.showT g) = Q at *
                  go_wp2
                  exact ⟨⟨k + 1, hlt2, by rw [HFN.out], by go_num, below_trans HZ2.out HB3.out⟩, by simp [intOf]; omega⟩
          · have hkt : k = p.steps.length := by omega
            have HFN : Hid (X ++ Pl.pTo g p k = Pl.lTo g l (i + 1)) := by
              unfold Hid
              rw [HNX.out, hkt]
              rfl
            clear hkt
            generalize X ++ Pl.pTo g p k = Q at *
            go_wp2
            exact ⟨⟨i + 1, hlt, by rw [HFN.out], by go_num, below_trans HB.out HB2.out⟩, by simp [intOf]; omega⟩
    · have hit : i = l.length := by omega
      have HFN : Hid (Pl.lTo g l i = Pl.lTo g l l.length) := by unfold Hid; rw [hit]
      clear hit
      generalize Pl.lTo g l i = Q at *
      go_wp2
      go_ret
      exact ⟨by rw [HFN.out]; rfl, HB.out⟩
end Go.Proofs.YtbfkopjpfkgjhaaGreatDoor
/-
  The document's own text of a right list.
-/
namespace Go.Proofs.YtbfkopjpfkgjhaaGreatDoor
open Go.RowKit

theorem texts_3 : Texts A3 Pl.sh3 R3 := texts_up isL_2 (by rfl) (texts_up isL_1 (by rfl) (texts_up isL_z (by rfl) (fun _ _ _ _ h => h.elim)))
theorem listText_any (w : World) (v : Value) (l : List Pl.D3) (h : A3 w v l) (hc : chkList l = 0) : Calls Tryz.prog 8 #[v] w fun e w' => e = .returned (.string ⟨(Pl.sh3 l).toArray⟩) ∧ Below w.heap.size w w' :=
  texts_3 w v l h ((R3_iff l).2 hc) (sh3_len hc)
end Go.Proofs.YtbfkopjpfkgjhaaGreatDoor
