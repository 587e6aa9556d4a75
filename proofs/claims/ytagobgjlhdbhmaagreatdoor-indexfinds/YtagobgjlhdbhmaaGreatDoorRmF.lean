/-
  What the document says of a test.
-/
import Derived.Test.YtagobgjlhdbhmaaGreatDoorRmC
import Derived.Test.YtagobgjlhdbhmaaGreatDoorRgL
import Derived.Deep.RegionHeld3
import Derived.Deep.QuietTactic
import Derived.BigQuiet
namespace Go.Proofs.YtagobgjlhdbhmaaGreatDoor
open Go.RowKit

/-- what MatchesOf tells of a level's lists -/
def RMs {α : Type} (A : MemL α) (g : List Pl.Nd → List α → Nat → Bool) (R : List α → Prop) : Prop := ∀ (w : World) (b o cap : Nat) (ns : List Pl.Nd) (v : Value) (l : List α) (n : Nat), RD w b o ns → n < ns.length → A w v l → R l → Calls Tryz.prog 18 #[.agg #[.slice (some ⟨b, o, none⟩) ns.length cap], v, .int .i64 n] w fun e w' => e = .returned (.bool (g ns l n)) ∧ Below w.heap.size w w'
/-- the boxes of Passes: the document, the test, the element -/
structure PsB (w W : World) (dv : Value) (kind : Int) (name value : List UInt8) (ta tb : Int) (vl : Value) (up : Int) (tag idn : List UInt8) (vc va : Value) : Prop where
  d : W.cell? ⟨w.heap.size, 0, none⟩ = some dv
  t0 : W.cell? ⟨w.heap.size + 1, 0, none⟩ = some (.int .i64 kind)
  t1 : W.cell? ⟨w.heap.size + 1, 1, none⟩ = some (.string ⟨name.toArray⟩)
  t2 : W.cell? ⟨w.heap.size + 1, 2, none⟩ = some (.string ⟨value.toArray⟩)
  t3 : W.cell? ⟨w.heap.size + 1, 3, none⟩ = some (.int .i64 ta)
  t4 : W.cell? ⟨w.heap.size + 1, 4, none⟩ = some (.int .i64 tb)
  t5 : W.cell? ⟨w.heap.size + 1, 5, none⟩ = some vl
  x0 : W.cell? ⟨w.heap.size + 1 + 1, 0, none⟩ = some (.int .i64 up)
  x1 : W.cell? ⟨w.heap.size + 1 + 1, 1, none⟩ = some (.string ⟨tag.toArray⟩)
  x2 : W.cell? ⟨w.heap.size + 1 + 1, 2, none⟩ = some (.string ⟨idn.toArray⟩)
  x3 : W.cell? ⟨w.heap.size + 1 + 1, 3, none⟩ = some vc
  x4 : W.cell? ⟨w.heap.size + 1 + 1, 4, none⟩ = some va
theorem PsB.on {w W W' : World} {dv : Value} {kind : Int} {name value : List UInt8} {ta tb : Int} {vl : Value} {up : Int} {tag idn : List UInt8} {vc va : Value} (h : PsB w W dv kind name value ta tb vl up tag idn vc va) (hb : Below W.heap.size W W') : PsB w W' dv kind name value ta tb vl up tag idn vc va :=
  ⟨cell_on hb h.d, cell_on hb h.t0, cell_on hb h.t1, cell_on hb h.t2, cell_on hb h.t3, cell_on hb h.t4, cell_on hb h.t5, cell_on hb h.x0, cell_on hb h.x1, cell_on hb h.x2, cell_on hb h.x3, cell_on hb h.x4⟩
theorem blk6c {W : World} {N : Nat} {T : TypeId} {u0 u1 u2 u3 u4 u5 : Value} (h : W.heap[N]? = some (.cells #[u0, u1, u2, u3, u4, u5] T)) : W.cell? ⟨N, 0, none⟩ = some u0 ∧ W.cell? ⟨N, 1, none⟩ = some u1 ∧ W.cell? ⟨N, 2, none⟩ = some u2 ∧ W.cell? ⟨N, 3, none⟩ = some u3 ∧ W.cell? ⟨N, 4, none⟩ = some u4 ∧ W.cell? ⟨N, 5, none⟩ = some u5 := by
  refine ⟨?_, ?_, ?_, ?_, ?_, ?_⟩ <;> simp [World.cell?, h]
theorem at_parts {ns : List Pl.Nd} {n : Nat} (hn : n < ns.length) : tagAt ns n = ns[n].tag ∧ idAt ns n = ns[n].id ∧ clsAt ns n = ns[n].cls ∧ atsAt ns n = ns[n].ats ∧ Pl.upOf ns n = ns[n].up := by
  unfold tagAt idAt clsAt atsAt Pl.upOf
  rw [List.getElem?_eq_getElem hn]
  exact ⟨rfl, rfl, rfl, rfl, rfl⟩
theorem beq_cast (k : Nat) : (((k : Nat) : Int) == 0) = (k == 0) := by
  cases k <;> simp
  omega
theorem val_len {l : List UInt8} (h : Pl.isValue l = true) : l.length ≤ 65536 := by
  unfold Pl.isValue at h
  simp only [Bool.and_eq_true, decide_eq_true_eq] at h
  omega
theorem right_vals {x : Pl.Nd} (h : Pl.right x = true) : ∀ a ∈ x.ats, a.2.length ≤ 65536 := by
  unfold Pl.right at h
  simp only [Bool.and_eq_true, List.all_eq_true] at h
  exact fun a ha => val_len (h.2 a ha)
theorem attr1_mem {ats : List (List UInt8 × List UInt8)} {name v : List UInt8} (h : attr1 ats name = some v) : ∃ a ∈ ats, a.2 = v := by
  unfold attr1 at h
  cases hf : ats.find? (fun a => a.1 == name) with
  | none => rw [hf] at h; cases h
  | some a =>
    rw [hf] at h
    exact ⟨a, List.mem_of_find?_eq_some hf, Option.some.inj h⟩
theorem form_val {α : Type} {t : Pl.Tst α} (h : tF t = true) : t.value.length ≤ 65536 := by
  unfold tF Pl.tForm at h
  simp only [Bool.and_eq_true] at h
  have h2 := h.1.1.2
  unfold Pl.asked at h2
  split at h2
  · exact val_len h2
  · have : t.value = [] := by simpa using h2
    rw [this]
    simp
set_option maxRecDepth 100000 in
set_option maxHeartbeats 16000000 in
theorem passes_any {α : Type} {A : MemL α} (hA : IsL A) {g : List Pl.Nd → List α → Nat → Bool} {R : List α → Prop} (hm : RMs A g R) (b o cap : Nat) (ns : List Pl.Nd) (x : Value) (t : Pl.Tst α) (n : Nat) (w : World) (hd : RD w b o ns) (hn : n < ns.length) (hx : TstV A w x t) (ht : RT R t) :
    Calls Tryz.prog 12 #[.agg #[.slice (some ⟨b, o, none⟩) ns.length cap], x, .int .i64 n] w fun e w' => e = .returned (.bool (tstM ns (g ns) t n)) ∧ Below w.heap.size w w' := by
  obtain ⟨kind, name, value, ta, tb, list⟩ := t
  obtain ⟨vl, rfl, hvl⟩ := hx
  obtain ⟨hk, htf, hnb, hkl⟩ := ht
  dsimp only at hvl hk hnb hkl ⊢
  have hval := form_val htf
  dsimp only at hval
  clear htf hnb
  obtain ⟨al, cl, rfl, -⟩ := hA.form hvl
  have HRX := hd.rt ns[n] (List.getElem_mem hn)
  obtain ⟨p1, p2, p3, p4, p5⟩ := at_parts hn
  obtain ⟨vc, va, n0, n1, n2, n3, n4, hsc, hsa⟩ := hd.at_ n hn
  have hshort := right_short HRX
  have hvals := right_vals HRX
  rw [← p1] at n1
  rw [← p2] at n2
  rw [← p3] at hsc hshort
  rw [← p4] at hsa hshort hvals
  rw [← p5] at n0
  clear p1 p2 p3 p4 p5 HRX
  obtain ⟨ac, cc, rfl, -⟩ := id hsc
  obtain ⟨aa, ca, rfl, -⟩ := id hsa
  have HTG : Hid (∃ q, q = tagAt ns n) := ⟨_, rfl⟩
  obtain ⟨tag, htag⟩ := HTG.out
  obtain ⟨idn, hid⟩ : ∃ q, q = idAt ns n := ⟨_, rfl⟩
  obtain ⟨up, hup⟩ : ∃ q, q = Pl.upOf ns n := ⟨_, rfl⟩
  rw [← htag] at n1
  rw [← hid] at n2
  rw [← hup] at n0
  have HID : Hid (idn = idAt ns n) := hid
  clear HTG htag hid hup
  have hb1 := on_alloc w (.cells #[.slice (some ⟨b, o, none⟩) ns.length cap] 24)
  have hb2 := on_alloc (w.alloc (.cells #[.slice (some ⟨b, o, none⟩) ns.length cap] 24)) (.cells #[.int .i64 kind, .string ⟨name.toArray⟩, .string ⟨value.toArray⟩, .int .i64 ta, .int .i64 tb, .slice al list.length cl] 29)
  have hb3 := on_alloc ((w.alloc (.cells #[.slice (some ⟨b, o, none⟩) ns.length cap] 24)).alloc (.cells #[.int .i64 kind, .string ⟨name.toArray⟩, .string ⟨value.toArray⟩, .int .i64 ta, .int .i64 tb, .slice al list.length cl] 29)) (.cells #[.int .i64 up, .string ⟨tag.toArray⟩, .string ⟨idn.toArray⟩, .slice ac (clsAt ns n).length cc, .slice aa (atsAt ns n).length ca] 77)
  have HB : Hid (Below w.heap.size w (((w.alloc (.cells #[.slice (some ⟨b, o, none⟩) ns.length cap] 24)).alloc (.cells #[.int .i64 kind, .string ⟨name.toArray⟩, .string ⟨value.toArray⟩, .int .i64 ta, .int .i64 tb, .slice al list.length cl] 29)).alloc (.cells #[.int .i64 up, .string ⟨tag.toArray⟩, .string ⟨idn.toArray⟩, .slice ac (clsAt ns n).length cc, .slice aa (atsAt ns n).length ca] 77))) := below_trans (below_trans hb1 hb2) hb3
  have e2 := World.alloc_heap_new (w.alloc (.cells #[.slice (some ⟨b, o, none⟩) ns.length cap] 24)) (.cells #[.int .i64 kind, .string ⟨name.toArray⟩, .string ⟨value.toArray⟩, .int .i64 ta, .int .i64 tb, .slice al list.length cl] 29)
  have e3 := World.alloc_heap_new ((w.alloc (.cells #[.slice (some ⟨b, o, none⟩) ns.length cap] 24)).alloc (.cells #[.int .i64 kind, .string ⟨name.toArray⟩, .string ⟨value.toArray⟩, .int .i64 ta, .int .i64 tb, .slice al list.length cl] 29)) (.cells #[.int .i64 up, .string ⟨tag.toArray⟩, .string ⟨idn.toArray⟩, .slice ac (clsAt ns n).length cc, .slice aa (atsAt ns n).length ca] 77)
  simp only [World.size_alloc] at e2 e3
  have HP : Hid (PsB w (((w.alloc (.cells #[.slice (some ⟨b, o, none⟩) ns.length cap] 24)).alloc (.cells #[.int .i64 kind, .string ⟨name.toArray⟩, .string ⟨value.toArray⟩, .int .i64 ta, .int .i64 tb, .slice al list.length cl] 29)).alloc (.cells #[.int .i64 up, .string ⟨tag.toArray⟩, .string ⟨idn.toArray⟩, .slice ac (clsAt ns n).length cc, .slice aa (atsAt ns n).length ca] 77)) (.slice (some ⟨b, o, none⟩) ns.length cap) kind name value ta tb (.slice al list.length cl) up tag idn (.slice ac (clsAt ns n).length cc) (.slice aa (atsAt ns n).length ca)) := by
    obtain ⟨q0, q1, q2, q3, q4, q5⟩ := blk6c e2
    obtain ⟨r0, r1, r2, r3, r4⟩ := blk5_cells e3
    exact ⟨cell_on hb3 (cell_on hb2 (by simp [go_sem])), cell_on hb3 q0, cell_on hb3 q1, cell_on hb3 q2, cell_on hb3 q3, cell_on hb3 q4, cell_on hb3 q5, r0, r1, r2, r3, r4⟩
  have m0 := cell_on (below_trans hb1 hb2) n0
  have m1 := cell_on (below_trans hb1 hb2) n1
  have m2 := cell_on (below_trans hb1 hb2) n2
  have m3 := cell_on (below_trans hb1 hb2) n3
  have m4 := cell_on (below_trans hb1 hb2) n4
  have HD0 : Hid (RD w b o ns) := hd
  have HA0 : Hid (A w (.slice al list.length cl) list) := hvl
  have HSC : Hid (StrsAt w (.slice ac (clsAt ns n).length cc) (clsAt ns n)) := hsc
  have HSA : Hid (AtsAt w (.slice aa (atsAt ns n).length ca) (atsAt ns n)) := hsa
  have HM : Hid (RMs A g R) := hm
  have HIA : Hid (IsL A) := hA
  have HVS : Hid (∀ a ∈ atsAt ns n, a.2.length ≤ 65536) := hvals
  have i1 : (0 : Int) ≤ (n : Int) := by omega
  have i2 : (n : Int) < (ns.length : Int) := by omega
  have hk15 : 1 ≤ kind ∧ kind ≤ 15 := by
    unfold Pl.isKind at hk
    simpa using hk
  have hfl := famOf_len ns n hd.n64
  have hpl := plc_low (famOf ns n) n
  clear hb1 hb2 hb3 e2 e3 n0 n1 n2 n3 n4 hvl hsc hsa hm hA hvals hk
  have HFC : Hid (Calls Tryz.prog 32 _ _ _) := family_any b o cap ns n _ (hd.on HB.out) hn
  clear hd
  go_enter Tryz.func12, Tryz.ntmps12
  go_wp2_with fail
  clear m0 m1 m2 m3 m4
  generalize ((w.alloc (.cells #[.slice (some ⟨b, o, none⟩) ns.length cap] 24)).alloc (.cells #[.int .i64 kind, .string ⟨name.toArray⟩, .string ⟨value.toArray⟩, .int .i64 ta, .int .i64 tb, .slice al list.length cl] 29)).alloc (.cells #[.int .i64 up, .string ⟨tag.toArray⟩, .string ⟨idn.toArray⟩, .slice ac (clsAt ns n).length cc, .slice aa (atsAt ns n).length ca] 77) = W at *
  refine HFC.out.mono ?_
  rintro e w1 ⟨vf, rfl, hi, hbf⟩
  obtain ⟨af, cf, rfl, -⟩ := id hi
  have HI : Hid (IntsAt w1 (.slice af (famOf ns n).length cf) (famOf ns n)) := hi
  have HB1 : Hid (Below w.heap.size w w1) := below_trans HB.out hbf
  have HP1 : Hid (PsB w w1 (.slice (some ⟨b, o, none⟩) ns.length cap) kind name value ta tb (.slice al list.length cl) up tag idn (.slice ac (clsAt ns n).length cc) (.slice aa (atsAt ns n).length ca)) := HP.out.on hbf
  have HD : Hid (RD w1 b o ns) := HD0.out.on HB1.out
  clear hi hbf HFC HP HB HD0
  have t0 := HP1.out.t0
  have hcase : kind = 1 ∨ kind = 2 ∨ (3 ≤ kind ∧ kind ≤ 8) ∨ kind = 9 ∨ kind = 10 ∨ kind = 11 ∨ kind = 12 ∨ kind = 13 ∨ kind = 14 ∨ kind = 15 := by omega
  clear hk15
  rcases hcase with rfl | rfl | ⟨hk3, hk8⟩ | rfl | rfl | rfl | rfl | rfl | rfl | rfl
  · have HV : Hid (tstM ns (g ns) ⟨1, name, value, ta, tb, list⟩ n = (clsAt ns n).any (· == name)) := rfl
    have t1 := HP1.out.t1
    have x3 := HP1.out.x3
    have HSC1 : Hid (StrsAt w1 (.slice ac (clsAt ns n).length cc) (clsAt ns n)) := HSC.out.on HB1.out
    have hs6 : (clsAt ns n).length ≤ 6 := hshort.1
    generalize clsAt ns n = cs at *
    have HCC : Hid (∀ i (h : i < cs.length), ∃ b o, ac = some ⟨b, o, none⟩ ∧ w1.cell? ⟨b, o + i, none⟩ = some (.string ⟨cs[i].toArray⟩)) := fun i hi => by
      obtain ⟨a, c, e, hc⟩ := HSC1.out
      injection e with e1 e2 e3
      subst e1
      rcases hc with rfl | ⟨b, o, rfl, hc⟩
      · simp at hi
      · exact ⟨b, o, rfl, hc i hi⟩
    clear HSC1 HSC HSA HA0 HM hshort HVS hpl hfl HI hkl
    go_wp2_with fail
    go_loopw [9] (fun m wr => ∃ k : Nat, k ≤ cs.length ∧ m = .int .i64 k ∧ Hid (∀ j (h : j < cs.length), j < k → (cs[j] == name) = false) ∧ Hid (Below w1.heap.size w1 wr)) (fun m _ => cs.length - (intOf m).toNat)
    case atStart => exact ⟨0, Nat.zero_le _, rfl, fun j _ hj => by omega, Below.refl _ _⟩
    case round =>
      obtain ⟨k, hk, rfl, HDN, HBR⟩ := hrel
      have s1 := cell_on HBR.out t1
      have s3 := cell_on HBR.out x3
      have HBW : Hid (Below w.heap.size w wr) := below_trans HB1.out HBR.out
      by_cases hlt : k < cs.length
      · obtain ⟨bc, oc, rfl, d1⟩ := HCC.out k hlt
        replace d1 := cell_on HBR.out d1
        have k1 : (0 : Int) ≤ (k : Int) := by omega
        have k2 : (k : Int) < (cs.length : Int) := by omega
        cases he : (cs[k] == name) with
        | true =>
          have e : cs[k] = name := by simpa using he
          have HY : Hid (cs.any (· == name) = true) := by
            unfold Hid
            rw [List.any_eq_true]
            exact ⟨cs[k], List.getElem_mem hlt, he⟩
          rw [e] at d1
          clear he e
          go_wp2_with fail
          go_quiet (fail)
          go_wp2
          go_ret
          exact ⟨by rw [HV.out, HY.out]; rfl, below_drewN HBW.out _⟩
        | false =>
          have HDN2 : Hid (∀ j (h : j < cs.length), j < k + 1 → (cs[j] == name) = false) := by
            intro j h hj
            by_cases e : j = k
            · subst e
              exact he
            · exact HDN.out j h (by omega)
          generalize cs[k] = q at *
          have he2 : ¬ (⟨q.toArray⟩ : ByteArray) = ⟨name.toArray⟩ := fun e => by
            have := congrArg (fun x : ByteArray => x.data.toList) e
            simp at this
            rw [this] at he
            simp at he
          go_wp2_with fail
          go_quiet (fail)
          go_wp2
          exact ⟨⟨k + 1, by omega, by go_num, HDN2, below_drewN HBR.out _⟩, by simp [intOf]; omega⟩
      · have HN : Hid (cs.any (· == name) = false) := by
          unfold Hid
          rw [Bool.eq_false_iff]
          intro e
          rw [List.any_eq_true] at e
          obtain ⟨c, hc, hp⟩ := e
          obtain ⟨j, hj, rfl⟩ := List.getElem_of_mem hc
          rw [HDN.out j hj (by omega)] at hp
          cases hp
        go_wp2
        go_ret
        exact ⟨by rw [HV.out, HN.out]; rfl, HBW.out⟩
  · have HV : Hid (tstM ns (g ns) ⟨2, name, value, ta, tb, list⟩ n = (idAt ns n == name)) := rfl
    have t1 := HP1.out.t1
    have x2 := HP1.out.x2
    rw [← HID.out] at HV
    clear HSC HSA HA0 HM hshort HVS hpl hfl HI hkl
    cases he : (idn == name) with
    | true =>
      have e : idn = name := by simpa using he
      subst e
      rw [he] at HV
      clear he
      go_wp2_with fail
      go_ret
      exact ⟨by rw [HV.out]; rfl, HB1.out⟩
    | false =>
      rw [he] at HV
      have he2 : ¬ (⟨idn.toArray⟩ : ByteArray) = ⟨name.toArray⟩ := fun e => by
        have := congrArg (fun x : ByteArray => x.data.toList) e
        simp at this
        rw [this] at he
        simp at he
      go_wp2_with fail
      go_ret
      exact ⟨by rw [HV.out]; rfl, HB1.out⟩
  · have HV : Hid (tstM ns (g ns) ⟨kind, name, value, ta, tb, list⟩ n = (match attr1 (atsAt ns n) name with | some v => Pl.valOk kind v value | none => false)) := by
      unfold Hid tstM
      dsimp only
      rw [if_neg (by omega), if_neg (by omega), if_pos ⟨hk3, hk8⟩]
      rfl
    have k1 : (kind == 1) = false := by simp; omega
    have k2 : (kind == 2) = false := by simp; omega
    have hwi : within kind 3 8 = true := by unfold within; simp; omega
    obtain ⟨-, u0, u1, u2, u3, u4, u5, y0, y1, y2, y3, y4⟩ := HP1.out
    have HNV : Hid (NdV w1 (.agg #[.int .i64 up, .string ⟨tag.toArray⟩, .string ⟨idn.toArray⟩, .slice ac (clsAt ns n).length cc, .slice aa (atsAt ns n).length ca]) ⟨up, tag, idn, clsAt ns n, atsAt ns n⟩) := ⟨_, _, rfl, HSC.out.on HB1.out, HSA.out.on HB1.out⟩
    have HCA : Hid (Calls Tryz.prog 34 _ _ _) := attrOf_any _ _ name w1 HNV.out (by show (atsAt ns n).length ≤ 64; omega)
    clear hk3 hk8 HNV HSC HSA HA0 HM hshort hpl hfl HI hkl u0 u3 u4 u5
    go_wp2_with (go_at_call 33; refine (within_any _ _ _ _).mono ?_; rintro e w' ⟨rfl, hq⟩; rw [hq, hwi]; clear hq)
    refine HCA.out.mono ?_
    cases hat : attr1 (atsAt ns n) name with
    | none =>
      rw [hat] at HV
      rintro e w2 ⟨rfl, hb2⟩
      have HB2 : Hid (Below w.heap.size w w2) := below_trans HB1.out hb2
      clear hb2 y0 y1 y2 y3 y4 u1 u2 t0 HP1
      go_wp2_with fail
      go_ret
      exact ⟨by rw [HV.out]; rfl, HB2.out⟩
    | some av =>
      rw [hat] at HV
      rintro e w2 ⟨rfl, hb2⟩
      have HB2 : Hid (Below w.heap.size w w2) := below_trans HB1.out hb2
      have hvl : av.length ≤ 65536 := by
        obtain ⟨a, ha, rfl⟩ := attr1_mem hat
        exact HVS.out a ha
      have v0 := cell_on hb2 t0
      have v2 := cell_on hb2 u2
      have HCV : Hid (Calls Tryz.prog 35 _ _ _) := valuePasses_any kind av value w2 hvl hval
      clear hb2 y0 y1 y2 y3 y4 u1 u2 t0 HP1 hat hvl
      go_wp2_with fail
      refine HCV.out.mono ?_
      rintro e w3 ⟨rfl, rfl⟩
      go_wp2
      go_ret
      exact ⟨by rw [HV.out]; rfl, HB2.out⟩
  · have HV : Hid (tstM ns (g ns) ⟨9, name, value, ta, tb, list⟩ n = Nt.Pl.holds ta tb (plc (famOf ns n) n + 1)) := rfl
    have hwi : within 9 3 8 = false := rfl
    have t3 := HP1.out.t3
    have t4 := HP1.out.t4
    have HPL : Hid (∀ W, Below w1.heap.size w1 W → Calls Tryz.prog 37 #[.slice af (famOf ns n).length cf, .int .i64 n] W fun e w' => e = .returned (.int .i64 (plc (famOf ns n) n)) ∧ w' = W) := fun W hW => placeIn_any _ _ n W (HI.out.on hW) (by omega)
    generalize plc (famOf ns n) n = pl at *
    generalize (famOf ns n).length = fl at *
    have hwp : IntKind.i64.wrap (pl + 1) = (pl + 1) := IntWalk.i64_in _ ⟨by omega, by omega⟩
    have HWP : Hid (_ = _) := hwp
    clear HSC HSA HA0 HM hshort HVS HI hkl HP1
    go_wp2_with (go_at_call 33; refine (within_any _ _ _ _).mono ?_; rintro e w' ⟨rfl, hq⟩; rw [hq, hwi]; clear hq)
    have S0 : (w1.drew.cell? ⟨w.heap.size + 1, 3, none⟩ = some (.int .i64 ta) ∧ w1.drew.cell? ⟨w.heap.size + 1, 4, none⟩ = some (.int .i64 tb)) := ⟨t3, t4⟩
    have HPL2 : Hid (Calls Tryz.prog 37 _ _ _) := HPL.out w1.drew (Below.refl _ w1).drew
    clear t3 t4 t0
    go_region_held3 (fun w' => w'.cell? ⟨w.heap.size + 1, 3, none⟩ = some (.int .i64 ta) ∧ w'.cell? ⟨w.heap.size + 1, 4, none⟩ = some (.int .i64 tb)) (first | with_reducible assumption | exact two_on (by with_reducible assumption) (by with_reducible assumption))
      (first | (go_at_call 37; refine HPL2.out.mono ?_; rintro e w' ⟨rfl, rfl⟩) | (go_at_call 36; refine (Nt.rholds_any _ _ _ _).mono ?_; rintro e w2 ⟨rfl, hb2⟩))
    all_goals
      have HB2 : Hid (Below w.heap.size w w2) := below_trans HB1.out (below_trans ((Below.refl _ w1).drew) hb2)
      clear hb2 S0
      go_wp2
      go_ret
      refine ⟨?_, HB2.out⟩
      rw [HV.out]
      first | rfl | (show Ending.returned (.bool (Nt.Pl.holds ta tb (IntKind.i64.wrap (pl + 1)))) = _; rw [HWP.out])
  · have HV : Hid (tstM ns (g ns) ⟨10, name, value, ta, tb, list⟩ n = Nt.Pl.holds ta tb (((famOf ns n).length : Int) - plc (famOf ns n) n)) := rfl
    have hwi : within 10 3 8 = false := rfl
    have t3 := HP1.out.t3
    have t4 := HP1.out.t4
    have HPL : Hid (∀ W, Below w1.heap.size w1 W → Calls Tryz.prog 37 #[.slice af (famOf ns n).length cf, .int .i64 n] W fun e w' => e = .returned (.int .i64 (plc (famOf ns n) n)) ∧ w' = W) := fun W hW => placeIn_any _ _ n W (HI.out.on hW) (by omega)
    generalize plc (famOf ns n) n = pl at *
    generalize (famOf ns n).length = fl at *
    have hwp : IntKind.i64.wrap ((fl : Int) - pl) = ((fl : Int) - pl) := IntWalk.i64_in _ ⟨by omega, by omega⟩
    have HWP : Hid (_ = _) := hwp
    clear HSC HSA HA0 HM hshort HVS HI hkl HP1
    go_wp2_with (go_at_call 33; refine (within_any _ _ _ _).mono ?_; rintro e w' ⟨rfl, hq⟩; rw [hq, hwi]; clear hq)
    have S0 : (w1.drew.cell? ⟨w.heap.size + 1, 3, none⟩ = some (.int .i64 ta) ∧ w1.drew.cell? ⟨w.heap.size + 1, 4, none⟩ = some (.int .i64 tb)) := ⟨t3, t4⟩
    have HPL2 : Hid (Calls Tryz.prog 37 _ _ _) := HPL.out w1.drew (Below.refl _ w1).drew
    clear t3 t4 t0
    go_region_held3 (fun w' => w'.cell? ⟨w.heap.size + 1, 3, none⟩ = some (.int .i64 ta) ∧ w'.cell? ⟨w.heap.size + 1, 4, none⟩ = some (.int .i64 tb)) (first | with_reducible assumption | exact two_on (by with_reducible assumption) (by with_reducible assumption))
      (first | (go_at_call 37; refine HPL2.out.mono ?_; rintro e w' ⟨rfl, rfl⟩) | (go_at_call 36; refine (Nt.rholds_any _ _ _ _).mono ?_; rintro e w2 ⟨rfl, hb2⟩))
    all_goals
      have HB2 : Hid (Below w.heap.size w w2) := below_trans HB1.out (below_trans ((Below.refl _ w1).drew) hb2)
      clear hb2 S0
      go_wp2
      go_ret
      refine ⟨?_, HB2.out⟩
      rw [HV.out]
      first | rfl | (show Ending.returned (.bool (Nt.Pl.holds ta tb (IntKind.i64.wrap ((fl : Int) - pl)))) = _; rw [HWP.out])
  · have HV : Hid (tstM ns (g ns) ⟨11, name, value, ta, tb, list⟩ n = ((Pl.kidsOf ns n).length == 0)) := rfl
    have hwi : within 11 3 8 = false := rfl
    have d0 := HP1.out.d
    have hkn : (Pl.kidsOf ns n).length ≤ 64 := Nat.le_trans (Pl.kidsTo_len ns n ns.length) HD.out.n64
    have HCK : Hid (Calls Tryz.prog 38 _ _ _) := refKids_some b o cap ns n w1 HD.out.n64 HD.out.at_
    clear HSC HSA HA0 HM hshort HVS HI hkl HP1 hpl hfl
    go_wp2_with (first | go_at_call 33; refine (within_any _ _ _ _).mono ?_; rintro e w' ⟨rfl, hq⟩; rw [hq, hwi]; clear hq)
    refine HCK.out.mono ?_
    rintro e w2 ⟨vk, rfl, hi2, hb2⟩
    obtain ⟨a2, c2, rfl, -⟩ := hi2
    have HB2 : Hid (Below w.heap.size w w2) := below_trans HB1.out hb2
    generalize (Pl.kidsOf ns n).length = kn at *
    clear hb2 d0 t0
    go_wp2
    go_ret
    exact ⟨by rw [HV.out, ← beq_cast]; rfl, HB2.out⟩
  · have HV : Hid (tstM ns (g ns) ⟨12, name, value, ta, tb, list⟩ n = (n == 0)) := rfl
    have hwi : within 12 3 8 = false := rfl
    clear HSC HSA HA0 HM hshort HVS HI hkl HP1 hpl hfl
    go_wp2_with (go_at_call 33; refine (within_any _ _ _ _).mono ?_; rintro e w' ⟨rfl, hq⟩; rw [hq, hwi]; clear hq)
    go_ret
    refine ⟨?_, HB1.out⟩
    rw [HV.out]
    by_cases h0 : n = 0
    · subst h0
      rfl
    · have e1 : (n == 0) = false := by simpa using h0
      have e2 : ((n : Int) == 0) = false := by simpa using h0
      rw [e1]
      simp [e2]
  · have HV : Hid (tstM ns (g ns) ⟨13, name, value, ta, tb, list⟩ n = (!g ns list n)) := rfl
    have hwi : within 13 3 8 = false := rfl
    have d0 := HP1.out.d
    have t5 := HP1.out.t5
    have HCM : Hid (Calls Tryz.prog 18 _ _ _) := HM.out w1 b o cap ns _ list n HD.out hn (HIA.out.on HA0.out HB1.out) (hkl rfl)
    clear HSC HSA HA0 HM hshort HVS HI hkl HP1 hpl hfl
    go_wp2_with (first | go_at_call 33; refine (within_any _ _ _ _).mono ?_; rintro e w' ⟨rfl, hq⟩; rw [hq, hwi]; clear hq)
    refine HCM.out.mono ?_
    rintro e w2 ⟨rfl, hb2⟩
    have HB2 : Hid (Below w.heap.size w w2) := below_trans HB1.out hb2
    clear hb2 d0 t5 t0
    go_wp2
    go_ret
    exact ⟨by rw [HV.out]; rfl, HB2.out⟩
  · have HV : Hid (tstM ns (g ns) ⟨14, name, value, ta, tb, list⟩ n = g ns list n) := rfl
    have hwi : within 14 3 8 = false := rfl
    have d0 := HP1.out.d
    have t5 := HP1.out.t5
    have HCM : Hid (Calls Tryz.prog 18 _ _ _) := HM.out w1 b o cap ns _ list n HD.out hn (HIA.out.on HA0.out HB1.out) (hkl rfl)
    clear HSC HSA HA0 HM hshort HVS HI hkl HP1 hpl hfl
    go_wp2_with (first | go_at_call 33; refine (within_any _ _ _ _).mono ?_; rintro e w' ⟨rfl, hq⟩; rw [hq, hwi]; clear hq)
    refine HCM.out.mono ?_
    rintro e w2 ⟨rfl, hb2⟩
    have HB2 : Hid (Below w.heap.size w w2) := below_trans HB1.out hb2
    clear hb2 d0 t5 t0
    go_wp2
    go_ret
    exact ⟨by rw [HV.out]; rfl, HB2.out⟩
  · have HV : Hid (tstM ns (g ns) ⟨15, name, value, ta, tb, list⟩ n = (List.range ns.length).any fun m => aboveB ns n m && g ns list m) := rfl
    have hwi : within 15 3 8 = false := rfl
    have HRL : Hid (R list) := hkl rfl
    clear HSC HSA hshort HVS HI hkl hpl hfl
    have h64 := HD.out.n64
    go_wp2_with (go_at_call 33; refine (within_any _ _ _ _).mono ?_; rintro e w' ⟨rfl, hq⟩; rw [hq, hwi]; clear hq)
    clear t0
    go_loopw [12] (fun i wr => ∃ k : Nat, k ≤ ns.length ∧ i = .int .i64 k ∧ Hid (∀ j, j < k → (aboveB ns n j && g ns list j) = false) ∧ Hid (Below w1.heap.size w1 wr)) (fun i _ => ns.length - (intOf i).toNat)
    case atStart => exact ⟨0, Nat.zero_le _, rfl, fun j hj => by omega, Below.refl _ _⟩
    case round =>
      obtain ⟨k, hk, rfl, HDN, HBR⟩ := hrel
      have d0 := cell_on HBR.out HP1.out.d
      have t5 := cell_on HBR.out HP1.out.t5
      by_cases hlt : k < ns.length
      · have HDR := HD.out.on HBR.out
        have HCA := above_some b o cap ns n k wr hlt HDR.n64 HDR.low HDR.at_
        have HA1 : Hid (A wr (.slice al list.length cl) list) := HIA.out.on HA0.out (below_trans HB1.out HBR.out)
        have HDR2 : Hid (RD wr b o ns) := HDR
        cases hab : aboveB ns n k with
        | false =>
          have HDN2 : Hid (∀ j, j < k + 1 → (aboveB ns n j && g ns list j) = false) := by
            intro j hj
            by_cases e : j = k
            · subst e
              rw [hab]
              rfl
            · exact HDN.out j (by omega)
          rw [hab] at HCA
          have HCA2 : Hid (Calls Tryz.prog 39 _ _ _) := HCA
          clear HCA hab HDR
          go_wp2_with fail
          refine HCA2.out.mono ?_
          rintro e w2 ⟨rfl, hb2⟩
          have HB2 : Hid (Below w1.heap.size w1 w2) := below_trans HBR.out hb2
          clear hb2 d0 t5
          go_wp2
          exact ⟨⟨k + 1, by omega, by go_num, HDN2, HB2⟩, by simp [intOf]; omega⟩
        | true =>
          rw [hab] at HCA
          have HCA2 : Hid (Calls Tryz.prog 39 _ _ _) := HCA
          have HAB : Hid (aboveB ns n k = true) := hab
          clear HCA hab HDR
          go_wp2_with fail
          refine HCA2.out.mono ?_
          rintro e w2 ⟨rfl, hb2⟩
          have HB2 : Hid (Below w1.heap.size w1 w2) := below_trans HBR.out hb2
          have HCM := HM.out w2 b o cap ns _ list k (HDR2.out.on hb2) hlt (HIA.out.on HA1.out hb2) HRL.out
          have d2 := cell_on hb2 d0
          have s5 := cell_on hb2 t5
          clear hb2 d0 t5
          cases hgk : g ns list k with
          | true =>
            rw [hgk] at HCM
            have HCM2 : Hid (Calls Tryz.prog 18 _ _ _) := HCM
            have HY : Hid (tstM ns (g ns) ⟨15, name, value, ta, tb, list⟩ n = true) := by
              unfold Hid
              rw [HV.out]
              exact any_some hlt (by rw [HAB.out, hgk]; rfl)
            clear HCM hgk
            go_wp2_with fail
            refine HCM2.out.mono ?_
            rintro e w3 ⟨rfl, hb3⟩
            have HB3 : Hid (Below w.heap.size w w3) := below_trans HB1.out (below_trans HB2.out hb3)
            clear hb3 d2 s5
            go_wp2
            go_ret
            exact ⟨by rw [HY.out]; rfl, HB3.out⟩
          | false =>
            rw [hgk] at HCM
            have HCM2 : Hid (Calls Tryz.prog 18 _ _ _) := HCM
            have HDN2 : Hid (∀ j, j < k + 1 → (aboveB ns n j && g ns list j) = false) := by
              intro j hj
              by_cases e : j = k
              · subst e
                rw [hgk]
                simp
              · exact HDN.out j (by omega)
            clear HCM hgk
            go_wp2_with fail
            refine HCM2.out.mono ?_
            rintro e w3 ⟨rfl, hb3⟩
            have HB3 : Hid (Below w1.heap.size w1 w3) := below_trans HB2.out hb3
            clear hb3 d2 s5
            go_wp2
            exact ⟨⟨k + 1, by omega, by go_num, HDN2, HB3⟩, by simp [intOf]; omega⟩
      · have HN : Hid (tstM ns (g ns) ⟨15, name, value, ta, tb, list⟩ n = false) := by
          unfold Hid
          rw [HV.out]
          exact any_none fun j hj => HDN.out j (by omega)
        have HB3 : Hid (Below w.heap.size w wr) := below_trans HB1.out HBR.out
        go_wp2
        go_ret
        exact ⟨by rw [HN.out]; rfl, HB3.out⟩
end Go.Proofs.YtagobgjlhdbhmaaGreatDoor
