/-
  Matching in plain lists: tests, steps, links, paths, lists. No program is walked in this text.
-/
import Derived.Test.YtagobgjlhdbhmaaGreatDoorRmD
import Derived.Test.YtagobgjlhdbhmaaGreatDoorLvM
import Derived.Test.YtagobgjlhdbhmaaGreatDoorHoM
import Derived.Deep.RegionHeld3
import Derived.Test.YtagobgjlhdbhmaaGreatDoorRefN
import Derived.Test.YtagobgjlhdbhmaaGreatDoorRefK
import Derived.RangeFuncBox
namespace Go.Proofs.YtagobgjlhdbhmaaGreatDoor

def tagAt (ns : List Pl.Nd) (n : Nat) : List UInt8 := match ns[n]? with | some x => x.tag | none => []
def idAt (ns : List Pl.Nd) (n : Nat) : List UInt8 := match ns[n]? with | some x => x.id | none => []
def clsAt (ns : List Pl.Nd) (n : Nat) : List (List UInt8) := match ns[n]? with | some x => x.cls | none => []
def atsAt (ns : List Pl.Nd) (n : Nat) : List (List UInt8 × List UInt8) := match ns[n]? with | some x => x.ats | none => []
/-- the kids of the one above; itself, if none is above -/
def famOf (ns : List Pl.Nd) (n : Nat) : List Int := if n = 0 then [0] else (Pl.kidsOf ns (Pl.upOf ns n)).map fun (k : Nat) => (k : Int)
section
variable {α : Type}
/-- a test, over what its list matches -/
def tstM (ns : List Pl.Nd) (g : List α → Nat → Bool) (t : Pl.Tst α) (n : Nat) : Bool :=
  if t.kind = 1 then (clsAt ns n).any (· == t.name)
  else if t.kind = 2 then idAt ns n == t.name
  else if 3 ≤ t.kind ∧ t.kind ≤ 8 then (match attr1 (atsAt ns n) t.name with | some v => Pl.valOk t.kind v t.value | none => false)
  else if t.kind = 9 then Nt.Pl.holds t.a t.b (plc (famOf ns n) n + 1)
  else if t.kind = 10 then Nt.Pl.holds t.a t.b ((famOf ns n).length - plc (famOf ns n) n)
  else if t.kind = 11 then (Pl.kidsOf ns n).length == 0
  else if t.kind = 12 then n == 0
  else if t.kind = 13 then !g t.list n
  else if t.kind = 14 then g t.list n
  else (List.range ns.length).any fun m => aboveB ns n m && g t.list m
def stpM (ns : List Pl.Nd) (g : List α → Nat → Bool) (s : Pl.Stp α) (n : Nat) : Bool := (s.tag.isEmpty || s.tag == tagAt ns n) && s.tests.all fun t => tstM ns g t n
/-- a link leads from m to n -/
def reach (ns : List Pl.Nd) (k : Int) (m n : Nat) : Bool :=
  if k = 1 then aboveB ns m n
  else if k = 2 then Pl.upOf ns n == (m : Int)
  else if k = 3 then decide (0 ≤ plc (famOf ns n) m) && (plc (famOf ns n) m + 1 == plc (famOf ns n) n)
  else decide (0 ≤ plc (famOf ns n) m) && decide (plc (famOf ns n) m < plc (famOf ns n) n)
def stpAt (p : Pl.Pth α) (k : Nat) : Pl.Stp α := (p.steps[k]?).getD ⟨[], []⟩
def lnkAt (p : Pl.Pth α) (k : Nat) : Int := (p.links[k]?).getD 0
/-- the path up to a step -/
def pthM (ns : List Pl.Nd) (g : List α → Nat → Bool) (p : Pl.Pth α) : Nat → Nat → Bool
  | 0, n => stpM ns g (stpAt p 0) n
  | k + 1, n => stpM ns g (stpAt p (k + 1)) n && (List.range n).any fun m => reach ns (lnkAt p k) m n && pthM ns g p k m
def lstM (ns : List Pl.Nd) (g : List α → Nat → Bool) (l : List (Pl.Pth α)) (n : Nat) : Bool := l.any fun p => pthM ns g p (p.steps.length - 1) n
end
def m0 (_ : List Pl.Nd) : List Unit → Nat → Bool := fun _ _ => false
def m1 (ns : List Pl.Nd) : List Pl.D1 → Nat → Bool := lstM ns (m0 ns)
def m2 (ns : List Pl.Nd) : List Pl.D2 → Nat → Bool := lstM ns (m1 ns)
def m3 (ns : List Pl.Nd) : List Pl.D3 → Nat → Bool := lstM ns (m2 ns)
end Go.Proofs.YtagobgjlhdbhmaaGreatDoor
/-
  What the document says of families and links.
-/
namespace Go.Proofs.YtagobgjlhdbhmaaGreatDoor
open Go.RowKit

/-- a right document in memory -/
structure RD (w : World) (b o : Nat) (ns : List Pl.Nd) : Prop where
  at_ : ∀ i (h : i < ns.length), NdAt w b (o + i * 5) ns[i]
  n64 : ns.length ≤ 64
  low : Pl.Low ns ns.length
  rt : ∀ x ∈ ns, Pl.right x = true
theorem RD.on {w w' : World} {b o : Nat} {ns : List Pl.Nd} (h : RD w b o ns) (hb : Below w.heap.size w w') : RD w' b o ns := ⟨fun i hi => (h.at_ i hi).on hb, h.n64, h.low, h.rt⟩
theorem famOf_len (ns : List Pl.Nd) (n : Nat) (h : ns.length ≤ 64) : (famOf ns n).length ≤ 64 := by
  unfold famOf
  split
  · simp
  · have := Pl.kidsTo_len ns (Pl.upOf ns n) ns.length
    simp only [List.length_map]
    exact Nat.le_trans this h
theorem plc_low (ks : List Int) (n : Int) : -1 ≤ plc ks n ∧ plc ks n < ks.length := by
  unfold plc
  split
  · rename_i i h
    rw [List.find?_range_eq_some] at h
    have := h.2.1
    simp at this
    omega
  · omega
theorem two_on {W W' : World} {p q : Addr} {u v : Value} (h : W.cell? p = some u ∧ W.cell? q = some v) (hb : Below W.heap.size W W') : W'.cell? p = some u ∧ W'.cell? q = some v := ⟨cell_on hb h.1, cell_on hb h.2⟩
set_option maxRecDepth 100000 in
set_option maxHeartbeats 2000000 in
theorem family_any (b o cap : Nat) (ns : List Pl.Nd) (n : Nat) (w : World) (hd : RD w b o ns) (hn : n < ns.length) :
    Calls Tryz.prog 32 #[.agg #[.slice (some ⟨b, o, none⟩) ns.length cap], .int .i64 n] w fun e w' => ∃ v, e = .returned v ∧ IntsAt w' v (famOf ns n) ∧ Below w.heap.size w w' := by
  have HB : Hid (Below w.heap.size w (w.alloc (.cells #[.slice (some ⟨b, o, none⟩) ns.length cap] 24))) := on_alloc _ _
  have HD : Hid (RD w b o ns) := hd
  clear hd
  by_cases hz : n = 0
  · subst hz
    go_enter Tryz.func32, Tryz.ntmps32
    go_wp2_with fail
    go_ret
    refine ⟨_, rfl, ⟨some ⟨w.heap.size + 1, 0, none⟩, 1, rfl, Or.inr ⟨w.heap.size + 1, 0, rfl, fun i hi => ?_⟩⟩, below_trans HB.out (on_alloc _ _)⟩
    have h0 : i = 0 := by simp [famOf] at hi; omega
    subst h0
    simp [famOf, go_sem]
  · have cu := cell_on HB.out (up_cell HD.out.at_ n hn)
    have c0 : (w.alloc (.cells #[.slice (some ⟨b, o, none⟩) ns.length cap] 24)).cell? ⟨w.heap.size, 0, none⟩ = some (.slice (some ⟨b, o, none⟩) ns.length cap) := by simp [go_sem]
    have HF : Hid (famOf ns n = (Pl.kidsOf ns (Pl.upOf ns n)).map fun (k : Nat) => (k : Int)) := by
      unfold Hid famOf
      rw [if_neg hz]
    have HDW := HD.out.on HB.out
    have hnb : ((n : Int) == 0) = false := by simpa using hz
    have i1 : (0 : Int) ≤ (n : Int) := by omega
    have i2 : (n : Int) < (ns.length : Int) := by omega
    clear hz
    go_enter Tryz.func32, Tryz.ntmps32
    go_wp2_with fail
    generalize w.alloc (.cells #[.slice (some ⟨b, o, none⟩) ns.length cap] 24) = W at *
    generalize Pl.upOf ns n = up at *
    have HK : Hid (Calls Tryz.prog 38 _ _ _) := refKids_some b o cap ns up W.drew HDW.n64 HDW.at_
    have S0 : W.drew.cell? ⟨w.heap.size, 0, none⟩ = some (.slice (some ⟨b, o, none⟩) ns.length cap) ∧ W.drew.cell? ⟨b, o + n * 5, none⟩ = some (.int .i64 up) := ⟨c0, cu⟩
    clear c0 cu HDW
    go_region_held3 (fun w' => w'.cell? ⟨w.heap.size, 0, none⟩ = some (.slice (some ⟨b, o, none⟩) ns.length cap) ∧ w'.cell? ⟨b, o + n * 5, none⟩ = some (.int .i64 up)) (first | with_reducible assumption | exact two_on (by with_reducible assumption) (by with_reducible assumption))
      (first | (go_at_call 38; refine HK.out.mono ?_; rintro e w2 ⟨v2, rfl, hr2, hb2⟩))
    all_goals
      have HI : Hid (IntsAt w2 v2 _) := hr2.ints
      have HB2 : Hid (Below w.heap.size w w2) := below_trans HB.out (below_trans ((Below.refl _ W).drew) hb2)
      clear hr2 hb2 S0
      go_wp2
      go_ret
      exact ⟨_, rfl, by rw [HF.out]; exact HI.out, HB2.out⟩
set_option maxRecDepth 100000 in
set_option maxHeartbeats 4000000 in
theorem reaches_any (b o cap : Nat) (ns : List Pl.Nd) (k : Int) (m n : Nat) (w : World) (hd : RD w b o ns) (hn : n < ns.length) :
    Calls Tryz.prog 66 #[.agg #[.slice (some ⟨b, o, none⟩) ns.length cap], .int .i64 k, .int .i64 m, .int .i64 n] w fun e w' => e = .returned (.bool (reach ns k m n)) ∧ Below w.heap.size w w' := by
  have HB : Hid (Below w.heap.size w (w.alloc (.cells #[.slice (some ⟨b, o, none⟩) ns.length cap] 24))) := on_alloc _ _
  have HDW := hd.on HB.out
  have HD : Hid (RD (w.alloc (.cells #[.slice (some ⟨b, o, none⟩) ns.length cap] 24)) b o ns) := HDW
  have cu := up_cell HDW.at_ n hn
  have c0 : (w.alloc (.cells #[.slice (some ⟨b, o, none⟩) ns.length cap] 24)).cell? ⟨w.heap.size, 0, none⟩ = some (.slice (some ⟨b, o, none⟩) ns.length cap) := by simp [go_sem]
  clear hd HDW
  by_cases h1 : k = 1
  · subst h1
    have HV : Hid (reach ns 1 m n = aboveB ns m n) := rfl
    clear cu
    go_enter Tryz.func66, Tryz.ntmps66
    go_wp2_with fail
    refine (above_some b o cap ns m n _ hn HD.out.n64 HD.out.low HD.out.at_).mono ?_
    rintro e w1 ⟨rfl, hb1⟩
    have HB1 : Hid (Below w.heap.size w w1) := below_trans HB.out hb1
    clear hb1 c0
    go_wp2
    go_ret
    exact ⟨by rw [HV.out]; rfl, HB1.out⟩
  have b1 : (k == 1) = false := by simpa using h1
  by_cases h2 : k = 2
  · subst h2
    have HV : Hid (reach ns 2 m n = (Pl.upOf ns n == (m : Int))) := rfl
    generalize Pl.upOf ns n = up at *
    clear h1 b1
    go_enter Tryz.func66, Tryz.ntmps66
    go_wp2_with fail
    go_ret
    exact ⟨by rw [HV.out]; rfl, HB.out⟩
  have b2 : (k == 2) = false := by simpa using h2
  have HV : Hid (reach ns k m n = if k = 3 then decide (0 ≤ plc (famOf ns n) m) && (plc (famOf ns n) m + 1 == plc (famOf ns n) n) else decide (0 ≤ plc (famOf ns n) m) && decide (plc (famOf ns n) m < plc (famOf ns n) n)) := by
    unfold Hid reach
    rw [if_neg h1, if_neg h2]
  have hfl := famOf_len ns n HD.out.n64
  have hp1 := plc_low (famOf ns n) m
  have hp2 := plc_low (famOf ns n) n
  clear cu h1 h2
  go_enter Tryz.func66, Tryz.ntmps66
  go_wp2_with fail
  refine (family_any b o cap ns n _ HD.out hn).mono ?_
  rintro e w1 ⟨vf, rfl, hi, hb1⟩
  obtain ⟨af, cf, rfl, -⟩ := id hi
  have HI : Hid (IntsAt w1 (.slice af (famOf ns n).length cf) (famOf ns n)) := hi
  have HB1 : Hid (Below w.heap.size w w1) := below_trans HB.out hb1
  have c1 := cell_on hb1 c0
  clear hi hb1 c0
  have HP1 : Hid (Calls Tryz.prog 37 _ _ _) := placeIn_any _ _ m w1 HI.out (by omega)
  have HP2 : Hid (Calls Tryz.prog 37 _ _ _) := placeIn_any _ _ n w1 HI.out (by omega)
  generalize plc (famOf ns n) m = a at *
  generalize plc (famOf ns n) n = a2 at *
  generalize (famOf ns n).length = fl at *
  go_wp2_with fail
  refine HP1.out.mono ?_
  rintro e w2 ⟨rfl, rfl⟩
  go_wp2_with fail
  refine HP2.out.mono ?_
  rintro e w3 ⟨rfl, rfl⟩
  by_cases h3 : k = 3
  · subst h3
    rw [if_pos rfl] at HV
    by_cases ha : 0 ≤ a
    · rw [decide_eq_true ha, Bool.true_and] at HV
      go_wp2
      go_ret
      exact ⟨by rw [HV.out]; rfl, HB1.out⟩
    · rw [decide_eq_false ha, Bool.false_and] at HV
      go_wp2
      go_ret
      exact ⟨by rw [HV.out]; rfl, HB1.out⟩
  · rw [if_neg h3] at HV
    have b3 : (k == 3) = false := by simpa using h3
    clear h3
    by_cases ha : 0 ≤ a
    · rw [decide_eq_true ha, Bool.true_and] at HV
      go_wp2
      go_ret
      exact ⟨by rw [HV.out]; rfl, HB1.out⟩
    · rw [decide_eq_false ha, Bool.false_and] at HV
      go_wp2
      go_ret
      exact ⟨by rw [HV.out]; rfl, HB1.out⟩
end Go.Proofs.YtagobgjlhdbhmaaGreatDoor
/-
  What the document says of values, of attributes, of places in lists, of those above.
-/
namespace Go.Proofs.YtagobgjlhdbhmaaGreatDoor
open Go.RowKit

set_option maxRecDepth 100000 in
set_option maxHeartbeats 4000000 in
theorem valuePasses_any (kind : Int) (s t : List UInt8) (w : World) (hs : s.length ≤ 65536) (ht : t.length ≤ 65536) :
    Calls Tryz.prog 35 #[.int .i64 kind, .string ⟨s.toArray⟩, .string ⟨t.toArray⟩] w fun e w' => e = .returned (.bool (Pl.valOk kind s t)) ∧ w' = w := by
  have HST : Hid (∀ (k : Int), -65536 ≤ k → k ≤ 65536 → Calls Tryz.prog 62 #[.string ⟨s.toArray⟩, .string ⟨t.toArray⟩, .int .i64 k] w fun e w' => e = .returned (.bool (Pl.stands s t k)) ∧ w' = w) := fun k h1 h2 => standsAt_any s t k w (by omega) (by omega) ⟨by omega, by omega⟩
  have HWD : Hid (Calls Tryz.prog 61 _ _ _) := word_any s t w hs ht
  by_cases h3 : kind = 3
  · subst h3
    go_enter Tryz.func35, Tryz.ntmps35
    go_wp2
    go_ret
    exact ⟨rfl, rfl⟩
  have b3 : (kind == 3) = false := by simpa using h3
  by_cases h4 : kind = 4
  · subst h4
    have HV : Hid (Pl.valOk 4 s t = (s == t)) := rfl
    cases he : (s == t) with
    | true =>
      have e : s = t := by simpa using he
      subst e
      clear he
      go_enter Tryz.func35, Tryz.ntmps35
      go_wp2
      go_ret
      exact ⟨by rw [HV.out]; simp, rfl⟩
    | false =>
      rw [he] at HV
      have he2 : ¬ (⟨s.toArray⟩ : ByteArray) = ⟨t.toArray⟩ := fun e => by
        have := congrArg (fun x : ByteArray => x.data.toList) e
        simp at this
        rw [this] at he
        simp at he
      go_enter Tryz.func35, Tryz.ntmps35
      go_wp2
      go_ret
      exact ⟨by rw [HV.out]; rfl, rfl⟩
  have b4 : (kind == 4) = false := by simpa using h4
  by_cases h8 : kind = 8
  · subst h8
    have HV : Hid (Pl.valOk 8 s t = Pl.word s t) := rfl
    clear h3 h4 b3 b4
    go_enter Tryz.func35, Tryz.ntmps35
    go_wp2_with fail
    refine HWD.out.mono ?_
    rintro e w1 ⟨rfl, rfl⟩
    go_wp2
    go_ret
    exact ⟨by rw [HV.out]; rfl, rfl⟩
  have b8 : (kind == 8) = false := by simpa using h8
  cases h0 : t.isEmpty with
  | true =>
    have HV : Hid (Pl.valOk kind s t = false) := by
      unfold Hid Pl.valOk
      rw [if_neg h3, if_neg h4, if_neg h8, if_pos h0]
    have ht0 : t = [] := by simpa using h0
    subst ht0
    clear h3 h4 h8
    go_enter Tryz.func35, Tryz.ntmps35
    go_wp2
    go_ret
    exact ⟨by rw [HV.out]; rfl, rfl⟩
  | false =>
    by_cases h5 : kind = 5
    · subst h5
      have HV : Hid (Pl.valOk 5 s t = Pl.stands s t 0) := by
        unfold Hid Pl.valOk
        rw [h0]
        rfl
      have HC := HST.out 0 (by omega) (by omega)
      have HC2 : Hid (Calls Tryz.prog 62 _ _ _) := HC
      clear HC h3 h4 h8 b3 b4 b8
      go_enter Tryz.func35, Tryz.ntmps35
      go_wp2_with fail
      refine HC2.out.mono ?_
      rintro e w1 ⟨rfl, rfl⟩
      go_wp2
      go_ret
      exact ⟨by rw [HV.out]; rfl, rfl⟩
    have b5 : (kind == 5) = false := by simpa using h5
    by_cases h6 : kind = 6
    · subst h6
      have HV : Hid (Pl.valOk 6 s t = Pl.stands s t ((s.length : Int) - t.length)) := by
        unfold Hid Pl.valOk
        rw [h0]
        rfl
      have HC := HST.out ((s.length : Int) - t.length) (by omega) (by omega)
      have HC2 : Hid (Calls Tryz.prog 62 _ _ _) := HC
      have hw : wrap64 ((s.length : Int) - (t.length : Int)) = (s.length : Int) - (t.length : Int) := IntWalk.wrap64_in _ ⟨by omega, by omega⟩
      clear HC h3 h4 h8 b3 b4 b8 h5 b5
      go_enter Tryz.func35, Tryz.ntmps35
      go_wp2_with fail
      refine HC2.out.mono ?_
      rintro e w1 ⟨rfl, rfl⟩
      go_wp2
      go_ret
      exact ⟨by rw [HV.out]; rfl, rfl⟩
    have b6 : (kind == 6) = false := by simpa using h6
    have HV : Hid (Pl.valOk kind s t = (List.range s.length).any fun i => Pl.stands s t i) := by
      unfold Hid Pl.valOk
      rw [if_neg h3, if_neg h4, if_neg h8, h0, if_neg (by simp), if_neg h5, if_neg h6]
    clear h3 h4 h8 h5 h6
    go_enter Tryz.func35, Tryz.ntmps35
    go_wp2_with fail
    go_loop [7] (fun n => ∃ k : Nat, k ≤ s.length ∧ n = .int .i64 k ∧ Hid (∀ j, j < k → Pl.stands s t (j : Nat) = false)) (fun n => s.length - (intOf n).toNat)
    case atStart => exact ⟨0, Nat.zero_le _, rfl, fun j hj => by omega⟩
    case round =>
      obtain ⟨k, hk, rfl, HD⟩ := hrel
      by_cases hlt : k < s.length
      · have HC := HST.out k (by omega) (by omega)
        cases hst : Pl.stands s t (k : Nat) with
        | true =>
          have HY : Hid (Pl.valOk kind s t = true) := by
            unfold Hid
            rw [HV.out]
            exact any_some hlt hst
          rw [hst] at HC
          have HC2 : Hid (Calls Tryz.prog 62 _ _ _) := HC
          clear HC hst
          go_wp2_with fail
          refine HC2.out.mono ?_
          rintro e w1 ⟨rfl, rfl⟩
          go_wp2
          go_ret
          exact ⟨by rw [HY.out]; rfl, rfl⟩
        | false =>
          have HD2 : Hid (∀ j, j < k + 1 → Pl.stands s t (j : Nat) = false) := by
            intro j hj
            by_cases e : j = k
            · subst e
              exact hst
            · exact HD.out j (by omega)
          rw [hst] at HC
          have HC2 : Hid (Calls Tryz.prog 62 _ _ _) := HC
          clear HC hst
          go_wp2_with fail
          refine HC2.out.mono ?_
          rintro e w1 ⟨rfl, rfl⟩
          go_wp2
          go_round
          case rel => exact ⟨k + 1, by omega, by go_num, HD2⟩
          case measure => simp [intOf]; omega
      · have HN : Hid (Pl.valOk kind s t = false) := by
          unfold Hid
          rw [HV.out]
          exact any_none fun j hj => HD.out j (by omega)
        go_wp2
        go_ret
        exact ⟨by rw [HN.out]; rfl, rfl⟩
end Go.Proofs.YtagobgjlhdbhmaaGreatDoor
