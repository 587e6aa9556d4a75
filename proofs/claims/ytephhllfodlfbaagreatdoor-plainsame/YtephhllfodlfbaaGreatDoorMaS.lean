/-
  The iterator over what is above an element.
-/
import Derived.Test.YtephhllfodlfbaaGreatDoorPkA
import Derived.Test.YtephhllfodlfbaaGreatDoorMaK
import Derived.RangeFuncNested
import Derived.Test.YtephhllfodlfbaaGreatDoorPkF
import Derived.WalkMore
namespace Go.Proofs.YtephhllfodlfbaaGreatDoor
open Go.RowKit Go.Shelf

attribute [local go_sem] Oper.semAt_some

/-- what the iterators read after every round -/
def Sees (ns : List Pl.Nd) (Bt b o cap : Nat) (W : World) : Prop := W.cell? ⟨Bt, 0, none⟩ = some (.slice (some ⟨b, o, none⟩) ns.length cap) ∧ ∀ i, i < ns.length → W.cell? ⟨b, o + i * 5, none⟩ = some (.int .i64 (Pl.upOf ns i))
/-- an element's number -/
abbrev NU (ns : List Pl.Nd) := { x : Nat // x < ns.length }
set_option maxRecDepth 100000 in
set_option maxHeartbeats 4000000 in
theorem above1_in (F : Fence) (f : Nat) (h65 : F.fn 211) (hro : F.round = none) (hf : 1 ≤ f) (l Bt Bn b o cap : Nat) (ns : List Pl.Nd) (n : Nat) (hlow : Pl.Low ns ns.length) (h64 : ns.length ≤ 64) (hn : n < ns.length) (J Jx : List (NU ns) → World → Prop) (W : World)
    (hY : ∀ pre x W1, J pre W1 → pre.length < 64 → YieldAt F (f - 1) Tryz.prog l #[.int .i64 x.1] W1 fun e W' =>
      (e = .returned (.bool true) ∧ J (pre ++ [x]) W' ∧ (Sees ns Bt b o cap W1 → Sees ns Bt b o cap W')) ∨ (e = .returned (.bool false) ∧ Jx (pre ++ [x]) W'))
    (hS : Sees ns Bt b o cap W) (hBn : W.cell? ⟨Bn, 0, none⟩ = some (.int .i64 n)) (h0 : J [] W) :
    CallsIn F f Tryz.prog 211 #[.func (.yield l) #[] #[], .pointer (some ⟨Bt, 0, none⟩), .pointer (some ⟨Bn, 0, none⟩)] W fun e W' => (∃ v, e = .returned v) ∧
      ((∃ ys, ys.map Subtype.val = aboveL ns n ∧ J ys W') ∨ (∃ pre, pre.map Subtype.val <+: aboveL ns n ∧ Jx pre W')) := by
  have HY : Hid (∀ pre x W1, J pre W1 → pre.length < 64 → YieldAt F (f - 1) Tryz.prog l #[.int .i64 x.1] W1 fun e W' => (e = .returned (.bool true) ∧ J (pre ++ [x]) W' ∧ (Sees ns Bt b o cap W1 → Sees ns Bt b o cap W')) ∨ (e = .returned (.bool false) ∧ Jx (pre ++ [x]) W')) := hY
  have HS : Hid (Sees ns Bt b o cap W) := hS
  have HL : Hid (Pl.Low ns ns.length) := hlow
  have HN : Hid (ns.length ≤ 64) := h64
  have H0 : Hid (J [] W) := h0
  have c0 := hS.1
  have c1 := hS.2 n hn
  have i1 : (0 : Int) ≤ (n : Int) := by omega
  have i2 : (n : Int) < (ns.length : Int) := by omega
  have hu := hlow n hn
  have HA : Hid (aboveL ns n = upL ns (n + 1) (Pl.upOf ns n)) := rfl
  have HUN : Hid (Pl.upOf ns n < n ∧ -1 ≤ Pl.upOf ns n ∧ n < ns.length) := ⟨hu.2, hu.1, hn⟩
  clear hY hS hlow h0 hu h64
  generalize Pl.upOf ns n = u0 at *
  generalize aboveL ns n = AB at *
  refine callsIn_of_wp Tryz.func211 rfl h65 ?_ hro
  simp only [Tryz.ntmps211, List.size_toArray, List.length_cons, List.length_nil, Nat.reduceAdd, Nat.reduceSub, Array.replicate_succ, Array.replicate_zero, List.push_toArray, List.append_toArray, List.nil_append, List.cons_append]
  gi_wp2
  clear c0 c1 i1 i2 hBn
  gi_loopw [4] (fun i wr => ∃ (u : Int) (g : Nat), i = .int .i64 u ∧ -1 ≤ u ∧ u < g ∧ u < ns.length ∧ Hid (∃ pre : List (NU ns), pre.map Subtype.val ++ upL ns g u = AB ∧ pre.length + u < 64 ∧ J pre wr) ∧ Hid (Sees ns Bt b o cap wr))
    (fun i _ => (intOf i + 1).toNat)
  case atStart =>
    have h1 := HUN.out
    have h2 := HN.out
    exact ⟨u0, n + 1, rfl, h1.2.1, by omega, by omega, ⟨[], by rw [HA.out]; rfl, by simp; omega, H0.out⟩, HS⟩
  case round =>
    obtain ⟨u, g, rfl, hu1, hu2, hu3, HP, HSR⟩ := hrel
    by_cases hlt : 0 ≤ u
    · obtain ⟨m, rfl⟩ := Int.eq_ofNat_of_zero_le hlt
      obtain ⟨q, rfl⟩ : ∃ q, g = q + 1 := ⟨g - 1, by omega⟩
      have hm : m < ns.length := by omega
      obtain ⟨pre, hp1, hp2, hp3⟩ := HP.out
      have HUL : Hid (upL ns (q + 1) (m : Int) = m :: upL ns q (Pl.upOf ns m)) := by
        unfold Hid
        rw [upL, if_neg (by omega), Int.toNat_natCast]
      obtain ⟨fn, tmps, assign, body, hy, hR⟩ := HY.out pre ⟨m, hm⟩ wr hp3 (by omega)
      dsimp only at hy
      have HRR : Hid (RoundIn _ _ _ _ _ _ _ _ _ _) := hR
      have HP3 : Hid (pre.map Subtype.val ++ upL ns (q + 1) (m : Int) = AB ∧ pre.length + (m : Int) < 64) := ⟨hp1, hp2⟩
      have hlm := HL.out m hm
      have HLM : Hid (-1 ≤ Pl.upOf ns m ∧ Pl.upOf ns m < m) := hlm
      clear HP hp1 hp2 hp3 hR hlm
      gi_wp2
      refine HRR.out.mono ?_
      rintro e W3 (⟨rfl, hJ3, hk3⟩ | ⟨rfl, hJx3⟩)
      · have HS3 : Hid (Sees ns Bt b o cap W3) := hk3 HSR.out
        have HJ3 : Hid (J (pre ++ [⟨m, hm⟩]) W3) := hJ3
        have c0 := HS3.out.1
        have c1 := HS3.out.2 m hm
        have i1 : (0 : Int) ≤ (m : Int) := by omega
        have i2 : (m : Int) < (ns.length : Int) := by omega
        have HP4 : Hid (∃ pre : List (NU ns), pre.map Subtype.val ++ upL ns q (Pl.upOf ns m) = AB ∧ pre.length + Pl.upOf ns m < 64 ∧ J pre W3) := by
          refine ⟨_, ?_, ?_, HJ3.out⟩
          · rw [← HP3.out.1, HUL.out]
            simp
          · have h1 := HP3.out.2
            have h2 := HLM.out
            simp only [List.length_append, List.length_cons, List.length_nil]
            omega
        clear hJ3 hk3
        generalize Pl.upOf ns m = v at *
        gi_wp2
        go_roundw
        case rel =>
          have h2 := HLM.out
          exact ⟨v, q, rfl, h2.1, by omega, by omega, HP4, HS3⟩
        case measure =>
          have h2 := HLM.out
          simp [intOf]
          omega
      · have HP4 : Hid (∃ pre : List (NU ns), pre.map Subtype.val <+: AB ∧ Jx pre W3) := ⟨_, by
          rw [← HP3.out.1, HUL.out]
          exact ⟨upL ns q (Pl.upOf ns m), by simp⟩, hJx3⟩
        clear hJx3
        gi_wp2
        refine bodyPost_ret (results_none rfl _ _ _) rfl ?_
        exact ⟨⟨_, rfl⟩, .inr HP4.out⟩
    · have HD : Hid (∃ ys : List (NU ns), ys.map Subtype.val = AB ∧ J ys wr) := by
        obtain ⟨pre, h1, h2, h3⟩ := HP.out
        refine ⟨pre, ?_, h3⟩
        rw [← h1]
        cases g with
        | zero => rw [upL, List.append_nil]
        | succ g => rw [upL, if_pos (by omega), List.append_nil]
      gi_wp2
      go_end0
      exact ⟨⟨_, rfl⟩, .inl HD.out⟩
end Go.Proofs.YtephhllfodlfbaaGreatDoor
/-
  The iterator over the kids of the same one that stand ahead.
-/
namespace Go.Proofs.YtephhllfodlfbaaGreatDoor
open Go.RowKit Go.Shelf

attribute [local go_sem] Oper.semAt_some

theorem ahead_next (ns : List Pl.Nd) (u : Int) (k : Nat) : (List.range (k + 1)).reverse.filter (fun m => Pl.upOf ns m == u) = if (Pl.upOf ns k == u) = true then k :: (List.range k).reverse.filter (fun m => Pl.upOf ns m == u) else (List.range k).reverse.filter (fun m => Pl.upOf ns m == u) := by
  rw [List.range_succ, List.reverse_append, List.reverse_singleton, List.singleton_append, List.filter_cons]
theorem ahead_none {ns : List Pl.Nd} (hl : Pl.Low ns ns.length) {u : Int} {k : Nat} (hk : (k : Int) - 1 ≤ u) (hn : k ≤ ns.length) : (List.range k).reverse.filter (fun m => Pl.upOf ns m == u) = [] := by
  rw [List.filter_eq_nil_iff]
  intro m hm
  have h1 : m < k := by simpa using hm
  have h2 := hl m (by omega)
  simp
  omega
set_option maxRecDepth 100000 in
set_option maxHeartbeats 4000000 in
theorem ahead1_in (F : Fence) (f : Nat) (h164 : F.fn 213) (hro : F.round = none) (hf : 1 ≤ f) (l Bt Bn b o cap : Nat) (ns : List Pl.Nd) (n : Nat) (hlow : Pl.Low ns ns.length) (h64 : ns.length ≤ 64) (hn : n < ns.length) (J Jx : List (NU ns) → World → Prop) (W : World)
    (hY : ∀ pre x W1, J pre W1 → pre.length < 64 → YieldAt F (f - 1) Tryz.prog l #[.int .i64 x.1] W1 fun e W' =>
      (e = .returned (.bool true) ∧ J (pre ++ [x]) W' ∧ (Sees ns Bt b o cap W1 → Sees ns Bt b o cap W')) ∨ (e = .returned (.bool false) ∧ Jx (pre ++ [x]) W'))
    (hS : Sees ns Bt b o cap W) (hBn : W.cell? ⟨Bn, 0, none⟩ = some (.int .i64 n)) (h0 : J [] W) :
    CallsIn F f Tryz.prog 213 #[.func (.yield l) #[] #[], .pointer (some ⟨Bt, 0, none⟩), .pointer (some ⟨Bn, 0, none⟩)] W fun e W' => (∃ v, e = .returned v) ∧
      ((∃ ys, ys.map Subtype.val = aheadL ns n ∧ J ys W') ∨ (∃ pre, pre.map Subtype.val <+: aheadL ns n ∧ Jx pre W')) := by
  have HY : Hid (∀ pre x W1, J pre W1 → pre.length < 64 → YieldAt F (f - 1) Tryz.prog l #[.int .i64 x.1] W1 fun e W' => (e = .returned (.bool true) ∧ J (pre ++ [x]) W' ∧ (Sees ns Bt b o cap W1 → Sees ns Bt b o cap W')) ∨ (e = .returned (.bool false) ∧ Jx (pre ++ [x]) W')) := hY
  have HS : Hid (Sees ns Bt b o cap W) := hS
  have HL : Hid (Pl.Low ns ns.length) := hlow
  have HN : Hid (ns.length ≤ 64) := h64
  have H0 : Hid (J [] W) := h0
  have c0 := hS.1
  have c1 := hS.2 n hn
  have i1 : (0 : Int) ≤ (n : Int) := by omega
  have i2 : (n : Int) < (ns.length : Int) := by omega
  have hu := hlow n hn
  have HA : Hid (aheadL ns n = (List.range n).reverse.filter fun m => Pl.upOf ns m == Pl.upOf ns n) := rfl
  have HUN : Hid (Pl.upOf ns n < n ∧ -1 ≤ Pl.upOf ns n ∧ n < ns.length) := ⟨hu.2, hu.1, hn⟩
  have w1 : IntKind.i64.wrap ((n : Int) - 1) = (n : Int) - 1 := IntWalk.i64_in _ ⟨by omega, by omega⟩
  have w2 : wrap64 ((n : Int) - 1) = (n : Int) - 1 := IntWalk.wrap64_in _ ⟨by omega, by omega⟩
  clear hY hS hlow h0 hu h64
  generalize Pl.upOf ns n = u0 at *
  generalize aheadL ns n = AB at *
  refine callsIn_of_wp Tryz.func213 rfl h164 ?_ hro
  simp only [Tryz.ntmps213, List.size_toArray, List.length_cons, List.length_nil, Nat.reduceAdd, Nat.reduceSub, Array.replicate_succ, Array.replicate_zero, List.push_toArray, List.append_toArray, List.nil_append, List.cons_append]
  gi_wp2
  clear c0 c1 i1 i2 hBn w1 w2
  gi_loopw [5] (fun i wr => ∃ (v : Int) (k : Nat), i = .int .i64 v ∧ v = (k : Int) - 1 ∧ k ≤ ns.length ∧ Hid (∃ pre : List (NU ns), pre.map Subtype.val ++ (List.range k).reverse.filter (fun m => Pl.upOf ns m == u0) = AB ∧ pre.length + k < 64 ∧ J pre wr) ∧ Hid (Sees ns Bt b o cap wr))
    (fun i _ => (intOf i + 1).toNat)
  case atStart =>
    have h1 := HUN.out
    have h2 := HN.out
    exact ⟨(n : Int) - 1, n, by simp, rfl, by omega, ⟨[], by rw [HA.out]; rfl, by simp; omega, H0.out⟩, HS⟩
  case round =>
    obtain ⟨v, k, rfl, hv, hk, HP, HSR⟩ := hrel
    by_cases hlt : u0 < v
    · have h1 := HUN.out.2.1
      obtain ⟨m, rfl⟩ : ∃ m : Nat, v = (m : Int) := ⟨v.toNat, by omega⟩
      obtain rfl : k = m + 1 := by omega
      have hm : m < ns.length := by omega
      have c0 := HSR.out.1
      have c1 := HSR.out.2 m hm
      have i1 : (0 : Int) ≤ (m : Int) := by omega
      have i2 : (m : Int) < (ns.length : Int) := by omega
      have HNX := ahead_next ns u0 m
      have w1 : IntKind.i64.wrap ((m : Int) - 1) = (m : Int) - 1 := IntWalk.i64_in _ ⟨by have := HN.out; omega, by have := HN.out; omega⟩
      have w2 : wrap64 ((m : Int) - 1) = (m : Int) - 1 := IntWalk.wrap64_in _ ⟨by have := HN.out; omega, by have := HN.out; omega⟩
      have HM : Hid (m + 1 ≤ ns.length) := hk
      clear hv hk h1
      cases he : (Pl.upOf ns m == u0) with
      | true =>
        rw [if_pos he] at HNX
        have e : Pl.upOf ns m = u0 := by simpa using he
        rw [e] at c1
        have HN2 : Hid _ := HNX
        clear he e HNX
        obtain ⟨pre, hp1, hp2, hp3⟩ := HP.out
        obtain ⟨fn, tmps, assign, body, hy, hR⟩ := HY.out pre ⟨m, hm⟩ wr hp3 (by omega)
        dsimp only at hy
        have HRR : Hid (RoundIn _ _ _ _ _ _ _ _ _ _) := hR
        have HP3 : Hid (pre.map Subtype.val ++ (List.range (m + 1)).reverse.filter (fun m => Pl.upOf ns m == u0) = AB ∧ pre.length + (m + 1) < 64) := ⟨hp1, hp2⟩
        clear HP hp1 hp2 hp3 hR
        gi_wp2
        refine HRR.out.mono ?_
        rintro e W3 (⟨rfl, hJ3, hk3⟩ | ⟨rfl, hJx3⟩)
        · have HS3 : Hid (Sees ns Bt b o cap W3) := hk3 HSR.out
          have HJ3 : Hid (J (pre ++ [⟨m, hm⟩]) W3) := hJ3
          have HP4 : Hid (∃ pre : List (NU ns), pre.map Subtype.val ++ (List.range m).reverse.filter (fun m => Pl.upOf ns m == u0) = AB ∧ pre.length + m < 64 ∧ J pre W3) := by
            refine ⟨_, ?_, ?_, HJ3.out⟩
            · rw [← HP3.out.1, HN2.out]
              simp
            · have h1 := HP3.out.2
              simp only [List.length_append, List.length_cons, List.length_nil]
              omega
          clear hJ3 hk3 c0 c1
          gi_wp2
          go_roundw
          case rel => exact ⟨(m : Int) - 1, m, by simp, rfl, by omega, HP4, HS3⟩
          case measure =>
            simp [intOf]
            try omega
        · have HP4 : Hid (∃ pre : List (NU ns), pre.map Subtype.val <+: AB ∧ Jx pre W3) := ⟨_, by
            rw [← HP3.out.1, HN2.out]
            exact ⟨(List.range m).reverse.filter (fun m => Pl.upOf ns m == u0), by simp⟩, hJx3⟩
          clear hJx3
          gi_wp2
          refine bodyPost_ret (results_none rfl _ _ _) rfl ?_
          exact ⟨⟨_, rfl⟩, .inr HP4.out⟩
      | false =>
        rw [if_neg (by rw [he]; simp)] at HNX
        have HP4 : Hid (∃ pre : List (NU ns), pre.map Subtype.val ++ (List.range m).reverse.filter (fun m => Pl.upOf ns m == u0) = AB ∧ pre.length + m < 64 ∧ J pre wr) := by
          obtain ⟨pre, h1, h2, h3⟩ := HP.out
          exact ⟨pre, by rw [← h1, HNX], by omega, h3⟩
        clear HP HNX
        generalize Pl.upOf ns m = um at *
        gi_wp2
        refine ⟨fun _ h => (by cases h), ?_⟩
        gi_wp2
        go_roundw
        case rel => exact ⟨(m : Int) - 1, m, by simp, rfl, by omega, HP4, HSR⟩
        case measure =>
          simp [intOf]
          try omega
    · have HD : Hid (∃ ys : List (NU ns), ys.map Subtype.val = AB ∧ J ys wr) := by
        obtain ⟨pre, h1, h2, h3⟩ := HP.out
        refine ⟨pre, ?_, h3⟩
        rw [ahead_none HL.out (by omega) hk, List.append_nil] at h1
        exact h1
      clear hv
      gi_wp2
      go_end0
      exact ⟨⟨_, rfl⟩, .inl HD.out⟩
end Go.Proofs.YtephhllfodlfbaaGreatDoor
/-
  above and ahead: the tree and the number are boxed; the function values capture the boxes.
-/
namespace Go.Proofs.YtephhllfodlfbaaGreatDoor
open Go.RowKit Go.Shelf

attribute [local go_sem] Oper.semAt_some

/-- the world with both boxes -/
def boxed2 (w : World) (t0 t1 t2 t3 : Value) (n : Nat) : World := (w.alloc (.cells #[t0, t1, t2, t3] 92)).alloc (.cells #[.int .i64 n] 3)
theorem boxed2_on (w : World) (t0 t1 t2 t3 : Value) (n : Nat) : Below w.heap.size w (boxed2 w t0 t1 t2 t3 n) := below_trans (on_alloc _ _) (on_alloc _ _)
theorem boxed2_sees (w : World) (b o cap bk bn bl : Nat) (t1 t2 t3 : Value) (ns : List Pl.Nd) (n : Nat) (h : TR w b o bk bn bl ns) : Sees ns w.heap.size b o cap (boxed2 w (.slice (some ⟨b, o, none⟩) ns.length cap) t1 t2 t3 n) := by
  have hb := boxed2_on w (.slice (some ⟨b, o, none⟩) ns.length cap) t1 t2 t3 n
  refine ⟨?_, fun i hi => ?_⟩
  · have h1 := World.alloc_heap_new w (.cells #[.slice (some ⟨b, o, none⟩) ns.length cap, t1, t2, t3] 92)
    exact cell_on (on_alloc _ _) (blk4c h1).1
  · obtain ⟨vc, va, m0, -⟩ := h.rd.at_ i hi
    rw [(at_parts hi).2.2.2.2]
    exact cell_on hb m0
theorem boxed2_num (w : World) (t0 t1 t2 t3 : Value) (n : Nat) : (boxed2 w t0 t1 t2 t3 n).cell? ⟨w.heap.size + 1, 0, none⟩ = some (.int .i64 n) := by
  have h1 := World.alloc_heap_new (w.alloc (.cells #[t0, t1, t2, t3] 92)) (.cells #[.int .i64 n] 3)
  rw [World.size_alloc] at h1
  exact (one_cell h1).1
theorem Sees.on {ns : List Pl.Nd} {Bt b o cap : Nat} {W W' : World} (h : Sees ns Bt b o cap W) (hb : Below W.heap.size W W') : Sees ns Bt b o cap W' := ⟨cell_on hb h.1, fun i hi => cell_on hb (h.2 i hi)⟩
set_option maxHeartbeats 1000000 in
theorem above_in (F : Fence) (f : Nat) (h44 : F.fn 196) (hro : F.round = none) (t0 t1 t2 t3 : Value) (n : Nat) (w : World) :
    CallsIn F f Tryz.prog 196 #[.agg #[t0, t1, t2, t3], .int .i64 n] w fun e w' => e = .returned (.func (.func 211) #[] #[.pointer (some ⟨w.heap.size, 0, none⟩), .pointer (some ⟨w.heap.size + 1, 0, none⟩)]) ∧ w' = boxed2 w t0 t1 t2 t3 n := by
  refine callsIn_of_wp Tryz.func196 rfl h44 ?_ hro
  simp only [Tryz.ntmps196, List.size_toArray, List.length_cons, List.length_nil, Nat.reduceAdd, Nat.reduceSub, Array.replicate_succ, Array.replicate_zero, List.push_toArray, List.append_toArray, List.nil_append, List.cons_append]
  gi_wp2
  go_ret
  exact ⟨by simp, rfl⟩
set_option maxHeartbeats 1000000 in
theorem ahead_in (F : Fence) (f : Nat) (h148 : F.fn 198) (hro : F.round = none) (t0 t1 t2 t3 : Value) (n : Nat) (w : World) :
    CallsIn F f Tryz.prog 198 #[.agg #[t0, t1, t2, t3], .int .i64 n] w fun e w' => e = .returned (.func (.func 213) #[] #[.pointer (some ⟨w.heap.size, 0, none⟩), .pointer (some ⟨w.heap.size + 1, 0, none⟩)]) ∧ w' = boxed2 w t0 t1 t2 t3 n := by
  refine callsIn_of_wp Tryz.func198 rfl h148 ?_ hro
  simp only [Tryz.ntmps198, List.size_toArray, List.length_cons, List.length_nil, Nat.reduceAdd, Nat.reduceSub, Array.replicate_succ, Array.replicate_zero, List.push_toArray, List.append_toArray, List.nil_append, List.cons_append]
  gi_wp2
  go_ret
  exact ⟨by simp, rfl⟩
/-- what is above comes, the nearest first; or some of it, where a round has said 'no more' -/
theorem above_stops (F : Fence) (f : Nat) (h65 : F.fn 211) (hro : F.round = none) (hf : 1 ≤ f) (Bt Bn b o cap : Nat) (ns : List Pl.Nd) (n : Nat) (hlow : Pl.Low ns ns.length) (h64 : ns.length ≤ 64) (hn : n < ns.length) (w : World) (hS : Sees ns Bt b o cap w) (hBn : w.cell? ⟨Bn, 0, none⟩ = some (.int .i64 n)) :
    SeqStopsK F f Tryz.prog 211 #[.pointer (some ⟨Bt, 0, none⟩), .pointer (some ⟨Bn, 0, none⟩)] (fun x : NU ns => #[.int .i64 x.1]) (fun W1 W' => Sees ns Bt b o cap W1 → Sees ns Bt b o cap W') (fun ys => ys.map Subtype.val = aboveL ns n) (fun pre => pre.map Subtype.val <+: aboveL ns n) 64 w := fun l J Jx W hW _ _ hY h0 =>
  above1_in F f h65 hro hf l Bt Bn b o cap ns n hlow h64 hn J Jx W hY (hS.on hW) (cell_on hW hBn) h0
theorem ahead_stops (F : Fence) (f : Nat) (h164 : F.fn 213) (hro : F.round = none) (hf : 1 ≤ f) (Bt Bn b o cap : Nat) (ns : List Pl.Nd) (n : Nat) (hlow : Pl.Low ns ns.length) (h64 : ns.length ≤ 64) (hn : n < ns.length) (w : World) (hS : Sees ns Bt b o cap w) (hBn : w.cell? ⟨Bn, 0, none⟩ = some (.int .i64 n)) :
    SeqStopsK F f Tryz.prog 213 #[.pointer (some ⟨Bt, 0, none⟩), .pointer (some ⟨Bn, 0, none⟩)] (fun x : NU ns => #[.int .i64 x.1]) (fun W1 W' => Sees ns Bt b o cap W1 → Sees ns Bt b o cap W') (fun ys => ys.map Subtype.val = aheadL ns n) (fun pre => pre.map Subtype.val <+: aheadL ns n) 64 w := fun l J Jx W hW _ _ hY h0 =>
  ahead1_in F f h164 hro hf l Bt Bn b o cap ns n hlow h64 hn J Jx W hY (hS.on hW) (cell_on hW hBn) h0
end Go.Proofs.YtephhllfodlfbaaGreatDoor
/-
  A range over a function whose iterator keeps state in boxes of its own, or goes over another iterator itself.
-/
namespace Go.Proofs.YtephhllfodlfbaaGreatDoor
open Go.RowKit

/-- what an iterator may do between two rounds: new blocks; blocks from B on that are no cells; its own boxes X -/
def Turns (X : Nat → Prop) (B : Nat) (A A' : World) : Prop := ∃ row, A.grownBy A' row ∧ ∀ r, row = some r → (B ≤ r ∧ ∃ o : Obj, A.heap[r]? = some o ∧ o.isCells = false) ∨ X r
def Bears {β : Type} (X : Nat → Prop) (B : Nat) (J : β → World → Prop) : Prop := ∀ s A A', J s A → Turns X B A A' → J s A'
theorem Turns.le {X : Nat → Prop} {B B' : Nat} {A A' : World} (h : Turns X B' A A') (hB : B ≤ B') : Turns X B A A' := by
  obtain ⟨row, hg, hr⟩ := h
  refine ⟨row, hg, fun r e => ?_⟩
  rcases hr r e with ⟨h1, h2⟩ | h
  · exact Or.inl ⟨Nat.le_trans hB h1, h2⟩
  · exact Or.inr h
theorem Turns.alloc (X : Nat → Prop) (B : Nat) (A : World) (o : Obj) : Turns X B A (A.alloc o) := ⟨none, World.grownBy_alloc A o none, fun r e => by cases e⟩
theorem Turns.put (X : Nat → Prop) {B l : Nat} {A : World} {o : Obj} (o' : Obj) (hB : B ≤ l) (hl : A.heap[l]? = some o) (ho : o.isCells = false) : Turns X B A (A.putObj l o') :=
  ⟨some l, grownBy_putObj' A l o', fun r e => by cases e; exact Or.inl ⟨hB, o, hl, ho⟩⟩
theorem Turns.box {X : Nat → Prop} {B r : Nat} {A : World} (hX : X r) (v : Value) : Turns X B A (A.setCell ⟨r, 0, none⟩ v) := ⟨some r, grownBy_setCell' A r v, fun k e => by cases e; exact Or.inr hX⟩
/-- a block that is neither turned nor owned lies on -/
theorem Turns.block {X : Nat → Prop} {B k : Nat} {A A' : World} {o : Obj} (h : Turns X B A A') (hk : A.heap[k]? = some o) (hB : k < B) (hX : ¬ X k) : A'.heap[k]? = some o := by
  obtain ⟨row, hg, hr⟩ := h
  refine (hg.block k (Array.getElem?_eq_some_iff.1 hk).1 (fun e => ?_)).trans hk
  rcases hr k e.symm with ⟨h1, -⟩ | h
  · omega
  · exact hX h
theorem Turns.cells {X : Nat → Prop} {B k : Nat} {A A' : World} {o : Obj} (h : Turns X B A A') (hk : A.heap[k]? = some o) (hc : o.isCells = true) (hX : ¬ X k) : A'.heap[k]? = some o := by
  obtain ⟨row, hg, hr⟩ := h
  refine (hg.block k (Array.getElem?_eq_some_iff.1 hk).1 (fun e => ?_)).trans hk
  rcases hr k e.symm with ⟨-, o', h1, h2⟩ | h
  · rw [hk] at h1
    cases h1
    rw [hc] at h2
    cases h2
  · exact hX h
theorem Turns.size {X : Nat → Prop} {B : Nat} {A A' : World} (h : Turns X B A A') : A.heap.size ≤ A'.heap.size := by
  obtain ⟨row, hg, -⟩ := h
  exact hg.size
theorem Turns.below {X : Nat → Prop} {B m : Nat} {w0 A A' : World} (h : Turns X B A A') (hB : m ≤ B) (hX : ∀ r, X r → m ≤ r) (hb : Below m w0 A) (hm : m ≤ A.heap.size) : Below m w0 A' := by
  obtain ⟨row, hg, hr⟩ := h
  refine hb.grown hg hm (fun k e => ?_)
  rcases hr k e with ⟨h1, -⟩ | h
  · omega
  · exact hX k h
theorem keepsFrom_le {B B' : Nat} {W W' : World} (h : KeepsFrom B W W') (hB : B ≤ B') : KeepsFrom B' W W' := ⟨h.size, fun k o hk => h.same k o (Nat.le_trans hB hk)⟩
theorem keepsFrom_put {B l : Nat} (W : World) (o : Obj) (hl : l < B) : KeepsFrom B W (W.putObj l o) := KeepsFrom.of_grownBy (grownBy_putObj' W l o) (fun j e => by cases e; exact hl)
/-- an iterator's contract -/
def SeqX {α : Type} (P : Program) (gf : Nat) (lb : Array Value) (encs : α → Array Value) (Kp : World → World → Prop) (X : Nat → Prop) (S Sp : List α → Prop) (w : World) : Prop :=
  ∀ (l : Nat) (J Jx : List α → World → Prop) (W : World), Below w.heap.size w W → Bears X W.heap.size J → Bears X W.heap.size Jx →
    (∀ pre x W1, J pre W1 → YieldAt Fence.wide 0 P l (encs x) W1 fun e W' => KeepsFrom W.heap.size W1 W' ∧
      ((e = .returned (.bool true) ∧ J (pre ++ [x]) W' ∧ Kp W1 W') ∨ (e = .returned (.bool false) ∧ Jx (pre ++ [x]) W'))) →
    J [] W → Calls P gf (#[.func (.yield l) #[] #[]] ++ lb) W fun e W' => (∃ v, e = .returned v) ∧ ((∃ xs, S xs ∧ J xs W') ∨ (∃ pre, Sp pre ∧ Jx pre W'))
theorem round_wide {n m : Nat} {P : Program} {l : Nat} {f : FuncId} {tmps : Array Value} {assign body : Code} {w : World} {R : Ending → World → Prop} (h : RoundIn Fence.wide n P l f tmps assign body w R) : RoundIn Fence.wide m P l f tmps assign body w R :=
  ⟨h.1, fun c cs _ => h.2 c cs (room_wide _)⟩
theorem seqX_of {α : Type} {n N : Nat} {P : Program} {gf : Nat} {lb : Array Value} {encs : α → Array Value} {Kp : World → World → Prop} {X : Nat → Prop} {S Sp : List α → Prop} {w : World} (h : SeqStopsK Fence.wide n P gf lb encs Kp S Sp N w) : SeqX P gf lb encs Kp X S Sp w := by
  intro l J Jx W hW hJ hJx hY h0
  have hb : ∀ {K : List α → World → Prop}, Bears X W.heap.size K → AbidesFrom W.heap.size K := fun hK s A A' row hs hg hr => hK s A A' hs ⟨row, hg, fun r e => by
    obtain ⟨h1, o, h2, h3⟩ := hr r e
    exact Or.inl ⟨h1, o, h2, Obj.not_cells_of_walk h3⟩⟩
  refine callsIn_wide.1 (h l J Jx W hW (hb hJ) (hb hJx) (fun pre x W1 h1 _ => ?_) h0)
  obtain ⟨fn, tmps, assign, body, hy, hR⟩ := hY pre x W1 h1
  exact ⟨fn, tmps, assign, body, hy, (round_wide hR).mono fun e W' hh => hh.2⟩
/-- the record of a range under way -/
def recOf (w : World) (fn : FuncId) (tmps : Array Value) (ps : Array Tmp) (assign body : Code) (st : LoopState) (pe : Option Code) : Loop := { state := st, pending := pe, fn := fn, tmps := tmps, params := ps, assign := assign, body := body, defers := w.heap.size }
theorem range_own {α : Type} {P : Program} {n : Nat} {g : Operand} {ps : Array Tmp} {assign body : Code} {Q : Exit → Act → World → Prop} {a : Act} {w : World} {gf : Nat} {lb : Array Value}
    (hg : a.eval g = .func (.func gf) #[] lb) (eg : ∀ args w, (callFunc gf args).run P w = .ok (.enter gf args) w)
    {encs : α → Array Value} {Kp : World → World → Prop} {X : Nat → Prop} {S Sp : List α → Prop} (hseq : SeqX P gf lb encs Kp X S Sp w) (hX : ∀ r, X r → r < w.heap.size)
    (hKt : ∀ {A B C : World}, Kp A B → Kp B C → Kp A C) (hKb : ∀ (W : World) (l : Nat) (o o' : Obj), w.heap.size ≤ l → W.heap[l]? = some o → o.isCells = false → Kp W (W.putObj l o')) (hps : ∀ x, (encs x).size = ps.size)
    (I : List α → World → Prop) (Ix : Code → List α → World → Prop) (hI : Bears X w.heap.size I) (hIx : ∀ c, Bears X w.heap.size (Ix c)) (h0 : I [] w)
    (Ax : α → Act → World → Prop) (hAx : ∀ x a' W l o o', w.heap.size ≤ l → W.heap[l]? = some o → o.isCells = false → Ax x a' W → Ax x a' (W.putObj l o'))
    (hassign : ∀ (l : Nat) (pre : List α) (x : α) (W : World) (K : Act → World → Prop), I pre W → (∀ a' W', KeepsFrom w.heap.size W W' → Kp W W' → I pre W' → Ax x a' W' → K a' W') →
      assign.wpIn (Fence.wide.inRound l) n P (Exit.then K (fun _ _ _ => False)) { tmps := (ps.zip (encs x)).foldl (fun t (p, v) => t.setIfInBounds p v) a.tmps, defers := [] } W)
    (hbody : ∀ (l : Nat) (pre : List α) (x : α) (a' : Act) (W : World), w.heap.size ≤ l → I pre W → Ax x a' W → body.wpIn (Fence.wide.inRound l) n P (ownPostG w.heap.size Kp I Ix (pre ++ [x]) W) a' W)
    (hdone : ∀ (D : Nat) (xs : List α) (W : World), w.heap.size ≤ D → S xs → I xs W → W.heap[D]? = some (.deferred (some [])) → Q .normal { a with defers := { target := .collected D, args := #[] } :: a.defers } W)
    (hstop : ∀ (D : Nat) (c : Code) (pre : List α) (W : World), w.heap.size ≤ D → Sp pre → Ix c pre W → W.heap[D]? = some (.deferred (some [])) → c.wpIn Fence.wide n P Q { a with defers := { target := .collected D, args := #[] } :: a.defers } W) :
    (Code.rangeFunc g ps assign body).wpIn Fence.wide n P Q a w := by
  refine wpIn_rangeFunc fun fn hfn => ?_
  have hnew : (w.alloc (.deferred (some []))).heap.size = w.heap.size + 1 := World.size_alloc _ _
  have hk0 := World.alloc_heap_new w (.deferred (some []))
  have hl0 := World.alloc_heap_new (w.alloc (.deferred (some []))) (.loop (recOf w fn a.tmps ps assign body .ready none))
  rw [hnew] at hl0
  have hk1 := (Below.heap_alloc (w.alloc (.deferred (some []))) (.loop (recOf w fn a.tmps ps assign body .ready none)) w.heap.size (by omega)).trans hk0
  have hi0 := hI _ _ _ (hI _ _ _ h0 (Turns.alloc X w.heap.size w (.deferred (some [])))) (Turns.alloc X w.heap.size (w.alloc (.deferred (some []))) (.loop (recOf w fn a.tmps ps assign body .ready none)))
  have hb0 : Below w.heap.size w ((w.alloc (.deferred (some []))).alloc (.loop (recOf w fn a.tmps ps assign body .ready none))) := ((Below.refl _ w).alloc (Nat.le_refl _) _).alloc (by omega) _
  have hs0 : ((w.alloc (.deferred (some []))).alloc (.loop (recOf w fn a.tmps ps assign body .ready none))).heap.size = w.heap.size + 2 := by rw [World.size_alloc, hnew]
  have hen : (Instr.enterLoop fn a.tmps ps assign body Fence.wide.round).run P w = .ok (w.heap.size + 1, [{ target := .collected w.heap.size, args := #[] }]) ((w.alloc (.deferred (some []))).alloc (.loop (recOf w fn a.tmps ps assign body .ready none))) := run_enterLoop_outer _ _ _ _ _
  generalize (w.alloc (.deferred (some []))).alloc (.loop (recOf w fn a.tmps ps assign body .ready none)) = W1 at *
  have hXl : ¬ X (w.heap.size + 1) := fun h => by have := hX _ h; omega
  have hXd : ¬ X w.heap.size := fun h => by have := hX _ h; omega
  refine ⟨w.heap.size + 1, [{ target := .collected w.heap.size, args := #[] }], W1, { target := .fn (.func gf) lb, args := #[.func (.yield (w.heap.size + 1)) #[] #[]] }, W1, gf, #[.func (.yield (w.heap.size + 1)) #[] #[]] ++ lb, W1, hen, ?_, fun _ _ => trivial, ?_, (fun h => (by cases h)), callsIn_wide.2 ?_⟩
  · simp only [resolve, hg]
    simp [go_sem]
  · simp [invoke, go_sem, eg]
  refine (hseq (w.heap.size + 1) (fun pre W => I pre W ∧ W.heap[w.heap.size + 1]? = some (.loop (recOf w fn a.tmps ps assign body .ready none)) ∧ W.heap[w.heap.size]? = some (.deferred (some [])))
    (fun pre W => ∃ c, Ix c pre W ∧ W.heap[w.heap.size + 1]? = some (.loop (recOf w fn a.tmps ps assign body .done (some c))) ∧ W.heap[w.heap.size]? = some (.deferred (some []))) W1 hb0 ?_ ?_ ?_ ⟨hi0, hl0, hk1⟩).mono ?_
  · rintro s A A' ⟨h1, h2, h3⟩ ht
    exact ⟨hI s A A' h1 (ht.le (by omega)), ht.block h2 (by omega) hXl, ht.block h3 (by omega) hXd⟩
  · rintro s A A' ⟨c, h1, h2, h3⟩ ht
    exact ⟨c, hIx c s A A' h1 (ht.le (by omega)), ht.block h2 (by omega) hXl, ht.block h3 (by omega) hXd⟩
  · rintro pre x W ⟨h1, h2, h3⟩
    refine ⟨fn, _, assign, body, run_yield h2 (hps x), round_wide (roundIn_of_wpIn hfn (hassign _ pre x W _ h1 fun a' Wa hka hpa hia hax => ?_))⟩
    have g2 := hka.same _ _ (by omega) h2 rfl
    have g3 := hka.same _ _ (Nat.le_refl _) h3 rfl
    have glt := (Array.getElem?_eq_some_iff.1 g2).1
    refine ⟨_, run_beginRound g2 rfl, ?_⟩
    have e2 : (Wa.putObj (w.heap.size + 1) (.loop (recOf w fn a.tmps ps assign body .busy none))).heap[w.heap.size + 1]? = some (.loop (recOf w fn a.tmps ps assign body .busy none)) := World.putObj_heap_same glt
    have e3 : (Wa.putObj (w.heap.size + 1) (.loop (recOf w fn a.tmps ps assign body .busy none))).heap[w.heap.size]? = some (.deferred (some [])) := (World.putObj_heap_other (by omega)).trans g3
    refine wpIn_mono (hbody (w.heap.size + 1) pre x a' _ (by omega) (hI _ _ _ hia (Turns.put X _ (by omega) g2 rfl)) (hAx x a' _ _ _ _ (by omega) g2 rfl hax)) ?_
    have hkw : Kp W (Wa.putObj (w.heap.size + 1) (.loop (recOf w fn a.tmps ps assign body .busy none))) := hKt hpa (hKb _ _ _ _ (by omega) g2 rfl)
    have hfr : KeepsFrom W1.heap.size W (Wa.putObj (w.heap.size + 1) (.loop (recOf w fn a.tmps ps assign body .busy none))) := (keepsFrom_le hka (by omega)).trans (keepsFrom_put _ _ (by omega))
    change ∀ e a3 W3, ownPostG w.heap.size Kp I Ix (pre ++ [x]) (Wa.putObj (w.heap.size + 1) (.loop (recOf w fn a.tmps ps assign body .busy none))) e a3 W3 → _
    generalize Wa.putObj (w.heap.size + 1) (.loop (recOf w fn a.tmps ps assign body .busy none)) = Wc at *
    have stop : ∀ (c : Code) (W3 : World), KeepsFrom w.heap.size Wc W3 → Ix c (pre ++ [x]) W3 → ∃ v W4, (Instr.endRound (w.heap.size + 1) (some c)).run P W3 = .ok v W4 ∧ KeepsFrom W1.heap.size W W4 ∧ ((Ending.returned v = .returned (.bool true) ∧ (I (pre ++ [x]) W4 ∧ W4.heap[w.heap.size + 1]? = some (.loop (recOf w fn a.tmps ps assign body .ready none)) ∧ W4.heap[w.heap.size]? = some (.deferred (some []))) ∧ Kp W W4) ∨ (Ending.returned v = .returned (.bool false) ∧ ∃ c, Ix c (pre ++ [x]) W4 ∧ W4.heap[w.heap.size + 1]? = some (.loop (recOf w fn a.tmps ps assign body .done (some c))) ∧ W4.heap[w.heap.size]? = some (.deferred (some [])))) := fun c W3 hk hi => by
      have f2 := hk.same _ _ (by omega) e2 rfl
      have f3 := hk.same _ _ (Nat.le_refl _) e3 rfl
      refine ⟨_, _, run_endRound (some c) f2, (hfr.trans (keepsFrom_le hk (by omega))).trans (keepsFrom_put _ _ (by omega)), Or.inr ⟨rfl, c, hIx c _ _ _ hi (Turns.put X _ (by omega) f2 rfl), World.putObj_heap_same (Array.getElem?_eq_some_iff.1 f2).1, (World.putObj_heap_other (by omega)).trans f3⟩⟩
    intro e a3 W3 hp
    cases e with
    | normal =>
      obtain ⟨hk, hkp, hi⟩ := hp
      have f2 := hk.same _ _ (by omega) e2 rfl
      have f3 := hk.same _ _ (Nat.le_refl _) e3 rfl
      exact ⟨_, _, run_endRound none f2, (hfr.trans (keepsFrom_le hk (by omega))).trans (keepsFrom_put _ _ (by omega)), Or.inl ⟨rfl, ⟨hI _ _ _ hi (Turns.put X _ (by omega) f2 rfl), World.putObj_heap_same (Array.getElem?_eq_some_iff.1 f2).1, (World.putObj_heap_other (by omega)).trans f3⟩, hKt hkw (hKt hkp (hKb _ _ _ _ (by omega) f2 rfl))⟩⟩
    | ret => exact stop _ W3 hp.1 hp.2
    | exit id => exact stop _ W3 hp.1 hp.2
    | goto t => exact stop _ W3 hp.1 hp.2
    | panic ch => exact hp.elim
    | outgrown => exact hp.elim
  · rintro e W2 ⟨⟨v, rfl⟩, (⟨xs, hS, h1, h2, h3⟩ | ⟨pre, hS, c, h1, h2, h3⟩)⟩
    · exact ⟨none, _, run_endLoop h2 (by simp [recOf]), hdone _ xs _ (Nat.le_refl _) hS (hI _ _ _ h1 (Turns.put X _ (by omega) h2 rfl)) ((World.putObj_heap_other (by omega)).trans h3)⟩
    · exact ⟨some c, _, run_endLoop h2 (by simp [recOf]), hstop _ c pre _ (Nat.le_refl _) hS (hIx c _ _ _ h1 (Turns.put X _ (by omega) h2 rfl)) ((World.putObj_heap_other (by omega)).trans h3)⟩
end Go.Proofs.YtephhllfodlfbaaGreatDoor
/-
  over: which elements have one of those found under them.
-/
namespace Go.Proofs.YtephhllfodlfbaaGreatDoor
open Go.RowKit Go.Shelf

attribute [local go_sem] Oper.semAt_some

theorem above_hit {ns : List Pl.Nd} (hl : Pl.Low ns ns.length) {n m : Nat} (hn : n < ns.length) (hm : m < ns.length) : (aboveL ns n).any (· == m) = aboveB ns m n := by
  obtain ⟨u1, u2⟩ := hl n hn
  unfold aboveL aboveB
  rw [up_any hl (· == m) ns.length (n + 1) (Pl.upOf ns n) u1 (by omega) (by omega) (by omega), Bool.eq_iff_iff, List.any_eq_true]
  constructor
  · rintro ⟨j, -, h⟩
    rw [Bool.and_eq_true] at h
    have e : j = m := by simpa using h.2
    rw [← e]
    exact h.1
  · intro h
    exact ⟨m, by simpa using hm, by rw [h]; simp⟩
theorem Sees.set {ns : List Pl.Nd} {Bt b o cap g i : Nat} {W : World} (v : Value) (h : Sees ns Bt b o cap W) (h1 : Bt ≠ g) (h2 : b ≠ g) : Sees ns Bt b o cap (W.setCell ⟨g, i, none⟩ v) :=
  ⟨(World.cell?_of_block (Below.heap_setCell _ _ _ _ (by exact h1))).trans h.1, fun k hk => (World.cell?_of_block (Below.heap_setCell _ _ _ _ (by exact h2))).trans (h.2 k hk)⟩
theorem Sees.put {ns : List Pl.Nd} {Bt b o cap l : Nat} {W : World} {ob : Obj} (o' : Obj) (hl : W.heap[l]? = some ob) (ho : ob.isCells = false) (h : Sees ns Bt b o cap W) : Sees ns Bt b o cap (W.putObj l o') :=
  ⟨cell_kept h.1 (grownBy_putObj' W l o') (fun r e => by cases e; exact ⟨ob, hl, ho⟩), fun k hk => cell_kept (h.2 k hk) (grownBy_putObj' W l o') (fun r e => by cases e; exact ⟨ob, hl, ho⟩)⟩
/-- the way out over all marks; blocks of cells lie as they lay -/
theorem leaves_marks2 {F : Fence} {n : Nat} {P : Program} {fn : Func} {tmps : Array Value} {R : Ending → World → Prop} {B n₀ : Nat} (hn : n₀ ≤ B) : ∀ (Ds : List Nat) (W : World), Ds.Nodup → (∀ D ∈ Ds, B ≤ D ∧ W.heap[D]? = some (.deferred (some []))) →
    (∀ W', Below n₀ W W' → (∀ (k : Nat) (o : Obj), W.heap[k]? = some o → o.isCells = true → W'.heap[k]? = some o) → LeavesIn F n P fn tmps R [] .returning W') → LeavesInM F n P fn tmps R (Ds.map fun D => { target := .collected D, args := #[] }) .returning W := by
  intro Ds
  induction Ds with
  | nil => exact fun W _ _ h => h W (Below.refl _ _) (fun _ _ h _ => h)
  | cons D Ds ih =>
    intro W hnd hD h
    obtain ⟨hB, hK⟩ := hD D (by simp)
    obtain ⟨hnot, hnd2⟩ := List.nodup_cons.1 hnd
    refine ⟨by simp, .inl ⟨D, _, rfl, run_takeDeferred hK, ih _ hnd2 (fun E hE => ⟨(hD E (by simp [hE])).1, ?_⟩) fun W' hb hc => h W' ?_ ?_⟩⟩
    · have hne : E ≠ D := fun e => hnot (e ▸ hE)
      exact (World.putObj_heap_other hne).trans (hD E (by simp [hE])).2
    · exact ((Below.refl n₀ W).grown (grownBy_putObj' W D (.deferred none)) (by have := (Array.getElem?_eq_some_iff.1 hK).1; omega) (fun k e => by cases e; omega)).trans hb
    · intro k ob hk ho
      refine hc k ob ((World.putObj_heap_other (fun e => ?_)).trans hk) ho
      rw [e, hK] at hk
      cases hk
      cases ho
/-- no box of its own -/
def noX : Nat → Prop := fun _ => False
/-- marks that lie as they lay -/
def MkAt (B : Nat) (Ds : List Nat) (W : World) : Prop := ∀ D ∈ Ds, B ≤ D ∧ W.heap[D]? = some (.deferred (some []))
theorem MkAt.keeps {B : Nat} {Ds : List Nat} {W W' : World} (h : MkAt B Ds W) (hk : KeepsOthers W W') : MkAt B Ds W' := fun D hD => ⟨(h D hD).1, hk.same D _ (h D hD).2 rfl⟩
theorem MkAt.turns {B M : Nat} {Ds : List Nat} {W W' : World} {X : Nat → Prop} (h : MkAt B Ds W) (hX : ∀ D ∈ Ds, ¬ X D) (hD : ∀ D ∈ Ds, D < M) (ht : Turns X M W W') : MkAt B Ds W' := fun D hd => ⟨(h D hd).1, ht.block (h D hd).2 (hD D hd) (hX D hd)⟩
/-- while a row is filled: the tree's box at B, the row at B + 1, the row's box at B + 2 -/
structure OW (w W : World) (t0 t1 t2 t3 : Value) (N : Nat) (bs : List Bool) : Prop where
  bel : Below w.heap.size w W
  box : W.heap[w.heap.size]? = some (.cells #[t0, t1, t2, t3] 92)
  row : BRow W (w.heap.size + 1) bs
  brow : Boxed W (w.heap.size + 2) 90 (.slice (some ⟨w.heap.size + 1, 0, none⟩) N N)
section
variable {w W W' : World} {t0 t1 t2 t3 : Value} {N : Nat} {bs : List Bool}
theorem OW.on (h : OW w W t0 t1 t2 t3 N bs) (hb : Below W.heap.size W W') : OW w W' t0 t1 t2 t3 N bs := ⟨below_trans h.bel hb, (hb.block _ (Array.getElem?_eq_some_iff.1 h.box).1).trans h.box, h.row.on hb, (hb.block _ h.brow.lt).trans h.brow⟩
theorem OW.set (h : OW w W t0 t1 t2 t3 N bs) (i : Nat) (x : Bool) : OW w (W.setCell ⟨w.heap.size + 1, i, none⟩ (.bool x)) t0 t1 t2 t3 N (bs.set i x) :=
  ⟨h.bel.setCell (p := ⟨w.heap.size + 1, i, none⟩) (by simp) _, by rw [Below.heap_setCell _ _ _ _ (by show w.heap.size ≠ w.heap.size + 1; omega)]; exact h.box, h.row.set i x, by unfold Boxed; rw [Below.heap_setCell _ _ _ _ (by show w.heap.size + 2 ≠ w.heap.size + 1; omega)]; exact h.brow⟩
theorem OW.cells (h : OW w W t0 t1 t2 t3 N bs) : W.cell? ⟨w.heap.size, 0, none⟩ = some t0 ∧ W.cell? ⟨w.heap.size, 1, none⟩ = some t1 ∧ W.cell? ⟨w.heap.size, 2, none⟩ = some t2 ∧ W.cell? ⟨w.heap.size, 3, none⟩ = some t3 := by
  have hb := h.box
  refine ⟨?_, ?_, ?_, ?_⟩ <;> simp [World.cell?, hb]
theorem OW.turns {X : Nat → Prop} {M : Nat} (h : OW w W t0 t1 t2 t3 N bs) (hX : ∀ r, X r → w.heap.size + 3 ≤ r) (hM : w.heap.size ≤ M) (ht : Turns X M W W') : OW w W' t0 t1 t2 t3 N bs := by
  have hn : ∀ k, k < w.heap.size + 3 → ¬ X k := fun k hk hx => by have := hX k hx; omega
  exact ⟨ht.below hM (fun r hr => by have := hX r hr; omega) h.bel h.bel.size, ht.cells h.box rfl (hn _ (by omega)), ht.cells h.row rfl (hn _ (by omega)), ht.cells h.brow rfl (hn _ (by omega))⟩
end
/-- a row with those marked that have come -/
def mkd (G : Nat → Bool) (N : Nat) (pre : List Nat) : List Bool := (List.range N).map fun m => G m || pre.any (· == m)
theorem mkd_len (G : Nat → Bool) (N : Nat) (pre : List Nat) : (mkd G N pre).length = N := by simp [mkd]
theorem mkd_nil (G : Nat → Bool) (N : Nat) : mkd G N [] = (List.range N).map G := by simp [mkd]
theorem mkd_set (G : Nat → Bool) (N : Nat) (pre : List Nat) (x : Nat) : (mkd G N pre).set x true = mkd G N (pre ++ [x]) := by
  apply List.ext_getElem
  · simp [mkd]
  · intro m h1 h2
    rw [List.getElem_set]
    unfold mkd
    simp only [List.getElem_map, List.getElem_range, List.any_append, List.any_cons, List.any_nil, Bool.or_false]
    by_cases e : x = m
    · subst e
      simp
    · rw [if_neg e, show (x == m) = false by simpa using e]
      simp
/-- what has been found under each one by those up to j -/
def ovr (ns : List Pl.Nd) (F : Nat → Bool) (j m : Nat) : Bool := (List.range j).any fun k => aboveB ns m k && F k
theorem ovr_no {ns : List Pl.Nd} {F : Nat → Bool} {j : Nat} (h : F j = false) : ovr ns F (j + 1) = ovr ns F j := by
  funext m
  unfold ovr
  rw [List.range_succ, List.any_append]
  simp [h]
theorem ovr_yes {ns : List Pl.Nd} (hl : Pl.Low ns ns.length) {F : Nat → Bool} {j : Nat} (hj : j < ns.length) (h : F j = true) {ys : List Nat} (hy : ys = aboveL ns j) : mkd (ovr ns F j) ns.length ys = (List.range ns.length).map (ovr ns F (j + 1)) := by
  unfold mkd
  apply List.map_congr_left
  intro m hm
  rw [hy, above_hit hl hj (by simpa using hm)]
  unfold ovr
  rw [List.range_succ, List.any_append]
  simp [h]
def overBox (w : World) (t0 t1 t2 t3 : Value) (N : Nat) : World := (mkB (w.alloc (.cells #[t0, t1, t2, t3] 92)) N).alloc (.cells #[.slice (some ⟨w.heap.size + 1, 0, none⟩) N N] 90)
theorem overBox_ow (w : World) (t0 t1 t2 t3 : Value) (N : Nat) : OW w (overBox w t0 t1 t2 t3 N) t0 t1 t2 t3 N (List.replicate N false) := by
  have hb1 := on_alloc w (.cells #[t0, t1, t2, t3] 92)
  have hb2 := mkB_on (w.alloc (.cells #[t0, t1, t2, t3] 92)) N
  have hb3 := on_alloc (mkB (w.alloc (.cells #[t0, t1, t2, t3] 92)) N) (.cells #[.slice (some ⟨w.heap.size + 1, 0, none⟩) N N] 90)
  have e1 := World.alloc_heap_new w (.cells #[t0, t1, t2, t3] 92)
  have e2 := mkB_row (w.alloc (.cells #[t0, t1, t2, t3] 92)) N
  have e3 := World.alloc_heap_new (mkB (w.alloc (.cells #[t0, t1, t2, t3] 92)) N) (.cells #[.slice (some ⟨w.heap.size + 1, 0, none⟩) N N] 90)
  have s2 : (mkB (w.alloc (.cells #[t0, t1, t2, t3] 92)) N).heap.size = w.heap.size + 2 := by unfold mkB; simp
  rw [s2] at e3
  simp only [World.size_alloc] at e2
  exact ⟨below_trans (below_trans hb1 hb2) hb3, (hb3.block _ (by omega)).trans ((hb2.block _ (by simp)).trans e1), e2.on hb3, e3⟩
set_option maxRecDepth 100000 in
set_option maxHeartbeats 8000000 in
theorem over_any : OVR := by
  intro w b o cap bk bn bl ns f F hT hf
  have h64 := hT.rd.n64
  have hmk := make_bools ns.length h64
  have HOW : Hid (OW w (overBox w (.slice (some ⟨b, o, none⟩) ns.length cap) (.slice (some ⟨bk, 0, none⟩) ns.length ns.length) (.slice (some ⟨bn, 0, none⟩) ns.length ns.length) (.slice (some ⟨bl, 0, none⟩) ns.length ns.length) ns.length) (.slice (some ⟨b, o, none⟩) ns.length cap) (.slice (some ⟨bk, 0, none⟩) ns.length ns.length) (.slice (some ⟨bn, 0, none⟩) ns.length ns.length) (.slice (some ⟨bl, 0, none⟩) ns.length ns.length) ns.length ((List.range ns.length).map (ovr ns F 0))) := by
    have := overBox_ow w (.slice (some ⟨b, o, none⟩) ns.length cap) (.slice (some ⟨bk, 0, none⟩) ns.length ns.length) (.slice (some ⟨bn, 0, none⟩) ns.length ns.length) (.slice (some ⟨bl, 0, none⟩) ns.length ns.length) ns.length
    rw [none_row] at this
    exact this
  have c0 : (w.alloc (.cells #[.slice (some ⟨b, o, none⟩) ns.length cap, .slice (some ⟨bk, 0, none⟩) ns.length ns.length, .slice (some ⟨bn, 0, none⟩) ns.length ns.length, .slice (some ⟨bl, 0, none⟩) ns.length ns.length] 92)).cell? ⟨w.heap.size, 0, none⟩ = some (.slice (some ⟨b, o, none⟩) ns.length cap) := by simp [go_sem]
  have hs2 : (mkB (w.alloc (.cells #[.slice (some ⟨b, o, none⟩) ns.length cap, .slice (some ⟨bk, 0, none⟩) ns.length ns.length, .slice (some ⟨bn, 0, none⟩) ns.length ns.length, .slice (some ⟨bl, 0, none⟩) ns.length ns.length] 92)) ns.length).heap.size = w.heap.size + 2 := by unfold mkB; simp
  have HT : Hid (TR w b o bk bn bl ns) := hT
  have HF : Hid (BRow w f ((List.range ns.length).map F)) := hf
  clear hT hf
  refine (callsIn_wide (n := 6)).1 ?_
  refine callsIn_of_wp_marks Tryz.func190 rfl trivial ?_ rfl
  simp only [Tryz.ntmps190, List.size_toArray, List.length_cons, List.length_nil, Nat.reduceAdd, Nat.reduceSub, Array.replicate_succ, Array.replicate_zero, List.push_toArray, List.append_toArray, List.nil_append, List.cons_append]
  gi_wp2
  clear hmk c0
  have HW0 : Hid (OW w ((mkB (w.alloc (.cells #[.slice (some ⟨b, o, none⟩) ns.length cap, .slice (some ⟨bk, 0, none⟩) ns.length ns.length, .slice (some ⟨bn, 0, none⟩) ns.length ns.length, .slice (some ⟨bl, 0, none⟩) ns.length ns.length] 92)) ns.length).alloc (.cells #[.slice (some ⟨w.heap.size + 1, 0, none⟩) ns.length ns.length] 90)) (.slice (some ⟨b, o, none⟩) ns.length cap) (.slice (some ⟨bk, 0, none⟩) ns.length ns.length) (.slice (some ⟨bn, 0, none⟩) ns.length ns.length) (.slice (some ⟨bl, 0, none⟩) ns.length ns.length) ns.length ((List.range ns.length).map (ovr ns F 0))) := HOW
  clear HOW hs2
  generalize (mkB (w.alloc (.cells #[.slice (some ⟨b, o, none⟩) ns.length cap, .slice (some ⟨bk, 0, none⟩) ns.length ns.length, .slice (some ⟨bn, 0, none⟩) ns.length ns.length, .slice (some ⟨bl, 0, none⟩) ns.length ns.length] 92)) ns.length).alloc (.cells #[.slice (some ⟨w.heap.size + 1, 0, none⟩) ns.length ns.length] 90) = W0 at *
  refine wpIn_loop (fun a' w' => ∃ (k : Nat) (ds : List Deferred) (u6 u7 u8 u16 u17 u18 u19 u20 u21 u22 u23 u24 u25 u26 u27 u28 u29 u30 : Value), (k ≤ ns.length ∧ Hid (OW w w' (.slice (some ⟨b, o, none⟩) ns.length cap) (.slice (some ⟨bk, 0, none⟩) ns.length ns.length) (.slice (some ⟨bn, 0, none⟩) ns.length ns.length) (.slice (some ⟨bl, 0, none⟩) ns.length ns.length) ns.length ((List.range ns.length).map (ovr ns F k))) ∧ Hid (Marks w.heap.size w' ds)) ∧ a' = { tmps := #[.agg #[.slice (some ⟨b, o, none⟩) ns.length cap, .slice (some ⟨bk, 0, none⟩) ns.length ns.length, .slice (some ⟨bn, 0, none⟩) ns.length ns.length, .slice (some ⟨bl, 0, none⟩) ns.length ns.length], .slice (some ⟨f, 0, none⟩) ns.length ns.length, .pointer (some ⟨w.heap.size, 0, none⟩), undef, .slice none 0 0, .pointer (some ⟨w.heap.size + 2, 0, none⟩), u6, u7, u8, .pointer (some ⟨w.heap.size, 0, none⟩), .slice (some ⟨b, o, none⟩) ns.length cap, .int .i64 ns.length, .slice (some ⟨w.heap.size + 1, 0, none⟩) ns.length ns.length, .slice (some ⟨f, 0, none⟩) ns.length ns.length, .int .i64 ns.length, .int .i64 k, u16, u17, u18, u19, u20, u21, u22, u23, u24, u25, u26, u27, u28, u29, u30], defers := ds }) (fun a' _ => ns.length - (intOf (a'.tmps.getD 15 undef)).toNat) ?_ ?_
  · exact ⟨0, [], _, _, _, _, _, _, _, _, _, _, _, _, _, _, _, _, _, _, ⟨Nat.zero_le _, HW0, Marks.nil _ _⟩, rfl⟩
  · rintro a' wr ⟨k, ds, u6, u7, u8, u16, u17, u18, u19, u20, u21, u22, u23, u24, u25, u26, u27, u28, u29, u30, ⟨hk, HW, HM⟩, rfl⟩
    dsimp only
    clear HW0
    by_cases hlt : k < ns.length
    · have z1 : wr.cell? ⟨f, k, none⟩ = some (.bool (F k)) := by
        have h1 := HF.out.cell (i := k) (by simpa using hlt)
        have h2 := cell_on HW.out.bel h1
        simpa using h2
      have i1 : (0 : Int) ≤ (k : Int) := by omega
      have i2 : (k : Int) < (ns.length : Int) := by omega
      cases hF : F k with
      | false =>
        rw [hF] at z1
        have HN : Hid (OW w wr (.slice (some ⟨b, o, none⟩) ns.length cap) (.slice (some ⟨bk, 0, none⟩) ns.length ns.length) (.slice (some ⟨bn, 0, none⟩) ns.length ns.length) (.slice (some ⟨bl, 0, none⟩) ns.length ns.length) ns.length ((List.range ns.length).map (ovr ns F (k + 1)))) := by
          unfold Hid
          rw [ovr_no hF]
          exact HW.out
        gi_wp2
        exact ⟨⟨k + 1, ds, _, _, _, _, _, _, _, _, _, _, _, _, _, _, _, _, _, _, ⟨hlt, HN, HM⟩, rfl⟩, by simp [intOf]; omega⟩
      | true =>
        rw [hF] at z1
        obtain ⟨y0, y1, y2, y3⟩ := HW.out.cells
        gi_wp2_with (refine ⟨trivial, ?_⟩; gi_at_call 196; refine (above_in Fence.wide _ trivial rfl _ _ _ _ _ _).mono ?_; rintro e w' ⟨rfl, rfl⟩)
        have hTr := HT.out.on HW.out.bel
        have hb2 := boxed2_on wr (.slice (some ⟨b, o, none⟩) ns.length cap) (.slice (some ⟨bk, 0, none⟩) ns.length ns.length) (.slice (some ⟨bn, 0, none⟩) ns.length ns.length) (.slice (some ⟨bl, 0, none⟩) ns.length ns.length) k
        have hse := boxed2_sees wr b o cap bk bn bl (.slice (some ⟨bk, 0, none⟩) ns.length ns.length) (.slice (some ⟨bn, 0, none⟩) ns.length ns.length) (.slice (some ⟨bl, 0, none⟩) ns.length ns.length) ns k hTr
        have hnu := boxed2_num wr (.slice (some ⟨b, o, none⟩) ns.length cap) (.slice (some ⟨bk, 0, none⟩) ns.length ns.length) (.slice (some ⟨bn, 0, none⟩) ns.length ns.length) (.slice (some ⟨bl, 0, none⟩) ns.length ns.length) k
        have HO2 : Hid (OW w (boxed2 wr (.slice (some ⟨b, o, none⟩) ns.length cap) (.slice (some ⟨bk, 0, none⟩) ns.length ns.length) (.slice (some ⟨bn, 0, none⟩) ns.length ns.length) (.slice (some ⟨bl, 0, none⟩) ns.length ns.length) k) (.slice (some ⟨b, o, none⟩) ns.length cap) (.slice (some ⟨bk, 0, none⟩) ns.length ns.length) (.slice (some ⟨bn, 0, none⟩) ns.length ns.length) (.slice (some ⟨bl, 0, none⟩) ns.length ns.length) ns.length ((List.range ns.length).map (ovr ns F k))) := HW.out.on hb2
        obtain ⟨Ds, hds, hnd, hDs⟩ := HM.out
        have hDlt : ∀ D ∈ Ds, D < wr.heap.size := fun D hD => (Array.getElem?_eq_some_iff.1 (hDs D hD).2).1
        have hsz : wr.heap.size + 2 ≤ (boxed2 wr (.slice (some ⟨b, o, none⟩) ns.length cap) (.slice (some ⟨bk, 0, none⟩) ns.length ns.length) (.slice (some ⟨bn, 0, none⟩) ns.length ns.length) (.slice (some ⟨bl, 0, none⟩) ns.length ns.length) k).heap.size := by unfold boxed2; simp
        have HMk : Hid (MkAt w.heap.size Ds (boxed2 wr (.slice (some ⟨b, o, none⟩) ns.length cap) (.slice (some ⟨bk, 0, none⟩) ns.length ns.length) (.slice (some ⟨bn, 0, none⟩) ns.length ns.length) (.slice (some ⟨bl, 0, none⟩) ns.length ns.length) k)) := fun D hD => ⟨(hDs D hD).1, (hb2.block D (hDlt D hD)).trans (hDs D hD).2⟩
        have HDL : Hid (∀ D ∈ Ds, D < wr.heap.size) := hDlt
        have HND : Hid Ds.Nodup := hnd
        have HKT : Hid (F k = true) := hF
        have hbw : b < w.heap.size := by
          obtain ⟨vc, va, m0, -⟩ := HT.out.rd.at_ k hlt
          obtain ⟨ob, hob, -⟩ := cells_of_cell m0
          exact (Array.getElem?_eq_some_iff.1 hob).1
        have hww : w.heap.size + 3 ≤ wr.heap.size := HW.out.brow.lt
        subst hds
        clear hnd hDs hDlt y0 y1 y2 y3 z1 hF hb2 HM HW
        generalize boxed2 wr (.slice (some ⟨b, o, none⟩) ns.length cap) (.slice (some ⟨bk, 0, none⟩) ns.length ns.length) (.slice (some ⟨bn, 0, none⟩) ns.length ns.length) (.slice (some ⟨bl, 0, none⟩) ns.length ns.length) k = W2 at *
        refine range_own (n := 6) (gf := 211) (lb := #[.pointer (some ⟨wr.heap.size, 0, none⟩), .pointer (some ⟨wr.heap.size + 1, 0, none⟩)]) rfl (enters_of Tryz.func211 (by kernel_rfl) rfl)
          (seqX_of (X := noX) (above_stops Fence.wide 6 trivial rfl (by omega) wr.heap.size (wr.heap.size + 1) b o cap ns k HT.out.rd.low h64 hlt W2 hse hnu)) (fun r h => h.elim) (fun h1 h2 h => h2 (h1 h)) (fun W l ob o' _ hl ho h => Sees.put o' hl ho h) (fun _ => rfl)
          (fun pre W => OW w W (.slice (some ⟨b, o, none⟩) ns.length cap) (.slice (some ⟨bk, 0, none⟩) ns.length ns.length) (.slice (some ⟨bn, 0, none⟩) ns.length ns.length) (.slice (some ⟨bl, 0, none⟩) ns.length ns.length) ns.length (mkd (ovr ns F k) ns.length (pre.map Subtype.val)) ∧ MkAt w.heap.size Ds W) (fun _ _ _ => False)
          (fun s A A' h ht => ⟨h.1.turns (fun r h => h.elim) (by omega) ht, h.2.turns (fun _ _ h => h) (fun D hD => by have := HDL.out D hD; omega) ht⟩) (fun _ _ _ _ h _ => h)
          ⟨by rw [List.map_nil, mkd_nil]; exact HO2.out, HMk.out⟩
          (fun x a' W => a' = { tmps := #[.agg #[.slice (some ⟨b, o, none⟩) ns.length cap, .slice (some ⟨bk, 0, none⟩) ns.length ns.length, .slice (some ⟨bn, 0, none⟩) ns.length ns.length, .slice (some ⟨bl, 0, none⟩) ns.length ns.length], .slice (some ⟨f, 0, none⟩) ns.length ns.length, .pointer (some ⟨w.heap.size, 0, none⟩), undef, .slice none 0 0, .pointer (some ⟨w.heap.size + 2, 0, none⟩), .int .i64 k, .bool true, .int .i64 x.1, .pointer (some ⟨w.heap.size, 0, none⟩), .slice (some ⟨b, o, none⟩) ns.length cap, .int .i64 ns.length, .slice (some ⟨w.heap.size + 1, 0, none⟩) ns.length ns.length, .slice (some ⟨f, 0, none⟩) ns.length ns.length, .int .i64 ns.length, .int .i64 k, .bool true, .int .i64 k, .pointer (some ⟨f, k, none⟩), .bool true, .bool true, .bool false, .agg #[.slice (some ⟨b, o, none⟩) ns.length cap, .slice (some ⟨bk, 0, none⟩) ns.length ns.length, .slice (some ⟨bn, 0, none⟩) ns.length ns.length, .slice (some ⟨bl, 0, none⟩) ns.length ns.length], .int .i64 k, .func (.func 211) #[] #[.pointer (some ⟨wr.heap.size, 0, none⟩), .pointer (some ⟨wr.heap.size + 1, 0, none⟩)], .int .i64 x.1, u26, u27, u28, u29, u30], defers := [] }) (fun x a' W l ob o' _ _ _ h => h) ?assign ?body ?done ?stop
        case assign =>
          rintro lo pre x W K hI hK
          dsimp only
          gi_wp2
          exact hK _ _ (KeepsFrom.refl _ _) (fun h => h) hI rfl
        case body =>
          rintro lo pre x a' W hl ⟨hO, hM⟩ rfl
          have c0 := hO.brow.cell
          have c1 := hO.row.cell (i := x.1) (by rw [mkd_len]; exact x.2)
          have c2 := hO.row.frozen x.1
          have HO3 : Hid (OW w (W.setCell ⟨w.heap.size + 1, x.1, none⟩ (.bool true)) (.slice (some ⟨b, o, none⟩) ns.length cap) (.slice (some ⟨bk, 0, none⟩) ns.length ns.length) (.slice (some ⟨bn, 0, none⟩) ns.length ns.length) (.slice (some ⟨bl, 0, none⟩) ns.length ns.length) ns.length (mkd (ovr ns F k) ns.length ((pre ++ [x]).map Subtype.val))) := by
            have := hO.set x.1 true
            rw [mkd_set] at this
            unfold Hid
            rw [List.map_append]
            exact this
          have HM3 : Hid (MkAt w.heap.size Ds (W.setCell ⟨w.heap.size + 1, x.1, none⟩ (.bool true))) := hM.keeps (KeepsOthers.setCell _ _ _)
          have HS3 : Hid (Sees ns wr.heap.size b o cap W → Sees ns wr.heap.size b o cap (W.setCell ⟨w.heap.size + 1, x.1, none⟩ (.bool true))) := fun h => h.set _ (by omega) (by omega)
          obtain ⟨xn, hxn⟩ := x
          dsimp only at *
          have j1 : (0 : Int) ≤ (xn : Int) := by omega
          have j2 : (xn : Int) < (ns.length : Int) := by omega
          clear hO hM
          gi_wp2
          exact ⟨(KeepsOthers.setCell _ _ _).from _, HS3.out, HO3.out, HM3.out⟩
        case done =>
          rintro D ys W hD hys ⟨hO, hM⟩ hK
          have HN : Hid (OW w W (.slice (some ⟨b, o, none⟩) ns.length cap) (.slice (some ⟨bk, 0, none⟩) ns.length ns.length) (.slice (some ⟨bn, 0, none⟩) ns.length ns.length) (.slice (some ⟨bl, 0, none⟩) ns.length ns.length) ns.length ((List.range ns.length).map (ovr ns F (k + 1)))) := by
            unfold Hid
            rw [← ovr_yes HT.out.rd.low hlt HKT.out hys]
            exact hO
          gi_wp2
          refine ⟨⟨k + 1, _, _, _, _, _, _, _, _, _, _, _, _, _, _, _, _, _, _, _, ⟨hlt, HN, ⟨D :: Ds, rfl, List.nodup_cons.2 ⟨fun hm => by have := HDL.out D hm; omega, HND.out⟩, fun E hE => ?_⟩⟩, rfl⟩, by simp [intOf]; omega⟩
          rcases List.mem_cons.1 hE with rfl | hE
          · exact ⟨by omega, hK⟩
          · exact hM E hE
        case stop =>
          rintro D c pre W hD hpre h hK
          exact h.elim
    · have hkl : k = ns.length := by omega
      have c0 := HW.out.brow.cell
      have HE : Hid (BRow wr (w.heap.size + 1) ((List.range ns.length).map fun n => (List.range ns.length).any fun m => aboveB ns n m && F m)) := by
        have := HW.out.row
        rw [hkl] at this
        exact this
      clear hkl
      gi_wp2
      obtain ⟨Ds, rfl, hnd, hDs⟩ := HM.out
      refine leaves_marks2 (Nat.le_refl _) Ds _ hnd hDs fun W' hb hc => ⟨.slice (some ⟨w.heap.size + 1, 0, none⟩) ns.length ns.length, ?_, w.heap.size + 1, rfl, by omega, ?_, HW.out.bel.trans hb⟩
      · simp [results, Tryz.results190, go_sem]
      · exact hc _ _ HE.out rfl
end Go.Proofs.YtephhllfodlfbaaGreatDoor
/-
  first: the first one alone; from: from where a link leads.
-/
namespace Go.Proofs.YtephhllfodlfbaaGreatDoor
open Go.RowKit Go.Shelf

attribute [local go_sem] Oper.semAt_some

theorem SeqX.on {α : Type} {P : Program} {gf : Nat} {lb : Array Value} {encs : α → Array Value} {Kp : World → World → Prop} {X : Nat → Prop} {S Sp : List α → Prop} {w w' : World} (h : SeqX P gf lb encs Kp X S Sp w) (hb : Below w.heap.size w w') : SeqX P gf lb encs Kp X S Sp w' :=
  fun l J Jx W hW => h l J Jx W (below_trans hb hW)
/-- an iterator over elements: all of L, or some of it -/
def Goes (ns : List Pl.Nd) (gf : Nat) (lb : Array Value) (Kp : World → World → Prop) (L : List Nat) (w : World) : Prop := SeqX (α := NU ns) Tryz.prog gf lb (fun x : NU ns => #[.int .i64 x.1]) Kp noX (fun ys => ys.map Subtype.val = L) (fun pre => pre.map Subtype.val <+: L) w
set_option maxRecDepth 100000 in
set_option maxHeartbeats 4000000 in
theorem first_goes {ns : List Pl.Nd} {gf : Nat} {lb : Array Value} {Kp : World → World → Prop} {L : List Nat} {w : World} (Ba : Nat) (eg : ∀ args w, (callFunc gf args).run Tryz.prog w = .ok (.enter gf args) w)
    (hKt : ∀ {A B C : World}, Kp A B → Kp B C → Kp A C) (hKb : ∀ (W : World) (l : Nat) (o o' : Obj), W.heap[l]? = some o → o.isCells = false → Kp W (W.putObj l o')) (hKr : ∀ W, Kp W W)
    (h : Goes ns gf lb Kp L w) (hBa : w.cell? ⟨Ba, 0, none⟩ = some (.func (.func gf) #[] lb)) : Goes ns 212 #[.pointer (some ⟨Ba, 0, none⟩)] Kp (L.take 1) w := by
  intro l J Jx W hW hJ hJx hY h0
  have HY : Hid (∀ pre x W1, J pre W1 → YieldAt Fence.wide 0 Tryz.prog l #[.int .i64 x.1] W1 fun e W' => KeepsFrom W.heap.size W1 W' ∧ ((e = .returned (.bool true) ∧ J (pre ++ [x]) W' ∧ Kp W1 W') ∨ (e = .returned (.bool false) ∧ Jx (pre ++ [x]) W'))) := hY
  have HJ : Hid (Bears noX W.heap.size J) := hJ
  have HJx : Hid (Bears noX W.heap.size Jx) := hJx
  have hb1 := on_alloc W (.cells #[.func (.yield l) #[] #[]] 157)
  have c0 := cell_on (below_trans hW hb1) hBa
  have HG : Hid (Goes ns gf lb Kp L (W.alloc (.cells #[.func (.yield l) #[] #[]] 157))) := SeqX.on h (below_trans hW hb1)
  have H1 : Hid (J [] (W.alloc (.cells #[.func (.yield l) #[] #[]] 157))) := hJ _ _ _ h0 (Turns.alloc _ _ _ _)
  have HBX : Hid (Boxed (W.alloc (.cells #[.func (.yield l) #[] #[]] 157)) W.heap.size 157 (.func (.yield l) #[] #[])) := Boxed.new W 157 _
  have hs1 : (W.alloc (.cells #[.func (.yield l) #[] #[]] 157)).heap.size = W.heap.size + 1 := by simp
  clear hY hJ hJx h0 h hBa hb1 hW
  refine (callsIn_wide (n := 6)).1 ?_
  refine callsIn_of_wp_marks Tryz.func212 rfl trivial ?_ rfl
  simp only [Tryz.ntmps212, List.size_toArray, List.length_cons, List.length_nil, Nat.reduceAdd, Nat.reduceSub, Array.replicate_succ, Array.replicate_zero, List.push_toArray, List.append_toArray, List.nil_append, List.cons_append]
  gi_wp2
  generalize W.alloc (.cells #[.func (.yield l) #[] #[]] 157) = W1 at *
  refine range_own (n := 6) (gf := gf) (lb := lb) rfl eg HG.out (fun r h => h.elim) hKt (fun W l ob o' _ hl ho => hKb W l ob o' hl ho) (fun _ => rfl)
    (fun pre V => (pre = [] ∧ J [] V) ∧ Boxed V W.heap.size 157 (.func (.yield l) #[] #[])) (fun c pre V => c = .ret ∧ ∃ x, pre = [x] ∧ (J [x] V ∨ Jx [x] V))
    (fun s A A' h ht => ⟨⟨h.1.1, HJ.out _ _ _ h.1.2 (ht.le (by omega))⟩, ht.cells h.2 rfl (fun h => h)⟩)
    (fun c s A A' h ht => ⟨h.1, by
      obtain ⟨x, hx, h2⟩ := h.2
      exact ⟨x, hx, h2.imp (fun h => HJ.out _ _ _ h (ht.le (by omega))) (fun h => HJx.out _ _ _ h (ht.le (by omega)))⟩⟩)
    ⟨⟨rfl, H1.out⟩, HBX.out⟩
    (fun x a' V => a' = { tmps := #[.func (.yield l) #[] #[], .pointer (some ⟨Ba, 0, none⟩), .pointer (some ⟨W.heap.size, 0, none⟩), .int .i64 x.1, .func (.func gf) #[] lb, .int .i64 x.1, undef, undef, undef], defers := [] }) (fun x a' V l ob o' _ _ _ h => h) ?assign ?body ?done ?stop
  case assign =>
    rintro lo pre x V K hI hK
    dsimp only
    gi_wp2
    exact hK _ _ (KeepsFrom.refl _ _) (hKr _) hI rfl
  case body =>
    rintro lo pre x a' V hl ⟨⟨rfl, hJ0⟩, hbx⟩ rfl
    have cb := hbx.cell
    obtain ⟨fn, tmps, assign, body, hy, hR⟩ := HY.out [] x V hJ0
    have HRR : Hid (RoundIn Fence.wide 0 Tryz.prog l fn tmps assign body V _) := hR
    clear hR hJ0 hbx
    obtain ⟨xn, hxn⟩ := x
    dsimp only at *
    gi_wp2
    refine RoundIn.mono (F := Fence.wide.inRound lo) (round_wide (m := 5) HRR.out) ?_
    rintro e V3 ⟨hkf, (⟨rfl, hJ3, -⟩ | ⟨rfl, hJ3⟩)⟩
    · have HZ : Hid (KeepsFrom W1.heap.size V V3 ∧ J [⟨xn, hxn⟩] V3) := ⟨keepsFrom_le hkf (by omega), hJ3⟩
      clear hkf hJ3
      gi_wp2
      exact ⟨HZ.out.1, rfl, ⟨xn, hxn⟩, rfl, .inl HZ.out.2⟩
    · have HZ : Hid (KeepsFrom W1.heap.size V V3 ∧ Jx [⟨xn, hxn⟩] V3) := ⟨keepsFrom_le hkf (by omega), hJ3⟩
      clear hkf hJ3
      gi_wp2
      exact ⟨HZ.out.1, rfl, ⟨xn, hxn⟩, rfl, .inr HZ.out.2⟩
  case done =>
    rintro D ys V hD hys ⟨⟨rfl, hJ0⟩, hbx⟩ hK
    have HZ : Hid (J [] (V.putObj D (.deferred none)) ∧ L = []) := ⟨HJ.out _ _ _ hJ0 (Turns.put _ _ (by omega) hK rfl), hys.symm⟩
    clear hJ0 hbx hys
    gi_wp2
    exact ⟨by simp, .inl ⟨D, _, rfl, run_takeDeferred hK, _, results_none rfl _ _ _, ⟨_, rfl⟩, .inl ⟨[], by rw [HZ.out.2]; rfl, HZ.out.1⟩⟩⟩
  case stop =>
    rintro D c pre V hD hpre ⟨rfl, x, rfl, hJ0⟩ hK
    have HL : Hid (L.take 1 = [x.1]) := by
      obtain ⟨r, hr⟩ := hpre
      unfold Hid
      rw [← hr]
      rfl
    have HZ : Hid (J [x] (V.putObj D (.deferred none)) ∨ Jx [x] (V.putObj D (.deferred none))) := hJ0.imp (fun h => HJ.out _ _ _ h (Turns.put _ _ (by omega) hK rfl)) (fun h => HJx.out _ _ _ h (Turns.put _ _ (by omega) hK rfl))
    clear hJ0 hpre
    gi_wp2
    refine ⟨by simp, .inl ⟨D, _, rfl, run_takeDeferred hK, _, results_none rfl _ _ _, ⟨_, rfl⟩, ?_⟩⟩
    rcases HZ.out with h | h
    · exact .inl ⟨[x], by rw [HL.out]; rfl, h⟩
    · exact .inr ⟨[x], by rw [HL.out]; exact List.prefix_refl _, h⟩
theorem first_call (v : Value) (w : World) (gf : Nat) (lb : Array Value) (hv : v = .func (.func gf) #[] lb) : Calls Tryz.prog 197 #[v] w fun e w' => e = .returned (.func (.func 212) #[] #[.pointer (some ⟨w.heap.size, 0, none⟩)]) ∧ w' = w.alloc (.cells #[v] 193) := by
  subst hv
  go_enter Tryz.func197, Tryz.ntmps197
  go_wp2
  go_ret
  exact ⟨rfl, rfl⟩
theorem above_call (t0 t1 t2 t3 : Value) (n : Nat) (w : World) : Calls Tryz.prog 196 #[.agg #[t0, t1, t2, t3], .int .i64 n] w fun e w' => e = .returned (.func (.func 211) #[] #[.pointer (some ⟨w.heap.size, 0, none⟩), .pointer (some ⟨w.heap.size + 1, 0, none⟩)]) ∧ w' = boxed2 w t0 t1 t2 t3 n := callsIn_wide.1 (above_in Fence.wide 0 trivial rfl t0 t1 t2 t3 n w)
theorem ahead_call (t0 t1 t2 t3 : Value) (n : Nat) (w : World) : Calls Tryz.prog 198 #[.agg #[t0, t1, t2, t3], .int .i64 n] w fun e w' => e = .returned (.func (.func 213) #[] #[.pointer (some ⟨w.heap.size, 0, none⟩), .pointer (some ⟨w.heap.size + 1, 0, none⟩)]) ∧ w' = boxed2 w t0 t1 t2 t3 n := callsIn_wide.1 (ahead_in Fence.wide 0 trivial rfl t0 t1 t2 t3 n w)
/-- what a round over a tree's elements must leave as it is -/
def KpS (ns : List Pl.Nd) (Bt b o cap : Nat) (W W' : World) : Prop := Sees ns Bt b o cap W → Sees ns Bt b o cap W'
theorem above_goes {w : World} {b o bk bn bl cap : Nat} {ns : List Pl.Nd} (hT : TR w b o bk bn bl ns) (n : Nat) (hn : n < ns.length) : Goes ns 211 #[.pointer (some ⟨w.heap.size, 0, none⟩), .pointer (some ⟨w.heap.size + 1, 0, none⟩)] (KpS ns w.heap.size b o cap) (aboveL ns n) (boxed2 w (.slice (some ⟨b, o, none⟩) ns.length cap) (.slice (some ⟨bk, 0, none⟩) ns.length ns.length) (.slice (some ⟨bn, 0, none⟩) ns.length ns.length) (.slice (some ⟨bl, 0, none⟩) ns.length ns.length) n) :=
  seqX_of (above_stops Fence.wide 6 trivial rfl (by omega) w.heap.size (w.heap.size + 1) b o cap ns n hT.rd.low hT.rd.n64 hn _ (boxed2_sees w b o cap bk bn bl (.slice (some ⟨bk, 0, none⟩) ns.length ns.length) (.slice (some ⟨bn, 0, none⟩) ns.length ns.length) (.slice (some ⟨bl, 0, none⟩) ns.length ns.length) ns n hT) (boxed2_num w _ _ _ _ n))
theorem ahead_goes {w : World} {b o bk bn bl cap : Nat} {ns : List Pl.Nd} (hT : TR w b o bk bn bl ns) (n : Nat) (hn : n < ns.length) : Goes ns 213 #[.pointer (some ⟨w.heap.size, 0, none⟩), .pointer (some ⟨w.heap.size + 1, 0, none⟩)] (KpS ns w.heap.size b o cap) (aheadL ns n) (boxed2 w (.slice (some ⟨b, o, none⟩) ns.length cap) (.slice (some ⟨bk, 0, none⟩) ns.length ns.length) (.slice (some ⟨bn, 0, none⟩) ns.length ns.length) (.slice (some ⟨bl, 0, none⟩) ns.length ns.length) n) :=
  seqX_of (ahead_stops Fence.wide 6 trivial rfl (by omega) w.heap.size (w.heap.size + 1) b o cap ns n hT.rd.low hT.rd.n64 hn _ (boxed2_sees w b o cap bk bn bl (.slice (some ⟨bk, 0, none⟩) ns.length ns.length) (.slice (some ⟨bn, 0, none⟩) ns.length ns.length) (.slice (some ⟨bl, 0, none⟩) ns.length ns.length) ns n hT) (boxed2_num w _ _ _ _ n))
theorem first_of {ns : List Pl.Nd} {gf : Nat} {lb : Array Value} {Bt b o cap : Nat} {L : List Nat} {w : World} (eg : ∀ args w, (callFunc gf args).run Tryz.prog w = .ok (.enter gf args) w) (h : Goes ns gf lb (KpS ns Bt b o cap) L w) : Goes ns 212 #[.pointer (some ⟨w.heap.size, 0, none⟩)] (KpS ns Bt b o cap) (L.take 1) (w.alloc (.cells #[.func (.func gf) #[] lb] 193)) :=
  first_goes (Kp := KpS ns Bt b o cap) w.heap.size eg (fun h1 h2 h => h2 (h1 h)) (fun _ _ _ o' hl ho h => h.put o' hl ho) (fun _ h => h) (SeqX.on h (on_alloc _ _)) (Boxed.new w 193 _).cell
/-- from tells of an iterator -/
def Comes1 (ns : List Pl.Nd) (b o cap : Nat) (k : Int) (n : Nat) (w : World) (e : Ending) (w' : World) : Prop := ∃ gf lb, e = .returned (.func (.func gf) #[] lb) ∧ (∀ args w, (callFunc gf args).run Tryz.prog w = .ok (.enter gf args) w) ∧ Goes ns gf lb (KpS ns (w.heap.size + 1) b o cap) (fromL ns k n) w' ∧ Below w.heap.size w w'
set_option maxRecDepth 100000 in
set_option maxHeartbeats 4000000 in
theorem from_call (w : World) (b o cap bk bn bl : Nat) (ns : List Pl.Nd) (k : Int) (n : Nat) (hT : TR w b o bk bn bl ns) (hn : n < ns.length) (hk : Pl.isLink k = true) :
    Calls Tryz.prog 169 #[.agg #[.slice (some ⟨b, o, none⟩) ns.length cap, .slice (some ⟨bk, 0, none⟩) ns.length ns.length, .slice (some ⟨bn, 0, none⟩) ns.length ns.length, .slice (some ⟨bl, 0, none⟩) ns.length ns.length], .int .i64 k, .int .i64 n] w (Comes1 ns b o cap k n w) := by
  have hb1 := on_alloc w (.cells #[.slice (some ⟨b, o, none⟩) ns.length cap, .slice (some ⟨bk, 0, none⟩) ns.length ns.length, .slice (some ⟨bn, 0, none⟩) ns.length ns.length, .slice (some ⟨bl, 0, none⟩) ns.length ns.length] 92)
  have hT1 := hT.on hb1
  have hs1 : (w.alloc (.cells #[.slice (some ⟨b, o, none⟩) ns.length cap, .slice (some ⟨bk, 0, none⟩) ns.length ns.length, .slice (some ⟨bn, 0, none⟩) ns.length ns.length, .slice (some ⟨bl, 0, none⟩) ns.length ns.length] 92)).heap.size = w.heap.size + 1 := by simp
  obtain ⟨x0, x1, x2, x3⟩ := blk4c (World.alloc_heap_new w (.cells #[.slice (some ⟨b, o, none⟩) ns.length cap, .slice (some ⟨bk, 0, none⟩) ns.length ns.length, .slice (some ⟨bn, 0, none⟩) ns.length ns.length, .slice (some ⟨bl, 0, none⟩) ns.length ns.length] 92))
  have HA : Hid (Goes ns 211 #[.pointer (some ⟨w.heap.size + 1, 0, none⟩), .pointer (some ⟨w.heap.size + 2, 0, none⟩)] (KpS ns (w.heap.size + 1) b o cap) (aboveL ns n) (boxed2 (w.alloc (.cells #[.slice (some ⟨b, o, none⟩) ns.length cap, .slice (some ⟨bk, 0, none⟩) ns.length ns.length, .slice (some ⟨bn, 0, none⟩) ns.length ns.length, .slice (some ⟨bl, 0, none⟩) ns.length ns.length] 92)) (.slice (some ⟨b, o, none⟩) ns.length cap) (.slice (some ⟨bk, 0, none⟩) ns.length ns.length) (.slice (some ⟨bn, 0, none⟩) ns.length ns.length) (.slice (some ⟨bl, 0, none⟩) ns.length ns.length) n)) := by
    have := above_goes (cap := cap) hT1 n hn
    rw [hs1] at this
    exact this
  have HB : Hid (Goes ns 213 #[.pointer (some ⟨w.heap.size + 1, 0, none⟩), .pointer (some ⟨w.heap.size + 2, 0, none⟩)] (KpS ns (w.heap.size + 1) b o cap) (aheadL ns n) (boxed2 (w.alloc (.cells #[.slice (some ⟨b, o, none⟩) ns.length cap, .slice (some ⟨bk, 0, none⟩) ns.length ns.length, .slice (some ⟨bn, 0, none⟩) ns.length ns.length, .slice (some ⟨bl, 0, none⟩) ns.length ns.length] 92)) (.slice (some ⟨b, o, none⟩) ns.length cap) (.slice (some ⟨bk, 0, none⟩) ns.length ns.length) (.slice (some ⟨bn, 0, none⟩) ns.length ns.length) (.slice (some ⟨bl, 0, none⟩) ns.length ns.length) n)) := by
    have := ahead_goes (cap := cap) hT1 n hn
    rw [hs1] at this
    exact this
  have HBB : Hid (Below w.heap.size w (boxed2 (w.alloc (.cells #[.slice (some ⟨b, o, none⟩) ns.length cap, .slice (some ⟨bk, 0, none⟩) ns.length ns.length, .slice (some ⟨bn, 0, none⟩) ns.length ns.length, .slice (some ⟨bl, 0, none⟩) ns.length ns.length] 92)) (.slice (some ⟨b, o, none⟩) ns.length cap) (.slice (some ⟨bk, 0, none⟩) ns.length ns.length) (.slice (some ⟨bn, 0, none⟩) ns.length ns.length) (.slice (some ⟨bl, 0, none⟩) ns.length ns.length) n)) := below_trans hb1 (boxed2_on _ _ _ _ _ _)
  have hs3 : (boxed2 (w.alloc (.cells #[.slice (some ⟨b, o, none⟩) ns.length cap, .slice (some ⟨bk, 0, none⟩) ns.length ns.length, .slice (some ⟨bn, 0, none⟩) ns.length ns.length, .slice (some ⟨bl, 0, none⟩) ns.length ns.length] 92)) (.slice (some ⟨b, o, none⟩) ns.length cap) (.slice (some ⟨bk, 0, none⟩) ns.length ns.length) (.slice (some ⟨bn, 0, none⟩) ns.length ns.length) (.slice (some ⟨bl, 0, none⟩) ns.length ns.length) n).heap.size = w.heap.size + 3 := by unfold boxed2; simp
  have HC1 : Hid (Comes1 ns b o cap 1 n w (.returned (.func (.func 211) #[] #[.pointer (some ⟨w.heap.size + 1, 0, none⟩), .pointer (some ⟨w.heap.size + 2, 0, none⟩)])) (boxed2 (w.alloc (.cells #[.slice (some ⟨b, o, none⟩) ns.length cap, .slice (some ⟨bk, 0, none⟩) ns.length ns.length, .slice (some ⟨bn, 0, none⟩) ns.length ns.length, .slice (some ⟨bl, 0, none⟩) ns.length ns.length] 92)) (.slice (some ⟨b, o, none⟩) ns.length cap) (.slice (some ⟨bk, 0, none⟩) ns.length ns.length) (.slice (some ⟨bn, 0, none⟩) ns.length ns.length) (.slice (some ⟨bl, 0, none⟩) ns.length ns.length) n)) := ⟨211, _, rfl, enters_of Tryz.func211 (by kernel_rfl) rfl, HA.out, HBB.out⟩
  have HC4 : Hid (Comes1 ns b o cap 4 n w (.returned (.func (.func 213) #[] #[.pointer (some ⟨w.heap.size + 1, 0, none⟩), .pointer (some ⟨w.heap.size + 2, 0, none⟩)])) (boxed2 (w.alloc (.cells #[.slice (some ⟨b, o, none⟩) ns.length cap, .slice (some ⟨bk, 0, none⟩) ns.length ns.length, .slice (some ⟨bn, 0, none⟩) ns.length ns.length, .slice (some ⟨bl, 0, none⟩) ns.length ns.length] 92)) (.slice (some ⟨b, o, none⟩) ns.length cap) (.slice (some ⟨bk, 0, none⟩) ns.length ns.length) (.slice (some ⟨bn, 0, none⟩) ns.length ns.length) (.slice (some ⟨bl, 0, none⟩) ns.length ns.length) n)) := ⟨213, _, rfl, enters_of Tryz.func213 (by kernel_rfl) rfl, HB.out, HBB.out⟩
  have HC65 : Hid (Comes1 ns b o cap 2 n w (.returned (.func (.func 212) #[] #[.pointer (some ⟨w.heap.size + 3, 0, none⟩)])) ((boxed2 (w.alloc (.cells #[.slice (some ⟨b, o, none⟩) ns.length cap, .slice (some ⟨bk, 0, none⟩) ns.length ns.length, .slice (some ⟨bn, 0, none⟩) ns.length ns.length, .slice (some ⟨bl, 0, none⟩) ns.length ns.length] 92)) (.slice (some ⟨b, o, none⟩) ns.length cap) (.slice (some ⟨bk, 0, none⟩) ns.length ns.length) (.slice (some ⟨bn, 0, none⟩) ns.length ns.length) (.slice (some ⟨bl, 0, none⟩) ns.length ns.length) n).alloc (.cells #[.func (.func 211) #[] #[.pointer (some ⟨w.heap.size + 1, 0, none⟩), .pointer (some ⟨w.heap.size + 2, 0, none⟩)]] 193))) := by
    have h1 := first_of (enters_of Tryz.func211 (by kernel_rfl) rfl) HA.out
    rw [hs3] at h1
    exact ⟨212, _, rfl, enters_of Tryz.func212 (by kernel_rfl) rfl, h1, below_trans HBB.out (on_alloc _ _)⟩
  have HC164 : Hid (Comes1 ns b o cap 3 n w (.returned (.func (.func 212) #[] #[.pointer (some ⟨w.heap.size + 3, 0, none⟩)])) ((boxed2 (w.alloc (.cells #[.slice (some ⟨b, o, none⟩) ns.length cap, .slice (some ⟨bk, 0, none⟩) ns.length ns.length, .slice (some ⟨bn, 0, none⟩) ns.length ns.length, .slice (some ⟨bl, 0, none⟩) ns.length ns.length] 92)) (.slice (some ⟨b, o, none⟩) ns.length cap) (.slice (some ⟨bk, 0, none⟩) ns.length ns.length) (.slice (some ⟨bn, 0, none⟩) ns.length ns.length) (.slice (some ⟨bl, 0, none⟩) ns.length ns.length) n).alloc (.cells #[.func (.func 213) #[] #[.pointer (some ⟨w.heap.size + 1, 0, none⟩), .pointer (some ⟨w.heap.size + 2, 0, none⟩)]] 193))) := by
    have h1 := first_of (enters_of Tryz.func213 (by kernel_rfl) rfl) HB.out
    rw [hs3] at h1
    exact ⟨212, _, rfl, enters_of Tryz.func212 (by kernel_rfl) rfl, h1, below_trans HBB.out (on_alloc _ _)⟩
  have hk4 : k = 1 ∨ k = 2 ∨ k = 3 ∨ k = 4 := by
    unfold Pl.isLink at hk
    simp only [decide_eq_true_eq] at hk
    omega
  clear hT hT1 hb1 hk HA HB HBB
  rcases hk4 with rfl | rfl | rfl | rfl
  · go_enter Tryz.func169, Tryz.ntmps169
    go_wp2_with (go_at_call 196; refine (above_call _ _ _ _ _ _).mono ?_; rintro e w' ⟨rfl, rfl⟩)
    go_ret
    exact HC1.out
  · go_enter Tryz.func169, Tryz.ntmps169
    go_wp2_with (first | (go_at_call 196; refine (above_call _ _ _ _ _ _).mono ?_; rintro e w' ⟨rfl, rfl⟩) | (go_at_call 197; refine (first_call _ _ _ _ rfl).mono ?_; rintro e w' ⟨rfl, rfl⟩))
    go_ret
    exact HC65.out
  · go_enter Tryz.func169, Tryz.ntmps169
    go_wp2_with (first | (go_at_call 198; refine (ahead_call _ _ _ _ _ _).mono ?_; rintro e w' ⟨rfl, rfl⟩) | (go_at_call 197; refine (first_call _ _ _ _ rfl).mono ?_; rintro e w' ⟨rfl, rfl⟩))
    go_ret
    exact HC164.out
  · go_enter Tryz.func169, Tryz.ntmps169
    go_wp2_with (go_at_call 198; refine (ahead_call _ _ _ _ _ _).mono ?_; rintro e w' ⟨rfl, rfl⟩)
    go_ret
    exact HC4.out
end Go.Proofs.YtephhllfodlfbaaGreatDoor
/-
  goOn: where a link leads.
-/
namespace Go.Proofs.YtephhllfodlfbaaGreatDoor
open Go.RowKit Go.Shelf

attribute [local go_sem] Oper.semAt_some

/-- while a row is filled: the tree's box at B, that of what is gone on from at B + 1, the row at B + 2, the row's box at B + 3 -/
structure GW (w W : World) (t0 t1 t2 t3 fv : Value) (N : Nat) (bs : List Bool) : Prop where
  bel : Below w.heap.size w W
  box : W.heap[w.heap.size]? = some (.cells #[t0, t1, t2, t3] 92)
  fbx : Boxed W (w.heap.size + 1) 90 fv
  row : BRow W (w.heap.size + 2) bs
  brow : Boxed W (w.heap.size + 3) 90 (.slice (some ⟨w.heap.size + 2, 0, none⟩) N N)
section
variable {w W W' : World} {t0 t1 t2 t3 fv : Value} {N : Nat} {bs : List Bool}
theorem GW.on (h : GW w W t0 t1 t2 t3 fv N bs) (hb : Below W.heap.size W W') : GW w W' t0 t1 t2 t3 fv N bs := ⟨below_trans h.bel hb, (hb.block _ (Array.getElem?_eq_some_iff.1 h.box).1).trans h.box, (hb.block _ h.fbx.lt).trans h.fbx, h.row.on hb, (hb.block _ h.brow.lt).trans h.brow⟩
theorem GW.set (h : GW w W t0 t1 t2 t3 fv N bs) (i : Nat) (x : Bool) : GW w (W.setCell ⟨w.heap.size + 2, i, none⟩ (.bool x)) t0 t1 t2 t3 fv N (bs.set i x) :=
  ⟨h.bel.setCell (p := ⟨w.heap.size + 2, i, none⟩) (by simp) _, by rw [Below.heap_setCell _ _ _ _ (by show w.heap.size ≠ w.heap.size + 2; omega)]; exact h.box, by unfold Boxed; rw [Below.heap_setCell _ _ _ _ (by show w.heap.size + 1 ≠ w.heap.size + 2; omega)]; exact h.fbx, h.row.set i x, by unfold Boxed; rw [Below.heap_setCell _ _ _ _ (by show w.heap.size + 3 ≠ w.heap.size + 2; omega)]; exact h.brow⟩
theorem GW.cells (h : GW w W t0 t1 t2 t3 fv N bs) : W.cell? ⟨w.heap.size, 0, none⟩ = some t0 ∧ W.cell? ⟨w.heap.size, 1, none⟩ = some t1 ∧ W.cell? ⟨w.heap.size, 2, none⟩ = some t2 ∧ W.cell? ⟨w.heap.size, 3, none⟩ = some t3 := blk4c h.box
theorem GW.turns {X : Nat → Prop} {M : Nat} (h : GW w W t0 t1 t2 t3 fv N bs) (hX : ∀ r, X r → w.heap.size + 4 ≤ r) (hM : w.heap.size ≤ M) (ht : Turns X M W W') : GW w W' t0 t1 t2 t3 fv N bs := by
  have hn : ∀ k, k < w.heap.size + 4 → ¬ X k := fun k hk hx => by have := hX k hx; omega
  exact ⟨ht.below hM (fun r hr => by have := hX r hr; omega) h.bel h.bel.size, ht.cells h.box rfl (hn _ (by omega)), ht.cells h.fbx rfl (hn _ (by omega)), ht.cells h.row rfl (hn _ (by omega)), ht.cells h.brow rfl (hn _ (by omega))⟩
end
def goBox (w : World) (t0 t1 t2 t3 fv : Value) (N : Nat) : World := (mkB ((w.alloc (.cells #[t0, t1, t2, t3] 92)).alloc (.cells #[fv] 90)) N).alloc (.cells #[.slice (some ⟨w.heap.size + 2, 0, none⟩) N N] 90)
theorem goBox_gw (w : World) (t0 t1 t2 t3 fv : Value) (N : Nat) : GW w (goBox w t0 t1 t2 t3 fv N) t0 t1 t2 t3 fv N (List.replicate N false) := by
  have hb1 := on_alloc w (.cells #[t0, t1, t2, t3] 92)
  have hb2 := on_alloc (w.alloc (.cells #[t0, t1, t2, t3] 92)) (.cells #[fv] 90)
  have hb3 := mkB_on ((w.alloc (.cells #[t0, t1, t2, t3] 92)).alloc (.cells #[fv] 90)) N
  have hb4 := on_alloc (mkB ((w.alloc (.cells #[t0, t1, t2, t3] 92)).alloc (.cells #[fv] 90)) N) (.cells #[.slice (some ⟨w.heap.size + 2, 0, none⟩) N N] 90)
  have e1 := World.alloc_heap_new w (.cells #[t0, t1, t2, t3] 92)
  have e2 := World.alloc_heap_new (w.alloc (.cells #[t0, t1, t2, t3] 92)) (.cells #[fv] 90)
  have e3 := mkB_row ((w.alloc (.cells #[t0, t1, t2, t3] 92)).alloc (.cells #[fv] 90)) N
  have e4 := World.alloc_heap_new (mkB ((w.alloc (.cells #[t0, t1, t2, t3] 92)).alloc (.cells #[fv] 90)) N) (.cells #[.slice (some ⟨w.heap.size + 2, 0, none⟩) N N] 90)
  have s3 : (mkB ((w.alloc (.cells #[t0, t1, t2, t3] 92)).alloc (.cells #[fv] 90)) N).heap.size = w.heap.size + 3 := by unfold mkB; simp
  rw [s3] at e4
  simp only [World.size_alloc] at e2 e3
  exact ⟨below_trans (below_trans (below_trans hb1 hb2) hb3) hb4, (hb4.block _ (by omega)).trans ((hb3.block _ (by simp; omega)).trans ((hb2.block _ (by simp)).trans e1)), (hb4.block _ (by omega)).trans ((hb3.block _ (by simp)).trans e2), e3.on hb4, e4⟩
theorem mix_no {F G : Nat → Bool} {n N : Nat} (h : G n = F n) : mix F G n N = mix F G (n + 1) N := by
  unfold mix
  apply List.map_congr_left
  intro m _
  by_cases e : m < n
  · rw [if_pos e, if_pos (by omega)]
  · by_cases e2 : m = n
    · subst e2
      rw [if_neg e, if_pos (by omega), h]
    · rw [if_neg e, if_neg (by omega)]
set_option maxRecDepth 100000 in
set_option maxHeartbeats 8000000 in
theorem goOn_any : GOON := by
  intro w b o cap bk bn bl ns f t k F T hT hf ht hk
  have h64 := hT.rd.n64
  have hmk := make_bools ns.length h64
  obtain ⟨G, hG⟩ : ∃ G : Nat → Bool, G = fun n => T n && (fromL ns k n).any F := ⟨_, rfl⟩
  have HGE : Hid (∀ n, G n = (T n && (fromL ns k n).any F)) := fun n => by rw [hG]
  have HOW : Hid (GW w (goBox w (.slice (some ⟨b, o, none⟩) ns.length cap) (.slice (some ⟨bk, 0, none⟩) ns.length ns.length) (.slice (some ⟨bn, 0, none⟩) ns.length ns.length) (.slice (some ⟨bl, 0, none⟩) ns.length ns.length) (.slice (some ⟨f, 0, none⟩) ns.length ns.length) ns.length) (.slice (some ⟨b, o, none⟩) ns.length cap) (.slice (some ⟨bk, 0, none⟩) ns.length ns.length) (.slice (some ⟨bn, 0, none⟩) ns.length ns.length) (.slice (some ⟨bl, 0, none⟩) ns.length ns.length) (.slice (some ⟨f, 0, none⟩) ns.length ns.length) ns.length (mix (fun _ => false) G 0 ns.length)) := by
    have := goBox_gw w (.slice (some ⟨b, o, none⟩) ns.length cap) (.slice (some ⟨bk, 0, none⟩) ns.length ns.length) (.slice (some ⟨bn, 0, none⟩) ns.length ns.length) (.slice (some ⟨bl, 0, none⟩) ns.length ns.length) (.slice (some ⟨f, 0, none⟩) ns.length ns.length) ns.length
    rw [none_row, ← mix_zero (fun _ => false) G] at this
    exact this
  rw [← hG]
  clear hG
  have X := blk4c (World.alloc_heap_new w (.cells #[.slice (some ⟨b, o, none⟩) ns.length cap, .slice (some ⟨bk, 0, none⟩) ns.length ns.length, .slice (some ⟨bn, 0, none⟩) ns.length ns.length, .slice (some ⟨bl, 0, none⟩) ns.length ns.length] 92))
  have c0 := cell_on (on_alloc _ (.cells #[.slice (some ⟨f, 0, none⟩) ns.length ns.length] 90)) X.1
  have hs2 : (mkB ((w.alloc (.cells #[.slice (some ⟨b, o, none⟩) ns.length cap, .slice (some ⟨bk, 0, none⟩) ns.length ns.length, .slice (some ⟨bn, 0, none⟩) ns.length ns.length, .slice (some ⟨bl, 0, none⟩) ns.length ns.length] 92)).alloc (.cells #[.slice (some ⟨f, 0, none⟩) ns.length ns.length] 90)) ns.length).heap.size = w.heap.size + 3 := by unfold mkB; simp
  have HW0 : Hid (GW w ((mkB ((w.alloc (.cells #[.slice (some ⟨b, o, none⟩) ns.length cap, .slice (some ⟨bk, 0, none⟩) ns.length ns.length, .slice (some ⟨bn, 0, none⟩) ns.length ns.length, .slice (some ⟨bl, 0, none⟩) ns.length ns.length] 92)).alloc (.cells #[.slice (some ⟨f, 0, none⟩) ns.length ns.length] 90)) ns.length).alloc (.cells #[.slice (some ⟨w.heap.size + 2, 0, none⟩) ns.length ns.length] 90)) (.slice (some ⟨b, o, none⟩) ns.length cap) (.slice (some ⟨bk, 0, none⟩) ns.length ns.length) (.slice (some ⟨bn, 0, none⟩) ns.length ns.length) (.slice (some ⟨bl, 0, none⟩) ns.length ns.length) (.slice (some ⟨f, 0, none⟩) ns.length ns.length) ns.length (mix (fun _ => false) G 0 ns.length)) := HOW
  have c1 := HW0.out.cells.1
  have HT : Hid (TR w b o bk bn bl ns) := hT
  have HF : Hid (BRow w f ((List.range ns.length).map F)) := hf
  have HTT : Hid (BRow w t ((List.range ns.length).map T)) := ht
  have HK : Hid (Pl.isLink k = true) := hk
  clear hT hf X HOW ht hk
  refine (callsIn_wide (n := 6)).1 ?_
  refine callsIn_of_wp_marks Tryz.func134 rfl trivial ?_ rfl
  simp only [Tryz.ntmps134, List.size_toArray, List.length_cons, List.length_nil, Nat.reduceAdd, Nat.reduceSub, Array.replicate_succ, Array.replicate_zero, List.push_toArray, List.append_toArray, List.nil_append, List.cons_append]
  gi_wp2
  refine wpIn_wide.2 (wp_scope_straight ((wpIn_wide (n := 6)).1 ?_))
  gi_wp2
  refine wpIn_label ?_
  gi_wp2
  rw [show w.heap.size + 1 + 1 = w.heap.size + 2 from rfl]
  clear hmk c0 c1 hs2
  generalize (mkB ((w.alloc (.cells #[.slice (some ⟨b, o, none⟩) ns.length cap, .slice (some ⟨bk, 0, none⟩) ns.length ns.length, .slice (some ⟨bn, 0, none⟩) ns.length ns.length, .slice (some ⟨bl, 0, none⟩) ns.length ns.length] 92)).alloc (.cells #[.slice (some ⟨f, 0, none⟩) ns.length ns.length] 90)) ns.length).alloc (.cells #[.slice (some ⟨w.heap.size + 2, 0, none⟩) ns.length ns.length] 90) = W0 at *
  refine wpIn_loop (fun a' w' => ∃ (j : Nat) (ds : List Deferred) (u10 u11 u20 u21 u22 u23 u24 u25 u26 u27 u28 u29 u30 u31 u32 u33 u34 u35 u36 u37 u38 u39 u40 : Value), (j ≤ ns.length ∧ Hid (GW w w' (.slice (some ⟨b, o, none⟩) ns.length cap) (.slice (some ⟨bk, 0, none⟩) ns.length ns.length) (.slice (some ⟨bn, 0, none⟩) ns.length ns.length) (.slice (some ⟨bl, 0, none⟩) ns.length ns.length) (.slice (some ⟨f, 0, none⟩) ns.length ns.length) ns.length (mix (fun _ => false) G j ns.length)) ∧ Hid (Marks w.heap.size w' ds)) ∧ a' = { tmps := #[.agg #[.slice (some ⟨b, o, none⟩) ns.length cap, .slice (some ⟨bk, 0, none⟩) ns.length ns.length, .slice (some ⟨bn, 0, none⟩) ns.length ns.length, .slice (some ⟨bl, 0, none⟩) ns.length ns.length], .slice (some ⟨f, 0, none⟩) ns.length ns.length, .int .i64 k, .slice (some ⟨t, 0, none⟩) ns.length ns.length, .pointer (some ⟨w.heap.size, 0, none⟩), .pointer (some ⟨w.heap.size + 1, 0, none⟩), undef, undef, .slice none 0 0, .pointer (some ⟨w.heap.size + 3, 0, none⟩), u10, u11, .pointer (some ⟨w.heap.size, 0, none⟩), .slice (some ⟨b, o, none⟩) ns.length cap, .int .i64 ns.length, .slice (some ⟨w.heap.size + 2, 0, none⟩) ns.length ns.length, .pointer (some ⟨w.heap.size, 0, none⟩), .slice (some ⟨b, o, none⟩) ns.length cap, .int .i64 ns.length, .int .i64 j, u20, u21, u22, u23, u24, u25, u26, u27, u28, u29, u30, u31, u32, u33, u34, u35, u36, u37, u38, u39, u40], defers := ds }) (fun a' _ => ns.length - (intOf (a'.tmps.getD 19 undef)).toNat) ?_ ?_
  · exact ⟨0, [], _, _, _, _, _, _, _, _, _, _, _, _, _, _, _, _, _, _, _, _, _, _, _, ⟨Nat.zero_le _, HW0, Marks.nil _ _⟩, rfl⟩
  · rintro a' wr ⟨j, ds, u10, u11, u20, u21, u22, u23, u24, u25, u26, u27, u28, u29, u30, u31, u32, u33, u34, u35, u36, u37, u38, u39, u40, ⟨hj, HW, HM⟩, rfl⟩
    dsimp only
    clear HW0
    by_cases hlt : j < ns.length
    · have hba := on_alloc wr (.cells #[.int .i64 j] 3)
      have z1 : (wr.alloc (.cells #[.int .i64 j] 3)).cell? ⟨t, j, none⟩ = some (.bool (T j)) := by
        have h1 := HTT.out.cell (i := j) (by simpa using hlt)
        have h2 := cell_on (below_trans HW.out.bel hba) h1
        simpa using h2
      have z2 := (Boxed.new wr 3 (.int .i64 j)).cell
      have HW1 : Hid (GW w (wr.alloc (.cells #[.int .i64 j] 3)) (.slice (some ⟨b, o, none⟩) ns.length cap) (.slice (some ⟨bk, 0, none⟩) ns.length ns.length) (.slice (some ⟨bn, 0, none⟩) ns.length ns.length) (.slice (some ⟨bl, 0, none⟩) ns.length ns.length) (.slice (some ⟨f, 0, none⟩) ns.length ns.length) ns.length (mix (fun _ => false) G j ns.length)) := HW.out.on hba
      have HM1 : Hid (Marks w.heap.size (wr.alloc (.cells #[.int .i64 j] 3)) ds) := HM.out.keeps (KeepsOthers.alloc _ _)
      have i1 : (0 : Int) ≤ (j : Int) := by omega
      have i2 : (j : Int) < (ns.length : Int) := by omega
      have hww : w.heap.size + 4 ≤ wr.heap.size := HW.out.brow.lt
      have HNB : Hid (Boxed (wr.alloc (.cells #[.int .i64 j] 3)) wr.heap.size 3 (.int .i64 j)) := Boxed.new wr 3 _
      have hs1 : (wr.alloc (.cells #[.int .i64 j] 3)).heap.size = wr.heap.size + 1 := by simp
      clear HW HM hba
      cases hTj : T j with
      | false =>
        rw [hTj] at z1
        have HN : Hid (GW w (wr.alloc (.cells #[.int .i64 j] 3)) (.slice (some ⟨b, o, none⟩) ns.length cap) (.slice (some ⟨bk, 0, none⟩) ns.length ns.length) (.slice (some ⟨bn, 0, none⟩) ns.length ns.length) (.slice (some ⟨bl, 0, none⟩) ns.length ns.length) (.slice (some ⟨f, 0, none⟩) ns.length ns.length) ns.length (mix (fun _ => false) G (j + 1) ns.length)) := by
          unfold Hid
          rw [← mix_no (by rw [HGE.out, hTj]; rfl)]
          exact HW1.out
        gi_wp2
        exact ⟨⟨j + 1, ds, _, _, _, _, _, _, _, _, _, _, _, _, _, _, _, _, _, _, _, _, _, _, _, ⟨hlt, HN, HM1⟩, rfl⟩, by simp [intOf]; omega⟩
      | true =>
        rw [hTj] at z1
        have HGJ : Hid (G j = (fromL ns k j).any F) := by
          unfold Hid
          rw [HGE.out, hTj]
          rfl
        obtain ⟨y0, y1, y2, y3⟩ := HW1.out.cells
        have HFC : Hid (Calls Tryz.prog 169 #[.agg #[.slice (some ⟨b, o, none⟩) ns.length cap, .slice (some ⟨bk, 0, none⟩) ns.length ns.length, .slice (some ⟨bn, 0, none⟩) ns.length ns.length, .slice (some ⟨bl, 0, none⟩) ns.length ns.length], .int .i64 k, .int .i64 j] (wr.alloc (.cells #[.int .i64 j] 3)) _) := from_call _ b o cap bk bn bl ns k j (HT.out.on HW1.out.bel) hlt HK.out
        gi_wp2_with fail
        refine ⟨trivial, (callsIn_wide.2 HFC.out).mono ?_⟩
        rintro e W2 ⟨gf, lb, rfl, eg, hgo, hb2⟩
        have HGO : Hid (Goes ns gf lb (KpS ns (wr.heap.size + 2) b o cap) (fromL ns k j) W2) := by
          rw [hs1] at hgo
          exact hgo
        have HW2 : Hid (GW w W2 (.slice (some ⟨b, o, none⟩) ns.length cap) (.slice (some ⟨bk, 0, none⟩) ns.length ns.length) (.slice (some ⟨bn, 0, none⟩) ns.length ns.length) (.slice (some ⟨bl, 0, none⟩) ns.length ns.length) (.slice (some ⟨f, 0, none⟩) ns.length ns.length) ns.length (mix (fun _ => false) G j ns.length)) := HW1.out.on hb2
        have HN2 : Hid (Boxed W2 wr.heap.size 3 (.int .i64 j)) := (hb2.block _ HNB.out.lt).trans HNB.out
        obtain ⟨Ds, hds, hnd, hDs⟩ := HM1.out
        have hDlt : ∀ D ∈ Ds, D < wr.heap.size + 1 := fun D hD => by have := (Array.getElem?_eq_some_iff.1 (hDs D hD).2).1; omega
        have hsz : wr.heap.size + 1 ≤ W2.heap.size := by have := hb2.size; omega
        have HMk : Hid (MkAt w.heap.size Ds W2) := fun D hD => ⟨(hDs D hD).1, (hb2.block D (by have := hDlt D hD; omega)).trans (hDs D hD).2⟩
        have HDL : Hid (∀ D ∈ Ds, D < wr.heap.size + 1) := hDlt
        have HND : Hid Ds.Nodup := hnd
        have HEG : Hid (∀ args w, (callFunc gf args).run Tryz.prog w = .ok (.enter gf args) w) := eg
        have hbw : b < w.heap.size := by
          obtain ⟨vc, va, m0, -⟩ := HT.out.rd.at_ j hlt
          obtain ⟨ob, hob, -⟩ := cells_of_cell m0
          exact (Array.getElem?_eq_some_iff.1 hob).1
        subst hds
        clear hnd hDs hDlt y0 y1 y2 y3 z1 z2 hTj hb2 HM1 HW1 hgo eg HFC HNB hs1
        gi_wp2_with fail
        refine range_own (n := 6) (gf := gf) (lb := lb) rfl HEG.out HGO.out (fun r h => h.elim) (fun h1 h2 h => h2 (h1 h)) (fun W l ob o' _ hl ho h => Sees.put o' hl ho h) (fun _ => rfl)
          (fun pre W => (GW w W (.slice (some ⟨b, o, none⟩) ns.length cap) (.slice (some ⟨bk, 0, none⟩) ns.length ns.length) (.slice (some ⟨bn, 0, none⟩) ns.length ns.length) (.slice (some ⟨bl, 0, none⟩) ns.length ns.length) (.slice (some ⟨f, 0, none⟩) ns.length ns.length) ns.length (mix (fun _ => false) G j ns.length) ∧ Boxed W wr.heap.size 3 (.int .i64 j)) ∧ MkAt w.heap.size Ds W ∧ (pre.map Subtype.val).any F = false)
          (fun c pre W => (GW w W (.slice (some ⟨b, o, none⟩) ns.length cap) (.slice (some ⟨bk, 0, none⟩) ns.length ns.length) (.slice (some ⟨bn, 0, none⟩) ns.length ns.length) (.slice (some ⟨bl, 0, none⟩) ns.length ns.length) (.slice (some ⟨f, 0, none⟩) ns.length ns.length) ns.length ((mix (fun _ => false) G j ns.length).set j true) ∧ c = .exit 1) ∧ MkAt w.heap.size Ds W ∧ (pre.map Subtype.val).any F = true)
          (fun s A A' h ht => ⟨⟨h.1.1.turns (fun r h => h.elim) (by omega) ht, ht.cells h.1.2 rfl (fun h => h)⟩, h.2.1.turns (fun _ _ h => h) (fun D hD => by have := HDL.out D hD; omega) ht, h.2.2⟩)
          (fun c s A A' h ht => ⟨⟨h.1.1.turns (fun r h => h.elim) (by omega) ht, h.1.2⟩, h.2.1.turns (fun _ _ h => h) (fun D hD => by have := HDL.out D hD; omega) ht, h.2.2⟩)
          ⟨⟨HW2.out, HN2.out⟩, HMk.out, rfl⟩
          (fun x a' W => a' = { tmps := #[.agg #[.slice (some ⟨b, o, none⟩) ns.length cap, .slice (some ⟨bk, 0, none⟩) ns.length ns.length, .slice (some ⟨bn, 0, none⟩) ns.length ns.length, .slice (some ⟨bl, 0, none⟩) ns.length ns.length], .slice (some ⟨f, 0, none⟩) ns.length ns.length, .int .i64 k, .slice (some ⟨t, 0, none⟩) ns.length ns.length, .pointer (some ⟨w.heap.size, 0, none⟩), .pointer (some ⟨w.heap.size + 1, 0, none⟩), undef, undef, .slice none 0 0, .pointer (some ⟨w.heap.size + 3, 0, none⟩), .pointer (some ⟨wr.heap.size, 0, none⟩), .int .i64 x.1, .pointer (some ⟨w.heap.size, 0, none⟩), .slice (some ⟨b, o, none⟩) ns.length cap, .int .i64 ns.length, .slice (some ⟨w.heap.size + 2, 0, none⟩) ns.length ns.length, .pointer (some ⟨w.heap.size, 0, none⟩), .slice (some ⟨b, o, none⟩) ns.length cap, .int .i64 ns.length, .int .i64 j, .bool true, .int .i64 j, .slice (some ⟨t, 0, none⟩) ns.length ns.length, .int .i64 j, .pointer (some ⟨t, j, none⟩), .bool true, .bool false, .agg #[.slice (some ⟨b, o, none⟩) ns.length cap, .slice (some ⟨bk, 0, none⟩) ns.length ns.length, .slice (some ⟨bn, 0, none⟩) ns.length ns.length, .slice (some ⟨bl, 0, none⟩) ns.length ns.length], .int .i64 k, .int .i64 j, .func (.func gf) #[] lb, .int .i64 x.1, u32, u33, u34, u35, u36, u37, u38, u39, u40], defers := [] }) (fun x a' W l ob o' _ _ _ h => h) ?assign ?body ?done ?stop
        case assign =>
          rintro lo pre x W K hI hK
          dsimp only
          gi_wp2
          exact hK _ _ (KeepsFrom.refl _ _) (fun h => h) hI rfl
        case body =>
          rintro lo pre x a' W hl ⟨⟨hG, hN⟩, hM, hp⟩ rfl
          obtain ⟨xn, hxn⟩ := x
          dsimp only at *
          have c0 := hG.fbx.cell
          have c1 : W.cell? ⟨f, xn, none⟩ = some (.bool (F xn)) := by
            have h1 := HF.out.cell (i := xn) (by simpa using hxn)
            have h2 := cell_on hG.bel h1
            simpa using h2
          have j1 : (0 : Int) ≤ (xn : Int) := by omega
          have j2 : (xn : Int) < (ns.length : Int) := by omega
          cases hFx : F xn with
          | false =>
            rw [hFx] at c1
            have HZ : Hid (((GW w W (.slice (some ⟨b, o, none⟩) ns.length cap) (.slice (some ⟨bk, 0, none⟩) ns.length ns.length) (.slice (some ⟨bn, 0, none⟩) ns.length ns.length) (.slice (some ⟨bl, 0, none⟩) ns.length ns.length) (.slice (some ⟨f, 0, none⟩) ns.length ns.length) ns.length (mix (fun _ => false) G j ns.length) ∧ Boxed W wr.heap.size 3 (.int .i64 j)) ∧ MkAt w.heap.size Ds W ∧ ((pre ++ [(⟨xn, hxn⟩ : NU ns)]).map Subtype.val).any F = false)) := ⟨⟨hG, hN⟩, hM, by rw [List.map_append, List.any_append, hp]; simp [hFx]⟩
            clear hG hN hM hp
            gi_wp2
            exact ⟨KeepsFrom.refl _ _, fun h => h, HZ.out⟩
          | true =>
            rw [hFx] at c1
            have c2 := hG.brow.cell
            have c3 := hN.cell
            have c4 := hG.row.cell (i := j) (by rw [mix_len]; exact hlt)
            have c5 := hG.row.frozen j
            have HZ : Hid (GW w (W.setCell ⟨w.heap.size + 2, j, none⟩ (.bool true)) (.slice (some ⟨b, o, none⟩) ns.length cap) (.slice (some ⟨bk, 0, none⟩) ns.length ns.length) (.slice (some ⟨bn, 0, none⟩) ns.length ns.length) (.slice (some ⟨bl, 0, none⟩) ns.length ns.length) (.slice (some ⟨f, 0, none⟩) ns.length ns.length) ns.length ((mix (fun _ => false) G j ns.length).set j true) ∧ MkAt w.heap.size Ds (W.setCell ⟨w.heap.size + 2, j, none⟩ (.bool true)) ∧ ((pre ++ [(⟨xn, hxn⟩ : NU ns)]).map Subtype.val).any F = true) := ⟨hG.set j true, hM.keeps (KeepsOthers.setCell _ _ _), by rw [List.map_append, List.any_append]; simp [hFx]⟩
            clear hG hN hM hp
            gi_wp2
            exact ⟨(KeepsOthers.setCell _ _ _).from _, ⟨HZ.out.1, rfl⟩, HZ.out.2⟩
        case done =>
          rintro D ys W hD hys ⟨⟨hG, hN⟩, hM, hp⟩ hK
          have HN : Hid (GW w W (.slice (some ⟨b, o, none⟩) ns.length cap) (.slice (some ⟨bk, 0, none⟩) ns.length ns.length) (.slice (some ⟨bn, 0, none⟩) ns.length ns.length) (.slice (some ⟨bl, 0, none⟩) ns.length ns.length) (.slice (some ⟨f, 0, none⟩) ns.length ns.length) ns.length (mix (fun _ => false) G (j + 1) ns.length)) := by
            unfold Hid
            rw [← mix_no (by rw [HGJ.out, ← hys, hp])]
            exact hG
          clear hp hys hG hN
          gi_wp2
          refine ⟨⟨j + 1, _, _, _, _, _, _, _, _, _, _, _, _, _, _, _, _, _, _, _, _, _, _, _, _, ⟨hlt, HN, ⟨D :: Ds, rfl, List.nodup_cons.2 ⟨fun hm => by have := HDL.out D hm; omega, HND.out⟩, fun E hE => ?_⟩⟩, rfl⟩, by simp [intOf]; omega⟩
          rcases List.mem_cons.1 hE with rfl | hE
          · exact ⟨by omega, hK⟩
          · exact hM E hE
        case stop =>
          rintro D c pre W hD hpre ⟨⟨hG, rfl⟩, hM, hp⟩ hK
          have HN : Hid (GW w W (.slice (some ⟨b, o, none⟩) ns.length cap) (.slice (some ⟨bk, 0, none⟩) ns.length ns.length) (.slice (some ⟨bn, 0, none⟩) ns.length ns.length) (.slice (some ⟨bl, 0, none⟩) ns.length ns.length) (.slice (some ⟨f, 0, none⟩) ns.length ns.length) ns.length (mix (fun _ => false) G (j + 1) ns.length)) := by
            have h1 : G j = true := by
              obtain ⟨r, hr⟩ := hpre
              rw [HGJ.out, ← hr, List.any_append, hp]
              rfl
            unfold Hid
            rw [← mix_set _ _ hlt, h1]
            exact hG
          clear hG hp hpre
          gi_wp2
          refine ⟨⟨j + 1, _, _, _, _, _, _, _, _, _, _, _, _, _, _, _, _, _, _, _, _, _, _, _, _, ⟨hlt, HN, ⟨D :: Ds, rfl, List.nodup_cons.2 ⟨fun hm => by have := HDL.out D hm; omega, HND.out⟩, fun E hE => ?_⟩⟩, rfl⟩, by simp [intOf]; omega⟩
          rcases List.mem_cons.1 hE with rfl | hE
          · exact ⟨by omega, hK⟩
          · exact hM E hE
    · have hkl : j = ns.length := by omega
      have c0 := HW.out.brow.cell
      have HE : Hid (BRow wr (w.heap.size + 2) ((List.range ns.length).map G)) := by
        have := HW.out.row
        rw [hkl, mix_all] at this
        exact this
      clear hkl
      gi_wp2
      obtain ⟨Ds, rfl, hnd, hDs⟩ := HM.out
      refine leaves_marks2 (Nat.le_refl _) Ds _ hnd hDs fun W' hb hc => ⟨.slice (some ⟨w.heap.size + 2, 0, none⟩) ns.length ns.length, ?_, w.heap.size + 2, rfl, by omega, ?_, HW.out.bel.trans hb⟩
      · simp [results, Tryz.results134, go_sem]
      · exact hc _ _ HE.out rfl
end Go.Proofs.YtephhllfodlfbaaGreatDoor
