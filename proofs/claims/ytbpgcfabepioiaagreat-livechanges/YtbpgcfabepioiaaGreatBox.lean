/-
  Part: the elements under one, copied.
-/
import Derived.Test.YtbpgcfabepioiaaGreatDocA
import Derived.Deep.DeepCutAuto
namespace Go.Proofs.YtbpgcfabepioiaaGreat
open Go.RowKit

theorem three_on {W w' : World} {p0 p1 p2 : Addr} {v0 v1 v2 : Value} (h : W.cell? p0 = some v0 ∧ W.cell? p1 = some v1 ∧ W.cell? p2 = some v2) (hb : Below W.heap.size W w') : w'.cell? p0 = some v0 ∧ w'.cell? p1 = some v1 ∧ w'.cell? p2 = some v2 :=
  ⟨cell_on hb h.1, cell_on hb h.2.1, cell_on hb h.2.2⟩

set_option maxRecDepth 100000 in
set_option maxHeartbeats 4000000 in
theorem part_any (v : Value) (ns : List Pl.Nd) (n : Int) (w : World) (hd : DocAt w v ns) :
    Calls Tryz.prog 17 #[.agg #[v], .int .i64 n] w fun e w' => ∃ v', e = .returned (.tuple #[.agg #[v'], .int .i64 (checkAtOf ns n)]) ∧ DocAt w' v' (partOf ns n) ∧ Below w.heap.size w w' := by
  obtain ⟨hv, hcap, hf⟩ := hd
  obtain ⟨a, cap, rfl, hc⟩ := id hv
  have HV : Hid _ := hv
  clear hv
  obtain ⟨_, _, _, e0, hc1, hc2⟩ := hcap
  injection e0 with e1 e2 e3
  subst e1 e2 e3
  cases hz : (checkAtOf ns n != 0) with
  | true =>
    have HP : Hid (partOf ns n = []) := by unfold Hid partOf; rw [if_neg (by simpa using hz)]
    clear hc
    go_enter Tryz.func17, Tryz.ntmps17
    go_wp2_with fail
    refine (checkAt_any _ ns _ _ hf (NdsAt.on HV.out (((Below.refl _ _).alloc (Nat.le_refl _) _).alloc (by simp) _ |>.alloc (by simp; omega) _))).mono ?_
    rintro e w1 ⟨rfl, h1⟩
    have hB : Below w.heap.size w w1 := below_trans (((Below.refl _ _).alloc (Nat.le_refl _) _).alloc (by simp) _ |>.alloc (by simp; omega) _) h1
    have c0 := cell_on (p := ⟨w.heap.size + 1 + 1, 0, none⟩) (v := .slice none 0 0) h1 (by simp [go_sem])
    have f0 : w1.frozen? ⟨w.heap.size + 1 + 1, 0, none⟩ = false := by rw [h1.frozen (by simp)]; simp [go_sem]
    generalize hE : checkAtOf ns n = E at *
    clear h1
    go_wp2
    have q := World.cell?_setCell_same w1 ⟨w.heap.size + 1 + 1, 0, none⟩ (.slice none 0 0) c0
    exact bodyPost_ret (v := .tuple #[.agg #[.slice none 0 0], .int .i64 E]) (by simp [results, Tryz.results17, go_sem, q]) rfl
      ⟨_, by rw [hE], by rw [HP.out]; exact DocAt.nil _, hB.setCell (p := ⟨w.heap.size + 1 + 1, 0, none⟩) (by simp; omega) _⟩
  | false =>
    have hz0 : checkAtOf ns n = 0 := by simpa using hz
    obtain ⟨hk0, k, rfl, hk⟩ := checkAt_zero hz0
    obtain ⟨hl1, hl64, _⟩ := check_zero hk0
    have hsh := check_short hk0
    rcases hc with hc | ⟨b, o, rfl, hc⟩
    · subst hc; simp at hl1
    have hbe := behind_le hk
    have HP : Hid (partOf ns k = ((ns.drop k).take (Pl.behind ns k - k)).map (Pl.mvd (Pl.mvPart k))) := by unfold Hid partOf; rw [if_pos hz0]; rfl
    have HC : Hid _ := hc
    have HS : Hid _ := hsh
    clear hc hz hk0 hsh
    have i1 : (0 : Int) ≤ (k : Int) := by omega
    have i2 : (k : Int) ≤ (Pl.behind ns k : Int) := by omega
    have i3 : (Pl.behind ns k : Int) ≤ (cap : Int) := by omega
    have i4 : ¬ cap = k := by omega
    go_enter Tryz.func17, Tryz.ntmps17
    go_wp2_with fail
    have hB0 := (((Below.refl w.heap.size w).alloc (Nat.le_refl _) (.cells #[.slice (some ⟨b, o, none⟩) ns.length cap] 24)).alloc (by simp) (.cells #[.int .i64 k] 3)).alloc (by simp; omega) (.cells #[.slice none 0 0] 24)
    refine (checkAt_any _ ns _ _ hf (NdsAt.on HV.out hB0)).mono ?_
    rintro e w1 ⟨rfl, h1⟩
    rw [hz0]
    have hB : Below w.heap.size w w1 := below_trans hB0 h1
    have c0 := cell_on (p := ⟨w.heap.size, 0, none⟩) (v := .slice (some ⟨b, o, none⟩) ns.length cap) h1 (by simp [go_sem])
    have c1 := cell_on (p := ⟨w.heap.size + 1, 0, none⟩) (v := .int .i64 k) h1 (by simp [go_sem])
    have c2 := cell_on (p := ⟨w.heap.size + 1 + 1, 0, none⟩) (v := .slice none 0 0) h1 (by simp [go_sem])
    have f2 : w1.frozen? ⟨w.heap.size + 1 + 1, 0, none⟩ = false := by rw [h1.frozen (by simp)]; simp [go_sem]
    have hsz : w.heap.size + 3 ≤ w1.heap.size := by have := h1.size; simp at this; omega
    clear h1 hB0
    go_wp2
    have S0 : w1.drew.cell? ⟨w.heap.size, 0, none⟩ = some (.slice (some ⟨b, o, none⟩) ns.length cap) ∧ w1.drew.cell? ⟨w.heap.size + 1, 0, none⟩ = some (.int .i64 k) ∧ w1.drew.cell? ⟨w.heap.size + 1 + 1, 0, none⟩ = some (.slice none 0 0) := ⟨c0, c1, c2⟩
    have HC1 : ∀ i (h : i < ns.length), NdAt w1.drew b (o + i * 5) ns[i] := fun i hi => (HC.out i hi).on hB.drew
    have hW : ∀ W, Below w1.drew.heap.size w1.drew W → NdsAt W (.slice (some ⟨b, o + k * 5, none⟩) (Pl.behind ns k - k) (cap - k)) ((ns.drop k).take (Pl.behind ns k - k)) := fun W hW => NdsAt.part (fun i hi => (HC1 i hi).on hW) k _ _ (by omega)
    have hF : ∀ W (u : Int), Below w1.drew.heap.size w1.drew W → Calls Tryz.prog 45 (#[.int .i64 u] ++ #[.pointer (some ⟨w.heap.size + 1, 0, none⟩)]) W fun e w' => e = .returned (.int .i64 (Pl.mvPart k u)) ∧ w' = W := fun W u hb => part1_any _ _ _ _ (cell_on hb S0.2.1)
    have HW : Hid _ := hW
    have HF : Hid _ := hF
    have HC2 : Hid _ := HC1
    clear c0 c1 c2 hW hF HC1
    go_region_held3 (fun w' => w'.cell? ⟨w.heap.size, 0, none⟩ = some (.slice (some ⟨b, o, none⟩) ns.length cap) ∧ w'.cell? ⟨w.heap.size + 1, 0, none⟩ = some (.int .i64 k) ∧ w'.cell? ⟨w.heap.size + 1 + 1, 0, none⟩ = some (.slice none 0 0))
      (first | assumption | exact three_on (by assumption) (by assumption))
      (first | (go_at_call 44; refine (behind_some b o cap ns k _ hk hl64 HC2.out).mono ?_; rintro e w' ⟨rfl, rfl⟩) | (go_at_call 43; refine (add_any 45 _ _ w1.drew.heap.size _ _ [] _ _ (Nat.le_refl _) (Row.nil _ _) (by simp; omega) enter36 (fun x hx => HS.out x (mem_stretch hx)) (HW.out _ (Below.refl _ _)) HW.out HF.out).mono ?_; rintro e w2 ⟨v2, rfl, hrow, hb2⟩))
    all_goals
      have c2 : w2.cell? ⟨w.heap.size + 1 + 1, 0, none⟩ = some (.slice none 0 0) := cell_on hb2 S0.2.2
      have f3 : w2.frozen? ⟨w.heap.size + 1 + 1, 0, none⟩ = false := by rw [hb2.frozen (by show _ < w1.heap.size; simp; omega)]; exact f2
      have hB2 : Below w.heap.size w w2 := below_trans hB.drew hb2
      obtain ⟨a2, l2, c3, rfl, _, _⟩ := Row.cap hrow
      have HR : Hid _ := hrow
      clear hb2 S0 f2 hB hrow
      go_wp2
      have q := World.cell?_setCell_same w2 ⟨w.heap.size + 1 + 1, 0, none⟩ (.slice a2 l2 c3) c2
      refine bodyPost_ret (v := .tuple #[.agg #[.slice a2 l2 c3], .int .i64 0]) (by simp [results, Tryz.results17, go_sem, q]) rfl
        ⟨_, by rw [hz0], ?_, hB2.setCell (p := ⟨w.heap.size + 1 + 1, 0, none⟩) (by simp; omega) _⟩
      rw [HP.out]
      have hr := Row.set HR.out (M := w.heap.size + 1 + 1) (j := 0) (by show _ < w1.heap.size; omega) c2 (by simp) (.slice a2 l2 c3)
      rw [List.nil_append] at hr
      exact hr.doc (by simp; omega) (mvd_short (fun x hx => HS.out x (mem_stretch hx)))
end Go.Proofs.YtbpgcfabepioiaaGreat
/-
  Remove: what is under an element left out.
-/
namespace Go.Proofs.YtbpgcfabepioiaaGreat
open Go.RowKit

/-- what Remove tells -/
def remErr (ns : List Pl.Nd) (n : Int) : Int := if checkAtOf ns n = 0 then (if n = 0 then 3 else 0) else checkAtOf ns n
def remOf (ns : List Pl.Nd) (n : Int) : List Pl.Nd :=
  if remErr ns n = 0 then (ns.take n.toNat).map (Pl.mvd id) ++ (ns.drop (Pl.behind ns n.toNat)).map (Pl.mvd (Pl.mvRem n ((Pl.behind ns n.toNat : Int) - n))) else []
theorem NdsAt.head {w : World} {b o : Nat} {ns : List Pl.Nd} (h : ∀ i (h : i < ns.length), NdAt w b (o + i * 5) ns[i]) (m cap' : Nat) (hm : m ≤ ns.length) : NdsAt w (.slice (some ⟨b, o, none⟩) m cap') (ns.take m) := by
  have := NdsAt.part h 0 m cap' (by omega)
  simpa using this
theorem NdsAt.void {w : World} {ns : List Pl.Nd} (a : Option Addr) (lo c : Nat) (h : lo = ns.length) : NdsAt w (.slice a (ns.length - lo) c) (ns.drop lo) := by
  subst h
  exact ⟨a, c, by rw [List.drop_length, Nat.sub_self]; rfl, Or.inl (by simp)⟩
theorem NdsAt.tail {w : World} {b o : Nat} {ns : List Pl.Nd} (h : ∀ i (h : i < ns.length), NdAt w b (o + i * 5) ns[i]) (lo cap' : Nat) (hm : lo ≤ ns.length) : NdsAt w (.slice (some ⟨b, o + lo * 5, none⟩) (ns.length - lo) cap') (ns.drop lo) := by
  have := NdsAt.part h lo (ns.length - lo) cap' (by omega)
  rwa [List.take_of_length_le (by simp)] at this

set_option maxRecDepth 100000 in
set_option maxHeartbeats 4000000 in
theorem remove_any (v : Value) (ns : List Pl.Nd) (n : Int) (w : World) (hd : DocAt w v ns) :
    Calls Tryz.prog 22 #[.agg #[v], .int .i64 n] w fun e w' => ∃ v', e = .returned (.tuple #[.agg #[v'], .int .i64 (remErr ns n)]) ∧ DocAt w' v' (remOf ns n) ∧ Below w.heap.size w w' := by
  obtain ⟨hv, hcap, hf⟩ := hd
  obtain ⟨a, cap, rfl, hc⟩ := id hv
  have HV : Hid _ := hv
  clear hv
  obtain ⟨_, _, _, e0, hc1, hc2⟩ := hcap
  injection e0 with e1 e2 e3
  subst e1 e2 e3
  cases hz : (checkAtOf ns n != 0) with
  | true =>
    have hz1 : ¬ checkAtOf ns n = 0 := by simpa using hz
    have HE : Hid (remErr ns n = checkAtOf ns n) := by unfold Hid remErr; rw [if_neg hz1]
    have HP : Hid (remOf ns n = []) := by unfold Hid remOf; rw [if_neg (by rw [HE.out]; exact hz1)]
    clear hc hz1
    go_enter Tryz.func22, Tryz.ntmps22
    go_wp2_with fail
    refine (checkAt_any _ ns _ _ hf (NdsAt.on HV.out (((Below.refl _ _).alloc (Nat.le_refl _) _).alloc (by simp) _ |>.alloc (by simp; omega) _))).mono ?_
    rintro e w1 ⟨rfl, h1⟩
    have hB : Below w.heap.size w w1 := below_trans (((Below.refl _ _).alloc (Nat.le_refl _) _).alloc (by simp) _ |>.alloc (by simp; omega) _) h1
    have c0 := cell_on (p := ⟨w.heap.size + 1 + 1, 0, none⟩) (v := .slice none 0 0) h1 (by simp [go_sem])
    have f0 : w1.frozen? ⟨w.heap.size + 1 + 1, 0, none⟩ = false := by rw [h1.frozen (by simp)]; simp [go_sem]
    generalize hE : checkAtOf ns n = E at *
    clear h1
    go_wp2
    have q := World.cell?_setCell_same w1 ⟨w.heap.size + 1 + 1, 0, none⟩ (.slice none 0 0) c0
    exact bodyPost_ret (v := .tuple #[.agg #[.slice none 0 0], .int .i64 E]) (by simp [results, Tryz.results22, go_sem, q]) rfl
      ⟨_, by rw [HE.out], by rw [HP.out]; exact DocAt.nil _, hB.setCell (p := ⟨w.heap.size + 1 + 1, 0, none⟩) (by simp; omega) _⟩
  | false =>
    have hz0 : checkAtOf ns n = 0 := by simpa using hz
    obtain ⟨hk0, k, rfl, hk⟩ := checkAt_zero hz0
    obtain ⟨hl1, hl64, _⟩ := check_zero hk0
    have hsh := check_short hk0
    rcases hc with hc | ⟨b, o, rfl, hc⟩
    · subst hc; simp at hl1
    have hbe := behind_le hk
    have HC : Hid _ := hc
    have HS : Hid _ := hsh
    clear hc hz hk0 hsh
    by_cases hk1 : (k : Int) = 0
    · have HE : Hid (remErr ns k = 3) := by unfold Hid remErr; rw [if_pos hz0, if_pos hk1]
      have HP : Hid (remOf ns k = []) := by unfold Hid remOf; rw [if_neg (by rw [HE.out]; omega)]
      go_enter Tryz.func22, Tryz.ntmps22
      go_wp2_with fail
      refine (checkAt_any _ ns _ _ hf (NdsAt.on HV.out (((Below.refl _ _).alloc (Nat.le_refl _) _).alloc (by simp) _ |>.alloc (by simp; omega) _))).mono ?_
      rintro e w1 ⟨rfl, h1⟩
      rw [show checkAtOf ns 0 = 0 by rw [hk1] at hz0; exact hz0]
      have hB : Below w.heap.size w w1 := below_trans (((Below.refl _ _).alloc (Nat.le_refl _) _).alloc (by simp) _ |>.alloc (by simp; omega) _) h1
      have c1 := cell_on (p := ⟨w.heap.size + 1, 0, none⟩) (v := .int .i64 0) h1 (by simp [go_sem])
      have c0 := cell_on (p := ⟨w.heap.size + 1 + 1, 0, none⟩) (v := .slice none 0 0) h1 (by simp [go_sem])
      have f0 : w1.frozen? ⟨w.heap.size + 1 + 1, 0, none⟩ = false := by rw [h1.frozen (by simp)]; simp [go_sem]
      clear h1
      go_wp2
      have q := World.cell?_setCell_same w1 ⟨w.heap.size + 1 + 1, 0, none⟩ (.slice none 0 0) c0
      exact bodyPost_ret (v := .tuple #[.agg #[.slice none 0 0], .int .i64 3]) (by simp [results, Tryz.results22, go_sem, q]) rfl
        ⟨_, by rw [HE.out], by rw [HP.out]; exact DocAt.nil _, hB.setCell (p := ⟨w.heap.size + 1 + 1, 0, none⟩) (by simp; omega) _⟩
    · have HE : Hid (remErr ns k = 0) := by unfold Hid remErr; rw [if_pos hz0, if_neg hk1]
      have HP : Hid (remOf ns k = (ns.take k).map (Pl.mvd id) ++ (ns.drop (Pl.behind ns k)).map (Pl.mvd (Pl.mvRem k ((Pl.behind ns k : Int) - k)))) := by unfold Hid remOf; rw [if_pos HE.out]; rfl
      have i1 : (0 : Int) ≤ (k : Int) := by omega
      have i3 : (Pl.behind ns k : Int) ≤ (ns.length : Int) := by omega
      have i5 : (ns.length : Int) ≤ (cap : Int) := by omega
      have i6 : (0 : Int) ≤ (Pl.behind ns k : Int) := by omega
      have i7 : (k : Int) ≤ (cap : Int) := by omega
      go_enter Tryz.func22, Tryz.ntmps22
      go_wp2_with fail
      have hB0 := (((Below.refl w.heap.size w).alloc (Nat.le_refl _) (.cells #[.slice (some ⟨b, o, none⟩) ns.length cap] 24)).alloc (by simp) (.cells #[.int .i64 k] 3)).alloc (by simp; omega) (.cells #[.slice none 0 0] 24)
      refine (checkAt_any _ ns _ _ hf (NdsAt.on HV.out hB0)).mono ?_
      rintro e w1 ⟨rfl, h1⟩
      rw [hz0]
      have hB : Below w.heap.size w w1 := below_trans hB0 h1
      have c0 := cell_on (p := ⟨w.heap.size, 0, none⟩) (v := .slice (some ⟨b, o, none⟩) ns.length cap) h1 (by simp [go_sem])
      have c1 := cell_on (p := ⟨w.heap.size + 1, 0, none⟩) (v := .int .i64 k) h1 (by simp [go_sem])
      have c2 := cell_on (p := ⟨w.heap.size + 1 + 1, 0, none⟩) (v := .slice none 0 0) h1 (by simp [go_sem])
      have f2 : w1.frozen? ⟨w.heap.size + 1 + 1, 0, none⟩ = false := by rw [h1.frozen (by simp)]; simp [go_sem]
      have hsz : w.heap.size + 3 ≤ w1.heap.size := by have := h1.size; simp at this; omega
      clear h1 hB0
      go_wp2_with fail
      refine (behind_some b o cap ns k _ hk hl64 (fun i hi => (HC.out i hi).on hB)).mono ?_
      rintro e w9 ⟨rfl, hw⟩
      rw [hw]
      clear hw w9
      have d0 := cell_on (on_alloc w1 (.cells #[.int .i64 (Pl.behind ns k)] 3)) c0
      have d1 := cell_on (on_alloc w1 (.cells #[.int .i64 (Pl.behind ns k)] 3)) c1
      have d2 := cell_on (on_alloc w1 (.cells #[.int .i64 (Pl.behind ns k)] 3)) c2
      have d3 : (w1.alloc (.cells #[.int .i64 (Pl.behind ns k)] 3)).cell? ⟨w1.heap.size, 0, none⟩ = some (.int .i64 (Pl.behind ns k)) := by simp [go_sem]
      have f3 : (w1.alloc (.cells #[.int .i64 (Pl.behind ns k)] 3)).frozen? ⟨w.heap.size + 1 + 1, 0, none⟩ = false := by rw [(on_alloc w1 _).frozen (by simp; omega)]; exact f2
      have hB2 := below_trans hB (on_alloc w1 (.cells #[.int .i64 (Pl.behind ns k)] 3))
      have hsz2 : (w1.alloc (.cells #[.int .i64 (Pl.behind ns k)] 3)).heap.size = w1.heap.size + 1 := by simp
      go_wp2_with fail
      generalize w1.alloc (.cells #[.int .i64 (Pl.behind ns k)] 3) = w2 at *
      clear c0 c1 c2 f2 hB
      have HC2 : Hid (∀ W, Below w2.heap.size w2 W → ∀ i (h : i < ns.length), NdAt W b (o + i * 5) ns[i]) := fun W hW i hi => ((HC.out i hi).on hB2).on hW
      refine (add_any 51 #[] id w2.heap.size _ _ [] (ns.take k) w2 (Nat.le_refl _) (Row.nil _ _) (by simp; omega) enter52 (fun x hx => HS.out x (List.mem_of_mem_take hx)) (NdsAt.head (HC2.out _ (Below.refl _ _)) k cap (by omega)) (fun W hW => NdsAt.head (HC2.out _ hW) k cap (by omega)) (fun W u _ => stay_any u W)).mono ?_
      rintro e w3 ⟨v3, rfl, hrow, hb3⟩
      rw [List.nil_append] at hrow
      replace d0 := cell_on hb3 d0
      replace d1 := cell_on hb3 d1
      replace d2 := cell_on hb3 d2
      replace d3 := cell_on hb3 d3
      replace f3 : w3.frozen? ⟨w.heap.size + 1 + 1, 0, none⟩ = false := by rw [hb3.frozen (by simp; omega)]; exact f3
      obtain ⟨a3, l3, c3, rfl, _, _⟩ := Row.cap hrow
      have HR : Hid _ := hrow
      have HB3 : Hid _ := hb3
      have HB2 : Hid _ := hB2
      clear hrow hb3 hB2
      go_wp2_with fail
      all_goals
        refine (add_any 52 #[.pointer (some ⟨w.heap.size + 1, 0, none⟩), .pointer (some ⟨w1.heap.size, 0, none⟩)] (Pl.mvRem k ((Pl.behind ns k : Int) - k)) w2.heap.size _ _ _ (ns.drop (Pl.behind ns k)) w3 HB3.out.size HR.out ?_ enter53 (fun x hx => HS.out x (List.mem_of_mem_drop hx)) ?_ ?_ ?_).mono ?_
        · simp; omega
        · first | exact NdsAt.tail (HC2.out _ HB3.out) (Pl.behind ns k) _ (by omega) | exact NdsAt.void _ _ _ (by omega)
        · intro W hW
          first | exact NdsAt.tail (HC2.out _ (HB3.out.trans hW)) (Pl.behind ns k) _ (by omega) | exact NdsAt.void _ _ _ (by omega)
        · intro W u hW
          refine rem1_any _ _ _ _ _ _ ?_ ?_ ?_
          · rw [hW.cell (by simp; omega)]; exact d1
          · rw [hW.cell (by simp; omega)]; exact d3
          · rw [IntWalk.i64_left, IntWalk.wrap64_in _ ⟨by omega, by omega⟩]
        rintro e w4 ⟨v4, rfl, hrow, hb4⟩
        have e2 : w4.cell? ⟨w.heap.size + 1 + 1, 0, none⟩ = some (.slice none 0 0) := by rw [hb4.cell (by simp; omega)]; exact d2
        have f4 : w4.frozen? ⟨w.heap.size + 1 + 1, 0, none⟩ = false := by rw [hb4.frozen (by simp; omega)]; exact f3
        have hB4 : Below w.heap.size w w4 := below_trans HB2.out (HB3.out.trans hb4)
        obtain ⟨a4, l4, c4, rfl, _, _⟩ := Row.cap hrow
        have HR4 : Hid _ := hrow
        clear hb4 hrow d0 d1 d2 d3 f3
        go_wp2
        have q := World.cell?_setCell_same w4 ⟨w.heap.size + 1 + 1, 0, none⟩ (.slice a4 l4 c4) e2
        refine bodyPost_ret (v := .tuple #[.agg #[.slice a4 l4 c4], .int .i64 0]) (by simp [results, Tryz.results22, go_sem, q]) rfl
          ⟨_, by rw [HE.out], ?_, hB4.setCell (p := ⟨w.heap.size + 1 + 1, 0, none⟩) (by simp; omega) _⟩
        rw [HP.out]
        have hr := Row.set HR4.out (M := w.heap.size + 1 + 1) (j := 0) (by omega) e2 (by simp) (.slice a4 l4 c4)
        refine hr.doc (by simp; omega) ?_
        intro x hx
        rcases List.mem_append.1 hx with hx | hx
        · exact mvd_short (fun x hx => HS.out x (List.mem_of_mem_take hx)) x hx
        · exact mvd_short (fun x hx => HS.out x (List.mem_of_mem_drop hx)) x hx
end Go.Proofs.YtbpgcfabepioiaaGreat
/-
  Part and Remove once more: and what they answer lies in new memory.
-/
namespace Go.Proofs.YtbpgcfabepioiaaGreat
open Go.RowKit

/-- a slice in blocks from B on -/
def Far (B : Nat) (v : Value) : Prop := ∀ p l c, v = .slice (some p) l c → B ≤ p.block
theorem Far.nil (B : Nat) : Far B (.slice none 0 0) := fun p l c h => by cases h
theorem Far.mono {B B' : Nat} {v : Value} (h : Far B v) (hB : B' ≤ B) : Far B' v := fun p l c e => Nat.le_trans hB (h p l c e)
theorem Row.far {B : Nat} {w : World} {v : Value} {ns : List Pl.Nd} (h : Row B w v ns) : Far B v := by
  obtain ⟨xs, ho, _⟩ := h
  intro p l c e
  subst e
  exact (World.ownsRow.lt ho p.block rfl).1
/-- a cell elsewhere, that holds a slice, is written -/
theorem DocAt.set {W : World} {v u old : Value} {ns : List Pl.Nd} {B M : Nat} (h : DocAt W v ns) (hf : Far B v) (hM : M < B) (ho : W.cell? ⟨M, 0, none⟩ = some old) (hs : ∀ s, old ≠ .string s) : DocAt (W.setCell ⟨M, 0, none⟩ u) v ns := by
  refine ⟨?_, h.2⟩
  obtain ⟨a, c, rfl, hc⟩ := h.1
  refine ⟨a, c, rfl, ?_⟩
  rcases hc with hc | ⟨b, o, rfl, hc⟩
  · exact Or.inl hc
  · refine Or.inr ⟨b, o, rfl, fun i hi => ?_⟩
    have hb : M ≠ b := by have := hf ⟨b, o, none⟩ _ _ rfl; simp at this; omega
    obtain ⟨vc, va, n0, n1, n2, n3, n4, nc, na⟩ := hc i hi
    refine ⟨vc, va, cell_set n0 hb, cell_set n1 hb, cell_set n2 hb, cell_set n3 hb, cell_set n4 hb, ?_, ?_⟩
    · obtain ⟨a, c, rfl, h⟩ := nc
      refine ⟨a, c, rfl, ?_⟩
      rcases h with h | ⟨b, o, ha, hc⟩
      · exact Or.inl h
      · exact Or.inr ⟨b, o, ha, fun i hi => cell_set_str (hc i hi) ho hs⟩
    · obtain ⟨a, c, rfl, h⟩ := na
      refine ⟨a, c, rfl, ?_⟩
      rcases h with h | ⟨b, o, ha, hc⟩
      · exact Or.inl h
      · exact Or.inr ⟨b, o, ha, fun i hi => ⟨cell_set_str (hc i hi).1 ho hs, cell_set_str (hc i hi).2 ho hs⟩⟩

set_option maxRecDepth 100000 in
set_option maxHeartbeats 4000000 in
theorem part_far (v : Value) (ns : List Pl.Nd) (n : Int) (w : World) (hd : DocAt w v ns) :
    Calls Tryz.prog 17 #[.agg #[v], .int .i64 n] w fun e w' => ∃ v', e = .returned (.tuple #[.agg #[v'], .int .i64 (checkAtOf ns n)]) ∧ DocAt w' v' (partOf ns n) ∧ Below w.heap.size w w' ∧ Far w.heap.size v' := by
  obtain ⟨hv, hcap, hf⟩ := hd
  obtain ⟨a, cap, rfl, hc⟩ := id hv
  have HV : Hid _ := hv
  clear hv
  obtain ⟨_, _, _, e0, hc1, hc2⟩ := hcap
  injection e0 with e1 e2 e3
  subst e1 e2 e3
  cases hz : (checkAtOf ns n != 0) with
  | true =>
    have HP : Hid (partOf ns n = []) := by unfold Hid partOf; rw [if_neg (by simpa using hz)]
    clear hc
    go_enter Tryz.func17, Tryz.ntmps17
    go_wp2_with fail
    refine (checkAt_any _ ns _ _ hf (NdsAt.on HV.out (((Below.refl _ _).alloc (Nat.le_refl _) _).alloc (by simp) _ |>.alloc (by simp; omega) _))).mono ?_
    rintro e w1 ⟨rfl, h1⟩
    have hB : Below w.heap.size w w1 := below_trans (((Below.refl _ _).alloc (Nat.le_refl _) _).alloc (by simp) _ |>.alloc (by simp; omega) _) h1
    have c0 := cell_on (p := ⟨w.heap.size + 1 + 1, 0, none⟩) (v := .slice none 0 0) h1 (by simp [go_sem])
    have f0 : w1.frozen? ⟨w.heap.size + 1 + 1, 0, none⟩ = false := by rw [h1.frozen (by simp)]; simp [go_sem]
    generalize hE : checkAtOf ns n = E at *
    clear h1
    go_wp2
    have q := World.cell?_setCell_same w1 ⟨w.heap.size + 1 + 1, 0, none⟩ (.slice none 0 0) c0
    exact bodyPost_ret (v := .tuple #[.agg #[.slice none 0 0], .int .i64 E]) (by simp [results, Tryz.results17, go_sem, q]) rfl
      ⟨_, by rw [hE], by rw [HP.out]; exact DocAt.nil _, hB.setCell (p := ⟨w.heap.size + 1 + 1, 0, none⟩) (by simp; omega) _, Far.nil _⟩
  | false =>
    have hz0 : checkAtOf ns n = 0 := by simpa using hz
    obtain ⟨hk0, k, rfl, hk⟩ := checkAt_zero hz0
    obtain ⟨hl1, hl64, _⟩ := check_zero hk0
    have hsh := check_short hk0
    rcases hc with hc | ⟨b, o, rfl, hc⟩
    · subst hc; simp at hl1
    have hbe := behind_le hk
    have HP : Hid (partOf ns k = ((ns.drop k).take (Pl.behind ns k - k)).map (Pl.mvd (Pl.mvPart k))) := by unfold Hid partOf; rw [if_pos hz0]; rfl
    have HC : Hid _ := hc
    have HS : Hid _ := hsh
    clear hc hz hk0 hsh
    have i1 : (0 : Int) ≤ (k : Int) := by omega
    have i2 : (k : Int) ≤ (Pl.behind ns k : Int) := by omega
    have i3 : (Pl.behind ns k : Int) ≤ (cap : Int) := by omega
    have i4 : ¬ cap = k := by omega
    go_enter Tryz.func17, Tryz.ntmps17
    go_wp2_with fail
    have hB0 := (((Below.refl w.heap.size w).alloc (Nat.le_refl _) (.cells #[.slice (some ⟨b, o, none⟩) ns.length cap] 24)).alloc (by simp) (.cells #[.int .i64 k] 3)).alloc (by simp; omega) (.cells #[.slice none 0 0] 24)
    refine (checkAt_any _ ns _ _ hf (NdsAt.on HV.out hB0)).mono ?_
    rintro e w1 ⟨rfl, h1⟩
    rw [hz0]
    have hB : Below w.heap.size w w1 := below_trans hB0 h1
    have c0 := cell_on (p := ⟨w.heap.size, 0, none⟩) (v := .slice (some ⟨b, o, none⟩) ns.length cap) h1 (by simp [go_sem])
    have c1 := cell_on (p := ⟨w.heap.size + 1, 0, none⟩) (v := .int .i64 k) h1 (by simp [go_sem])
    have c2 := cell_on (p := ⟨w.heap.size + 1 + 1, 0, none⟩) (v := .slice none 0 0) h1 (by simp [go_sem])
    have f2 : w1.frozen? ⟨w.heap.size + 1 + 1, 0, none⟩ = false := by rw [h1.frozen (by simp)]; simp [go_sem]
    have hsz : w.heap.size + 3 ≤ w1.heap.size := by have := h1.size; simp at this; omega
    clear h1 hB0
    go_wp2
    have S0 : w1.drew.cell? ⟨w.heap.size, 0, none⟩ = some (.slice (some ⟨b, o, none⟩) ns.length cap) ∧ w1.drew.cell? ⟨w.heap.size + 1, 0, none⟩ = some (.int .i64 k) ∧ w1.drew.cell? ⟨w.heap.size + 1 + 1, 0, none⟩ = some (.slice none 0 0) := ⟨c0, c1, c2⟩
    have HC1 : ∀ i (h : i < ns.length), NdAt w1.drew b (o + i * 5) ns[i] := fun i hi => (HC.out i hi).on hB.drew
    have hW : ∀ W, Below w1.drew.heap.size w1.drew W → NdsAt W (.slice (some ⟨b, o + k * 5, none⟩) (Pl.behind ns k - k) (cap - k)) ((ns.drop k).take (Pl.behind ns k - k)) := fun W hW => NdsAt.part (fun i hi => (HC1 i hi).on hW) k _ _ (by omega)
    have hF : ∀ W (u : Int), Below w1.drew.heap.size w1.drew W → Calls Tryz.prog 45 (#[.int .i64 u] ++ #[.pointer (some ⟨w.heap.size + 1, 0, none⟩)]) W fun e w' => e = .returned (.int .i64 (Pl.mvPart k u)) ∧ w' = W := fun W u hb => part1_any _ _ _ _ (cell_on hb S0.2.1)
    have HW : Hid _ := hW
    have HF : Hid _ := hF
    have HC2 : Hid _ := HC1
    clear c0 c1 c2 hW hF HC1
    go_region_held3 (fun w' => w'.cell? ⟨w.heap.size, 0, none⟩ = some (.slice (some ⟨b, o, none⟩) ns.length cap) ∧ w'.cell? ⟨w.heap.size + 1, 0, none⟩ = some (.int .i64 k) ∧ w'.cell? ⟨w.heap.size + 1 + 1, 0, none⟩ = some (.slice none 0 0))
      (first | assumption | exact three_on (by assumption) (by assumption))
      (first | (go_at_call 44; refine (behind_some b o cap ns k _ hk hl64 HC2.out).mono ?_; rintro e w' ⟨rfl, rfl⟩) | (go_at_call 43; refine (add_any 45 _ _ w1.drew.heap.size _ _ [] _ _ (Nat.le_refl _) (Row.nil _ _) (by simp; omega) enter36 (fun x hx => HS.out x (mem_stretch hx)) (HW.out _ (Below.refl _ _)) HW.out HF.out).mono ?_; rintro e w2 ⟨v2, rfl, hrow, hb2⟩))
    all_goals
      have c2 : w2.cell? ⟨w.heap.size + 1 + 1, 0, none⟩ = some (.slice none 0 0) := cell_on hb2 S0.2.2
      have f3 : w2.frozen? ⟨w.heap.size + 1 + 1, 0, none⟩ = false := by rw [hb2.frozen (by show _ < w1.heap.size; simp; omega)]; exact f2
      have hB2 : Below w.heap.size w w2 := below_trans hB.drew hb2
      obtain ⟨a2, l2, c3, rfl, _, _⟩ := Row.cap hrow
      have HR : Hid _ := hrow
      clear hb2 S0 f2 hB hrow
      go_wp2
      have q := World.cell?_setCell_same w2 ⟨w.heap.size + 1 + 1, 0, none⟩ (.slice a2 l2 c3) c2
      refine bodyPost_ret (v := .tuple #[.agg #[.slice a2 l2 c3], .int .i64 0]) (by simp [results, Tryz.results17, go_sem, q]) rfl
        ⟨_, by rw [hz0], ?_, hB2.setCell (p := ⟨w.heap.size + 1 + 1, 0, none⟩) (by simp; omega) _, (Row.far HR.out).mono (by show _ ≤ w1.heap.size; omega)⟩
      rw [HP.out]
      have hr := Row.set HR.out (M := w.heap.size + 1 + 1) (j := 0) (by show _ < w1.heap.size; omega) c2 (by simp) (.slice a2 l2 c3)
      rw [List.nil_append] at hr
      exact hr.doc (by simp; omega) (mvd_short (fun x hx => HS.out x (mem_stretch hx)))
set_option maxRecDepth 100000 in
set_option maxHeartbeats 4000000 in
theorem remove_far (v : Value) (ns : List Pl.Nd) (n : Int) (w : World) (hd : DocAt w v ns) :
    Calls Tryz.prog 22 #[.agg #[v], .int .i64 n] w fun e w' => ∃ v', e = .returned (.tuple #[.agg #[v'], .int .i64 (remErr ns n)]) ∧ DocAt w' v' (remOf ns n) ∧ Below w.heap.size w w' ∧ Far w.heap.size v' := by
  obtain ⟨hv, hcap, hf⟩ := hd
  obtain ⟨a, cap, rfl, hc⟩ := id hv
  have HV : Hid _ := hv
  clear hv
  obtain ⟨_, _, _, e0, hc1, hc2⟩ := hcap
  injection e0 with e1 e2 e3
  subst e1 e2 e3
  cases hz : (checkAtOf ns n != 0) with
  | true =>
    have hz1 : ¬ checkAtOf ns n = 0 := by simpa using hz
    have HE : Hid (remErr ns n = checkAtOf ns n) := by unfold Hid remErr; rw [if_neg hz1]
    have HP : Hid (remOf ns n = []) := by unfold Hid remOf; rw [if_neg (by rw [HE.out]; exact hz1)]
    clear hc hz1
    go_enter Tryz.func22, Tryz.ntmps22
    go_wp2_with fail
    refine (checkAt_any _ ns _ _ hf (NdsAt.on HV.out (((Below.refl _ _).alloc (Nat.le_refl _) _).alloc (by simp) _ |>.alloc (by simp; omega) _))).mono ?_
    rintro e w1 ⟨rfl, h1⟩
    have hB : Below w.heap.size w w1 := below_trans (((Below.refl _ _).alloc (Nat.le_refl _) _).alloc (by simp) _ |>.alloc (by simp; omega) _) h1
    have c0 := cell_on (p := ⟨w.heap.size + 1 + 1, 0, none⟩) (v := .slice none 0 0) h1 (by simp [go_sem])
    have f0 : w1.frozen? ⟨w.heap.size + 1 + 1, 0, none⟩ = false := by rw [h1.frozen (by simp)]; simp [go_sem]
    generalize hE : checkAtOf ns n = E at *
    clear h1
    go_wp2
    have q := World.cell?_setCell_same w1 ⟨w.heap.size + 1 + 1, 0, none⟩ (.slice none 0 0) c0
    exact bodyPost_ret (v := .tuple #[.agg #[.slice none 0 0], .int .i64 E]) (by simp [results, Tryz.results22, go_sem, q]) rfl
      ⟨_, by rw [HE.out], by rw [HP.out]; exact DocAt.nil _, hB.setCell (p := ⟨w.heap.size + 1 + 1, 0, none⟩) (by simp; omega) _, Far.nil _⟩
  | false =>
    have hz0 : checkAtOf ns n = 0 := by simpa using hz
    obtain ⟨hk0, k, rfl, hk⟩ := checkAt_zero hz0
    obtain ⟨hl1, hl64, _⟩ := check_zero hk0
    have hsh := check_short hk0
    rcases hc with hc | ⟨b, o, rfl, hc⟩
    · subst hc; simp at hl1
    have hbe := behind_le hk
    have HC : Hid _ := hc
    have HS : Hid _ := hsh
    clear hc hz hk0 hsh
    by_cases hk1 : (k : Int) = 0
    · have HE : Hid (remErr ns k = 3) := by unfold Hid remErr; rw [if_pos hz0, if_pos hk1]
      have HP : Hid (remOf ns k = []) := by unfold Hid remOf; rw [if_neg (by rw [HE.out]; omega)]
      go_enter Tryz.func22, Tryz.ntmps22
      go_wp2_with fail
      refine (checkAt_any _ ns _ _ hf (NdsAt.on HV.out (((Below.refl _ _).alloc (Nat.le_refl _) _).alloc (by simp) _ |>.alloc (by simp; omega) _))).mono ?_
      rintro e w1 ⟨rfl, h1⟩
      rw [show checkAtOf ns 0 = 0 by rw [hk1] at hz0; exact hz0]
      have hB : Below w.heap.size w w1 := below_trans (((Below.refl _ _).alloc (Nat.le_refl _) _).alloc (by simp) _ |>.alloc (by simp; omega) _) h1
      have c1 := cell_on (p := ⟨w.heap.size + 1, 0, none⟩) (v := .int .i64 0) h1 (by simp [go_sem])
      have c0 := cell_on (p := ⟨w.heap.size + 1 + 1, 0, none⟩) (v := .slice none 0 0) h1 (by simp [go_sem])
      have f0 : w1.frozen? ⟨w.heap.size + 1 + 1, 0, none⟩ = false := by rw [h1.frozen (by simp)]; simp [go_sem]
      clear h1
      go_wp2
      have q := World.cell?_setCell_same w1 ⟨w.heap.size + 1 + 1, 0, none⟩ (.slice none 0 0) c0
      exact bodyPost_ret (v := .tuple #[.agg #[.slice none 0 0], .int .i64 3]) (by simp [results, Tryz.results22, go_sem, q]) rfl
        ⟨_, by rw [HE.out], by rw [HP.out]; exact DocAt.nil _, hB.setCell (p := ⟨w.heap.size + 1 + 1, 0, none⟩) (by simp; omega) _, Far.nil _⟩
    · have HE : Hid (remErr ns k = 0) := by unfold Hid remErr; rw [if_pos hz0, if_neg hk1]
      have HP : Hid (remOf ns k = (ns.take k).map (Pl.mvd id) ++ (ns.drop (Pl.behind ns k)).map (Pl.mvd (Pl.mvRem k ((Pl.behind ns k : Int) - k)))) := by unfold Hid remOf; rw [if_pos HE.out]; rfl
      have i1 : (0 : Int) ≤ (k : Int) := by omega
      have i3 : (Pl.behind ns k : Int) ≤ (ns.length : Int) := by omega
      have i5 : (ns.length : Int) ≤ (cap : Int) := by omega
      have i6 : (0 : Int) ≤ (Pl.behind ns k : Int) := by omega
      have i7 : (k : Int) ≤ (cap : Int) := by omega
      go_enter Tryz.func22, Tryz.ntmps22
      go_wp2_with fail
      have hB0 := (((Below.refl w.heap.size w).alloc (Nat.le_refl _) (.cells #[.slice (some ⟨b, o, none⟩) ns.length cap] 24)).alloc (by simp) (.cells #[.int .i64 k] 3)).alloc (by simp; omega) (.cells #[.slice none 0 0] 24)
      refine (checkAt_any _ ns _ _ hf (NdsAt.on HV.out hB0)).mono ?_
      rintro e w1 ⟨rfl, h1⟩
      rw [hz0]
      have hB : Below w.heap.size w w1 := below_trans hB0 h1
      have c0 := cell_on (p := ⟨w.heap.size, 0, none⟩) (v := .slice (some ⟨b, o, none⟩) ns.length cap) h1 (by simp [go_sem])
      have c1 := cell_on (p := ⟨w.heap.size + 1, 0, none⟩) (v := .int .i64 k) h1 (by simp [go_sem])
      have c2 := cell_on (p := ⟨w.heap.size + 1 + 1, 0, none⟩) (v := .slice none 0 0) h1 (by simp [go_sem])
      have f2 : w1.frozen? ⟨w.heap.size + 1 + 1, 0, none⟩ = false := by rw [h1.frozen (by simp)]; simp [go_sem]
      have hsz : w.heap.size + 3 ≤ w1.heap.size := by have := h1.size; simp at this; omega
      clear h1 hB0
      go_wp2_with fail
      refine (behind_some b o cap ns k _ hk hl64 (fun i hi => (HC.out i hi).on hB)).mono ?_
      rintro e w9 ⟨rfl, hw⟩
      rw [hw]
      clear hw w9
      have d0 := cell_on (on_alloc w1 (.cells #[.int .i64 (Pl.behind ns k)] 3)) c0
      have d1 := cell_on (on_alloc w1 (.cells #[.int .i64 (Pl.behind ns k)] 3)) c1
      have d2 := cell_on (on_alloc w1 (.cells #[.int .i64 (Pl.behind ns k)] 3)) c2
      have d3 : (w1.alloc (.cells #[.int .i64 (Pl.behind ns k)] 3)).cell? ⟨w1.heap.size, 0, none⟩ = some (.int .i64 (Pl.behind ns k)) := by simp [go_sem]
      have f3 : (w1.alloc (.cells #[.int .i64 (Pl.behind ns k)] 3)).frozen? ⟨w.heap.size + 1 + 1, 0, none⟩ = false := by rw [(on_alloc w1 _).frozen (by simp; omega)]; exact f2
      have hB2 := below_trans hB (on_alloc w1 (.cells #[.int .i64 (Pl.behind ns k)] 3))
      have hsz2 : (w1.alloc (.cells #[.int .i64 (Pl.behind ns k)] 3)).heap.size = w1.heap.size + 1 := by simp
      go_wp2_with fail
      generalize w1.alloc (.cells #[.int .i64 (Pl.behind ns k)] 3) = w2 at *
      clear c0 c1 c2 f2 hB
      have HC2 : Hid (∀ W, Below w2.heap.size w2 W → ∀ i (h : i < ns.length), NdAt W b (o + i * 5) ns[i]) := fun W hW i hi => ((HC.out i hi).on hB2).on hW
      refine (add_any 51 #[] id w2.heap.size _ _ [] (ns.take k) w2 (Nat.le_refl _) (Row.nil _ _) (by simp; omega) enter52 (fun x hx => HS.out x (List.mem_of_mem_take hx)) (NdsAt.head (HC2.out _ (Below.refl _ _)) k cap (by omega)) (fun W hW => NdsAt.head (HC2.out _ hW) k cap (by omega)) (fun W u _ => stay_any u W)).mono ?_
      rintro e w3 ⟨v3, rfl, hrow, hb3⟩
      rw [List.nil_append] at hrow
      replace d0 := cell_on hb3 d0
      replace d1 := cell_on hb3 d1
      replace d2 := cell_on hb3 d2
      replace d3 := cell_on hb3 d3
      replace f3 : w3.frozen? ⟨w.heap.size + 1 + 1, 0, none⟩ = false := by rw [hb3.frozen (by simp; omega)]; exact f3
      obtain ⟨a3, l3, c3, rfl, _, _⟩ := Row.cap hrow
      have HR : Hid _ := hrow
      have HB3 : Hid _ := hb3
      have HB2 : Hid _ := hB2
      clear hrow hb3 hB2
      go_wp2_with fail
      all_goals
        refine (add_any 52 #[.pointer (some ⟨w.heap.size + 1, 0, none⟩), .pointer (some ⟨w1.heap.size, 0, none⟩)] (Pl.mvRem k ((Pl.behind ns k : Int) - k)) w2.heap.size _ _ _ (ns.drop (Pl.behind ns k)) w3 HB3.out.size HR.out ?_ enter53 (fun x hx => HS.out x (List.mem_of_mem_drop hx)) ?_ ?_ ?_).mono ?_
        · simp; omega
        · first | exact NdsAt.tail (HC2.out _ HB3.out) (Pl.behind ns k) _ (by omega) | exact NdsAt.void _ _ _ (by omega)
        · intro W hW
          first | exact NdsAt.tail (HC2.out _ (HB3.out.trans hW)) (Pl.behind ns k) _ (by omega) | exact NdsAt.void _ _ _ (by omega)
        · intro W u hW
          refine rem1_any _ _ _ _ _ _ ?_ ?_ ?_
          · rw [hW.cell (by simp; omega)]; exact d1
          · rw [hW.cell (by simp; omega)]; exact d3
          · rw [IntWalk.i64_left, IntWalk.wrap64_in _ ⟨by omega, by omega⟩]
        rintro e w4 ⟨v4, rfl, hrow, hb4⟩
        have e2 : w4.cell? ⟨w.heap.size + 1 + 1, 0, none⟩ = some (.slice none 0 0) := by rw [hb4.cell (by simp; omega)]; exact d2
        have f4 : w4.frozen? ⟨w.heap.size + 1 + 1, 0, none⟩ = false := by rw [hb4.frozen (by simp; omega)]; exact f3
        have hB4 : Below w.heap.size w w4 := below_trans HB2.out (HB3.out.trans hb4)
        obtain ⟨a4, l4, c4, rfl, _, _⟩ := Row.cap hrow
        have HR4 : Hid _ := hrow
        clear hb4 hrow d0 d1 d2 d3 f3
        go_wp2
        have q := World.cell?_setCell_same w4 ⟨w.heap.size + 1 + 1, 0, none⟩ (.slice a4 l4 c4) e2
        refine bodyPost_ret (v := .tuple #[.agg #[.slice a4 l4 c4], .int .i64 0]) (by simp [results, Tryz.results22, go_sem, q]) rfl
          ⟨_, by rw [HE.out], ?_, hB4.setCell (p := ⟨w.heap.size + 1 + 1, 0, none⟩) (by simp; omega) _, (Row.far HR4.out).mono (by omega)⟩
        rw [HP.out]
        have hr := Row.set HR4.out (M := w.heap.size + 1 + 1) (j := 0) (by omega) e2 (by simp) (.slice a4 l4 c4)
        refine hr.doc (by simp; omega) ?_
        intro x hx
        rcases List.mem_append.1 hx with hx | hx
        · exact mvd_short (fun x hx => HS.out x (List.mem_of_mem_take hx)) x hx
        · exact mvd_short (fun x hx => HS.out x (List.mem_of_mem_drop hx)) x hx
end Go.Proofs.YtbpgcfabepioiaaGreat
/-
  Documents in boxes, and what stays of a few cells.
-/
namespace Go.Proofs.YtbpgcfabepioiaaGreat
open Go.RowKit

theorem boxes (w : World) (o1 o2 : Obj) : Below w.heap.size w ((w.alloc o1).alloc o2) := ((Below.refl w.heap.size w).alloc (Nat.le_refl _) o1).alloc (by simp) o2
/-- an answered document in its box -/
def BoxAt (W : World) (M : Nat) (ns : List Pl.Nd) : Prop := ∃ a c, W.cell? ⟨M, 0, none⟩ = some (.slice a ns.length c) ∧ DocAt W (.slice a ns.length c) ns
theorem BoxAt.on {W W' : World} {M : Nat} {ns : List Pl.Nd} (h : BoxAt W M ns) (hb : Below W.heap.size W W') : BoxAt W' M ns := by
  obtain ⟨a, c, h1, h2⟩ := h
  exact ⟨a, c, cell_on hb h1, h2.on hb⟩
theorem BoxAt.new {W : World} {a : Option Addr} {c : Nat} {ns : List Pl.Nd} (h : DocAt W (.slice a ns.length c) ns) : BoxAt (W.alloc (.cells #[.slice a ns.length c] 24)) W.heap.size ns :=
  ⟨a, c, by simp [go_sem], h.on (on_alloc _ _)⟩
theorem DocAt.form {W : World} {v : Value} {ns : List Pl.Nd} (h : DocAt W v ns) : ∃ a c, v = .slice a ns.length c := by
  obtain ⟨a, c, h1, _⟩ := h.1
  exact ⟨a, c, h1⟩

theorem duo_on {w W w' : World} {p0 p1 : Addr} {v0 v1 : Value} (h : W.cell? p0 = some v0 ∧ W.cell? p1 = some v1 ∧ Below w.heap.size w W) (hb : Below W.heap.size W w') : w'.cell? p0 = some v0 ∧ w'.cell? p1 = some v1 ∧ Below w.heap.size w w' :=
  ⟨cell_on hb h.1, cell_on hb h.2.1, below_trans h.2.2 hb⟩
theorem duo_last {w W : World} {p0 p1 : Addr} {v0 v1 : Value} (h : W.cell? p0 = some v0 ∧ W.cell? p1 = some v1 ∧ Below w.heap.size w W) : Below w.heap.size w W := h.2.2

theorem duo_set {w W : World} {b0 o0 b1 o1 : Nat} {v0 v1 u : Value} (h0 : b0 < w.heap.size) (h1 : b1 < w.heap.size) (h : W.cell? ⟨b0, o0, none⟩ = some v0 ∧ W.cell? ⟨b1, o1, none⟩ = some v1 ∧ Below w.heap.size w W) :
    (W.setCell ⟨w.heap.size, 0, none⟩ u).cell? ⟨b0, o0, none⟩ = some v0 ∧ (W.setCell ⟨w.heap.size, 0, none⟩ u).cell? ⟨b1, o1, none⟩ = some v1 ∧ Below w.heap.size w (W.setCell ⟨w.heap.size, 0, none⟩ u) :=
  ⟨cell_set h.1 (by omega), cell_set h.2.1 (by omega), h.2.2.setCell (p := ⟨w.heap.size, 0, none⟩) (Nat.le_refl _) u⟩

theorem duo_re {w W : World} {o o' : Obj} {b0 o0 b1 o1 : Nat} {v0 v1 : Value} (h0 : b0 < w.heap.size) (h1 : b1 < w.heap.size) (hs : w.heap.size ≤ W.heap.size) (h : (W.alloc o).cell? ⟨b0, o0, none⟩ = some v0 ∧ (W.alloc o).cell? ⟨b1, o1, none⟩ = some v1 ∧ Below w.heap.size w (W.alloc o)) :
    (W.alloc o').cell? ⟨b0, o0, none⟩ = some v0 ∧ (W.alloc o').cell? ⟨b1, o1, none⟩ = some v1 ∧ Below w.heap.size w (W.alloc o') := by
  have hb : ∀ k, k < w.heap.size → (W.alloc o').heap[k]? = (W.alloc o).heap[k]? := fun k hk => by rw [Below.heap_alloc _ _ _ (by omega), Below.heap_alloc _ _ _ (by omega)]
  refine ⟨?_, ?_, ?_⟩
  · rw [World.cell?_of_block (w := W.alloc o) (hb b0 h0)]; exact h.1
  · rw [World.cell?_of_block (w := W.alloc o) (hb b1 h1)]; exact h.2.1
  · obtain ⟨e1, e2, e3, e4, e5⟩ := h.2.2
    exact ⟨e1, e2, e3, by simp; omega, fun k hk => (hb k hk).trans (e5 k hk)⟩
theorem cell_all {W w' : World} (hb : Below W.heap.size W w') (p : Addr) : ∀ v, W.cell? p = some v → w'.cell? p = some v := fun _ h => cell_on hb h
end Go.Proofs.YtbpgcfabepioiaaGreat
