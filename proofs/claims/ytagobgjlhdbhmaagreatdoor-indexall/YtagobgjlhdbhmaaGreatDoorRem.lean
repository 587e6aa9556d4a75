/-
  Part: the elements under one, copied.
-/
import Derived.Test.YtagobgjlhdbhmaaGreatDoorDocA
namespace Go.Proofs.YtagobgjlhdbhmaaGreatDoor
open Go.RowKit

theorem three_on {W w' : World} {p0 p1 p2 : Addr} {v0 v1 v2 : Value} (h : W.cell? p0 = some v0 ∧ W.cell? p1 = some v1 ∧ W.cell? p2 = some v2) (hb : Below W.heap.size W w') : w'.cell? p0 = some v0 ∧ w'.cell? p1 = some v1 ∧ w'.cell? p2 = some v2 :=
  ⟨cell_on hb h.1, cell_on hb h.2.1, cell_on hb h.2.2⟩

set_option maxRecDepth 100000 in
set_option maxHeartbeats 4000000 in
theorem part_any (v : Value) (ns : List Pl.Nd) (n : Int) (w : World) (hd : DocAt w v ns) :
    Calls Tryz.prog 99 #[.agg #[v], .int .i64 n] w fun e w' => ∃ v', e = .returned (.tuple #[.agg #[v'], .int .i64 (checkAtOf ns n)]) ∧ DocAt w' v' (partOf ns n) ∧ Below w.heap.size w w' := by
  obtain ⟨hv, hcap, hf⟩ := hd
  obtain ⟨a, cap, rfl, hc⟩ := id hv
  have HV : Hid _ := hv
  clear hv
  obtain ⟨_, _, _, e0, hc1, hc2⟩ := hcap
  injection e0 with e1 e2 e3
  subst e1 e2 e3
  cases hz : (checkAtOf ns n != 0) with
  | true =>
    have HP : Hid (partOf ns n = []) := by unfold Hid partOf; rw [if_neg (by simpa using hz)]
    clear hc
    go_enter Tryz.func99, Tryz.ntmps99
    go_wp2_with fail
    refine (checkAt_any _ ns _ _ hf (NdsAt.on HV.out (((Below.refl _ _).alloc (Nat.le_refl _) _).alloc (by simp) _ |>.alloc (by simp; omega) _))).mono ?_
    rintro e w1 ⟨rfl, h1⟩
    have hB : Below w.heap.size w w1 := below_trans (((Below.refl _ _).alloc (Nat.le_refl _) _).alloc (by simp) _ |>.alloc (by simp; omega) _) h1
    have c0 := cell_on (p := ⟨w.heap.size + 1 + 1, 0, none⟩) (v := .slice none 0 0) h1 (by simp [go_sem])
    have f0 : w1.frozen? ⟨w.heap.size + 1 + 1, 0, none⟩ = false := by rw [h1.frozen (by simp)]; simp [go_sem]
    generalize hE : checkAtOf ns n = E at *
    clear h1
    go_wp2
    have q := World.cell?_setCell_same w1 ⟨w.heap.size + 1 + 1, 0, none⟩ (.slice none 0 0) c0
    exact bodyPost_ret (v := .tuple #[.agg #[.slice none 0 0], .int .i64 E]) (by simp [results, Tryz.results99, go_sem, q]) rfl
      ⟨_, by rw [hE], by rw [HP.out]; exact DocAt.nil _, hB.setCell (p := ⟨w.heap.size + 1 + 1, 0, none⟩) (by simp; omega) _⟩
  | false =>
    have hz0 : checkAtOf ns n = 0 := by simpa using hz
    obtain ⟨hk0, k, rfl, hk⟩ := checkAt_zero hz0
    obtain ⟨hl1, hl64, _⟩ := check_zero hk0
    have hsh := check_short hk0
    rcases hc with hc | ⟨b, o, rfl, hc⟩
    · subst hc; simp at hl1
    have hbe := behind_le hk
    have HP : Hid (partOf ns k = ((ns.drop k).take (Pl.behind ns k - k)).map (Pl.mvd (Pl.mvPart k))) := by unfold Hid partOf; rw [if_pos hz0]; rfl
    have HC : Hid _ := hc
    have HS : Hid _ := hsh
    clear hc hz hk0 hsh
    have i1 : (0 : Int) ≤ (k : Int) := by omega
    have i2 : (k : Int) ≤ (Pl.behind ns k : Int) := by omega
    have i3 : (Pl.behind ns k : Int) ≤ (cap : Int) := by omega
    have i4 : ¬ cap = k := by omega
    go_enter Tryz.func99, Tryz.ntmps99
    go_wp2_with fail
    have hB0 := (((Below.refl w.heap.size w).alloc (Nat.le_refl _) (.cells #[.slice (some ⟨b, o, none⟩) ns.length cap] 24)).alloc (by simp) (.cells #[.int .i64 k] 3)).alloc (by simp; omega) (.cells #[.slice none 0 0] 24)
    refine (checkAt_any _ ns _ _ hf (NdsAt.on HV.out hB0)).mono ?_
    rintro e w1 ⟨rfl, h1⟩
    rw [hz0]
    have hB : Below w.heap.size w w1 := below_trans hB0 h1
    have c0 := cell_on (p := ⟨w.heap.size, 0, none⟩) (v := .slice (some ⟨b, o, none⟩) ns.length cap) h1 (by simp [go_sem])
    have c1 := cell_on (p := ⟨w.heap.size + 1, 0, none⟩) (v := .int .i64 k) h1 (by simp [go_sem])
    have c2 := cell_on (p := ⟨w.heap.size + 1 + 1, 0, none⟩) (v := .slice none 0 0) h1 (by simp [go_sem])
    have f2 : w1.frozen? ⟨w.heap.size + 1 + 1, 0, none⟩ = false := by rw [h1.frozen (by simp)]; simp [go_sem]
    have hsz : w.heap.size + 3 ≤ w1.heap.size := by have := h1.size; simp at this; omega
    clear h1 hB0
    go_wp2
    have S0 : w1.drew.cell? ⟨w.heap.size, 0, none⟩ = some (.slice (some ⟨b, o, none⟩) ns.length cap) ∧ w1.drew.cell? ⟨w.heap.size + 1, 0, none⟩ = some (.int .i64 k) ∧ w1.drew.cell? ⟨w.heap.size + 1 + 1, 0, none⟩ = some (.slice none 0 0) := ⟨c0, c1, c2⟩
    have HC1 : ∀ i (h : i < ns.length), NdAt w1.drew b (o + i * 5) ns[i] := fun i hi => (HC.out i hi).on hB.drew
    have hW : ∀ W, Below w1.drew.heap.size w1.drew W → NdsAt W (.slice (some ⟨b, o + k * 5, none⟩) (Pl.behind ns k - k) (cap - k)) ((ns.drop k).take (Pl.behind ns k - k)) := fun W hW => NdsAt.part (fun i hi => (HC1 i hi).on hW) k _ _ (by omega)
    have hF : ∀ W (u : Int), Below w1.drew.heap.size w1.drew W → Calls Tryz.prog 127 (#[.int .i64 u] ++ #[.pointer (some ⟨w.heap.size + 1, 0, none⟩)]) W fun e w' => e = .returned (.int .i64 (Pl.mvPart k u)) ∧ w' = W := fun W u hb => part1_any _ _ _ _ (cell_on hb S0.2.1)
    have HW : Hid _ := hW
    have HF : Hid _ := hF
    have HC2 : Hid _ := HC1
    clear c0 c1 c2 hW hF HC1
    go_region_held3 (fun w' => w'.cell? ⟨w.heap.size, 0, none⟩ = some (.slice (some ⟨b, o, none⟩) ns.length cap) ∧ w'.cell? ⟨w.heap.size + 1, 0, none⟩ = some (.int .i64 k) ∧ w'.cell? ⟨w.heap.size + 1 + 1, 0, none⟩ = some (.slice none 0 0))
      (first | assumption | exact three_on (by assumption) (by assumption))
      (first | (go_at_call 126; refine (behind_some b o cap ns k _ hk hl64 HC2.out).mono ?_; rintro e w' ⟨rfl, rfl⟩) | (go_at_call 125; refine (add_any 127 _ _ w1.drew.heap.size _ _ [] _ _ (Nat.le_refl _) (Row.nil _ _) (by simp; omega) enter36 (fun x hx => HS.out x (mem_stretch hx)) (HW.out _ (Below.refl _ _)) HW.out HF.out).mono ?_; rintro e w2 ⟨v2, rfl, hrow, hb2⟩))
    all_goals
      have c2 : w2.cell? ⟨w.heap.size + 1 + 1, 0, none⟩ = some (.slice none 0 0) := cell_on hb2 S0.2.2
      have f3 : w2.frozen? ⟨w.heap.size + 1 + 1, 0, none⟩ = false := by rw [hb2.frozen (by show _ < w1.heap.size; simp; omega)]; exact f2
      have hB2 : Below w.heap.size w w2 := below_trans hB.drew hb2
      obtain ⟨a2, l2, c3, rfl, _, _⟩ := Row.cap hrow
      have HR : Hid _ := hrow
      clear hb2 S0 f2 hB hrow
      go_wp2
      have q := World.cell?_setCell_same w2 ⟨w.heap.size + 1 + 1, 0, none⟩ (.slice a2 l2 c3) c2
      refine bodyPost_ret (v := .tuple #[.agg #[.slice a2 l2 c3], .int .i64 0]) (by simp [results, Tryz.results99, go_sem, q]) rfl
        ⟨_, by rw [hz0], ?_, hB2.setCell (p := ⟨w.heap.size + 1 + 1, 0, none⟩) (by simp; omega) _⟩
      rw [HP.out]
      have hr := Row.set HR.out (M := w.heap.size + 1 + 1) (j := 0) (by show _ < w1.heap.size; omega) c2 (by simp) (.slice a2 l2 c3)
      rw [List.nil_append] at hr
      exact hr.doc (by simp; omega) (mvd_short (fun x hx => HS.out x (mem_stretch hx)))
end Go.Proofs.YtagobgjlhdbhmaaGreatDoor
/-
  Remove: what is under an element left out.
-/
namespace Go.Proofs.YtagobgjlhdbhmaaGreatDoor
open Go.RowKit

theorem NdsAt.tail {w : World} {b o : Nat} {ns : List Pl.Nd} (h : ∀ i (h : i < ns.length), NdAt w b (o + i * 5) ns[i]) (lo cap' : Nat) (hm : lo ≤ ns.length) : NdsAt w (.slice (some ⟨b, o + lo * 5, none⟩) (ns.length - lo) cap') (ns.drop lo) := by
  have := NdsAt.part h lo (ns.length - lo) cap' (by omega)
  rwa [List.take_of_length_le (by simp)] at this

end Go.Proofs.YtagobgjlhdbhmaaGreatDoor
