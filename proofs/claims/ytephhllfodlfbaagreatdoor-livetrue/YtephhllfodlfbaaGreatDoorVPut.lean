/-
  Put: the call.
-/
import Derived.Test.YtephhllfodlfbaaGreatDoorPut
import Derived.Test.YtephhllfodlfbaaGreatDoorRem
import Derived.Test.YtephhllfodlfbaaGreatDoorIsR
import Derived.Test.YtephhllfodlfbaaGreatDoorMem
import Derived.Test.YtephhllfodlfbaaGreatDoorKids
import Derived.Test.YtephhllfodlfbaaGreatDoorAdd
import Derived.Test.YtephhllfodlfbaaGreatDoorIdxM
import Derived.Test.YtephhllfodlfbaaGreatDoorFresh
import Derived.Test.YtephhllfodlfbaaGreatDoorAsk
import Derived.Test.YtephhllfodlfbaaGreatDoorVAsk
import Derived.Test.YtephhllfodlfbaaGreatDoorMbD
import Derived.Test.YtephhllfodlfbaaGreatDoorRcB
import Derived.Test.YtephhllfodlfbaaGreatDoorVRem
namespace Go.Proofs.YtephhllfodlfbaaGreatDoor
open Go.RowKit

set_option maxRecDepth 100000 in
set_option maxHeartbeats 8000000 in
theorem put_any (v xv : Value) (ns : List Pl.Nd) (n : Int) (x : Pl.Nd) (w : World) (hd : DocAt w v ns) (hx : NdV w xv x) (hfx : Fits x) :
    Calls Tryz.prog 39 #[.agg #[v], .int .i64 n, xv] w fun e w' => ∃ v', e = .returned (.tuple #[.agg #[v'], .int .i64 (putErr ns n x)]) ∧ DocAt w' v' (putOf ns n x) ∧ Below w.heap.size w w' := by
  obtain ⟨hv, hcap, hf⟩ := hd
  obtain ⟨a, cap, rfl, hc⟩ := id hv
  have HV : Hid _ := hv
  obtain ⟨_, _, _, e0, hc1, hc2⟩ := hcap
  injection e0 with e1 e2 e3
  subst e1 e2 e3
  obtain ⟨vc, va, rfl, xc, xa⟩ := id hx
  obtain ⟨ac, cc, rfl, _⟩ := id xc
  obtain ⟨aa, ca, rfl, _⟩ := id xa
  have HX : Hid _ := hx
  clear hv hx xc xa
  have HC : Hid _ := hc
  clear hc
  obtain ⟨up, tag, idn, cls, ats⟩ := x
  dsimp only at *
  have hB0 := two_cells w (.cells #[.slice a ns.length cap] 24) (.cells #[.int .i64 up, .string ⟨tag.toArray⟩, .string ⟨idn.toArray⟩, .slice ac cls.length cc, .slice aa ats.length ca] 28) (.cells #[.slice none 0 0] 24)
  go_enter Tryz.func39, Tryz.ntmps39
  go_wp2_with fail
  refine (checkAt_any _ ns _ _ hf (NdsAt.on HV.out hB0)).mono ?_
  rintro e w1 ⟨rfl, h1⟩
  have hB : Below w.heap.size w w1 := below_trans hB0 h1
  have c0 := cell_on (p := ⟨w.heap.size, 0, none⟩) (v := .slice a ns.length cap) h1 (by simp [go_sem])
  have x0 := cell_on (p := ⟨w.heap.size + 1, 0, none⟩) (v := .int .i64 up) h1 (by simp [go_sem])
  have x1 := cell_on (p := ⟨w.heap.size + 1, 1, none⟩) (v := .string ⟨tag.toArray⟩) h1 (by simp [go_sem])
  have x2 := cell_on (p := ⟨w.heap.size + 1, 2, none⟩) (v := .string ⟨idn.toArray⟩) h1 (by simp [go_sem])
  have x3 := cell_on (p := ⟨w.heap.size + 1, 3, none⟩) (v := .slice ac cls.length cc) h1 (by simp [go_sem])
  have x4 := cell_on (p := ⟨w.heap.size + 1, 4, none⟩) (v := .slice aa ats.length ca) h1 (by simp [go_sem])
  have c2 := cell_on (p := ⟨w.heap.size + 1 + 1, 0, none⟩) (v := .slice none 0 0) h1 (by simp [go_sem])
  have f2 : w1.frozen? ⟨w.heap.size + 1 + 1, 0, none⟩ = false := by rw [h1.frozen (by simp)]; simp [go_sem]
  have hsz : w.heap.size + 3 ≤ w1.heap.size := by have := h1.size; simp at this; omega
  clear h1 hB0
  cases hz : (checkAtOf ns n != 0) with
  | true =>
    have hz1 : ¬ checkAtOf ns n = 0 := by simpa using hz
    have HE : Hid (putErr ns n ⟨up, tag, idn, cls, ats⟩ = checkAtOf ns n) := by unfold Hid putErr; rw [if_neg hz1]
    have HP : Hid (putOf ns n ⟨up, tag, idn, cls, ats⟩ = []) := by unfold Hid putOf; rw [if_neg (by rw [HE.out]; exact hz1)]
    clear hz1
    generalize hE : checkAtOf ns n = E at *
    go_wp2
    have q := World.cell?_setCell_same w1 ⟨w.heap.size + 1 + 1, 0, none⟩ (.slice none 0 0) c2
    exact bodyPost_ret (v := .tuple #[.agg #[.slice none 0 0], .int .i64 E]) (by simp [results, Tryz.results39, go_sem, q]) rfl
      ⟨_, by rw [HE.out], by rw [HP.out]; exact DocAt.nil _, hB.setCell (p := ⟨w.heap.size + 1 + 1, 0, none⟩) (by simp; omega) _⟩
  | false =>
  have hz0 : checkAtOf ns n = 0 := by simpa using hz
  clear hz
  rw [hz0]
  go_wp2_with fail
  refine (isRight_any _ ⟨up, tag, idn, cls, ats⟩ _ hfx (NdV.on HX.out hB)).mono ?_
  rintro e w2 ⟨rfl, h1⟩
  replace c0 := cell_on h1 c0
  replace x0 := cell_on h1 x0
  replace x1 := cell_on h1 x1
  replace x2 := cell_on h1 x2
  replace x3 := cell_on h1 x3
  replace x4 := cell_on h1 x4
  replace c2 := cell_on h1 c2
  replace f2 : w2.frozen? ⟨w.heap.size + 1 + 1, 0, none⟩ = false := by rw [h1.frozen (by simp; omega)]; exact f2
  replace hB := below_trans hB h1
  replace hsz : w.heap.size + 3 ≤ w2.heap.size := Nat.le_trans hsz h1.size
  clear h1
  cases hr : Pl.right ⟨up, tag, idn, cls, ats⟩ with
  | false =>
    have HE : Hid (putErr ns n ⟨up, tag, idn, cls, ats⟩ = 1) := by unfold Hid putErr; rw [if_pos hz0, if_neg (by rw [hr]; simp)]
    have HP : Hid (putOf ns n ⟨up, tag, idn, cls, ats⟩ = []) := by unfold Hid putOf; rw [if_neg (by rw [HE.out]; omega)]
    go_wp2
    have q := World.cell?_setCell_same w2 ⟨w.heap.size + 1 + 1, 0, none⟩ (.slice none 0 0) c2
    exact bodyPost_ret (v := .tuple #[.agg #[.slice none 0 0], .int .i64 1]) (by simp [results, Tryz.results39, go_sem, q]) rfl
      ⟨_, by rw [HE.out], by rw [HP.out]; exact DocAt.nil _, hB.setCell (p := ⟨w.heap.size + 1 + 1, 0, none⟩) (by simp; omega) _⟩
  | true =>
  have HE : Hid (putErr ns n ⟨up, tag, idn, cls, ats⟩ = 0) := by unfold Hid putErr; rw [if_pos hz0, if_pos hr]
  have HP : Hid (putOf ns n ⟨up, tag, idn, cls, ats⟩ = (ns.map (Pl.mvd id)).set n.toNat ⟨Pl.upOf ns n.toNat, tag, idn, cls, ats⟩) := by unfold Hid putOf; rw [if_pos HE.out]
  obtain ⟨L1, L2⟩ := right_short hr
  dsimp only at L1 L2
  obtain ⟨hk0, k, rfl, hk⟩ := checkAt_zero hz0
  obtain ⟨hl1, hl64, _⟩ := check_zero hk0
  have HS : Hid _ := check_short hk0
  rcases HC.out with hc | ⟨b, o, rfl, hc⟩
  · subst hc; simp at hl1
  clear HC
  have HC : Hid _ := hc
  clear hc hk0 hr
  have HC2 : Hid (∀ W, Below w2.heap.size w2 W → ∀ i (h : i < ns.length), NdAt W b (o + i * 5) ns[i]) := fun W hW i hi => ((HC.out i hi).on hB).on hW
  go_wp2_with fail
  refine (add_any 83 #[] id w2.heap.size _ _ [] ns w2 (Nat.le_refl _) (Row.nil _ _) (by simp; omega) enter52 HS.out ⟨_, _, rfl, Or.inr ⟨_, _, rfl, HC2.out _ (Below.refl _ _)⟩⟩ (fun W hW => ⟨_, _, rfl, Or.inr ⟨_, _, rfl, HC2.out _ hW⟩⟩) (fun W u _ => stay_any u W)).mono ?_
  rintro e w3 ⟨v3, rfl, hrow, hb3⟩
  rw [List.nil_append] at hrow
  obtain ⟨g, cap3, rfl, hgB⟩ : ∃ g cap3, v3 = .slice (some ⟨g, 0, none⟩) ns.length cap3 ∧ w2.heap.size ≤ g := by
    obtain ⟨xs, ho, _⟩ := hrow
    obtain ⟨g, c, rfl, h1, _⟩ := ho.form (by simp; omega)
    exact ⟨g, c, by simp, h1⟩
  have fg : ∀ i, w3.frozen? ⟨g, i, none⟩ = false := by
    obtain ⟨xs, ho, _⟩ := hrow
    intro i
    rcases ho.2 with ⟨h0, _⟩ | ⟨g', c', cur, h0, _, hh, _⟩
    · cases h0
    · injection h0 with h0 _ _
      injection h0 with h0
      injection h0 with h0
      subst h0
      simp [World.frozen?, hh]
  have hglt : g < w3.heap.size := by
    obtain ⟨xs, ho, _⟩ := hrow
    exact (World.ownsRow.lt ho g rfl).2
  have hupc : w3.drew.cell? ⟨b, o + k * 5, none⟩ = some (.int .i64 (Pl.upOf ns k)) := up_cell (HC2.out _ hb3.drew) k hk
  replace c0 : w3.drew.cell? ⟨w.heap.size, 0, none⟩ = some (.slice (some ⟨b, o, none⟩) ns.length cap) := cell_on hb3.drew c0
  replace x0 : w3.drew.cell? ⟨w.heap.size + 1, 0, none⟩ = some (.int .i64 up) := cell_on hb3.drew x0
  replace x1 : w3.drew.cell? ⟨w.heap.size + 1, 1, none⟩ = some (.string ⟨tag.toArray⟩) := cell_on hb3.drew x1
  replace x2 : w3.drew.cell? ⟨w.heap.size + 1, 2, none⟩ = some (.string ⟨idn.toArray⟩) := cell_on hb3.drew x2
  replace x3 : w3.drew.cell? ⟨w.heap.size + 1, 3, none⟩ = some (.slice ac cls.length cc) := cell_on hb3.drew x3
  replace x4 : w3.drew.cell? ⟨w.heap.size + 1, 4, none⟩ = some (.slice aa ats.length ca) := cell_on hb3.drew x4
  replace c2 := cell_on hb3 c2
  replace f2 : w3.frozen? ⟨w.heap.size + 1 + 1, 0, none⟩ = false := by rw [hb3.frozen (by simp; omega)]; exact f2
  have hbg : b ≠ g := by have := cell_lt (up_cell (HC2.out _ (Below.refl _ _)) k hk); simp at this; omega
  have S0 := And.intro c0 (And.intro x0 (And.intro x1 (And.intro x2 (And.intro x3 (And.intro x4 hupc)))))
  have hne : w.heap.size ≠ g ∧ w.heap.size + 1 ≠ g ∧ w.heap.size + 1 ≠ g ∧ w.heap.size + 1 ≠ g ∧ w.heap.size + 1 ≠ g ∧ w.heap.size + 1 ≠ g ∧ b ≠ g := ⟨by omega, by omega, by omega, by omega, by omega, by omega, hbg⟩
  have HR : Hid (Row w2.heap.size w3.drew (.slice (some ⟨g, 0, none⟩) ns.length cap3) (ns.map (Pl.mvd id))) := hrow.on (Below.refl _ _).drew
  have HB3 : Hid (Below w.heap.size w w3.drew) := below_trans hB hb3.drew
  have NV : Hid (NdV w3.drew (.agg #[.int .i64 up, .string ⟨tag.toArray⟩, .string ⟨idn.toArray⟩, .slice ac cls.length cc, .slice aa ats.length ca]) ⟨up, tag, idn, cls, ats⟩) := NdV.on HX.out HB3.out
  have i1 : (0 : Int) ≤ (k : Int) := by omega
  have i2 : (k : Int) < (ns.length : Int) := by omega
  have FG : Hid (∀ i, w3.drew.frozen? ⟨g, i, none⟩ = false) := fg
  clear hrow hb3 hB fg x0 x1 x2 x3 x4 c0 hupc
  go_wp2
  go_region_held3 (fun w' => w'.cell? ⟨w.heap.size, 0, none⟩ = some (.slice (some ⟨b, o, none⟩) ns.length cap) ∧ w'.cell? ⟨w.heap.size + 1, 0, none⟩ = some (.int .i64 up) ∧ w'.cell? ⟨w.heap.size + 1, 1, none⟩ = some (.string ⟨tag.toArray⟩) ∧ w'.cell? ⟨w.heap.size + 1, 2, none⟩ = some (.string ⟨idn.toArray⟩) ∧ w'.cell? ⟨w.heap.size + 1, 3, none⟩ = some (.slice ac cls.length cc) ∧ w'.cell? ⟨w.heap.size + 1, 4, none⟩ = some (.slice aa ats.length ca) ∧ w'.cell? ⟨b, o + k * 5, none⟩ = some (.int .i64 (Pl.upOf ns k)))
    (first | with_reducible assumption | exact seven_on (by with_reducible assumption) (by with_reducible assumption) | (refine seven_put (W := w4) (g := g) (k := k) ?_ hne; with_reducible assumption))
    (first | (go_at_call 85; refine (fresh_any _ ⟨up, tag, idn, cls, ats⟩ _ _ L1 L2 NV.out).mono ?_; rintro e w4 ⟨nv, rfl, ⟨vc, va, rfl, hs, ha⟩, hb⟩; obtain ⟨a1, c1, rfl, _⟩ := id hs; obtain ⟨a2, c3, rfl, _⟩ := id ha; have fg4 : ∀ i, w4.frozen? ⟨g, i, none⟩ = false := fun i => (by rw [hb.frozen hglt]; exact FG.out i); obtain ⟨⟨k0, r0⟩, ⟨k1, r1⟩, ⟨k2, r2⟩, ⟨k3, r3⟩, ⟨k4, r4⟩⟩ := put_cells HR.out hb (by rw [List.length_map]; exact hk)))
  have e4 : w4.cell? ⟨w.heap.size + 1 + 1, 0, none⟩ = some (.slice none 0 0) := cell_on hb c2
  have f4 : w4.frozen? ⟨w.heap.size + 1 + 1, 0, none⟩ = false := by rw [hb.frozen (cell_lt c2)]; exact f2
  have HN : Hid (NdsAt ((wput w4 g k (.int .i64 (Pl.upOf ns k)) (.string ⟨tag.toArray⟩) (.string ⟨idn.toArray⟩) (.slice a1 cls.length c1) (.slice a2 ats.length c3)).setCell ⟨w.heap.size + 1 + 1, 0, none⟩ (.slice (some ⟨g, 0, none⟩) ns.length cap3)) (.slice (some ⟨g, 0, none⟩) ns.length cap3) ((ns.map (Pl.mvd id)).set k ⟨Pl.upOf ns k, tag, idn, cls, ats⟩)) := by
    have hR := HR.out
    have hl : ns.length = (ns.map (Pl.mvd id)).length := by simp
    rw [hl] at hR ⊢
    exact Row.put (x := ⟨Pl.upOf ns k, tag, idn, cls, ats⟩) hR hb (by simpa using hk) hs ha (by omega) e4 (by simp)
  have HB5 : Hid (Below w.heap.size w (wput w4 g k (.int .i64 (Pl.upOf ns k)) (.string ⟨tag.toArray⟩) (.string ⟨idn.toArray⟩) (.slice a1 cls.length c1) (.slice a2 ats.length c3))) := by
    have h0 := below_trans HB3.out hb
    unfold wput
    exact ((((h0.setCell (p := ⟨g, k * 5, none⟩) (by simp; omega) _).setCell (p := ⟨g, k * 5 + 1, none⟩) (by simp; omega) _).setCell (p := ⟨g, k * 5 + 2, none⟩) (by simp; omega) _).setCell (p := ⟨g, k * 5 + 3, none⟩) (by simp; omega) _).setCell (p := ⟨g, k * 5 + 4, none⟩) (by simp; omega) _
  have e5 := wput_out (g := g) (k := k) (u0 := .int .i64 (Pl.upOf ns k)) (u1 := .string ⟨tag.toArray⟩) (u2 := .string ⟨idn.toArray⟩) (u3 := .slice a1 cls.length c1) (u4 := .slice a2 ats.length c3) (p := ⟨w.heap.size + 1 + 1, 0, none⟩) (Or.inl (by simp; omega)) e4
  have f5 : (wput w4 g k (.int .i64 (Pl.upOf ns k)) (.string ⟨tag.toArray⟩) (.string ⟨idn.toArray⟩) (.slice a1 cls.length c1) (.slice a2 ats.length c3)).frozen? ⟨w.heap.size + 1 + 1, 0, none⟩ = false := by
    unfold wput
    simp [go_sem, f4]
  change Exit.then _ _ Exit.normal _ (wput w4 g k (.int .i64 (Pl.upOf ns k)) (.string ⟨tag.toArray⟩) (.string ⟨idn.toArray⟩) (.slice a1 cls.length c1) (.slice a2 ats.length c3))
  clear S0 NV hs ha hb fg4 r0 r1 r2 r3 r4 e4 f4 c2 f2
  rename_i hHeld
  clear hHeld
  generalize wput w4 g k (.int .i64 (Pl.upOf ns k)) (.string ⟨tag.toArray⟩) (.string ⟨idn.toArray⟩) (.slice a1 cls.length c1) (.slice a2 ats.length c3) = w5 at *
  go_wp2
  have q := World.cell?_setCell_same w5 ⟨w.heap.size + 1 + 1, 0, none⟩ (.slice (some ⟨g, 0, none⟩) ns.length cap3) e5
  refine bodyPost_ret (v := .tuple #[.agg #[.slice (some ⟨g, 0, none⟩) ns.length cap3], .int .i64 0]) (by simp [results, Tryz.results39, go_sem, q]) rfl
    ⟨_, by rw [HE.out], ?_, HB5.out.setCell (p := ⟨w.heap.size + 1 + 1, 0, none⟩) (by simp; omega) _⟩
  rw [HP.out]
  have hcp := Row.cap HR.out
  refine ⟨HN.out, hcp, by rw [List.length_set, List.length_map]; unfold maxLen; omega, fun i hi => ?_⟩
  have hmem : ∀ y ∈ (ns.map (Pl.mvd id)).set k ⟨Pl.upOf ns k, tag, idn, cls, ats⟩, y.cls.length ≤ 6 ∧ y.ats.length ≤ 4 := by
    intro y hy
    rcases List.mem_or_eq_of_mem_set hy with h | h
    · exact mvd_short HS.out y h
    · subst h; exact ⟨L1, L2⟩
  have := hmem _ (List.getElem_mem hi)
  exact ⟨by unfold maxLen; omega, by unfold maxLen; omega⟩
end Go.Proofs.YtephhllfodlfbaaGreatDoor
