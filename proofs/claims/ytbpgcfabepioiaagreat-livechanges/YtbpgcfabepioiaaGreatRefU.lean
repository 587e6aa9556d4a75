/-
  PutDoc: an element in another's place, as the document's own answer builds it.
-/
import Derived.Test.YtbpgcfabepioiaaGreatOwnD
import Derived.Test.YtbpgcfabepioiaaGreatRefC
import Derived.Test.YtbpgcfabepioiaaGreatPut
import Derived.Test.YtbpgcfabepioiaaGreatTree
namespace Go.Proofs.YtbpgcfabepioiaaGreat
open Go.RowKit

/-- an element written, then its Up once more -/
def wput2 (W : World) (g k : Nat) (z u0 u1 u2 u3 u4 : Value) : World := (wput W g k z u1 u2 u3 u4).setCell ⟨g, k * 5, none⟩ u0
theorem wput2_out {W : World} {g k : Nat} {z u0 u1 u2 u3 u4 : Value} {p : Addr} {v : Value} (hne : p.block ≠ g ∨ p.off < k * 5 ∨ k * 5 + 5 ≤ p.off) (h : W.cell? p = some v) : (wput2 W g k z u0 u1 u2 u3 u4).cell? p = some v := by
  unfold wput2
  rw [World.cell?_setCell_other _ _ _ _ (by intro e; subst e; simp at hne; omega)]
  exact wput_out hne h
theorem wput2_in {W : World} {g k : Nat} {z u0 u1 u2 u3 u4 c0 c1 c2 c3 c4 : Value} (h0 : W.cell? ⟨g, k * 5, none⟩ = some c0) (h1 : W.cell? ⟨g, k * 5 + 1, none⟩ = some c1) (h2 : W.cell? ⟨g, k * 5 + 2, none⟩ = some c2) (h3 : W.cell? ⟨g, k * 5 + 3, none⟩ = some c3) (h4 : W.cell? ⟨g, k * 5 + 4, none⟩ = some c4) :
    (wput2 W g k z u0 u1 u2 u3 u4).cell? ⟨g, k * 5, none⟩ = some u0 ∧ (wput2 W g k z u0 u1 u2 u3 u4).cell? ⟨g, k * 5 + 1, none⟩ = some u1 ∧ (wput2 W g k z u0 u1 u2 u3 u4).cell? ⟨g, k * 5 + 2, none⟩ = some u2 ∧ (wput2 W g k z u0 u1 u2 u3 u4).cell? ⟨g, k * 5 + 3, none⟩ = some u3 ∧ (wput2 W g k z u0 u1 u2 u3 u4).cell? ⟨g, k * 5 + 4, none⟩ = some u4 := by
  obtain ⟨q0, q1, q2, q3, q4⟩ := wput_in (u0 := z) (u1 := u1) (u2 := u2) (u3 := u3) (u4 := u4) h0 h1 h2 h3 h4
  have hn : ∀ j, 0 < j → (⟨g, k * 5, none⟩ : Addr) ≠ ⟨g, k * 5 + j, none⟩ := by
    intro j _ e
    injection e with e1 e2
    omega
  unfold wput2
  refine ⟨World.cell?_setCell_same _ _ _ q0, ?_, ?_, ?_, ?_⟩
  · rw [World.cell?_setCell_other _ _ _ _ (hn 1 (by omega))]; exact q1
  · rw [World.cell?_setCell_other _ _ _ _ (hn 2 (by omega))]; exact q2
  · rw [World.cell?_setCell_other _ _ _ _ (hn 3 (by omega))]; exact q3
  · rw [World.cell?_setCell_other _ _ _ _ (hn 4 (by omega))]; exact q4
/-- the elements behind the writing -/
theorem Row.put2 {B : Nat} {w W : World} {g cap k M : Nat} {ns : List Pl.Nd} {x : Pl.Nd} {vc va u old z : Value} (h : Row B w (.slice (some ⟨g, 0, none⟩) ns.length cap) ns) (hW : Below w.heap.size w W) (hk : k < ns.length) (hvc : StrsFrom w.heap.size W vc x.cls) (hva : AtsFrom w.heap.size W va x.ats)
    (hM : M ≠ g) (ho : W.cell? ⟨M, 0, none⟩ = some old) (hs : ∀ s, old ≠ .string s) :
    NdsAt ((wput2 W g k z (.int .i64 x.up) (.string ⟨x.tag.toArray⟩) (.string ⟨x.id.toArray⟩) vc va).setCell ⟨M, 0, none⟩ u) (.slice (some ⟨g, 0, none⟩) ns.length cap) (ns.set k x) := by
  have hR := h.on hW
  obtain ⟨xs, hown, hc⟩ := id hR
  have hgw : g < w.heap.size := by
    obtain ⟨ys, h2, _⟩ := h
    exact (World.ownsRow.lt h2 g rfl).2
  have ho2 : (wput2 W g k z (.int .i64 x.up) (.string ⟨x.tag.toArray⟩) (.string ⟨x.id.toArray⟩) vc va).cell? ⟨M, 0, none⟩ = some old := wput2_out (Or.inl hM) ho
  have hcells : ∀ i (hi : i < ns.length), ∃ vc va, W.cell? ⟨g, i * 5, none⟩ = some (.int .i64 ns[i].up) ∧ W.cell? ⟨g, i * 5 + 1, none⟩ = some (.string ⟨ns[i].tag.toArray⟩) ∧ W.cell? ⟨g, i * 5 + 2, none⟩ = some (.string ⟨ns[i].id.toArray⟩) ∧ W.cell? ⟨g, i * 5 + 3, none⟩ = some vc ∧ W.cell? ⟨g, i * 5 + 4, none⟩ = some va ∧ StrsNe (some g) W vc ns[i].cls ∧ AtsNe (some g) W va ns[i].ats := by
    intro i hi
    obtain ⟨vc, va, h0, h1, h2, h3, h4, hcc, haa⟩ := CellsOf.get xs ns hc i hi
    have k0 := World.ownsRow.cells hown rfl _ _ h0
    have k1 := World.ownsRow.cells hown rfl _ _ h1
    have k2 := World.ownsRow.cells hown rfl _ _ h2
    have k3 := World.ownsRow.cells hown rfl _ _ h3
    have k4 := World.ownsRow.cells hown rfl _ _ h4
    simp only [Addr.add_lit, Nat.zero_add] at k0 k1 k2 k3 k4
    exact ⟨vc, va, k0, k1, k2, k3, k4, hcc, haa⟩
  have far : ∀ {p : Addr} {v : Value}, p.block = g → (wput2 W g k z (.int .i64 x.up) (.string ⟨x.tag.toArray⟩) (.string ⟨x.id.toArray⟩) vc va).cell? p = some v → ((wput2 W g k z (.int .i64 x.up) (.string ⟨x.tag.toArray⟩) (.string ⟨x.id.toArray⟩) vc va).setCell ⟨M, 0, none⟩ u).cell? p = some v := by
    intro p v hp hc
    rw [World.cell?_setCell_other _ _ _ _ (by intro e; rw [← e] at hp; exact hM hp)]; exact hc
  have str : ∀ {b o : Nat} {s : List UInt8}, b ≠ g → W.cell? ⟨b, o, none⟩ = some (.string ⟨s.toArray⟩) → ((wput2 W g k z (.int .i64 x.up) (.string ⟨x.tag.toArray⟩) (.string ⟨x.id.toArray⟩) vc va).setCell ⟨M, 0, none⟩ u).cell? ⟨b, o, none⟩ = some (.string ⟨s.toArray⟩) := by
    intro b o s hb hc
    exact cell_set_str (wput2_out (Or.inl hb) hc) ho2 hs
  have strs : ∀ {v : Value} {ss : List (List UInt8)}, StrsNe (some g) W v ss → StrsAt ((wput2 W g k z (.int .i64 x.up) (.string ⟨x.tag.toArray⟩) (.string ⟨x.id.toArray⟩) vc va).setCell ⟨M, 0, none⟩ u) v ss := by
    rintro v ss ⟨a, c, rfl, h⟩
    refine ⟨a, c, rfl, ?_⟩
    rcases h with h | ⟨b, o, ha, hne, hc⟩
    · exact Or.inl h
    · exact Or.inr ⟨b, o, ha, fun i hi => str (fun e => hne (by rw [e])) (hc i hi)⟩
  have atss : ∀ {v : Value} {ss : List (List UInt8 × List UInt8)}, AtsNe (some g) W v ss → AtsAt ((wput2 W g k z (.int .i64 x.up) (.string ⟨x.tag.toArray⟩) (.string ⟨x.id.toArray⟩) vc va).setCell ⟨M, 0, none⟩ u) v ss := by
    rintro v ss ⟨a, c, rfl, h⟩
    refine ⟨a, c, rfl, ?_⟩
    rcases h with h | ⟨b, o, ha, hne, hc⟩
    · exact Or.inl h
    · exact Or.inr ⟨b, o, ha, fun i hi => ⟨str (fun e => hne (by rw [e])) (hc i hi).1, str (fun e => hne (by rw [e])) (hc i hi).2⟩⟩
  refine ⟨_, cap, by rw [List.length_set], Or.inr ⟨g, 0, rfl, fun i hi => ?_⟩⟩
  rw [List.length_set] at hi
  rw [Nat.zero_add]
  by_cases hik : i = k
  · subst hik
    rw [List.getElem_set_self]
    obtain ⟨vc', va', k0, k1, k2, k3, k4, _, _⟩ := hcells i hk
    obtain ⟨q0, q1, q2, q3, q4⟩ := wput2_in (z := z) (u0 := .int .i64 x.up) (u1 := .string ⟨x.tag.toArray⟩) (u2 := .string ⟨x.id.toArray⟩) (u3 := vc) (u4 := va) k0 k1 k2 k3 k4
    exact ⟨vc, va, far rfl q0, far rfl q1, far rfl q2, far rfl q3, far rfl q4, strs (hvc.ne (fun j hj => by injection hj; omega)), atss (hva.ne (fun j hj => by injection hj; omega))⟩
  · rw [List.getElem_set_ne (Ne.symm hik)]
    obtain ⟨vc', va', k0, k1, k2, k3, k4, hcc, haa⟩ := hcells i hi
    have hoff : ∀ j, j < 5 → i * 5 + j < k * 5 ∨ k * 5 + 5 ≤ i * 5 + j := by intro j hj; omega
    exact ⟨vc', va', far rfl (wput2_out (Or.inr (hoff 0 (by omega))) k0), far rfl (wput2_out (Or.inr (hoff 1 (by omega))) k1), far rfl (wput2_out (Or.inr (hoff 2 (by omega))) k2), far rfl (wput2_out (Or.inr (hoff 3 (by omega))) k3), far rfl (wput2_out (Or.inr (hoff 4 (by omega))) k4), strs hcc, atss haa⟩
set_option maxRecDepth 100000 in
set_option maxHeartbeats 8000000 in
theorem refPut_any (v xv : Value) (ns : List Pl.Nd) (n : Int) (x : Pl.Nd) (w : World) (hd : DocAt w v ns) (hx : NdV w xv x) (hfx : Fits x) :
    Calls Tryz.prog 13 #[.agg #[v], .int .i64 n, xv] w fun e w' => ∃ v', e = .returned (.tuple #[.agg #[v'], .int .i64 (putErr ns n x)]) ∧ DocAt w' v' (putOf ns n x) ∧ Below w.heap.size w w' := by
  obtain ⟨hv, hcap, hf⟩ := hd
  obtain ⟨a, cap, rfl, hc⟩ := id hv
  have HV : Hid _ := hv
  obtain ⟨_, _, _, e0, hc1, hc2⟩ := hcap
  injection e0 with e1 e2 e3
  subst e1 e2 e3
  obtain ⟨vc, va, rfl, xc, xa⟩ := id hx
  obtain ⟨ac, cc, rfl, _⟩ := id xc
  obtain ⟨aa, ca, rfl, _⟩ := id xa
  have HX : Hid _ := hx
  clear hv hx xc xa
  have HC : Hid _ := hc
  clear hc
  obtain ⟨up, tag, idn, cls, ats⟩ := x
  dsimp only at *
  have hB0 := two_cells w (.cells #[.slice a ns.length cap] 24) (.cells #[.int .i64 up, .string ⟨tag.toArray⟩, .string ⟨idn.toArray⟩, .slice ac cls.length cc, .slice aa ats.length ca] 31) (.cells #[.slice none 0 0] 24)
  go_enter Tryz.func13, Tryz.ntmps13
  go_wp2_with fail
  refine (there_any _ ns _ _ hf (NdsAt.on HV.out hB0)).mono ?_
  rintro e w1 ⟨rfl, h1⟩
  have hB : Below w.heap.size w w1 := below_trans hB0 h1
  have c0 := cell_on (p := ⟨w.heap.size, 0, none⟩) (v := .slice a ns.length cap) h1 (by simp [go_sem])
  have x0 := cell_on (p := ⟨w.heap.size + 1, 0, none⟩) (v := .int .i64 up) h1 (by simp [go_sem])
  have x1 := cell_on (p := ⟨w.heap.size + 1, 1, none⟩) (v := .string ⟨tag.toArray⟩) h1 (by simp [go_sem])
  have x2 := cell_on (p := ⟨w.heap.size + 1, 2, none⟩) (v := .string ⟨idn.toArray⟩) h1 (by simp [go_sem])
  have x3 := cell_on (p := ⟨w.heap.size + 1, 3, none⟩) (v := .slice ac cls.length cc) h1 (by simp [go_sem])
  have x4 := cell_on (p := ⟨w.heap.size + 1, 4, none⟩) (v := .slice aa ats.length ca) h1 (by simp [go_sem])
  have c2 := cell_on (p := ⟨w.heap.size + 1 + 1, 0, none⟩) (v := .slice none 0 0) h1 (by simp [go_sem])
  have f2 : w1.frozen? ⟨w.heap.size + 1 + 1, 0, none⟩ = false := by rw [h1.frozen (by simp)]; simp [go_sem]
  have hsz : w.heap.size + 3 ≤ w1.heap.size := by have := h1.size; simp at this; omega
  clear h1 hB0
  cases hz : (checkAtOf ns n != 0) with
  | true =>
    have hz1 : ¬ checkAtOf ns n = 0 := by simpa using hz
    have HE : Hid (putErr ns n ⟨up, tag, idn, cls, ats⟩ = checkAtOf ns n) := by unfold Hid putErr; rw [if_neg hz1]
    have HP : Hid (putOf ns n ⟨up, tag, idn, cls, ats⟩ = []) := by unfold Hid putOf; rw [if_neg (by rw [HE.out]; exact hz1)]
    clear hz1
    generalize hE : checkAtOf ns n = E at *
    go_wp2
    have q := World.cell?_setCell_same w1 ⟨w.heap.size + 1 + 1, 0, none⟩ (.slice none 0 0) c2
    exact bodyPost_ret (v := .tuple #[.agg #[.slice none 0 0], .int .i64 E]) (by simp [results, Tryz.results13, go_sem, q]) rfl
      ⟨_, by rw [HE.out], by rw [HP.out]; exact DocAt.nil _, hB.setCell (p := ⟨w.heap.size + 1 + 1, 0, none⟩) (by simp; omega) _⟩
  | false =>
  have hz0 : checkAtOf ns n = 0 := by simpa using hz
  clear hz
  rw [hz0]
  go_wp2_with fail
  refine (fine_any _ ⟨up, tag, idn, cls, ats⟩ _ hfx (NdV.on HX.out hB)).mono ?_
  rintro e w2 ⟨rfl, h1⟩
  replace c0 := cell_on h1 c0
  replace x0 := cell_on h1 x0
  replace x1 := cell_on h1 x1
  replace x2 := cell_on h1 x2
  replace x3 := cell_on h1 x3
  replace x4 := cell_on h1 x4
  replace c2 := cell_on h1 c2
  replace f2 : w2.frozen? ⟨w.heap.size + 1 + 1, 0, none⟩ = false := by rw [h1.frozen (by simp; omega)]; exact f2
  replace hB := below_trans hB h1
  replace hsz : w.heap.size + 3 ≤ w2.heap.size := Nat.le_trans hsz h1.size
  clear h1
  cases hr : Pl.right ⟨up, tag, idn, cls, ats⟩ with
  | false =>
    have HE : Hid (putErr ns n ⟨up, tag, idn, cls, ats⟩ = 1) := by unfold Hid putErr; rw [if_pos hz0, if_neg (by rw [hr]; simp)]
    have HP : Hid (putOf ns n ⟨up, tag, idn, cls, ats⟩ = []) := by unfold Hid putOf; rw [if_neg (by rw [HE.out]; omega)]
    go_wp2
    have q := World.cell?_setCell_same w2 ⟨w.heap.size + 1 + 1, 0, none⟩ (.slice none 0 0) c2
    exact bodyPost_ret (v := .tuple #[.agg #[.slice none 0 0], .int .i64 1]) (by simp [results, Tryz.results13, go_sem, q]) rfl
      ⟨_, by rw [HE.out], by rw [HP.out]; exact DocAt.nil _, hB.setCell (p := ⟨w.heap.size + 1 + 1, 0, none⟩) (by simp; omega) _⟩
  | true =>
  have HE : Hid (putErr ns n ⟨up, tag, idn, cls, ats⟩ = 0) := by unfold Hid putErr; rw [if_pos hz0, if_pos hr]
  have HP : Hid (putOf ns n ⟨up, tag, idn, cls, ats⟩ = (ns.map (Pl.mvd id)).set n.toNat ⟨Pl.upOf ns n.toNat, tag, idn, cls, ats⟩) := by unfold Hid putOf; rw [if_pos HE.out]
  obtain ⟨L1, L2⟩ := right_short hr
  dsimp only at L1 L2
  obtain ⟨hk0, k, rfl, hk⟩ := checkAt_zero hz0
  obtain ⟨hl1, hl64, _⟩ := check_zero hk0
  have HS : Hid _ := check_short hk0
  rcases HC.out with hc | ⟨b, o, rfl, hc⟩
  · subst hc; simp at hl1
  clear HC
  have HC : Hid _ := hc
  clear hc hk0 hr
  have HC2 : Hid (∀ W, Below w2.heap.size w2 W → ∀ i (h : i < ns.length), NdAt W b (o + i * 5) ns[i]) := fun W hW i hi => ((HC.out i hi).on hB).on hW
  go_wp2_with fail
  refine (refOwn_some b o cap ns w2 hl64 HS.out (HC2.out _ (Below.refl _ _))).mono ?_
  rintro e w3 ⟨v3, rfl, hrow, hb3⟩
  obtain ⟨g, cap3, rfl, hgB⟩ : ∃ g cap3, v3 = .slice (some ⟨g, 0, none⟩) ns.length cap3 ∧ w2.heap.size ≤ g := by
    obtain ⟨xs, ho, _⟩ := hrow
    obtain ⟨g, c, rfl, h1, _⟩ := ho.form (by omega)
    exact ⟨g, c, rfl, h1⟩
  have fg0 : ∀ i, w3.frozen? ⟨g, i, none⟩ = false := by
    obtain ⟨xs, ho, _⟩ := hrow
    intro i
    rcases ho.2 with ⟨h0, _⟩ | ⟨g', c', cur, h0, _, hh, _⟩
    · cases h0
    · injection h0 with h0 _ _
      injection h0 with h0
      injection h0 with h0
      subst h0
      simp [World.frozen?, hh]
  have hglt0 : g < w3.heap.size := by
    obtain ⟨xs, ho, _⟩ := hrow
    exact (World.ownsRow.lt ho g rfl).2
  have hb4 : Below w2.heap.size w2 (w3.alloc (.cells #[.slice (some ⟨g, 0, none⟩) ns.length cap3] 24)) := below_trans hb3 (on_alloc _ _)
  have p9 : (w3.alloc (.cells #[.slice (some ⟨g, 0, none⟩) ns.length cap3] 24)).cell? ⟨w3.heap.size, 0, none⟩ = some (.slice (some ⟨g, 0, none⟩) ns.length cap3) := by simp [go_sem]
  have fg : ∀ i, (w3.alloc (.cells #[.slice (some ⟨g, 0, none⟩) ns.length cap3] 24)).frozen? ⟨g, i, none⟩ = false := fun i => by rw [(on_alloc _ _).frozen hglt0]; exact fg0 i
  have hglt : g < (w3.alloc (.cells #[.slice (some ⟨g, 0, none⟩) ns.length cap3] 24)).heap.size := by simp; omega
  have hgM : w3.heap.size ≠ g := by omega
  have HR0 : Hid (Row w2.heap.size (w3.alloc (.cells #[.slice (some ⟨g, 0, none⟩) ns.length cap3] 24)) (.slice (some ⟨g, 0, none⟩) ns.length cap3) ns) := hrow.on (on_alloc _ _)
  replace c0 := cell_on hb4 c0
  replace x0 := cell_on hb4 x0
  replace x1 := cell_on hb4 x1
  replace x2 := cell_on hb4 x2
  replace x3 := cell_on hb4 x3
  replace x4 := cell_on hb4 x4
  replace c2 := cell_on hb4 c2
  replace f2 : (w3.alloc (.cells #[.slice (some ⟨g, 0, none⟩) ns.length cap3] 24)).frozen? ⟨w.heap.size + 1 + 1, 0, none⟩ = false := by rw [hb4.frozen (by simp; omega)]; exact f2
  have HB3 : Hid (Below w.heap.size w (w3.alloc (.cells #[.slice (some ⟨g, 0, none⟩) ns.length cap3] 24))) := below_trans hB hb4
  have hM9 : w.heap.size + 3 ≤ w3.heap.size := Nat.le_trans hsz hb3.size
  have upc : (w3.alloc (.cells #[.slice (some ⟨g, 0, none⟩) ns.length cap3] 24)).cell? ⟨g, k * 5, none⟩ = some (.int .i64 (Pl.upOf ns k)) := by
    obtain ⟨_, _, e, hh⟩ := HR0.out.nds
    injection e with e1 e2 e3
    rcases hh with h0 | ⟨b', o', hbo, hh⟩
    · subst h0; simp at hk
    · subst e1
      injection hbo with hbo
      injection hbo with hb1 hb2
      subst hb1 hb2
      have := up_cell hh k hk
      simpa using this
  have i1 : (0 : Int) ≤ (k : Int) := by omega
  have i2 : (k : Int) < (ns.length : Int) := by omega
  clear hrow hb3 hb4 hB fg0 hglt0
  have HF : Hid (∀ i, (w3.alloc (.cells #[.slice (some ⟨g, 0, none⟩) ns.length cap3] 24)).frozen? ⟨g, i, none⟩ = false) := fg
  clear fg
  go_wp2_with fail
  generalize hM : w3.heap.size = M at *
  generalize w3.alloc (.cells #[.slice (some ⟨g, 0, none⟩) ns.length cap3] 24) = w6 at *
  clear hM
  have S0 : w6.drew.cell? ⟨w.heap.size, 0, none⟩ = some (.slice (some ⟨b, o, none⟩) ns.length cap) ∧ w6.drew.cell? ⟨w.heap.size + 1, 0, none⟩ = some (.int .i64 up) ∧ w6.drew.cell? ⟨w.heap.size + 1, 1, none⟩ = some (.string ⟨tag.toArray⟩) ∧ w6.drew.cell? ⟨w.heap.size + 1, 2, none⟩ = some (.string ⟨idn.toArray⟩) ∧ w6.drew.cell? ⟨w.heap.size + 1, 3, none⟩ = some (.slice ac cls.length cc) ∧ w6.drew.cell? ⟨w.heap.size + 1, 4, none⟩ = some (.slice aa ats.length ca) ∧ w6.drew.cell? ⟨M, 0, none⟩ = some (.slice (some ⟨g, 0, none⟩) ns.length cap3) := ⟨c0, x0, x1, x2, x3, x4, p9⟩
  have hne : w.heap.size ≠ g ∧ w.heap.size + 1 ≠ g ∧ w.heap.size + 1 ≠ g ∧ w.heap.size + 1 ≠ g ∧ w.heap.size + 1 ≠ g ∧ w.heap.size + 1 ≠ g ∧ M ≠ g := ⟨by omega, by omega, by omega, by omega, by omega, by omega, hgM⟩
  have HR : Hid (Row w2.heap.size w6.drew (.slice (some ⟨g, 0, none⟩) ns.length cap3) ns) := Row.on HR0.out (Below.refl _ _).drew
  have NV : Hid (NdV w6.drew (.agg #[.int .i64 up, .string ⟨tag.toArray⟩, .string ⟨idn.toArray⟩, .slice ac cls.length cc, .slice aa ats.length ca]) ⟨up, tag, idn, cls, ats⟩) := NdV.on HX.out HB3.out.drew
  have FG : Hid (∀ i, w6.drew.frozen? ⟨g, i, none⟩ = false) := HF.out
  have HB6 : Hid (Below w.heap.size w w6.drew) := HB3.out.drew
  replace hglt : g < w6.drew.heap.size := hglt
  clear x0 x1 x2 x3 x4 c0 p9 HR0 HF HB3 upc
  go_region_held3 (fun w' => w'.cell? ⟨w.heap.size, 0, none⟩ = some (.slice (some ⟨b, o, none⟩) ns.length cap) ∧ w'.cell? ⟨w.heap.size + 1, 0, none⟩ = some (.int .i64 up) ∧ w'.cell? ⟨w.heap.size + 1, 1, none⟩ = some (.string ⟨tag.toArray⟩) ∧ w'.cell? ⟨w.heap.size + 1, 2, none⟩ = some (.string ⟨idn.toArray⟩) ∧ w'.cell? ⟨w.heap.size + 1, 3, none⟩ = some (.slice ac cls.length cc) ∧ w'.cell? ⟨w.heap.size + 1, 4, none⟩ = some (.slice aa ats.length ca) ∧ w'.cell? ⟨M, 0, none⟩ = some (.slice (some ⟨g, 0, none⟩) ns.length cap3))
    (first | with_reducible assumption | exact seven_on (by with_reducible assumption) (by with_reducible assumption) | (refine seven_put (W := w4) (g := g) (k := k) ?_ hne; with_reducible assumption))
    (first | (go_at_call 38; refine (own_any _ ⟨up, tag, idn, cls, ats⟩ _ L1 L2 NV.out).mono ?_; rintro e w4 ⟨nv, rfl, ⟨vc, va, rfl, hs, ha⟩, hb⟩; obtain ⟨a1, c1, rfl, _⟩ := id hs; obtain ⟨a2, c3, rfl, _⟩ := id ha; have fg4 : ∀ i, w4.frozen? ⟨g, i, none⟩ = false := fun i => (by rw [hb.frozen hglt]; exact FG.out i); obtain ⟨⟨k0, r0⟩, ⟨k1, r1⟩, ⟨k2, r2⟩, ⟨k3, r3⟩, ⟨k4, r4⟩⟩ := put_cells HR.out hb hk))
  have e4 : w4.cell? ⟨w.heap.size + 1 + 1, 0, none⟩ = some (.slice none 0 0) := cell_on hb c2
  have f4 : w4.frozen? ⟨w.heap.size + 1 + 1, 0, none⟩ = false := by rw [hb.frozen (cell_lt c2)]; exact f2
  have p4 : w4.cell? ⟨M, 0, none⟩ = some (.slice (some ⟨g, 0, none⟩) ns.length cap3) := cell_on hb S0.2.2.2.2.2.2
  have HN : Hid (NdsAt (((wput w4 g k (.int .i64 up) (.string ⟨tag.toArray⟩) (.string ⟨idn.toArray⟩) (.slice a1 cls.length c1) (.slice a2 ats.length c3)).setCell ⟨g, k * 5, none⟩ (.int .i64 (Pl.upOf ns k))).setCell ⟨w.heap.size + 1 + 1, 0, none⟩ (.slice (some ⟨g, 0, none⟩) ns.length cap3)) (.slice (some ⟨g, 0, none⟩) ns.length cap3) (ns.set k ⟨Pl.upOf ns k, tag, idn, cls, ats⟩)) :=
    Row.put2 (x := ⟨Pl.upOf ns k, tag, idn, cls, ats⟩) (z := .int .i64 up) HR.out hb hk hs ha (by omega) e4 (by simp)
  have HB5 : Hid (Below w.heap.size w ((wput w4 g k (.int .i64 up) (.string ⟨tag.toArray⟩) (.string ⟨idn.toArray⟩) (.slice a1 cls.length c1) (.slice a2 ats.length c3)).setCell ⟨g, k * 5, none⟩ (.int .i64 (Pl.upOf ns k)))) := by
    have h0 := below_trans HB6.out hb
    unfold wput
    exact (((((h0.setCell (p := ⟨g, k * 5, none⟩) (by simp; omega) _).setCell (p := ⟨g, k * 5 + 1, none⟩) (by simp; omega) _).setCell (p := ⟨g, k * 5 + 2, none⟩) (by simp; omega) _).setCell (p := ⟨g, k * 5 + 3, none⟩) (by simp; omega) _).setCell (p := ⟨g, k * 5 + 4, none⟩) (by simp; omega) _).setCell (p := ⟨g, k * 5, none⟩) (by simp; omega) _
  have p5 : (wput w4 g k (.int .i64 up) (.string ⟨tag.toArray⟩) (.string ⟨idn.toArray⟩) (.slice a1 cls.length c1) (.slice a2 ats.length c3)).cell? ⟨M, 0, none⟩ = some (.slice (some ⟨g, 0, none⟩) ns.length cap3) := wput_out (Or.inl hgM) p4
  have g5 : (wput w4 g k (.int .i64 up) (.string ⟨tag.toArray⟩) (.string ⟨idn.toArray⟩) (.slice a1 cls.length c1) (.slice a2 ats.length c3)).cell? ⟨g, k * 5, none⟩ = some (.int .i64 up) := (wput_in r0 r1 r2 r3 r4).1
  have fg5 : (wput w4 g k (.int .i64 up) (.string ⟨tag.toArray⟩) (.string ⟨idn.toArray⟩) (.slice a1 cls.length c1) (.slice a2 ats.length c3)).frozen? ⟨g, k * 5, none⟩ = false := by unfold wput; simp [go_sem, fg4]
  have p6 : ((wput w4 g k (.int .i64 up) (.string ⟨tag.toArray⟩) (.string ⟨idn.toArray⟩) (.slice a1 cls.length c1) (.slice a2 ats.length c3)).setCell ⟨g, k * 5, none⟩ (.int .i64 (Pl.upOf ns k))).cell? ⟨M, 0, none⟩ = some (.slice (some ⟨g, 0, none⟩) ns.length cap3) := wput2_out (z := .int .i64 up) (Or.inl hgM) p4
  have e6 : ((wput w4 g k (.int .i64 up) (.string ⟨tag.toArray⟩) (.string ⟨idn.toArray⟩) (.slice a1 cls.length c1) (.slice a2 ats.length c3)).setCell ⟨g, k * 5, none⟩ (.int .i64 (Pl.upOf ns k))).cell? ⟨w.heap.size + 1 + 1, 0, none⟩ = some (.slice none 0 0) := wput2_out (z := .int .i64 up) (Or.inl (by simp; omega)) e4
  have f6 : ((wput w4 g k (.int .i64 up) (.string ⟨tag.toArray⟩) (.string ⟨idn.toArray⟩) (.slice a1 cls.length c1) (.slice a2 ats.length c3)).setCell ⟨g, k * 5, none⟩ (.int .i64 (Pl.upOf ns k))).frozen? ⟨w.heap.size + 1 + 1, 0, none⟩ = false := by unfold wput; simp [go_sem, f4]
  change Exit.then _ _ Exit.normal _ (wput w4 g k (.int .i64 up) (.string ⟨tag.toArray⟩) (.string ⟨idn.toArray⟩) (.slice a1 cls.length c1) (.slice a2 ats.length c3))
  clear S0 NV hs ha hb fg4 r0 r1 r2 r3 r4 e4 f4 c2 f2 p4
  rename_i hHeld
  clear hHeld
  generalize wput w4 g k (.int .i64 up) (.string ⟨tag.toArray⟩) (.string ⟨idn.toArray⟩) (.slice a1 cls.length c1) (.slice a2 ats.length c3) = w5 at *
  go_wp2
  have q := World.cell?_setCell_same (w5.setCell ⟨g, k * 5, none⟩ (.int .i64 (Pl.upOf ns k))) ⟨w.heap.size + 1 + 1, 0, none⟩ (.slice (some ⟨g, 0, none⟩) ns.length cap3) e6
  refine bodyPost_ret (v := .tuple #[.agg #[.slice (some ⟨g, 0, none⟩) ns.length cap3], .int .i64 0]) (by simp [results, Tryz.results13, go_sem, q]) rfl
    ⟨_, by rw [HE.out], ?_, HB5.out.setCell (p := ⟨w.heap.size + 1 + 1, 0, none⟩) (by simp; omega) _⟩
  have hmi : ns.map (Pl.mvd id) = ns := Pl.map_mvd_id ns
  rw [HP.out, hmi]
  have hcp := Row.cap HR.out
  refine ⟨HN.out, hcp, by rw [List.length_set]; unfold maxLen; omega, fun i hi => ?_⟩
  have hmem : ∀ y ∈ ns.set k ⟨Pl.upOf ns k, tag, idn, cls, ats⟩, y.cls.length ≤ 6 ∧ y.ats.length ≤ 4 := by
    intro y hy
    rcases List.mem_or_eq_of_mem_set hy with h | h
    · exact HS.out y h
    · subst h; exact ⟨L1, L2⟩
  have := hmem _ (List.getElem_mem hi)
  exact ⟨by unfold maxLen; omega, by unfold maxLen; omega⟩
end Go.Proofs.YtbpgcfabepioiaaGreat
