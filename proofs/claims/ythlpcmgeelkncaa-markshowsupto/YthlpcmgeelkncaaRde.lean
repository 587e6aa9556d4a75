/-
  The strict reader of texts: an element with all below it.
-/
import Derived.Test.YthlpcmgeelkncaaRdn
import Derived.Test.YthlpcmgeelkncaaRdm
namespace Go.Proofs.Ythlpcmgeelkncaa
open Go.RowKit

/-- below B all but b is as it was -/
structure Fr (B b : Nat) (w w' : World) : Prop where
  os : w'.os = w.os
  tape : w'.tape = w.tape
  output : w'.output = w.output
  size : w.heap.size ≤ w'.heap.size
  block : ∀ k, k < B → k ≠ b → w'.heap[k]? = w.heap[k]?
theorem Fr.refl (B b : Nat) (w : World) : Fr B b w w := ⟨rfl, rfl, rfl, Nat.le_refl _, fun _ _ _ => rfl⟩
theorem Fr.trans {B b : Nat} {x y z : World} (h : Fr B b x y) (k : Fr B b y z) : Fr B b x z := ⟨k.os.trans h.os, k.tape.trans h.tape, k.output.trans h.output, Nat.le_trans h.size k.size, fun j hj hn => (k.block j hj hn).trans (h.block j hj hn)⟩
theorem Fr.gb {B b : Nat} {w w' : World} (hB : B ≤ w.heap.size) (h : w.grownBy w' (some b)) : Fr B b w w' := ⟨h.os, h.tape, h.output, h.size, fun k hk hn => h.block k (Nat.lt_of_lt_of_le hk hB) (by intro e; injection e with e; exact hn e)⟩
theorem Fr.on {B b : Nat} {w w' : World} (hB : B ≤ w.heap.size) (h : Below w.heap.size w w') : Fr B b w w' := ⟨h.os, h.tape, h.output, h.size, fun k hk _ => h.block k (Nat.lt_of_lt_of_le hk hB)⟩
theorem Fr.row {B b : Nat} {w w' : World} {g : Option Nat} (hB : B ≤ w.heap.size) (h : w.grownBy w' g) (hg : ∀ k, g = some k → B ≤ k) : Fr B b w w' := ⟨h.os, h.tape, h.output, h.size, fun k hk _ => h.block k (Nat.lt_of_lt_of_le hk hB) (fun e => by have := hg k e.symm; omega)⟩
def lenOf : Value → Nat
  | .slice _ n _ => n
  | _ => 0
theorem wp_rdKids (f : Nat) (ns : List Pl.Nd) (n : Int) (l : List UInt8) : Pl.rdKids (f + 1) ns n l = match Pl.rdEl f ns n l with
    | none => none
    | some (ns1, l1) => match Pl.need 41 l1 with
      | some l2 => some (ns1, l2)
      | none => match Pl.need 32 l1 with
        | none => none
        | some l2 => Pl.rdKids f ns1 n l2 := by
  conv => lhs; unfold Pl.rdKids
  rfl
/-- what reading an element with all below it tells -/
def ElSays (B b f : Nat) (ns : List Pl.Nd) (up : Int) (l : List UInt8) (w : World) (e : Ending) (w' : World) : Prop :=
  (Pl.rdEl f ns up l = none ∧ e = .panicked Left ∧ Fr B b w w') ∨ (∃ ns' r v', Pl.rdEl f ns up l = some (ns', r) ∧ e = .returned v' ∧ NRow B w' v' ns' ∧ RdAt b r w' ∧ Fr B b w w')
theorem rdEl_kids {f : Nat} {ns : List Pl.Nd} {up : Int} {l l1 l2 : List UInt8} {x : Pl.Nd} (he : ¬ ns.length = 64) (hn : Pl.rdNode up l = some (x, l1)) (h40 : Pl.need 40 l1 = some l2) : Pl.rdEl (f + 1) ns up l = Pl.rdKids f (ns ++ [x]) ns.length l2 := by
  conv => lhs; unfold Pl.rdEl
  rw [if_neg he, hn]
  simp only
  rw [h40]
set_option maxRecDepth 100000 in
set_option maxHeartbeats 4000000 in
theorem element_any (B b : Nat) (hbB : b < B) : ∀ (F f : Nat) (ns : List Pl.Nd) (v : Value) (up : Int) (l : List UInt8) (w : World), f ≤ F → ns.length ≤ 64 → 2 * (64 - ns.length) + 1 ≤ f → NRow B w v ns → B ≤ w.heap.size → RdAt b l w → l.length ≤ maxLen →
    Calls Try.prog 80 #[.pointer (some ⟨b, 0, none⟩), v, .int .i64 up] w (ElSays B b f ns up l w) := by
  intro F
  induction F with
  | zero => intro f ns v up l w h1 h2 h3; omega
  | succ F ih =>
    intro f ns v up l w hf h64 hfu hrow hBw hr hl
    obtain ⟨f, rfl⟩ : ∃ f', f = f' + 1 := ⟨f - 1, by omega⟩
    obtain ⟨a, cap, rfl⟩ := hrow.form
    have HIH : Hid _ := ih
    have HRow : Hid (NRow _ _ _ _) := hrow
    have hlt := hrow.lt
    clear ih hrow
    by_cases he : ns.length = 64
    · have HE : Hid (Pl.rdEl (f + 1) ns up l = none) := by unfold Hid Pl.rdEl; rw [if_pos he]
      have hi : ((ns.length : Int) == 64) = true := by simp; omega
      clear he
      go_enter Try.func80, Try.ntmps80
      go_wp2_with (go_at_call 79; refine (refuse_any _).mono ?_; rintro e w' ⟨rfl, rfl⟩)
      exact ⟨rfl, Or.inl ⟨HE.out, rfl, Fr.refl _ _ _⟩⟩
    · have hi : ((ns.length : Int) == 64) = false := by simp; omega
      go_enter Try.func80, Try.ntmps80
      go_wp2_with fail
      refine (node_any b up l _ hr hl).mono ?_
      rintro e w1 (⟨hn, rfl, g1⟩ | ⟨x, l1, vx, hn, rfl, hnd, r1, g1⟩)
      · have G1 : Hid (Fr _ _ _ _) := Fr.gb (B := B) hBw g1
        go_wp2
        exact ⟨rfl, Or.inl ⟨by unfold Pl.rdEl; rw [if_neg he, hn], rfl, G1.out⟩⟩
      obtain ⟨vc, va, rfl, hvc, hva⟩ := hnd
      have hsd := (Pl.rdNode_sound _ _ _ _ hn).1
      have hl1 : l1.length ≤ maxLen := by
        rw [hsd] at hl
        simp only [List.length_append] at hl
        omega
      have hP : Mv (fun j => w.heap.size ≤ j) w1 (fun j => B ≤ j ∧ some j ≠ (Value.slice a ns.length cap).ownBlock) w1 := fun j hj _ => ⟨⟨Nat.le_trans hBw hj, fun e => by have := hlt j e.symm; omega⟩, rfl⟩
      have HVC : Hid (StrsP _ _ _ _) := (StrsP.from hvc).to hP
      have HVA : Hid (AtsP _ _ _ _) := (AtsP.from hva).to hP
      obtain ⟨a1, c1, rfl, _⟩ := hvc
      obtain ⟨a2, c2, rfl, _⟩ := hva
      have HR1 : Hid (NRow _ _ _ _) := NRow.gb HRow.out g1 hbB
      have hB1 : B ≤ w1.heap.size := Nat.le_trans hBw g1.size
      have F1 := Fr.gb (B := B) hBw g1
      have HN : Hid _ := hn
      clear hn hP hsd g1 HRow
      go_wp2_with (at_builtin; refine Hid.out ?_)
      unfold Hid
      refine wpList_nadd (B := B) (w2 := w1) (v := .slice a ns.length cap) (ns := ns) (x := x) ?_ (.tmp 14) (.tmp 18) ?_ ?_ ?_ HR1.out (by omega) hB1 HVC.out HVA.out ?_
      · rfl
      · rfl
      · rfl
      · rfl
      intro g cap3 w3 hrow3 hgr
      have r3 := rd_grown (r1.on (on_alloc w1 (.cells #[.int .i64 x.up, .string ⟨x.tag.toArray⟩, .string ⟨x.id.toArray⟩, .slice a1 x.cls.length c1, .slice a2 x.ats.length c2] 47))) hgr (fun e => by have := hlt b e.symm; omega)
      have F3 : Fr B b w w3 := (F1.trans (Fr.on hB1 (on_alloc w1 (.cells #[.int .i64 x.up, .string ⟨x.tag.toArray⟩, .string ⟨x.id.toArray⟩, .slice a1 x.cls.length c1, .slice a2 x.ats.length c2] 47)))).trans (Fr.row (by simp; omega) hgr (fun k hk => (hlt k hk).1))
      have hB3 : B ≤ w3.heap.size := Nat.le_trans hBw F3.size
      have HR3 : Hid (NRow _ _ _ _) := hrow3
      clear hgr hrow3 HVC HVA HR1 r1 F1 hB1
      have hlx : (ns ++ [x]).length = ns.length + 1 := by simp
      go_wp2_with fail
      rcases h40 : Pl.need 40 l1 with _ | l2
      · have HE : Hid (Pl.rdEl (f + 1) ns up l = some (ns ++ [x], l1)) := by unfold Hid Pl.rdEl; rw [if_neg he, HN.out]; simp only; rw [h40]
        refine (take_no b l1 40 _ r3 h40).mono ?_
        rintro e w4 ⟨rfl, r4, g4⟩
        have HR4 : Hid (NRow _ _ _ _) := NRow.gb HR3.out g4 hbB
        have F4 : Hid (Fr _ _ _ _) := F3.trans (Fr.gb hB3 g4)
        clear g4
        go_wp2
        go_ret
        exact Or.inr ⟨_, _, _, HE.out, rfl, HR4.out, r4, F4.out⟩
      · have HE : Hid (Pl.rdEl (f + 1) ns up l = Pl.rdKids f (ns ++ [x]) ns.length l2) := rdEl_kids he HN.out h40
        refine (take_yes b l1 l2 40 _ r3 h40).mono ?_
        rintro e w4 ⟨rfl, r4, g4⟩
        have HR4 : Hid (NRow _ _ _ _) := NRow.gb HR3.out g4 hbB
        have F4 : Hid (Fr _ _ _ _) := F3.trans (Fr.gb hB3 g4)
        have R4 : Hid (RdAt _ _ _) := r4
        have hB4 : B ≤ w4.heap.size := Nat.le_trans hB3 g4.size
        have hl2 := Nat.le_trans (need_len h40) hl1
        clear g4 r4 r3 HR3 F3 h40
        go_wp2_with fail
        go_loopw [1] (fun u wr => ∃ (fj : Nat) (nsj : List Pl.Nd) (tj : List UInt8), 2 * (64 - nsj.length) + 2 ≤ fj ∧ fj ≤ f ∧ nsj.length ≤ 64 ∧ Hid (Pl.rdEl (f + 1) ns up l = Pl.rdKids fj nsj ns.length tj) ∧ Hid (NRow B wr u nsj) ∧ Hid (RdAt b tj wr) ∧ Hid (Fr B b w wr) ∧ tj.length ≤ maxLen ∧ B ≤ wr.heap.size) (fun u _ => 65 - lenOf u)
        case atStart => exact ⟨f, ns ++ [x], l2, by rw [hlx]; omega, Nat.le_refl _, by rw [hlx]; omega, HE, HR4, R4, F4, hl2, hB4⟩
        case round =>
          obtain ⟨fj, nsj, tj, hj1, hj2, hj3, hjE, hjR, hjr, hjF, hjl, hjB⟩ := hrel
          obtain ⟨g, rfl⟩ : ∃ g, fj = g + 1 := ⟨fj - 1, by omega⟩
          obtain ⟨aj, cj, rfl⟩ := NRow.form hjR.out
          have hjE2 := hjE.out
          rw [wp_rdKids] at hjE2
          have HJ : Hid _ := hjE2
          clear hjE hjE2
          go_wp2_with fail
          refine (HIH.out g nsj _ ns.length tj _ (by omega) hj3 (by omega) hjR.out hjB hjr.out hjl).mono ?_
          rintro e w5 (⟨h5, rfl, f5⟩ | ⟨ns1, t1, v1, h5, rfl, row5, r5, f5⟩)
          · have F5 : Hid (Fr _ _ _ _) := hjF.out.trans f5
            go_wp2
            exact ⟨rfl, Or.inl ⟨by rw [HJ.out, h5], rfl, F5.out⟩⟩
          obtain ⟨m1, m2⟩ := Pl.rdEl_more h5
          have m3 := ((Pl.rd_props g).1 _ _ _ _ _ h5 hj3).1
          have hB5 : B ≤ w5.heap.size := Nat.le_trans hjB f5.size
          have F5 : Hid (Fr _ _ _ _) := hjF.out.trans f5
          have hl5 := Nat.le_trans m2 hjl
          obtain ⟨a5, c5, rfl⟩ := row5.form
          have HR5 : Hid (NRow _ _ _ _) := row5
          clear row5 f5 hjR hjr hjF
          go_wp2_with fail
          rcases h41 : Pl.need 41 t1 with _ | t2
          · refine (take_no b t1 41 _ r5 h41).mono ?_
            rintro e w6 ⟨rfl, r6, g6⟩
            have HR6 : Hid (NRow _ _ _ _) := NRow.gb HR5.out g6 hbB
            have F6 : Hid (Fr _ _ _ _) := F5.out.trans (Fr.gb hB5 g6)
            have hB6 : B ≤ w6.heap.size := Nat.le_trans hB5 g6.size
            clear g6 HR5 F5
            go_wp2_with fail
            rcases h32 : Pl.need 32 t1 with _ | t2
            · refine (need_no b t1 32 _ r6 h32).mono ?_
              rintro e w7 ⟨rfl, g7⟩
              have F7 : Hid (Fr _ _ _ _) := F6.out.trans (Fr.gb hB6 g7)
              go_wp2
              exact ⟨rfl, Or.inl ⟨by rw [HJ.out, h5]; simp only; rw [h41]; simp only; rw [h32], rfl, F7.out⟩⟩
            · have HE7 : Hid (Pl.rdEl (f + 1) ns up l = Pl.rdKids g ns1 ns.length t2) := by unfold Hid; rw [HJ.out, h5]; simp only; rw [h41]; simp only; rw [h32]
              refine (need_yes b t1 t2 32 _ r6 h32).mono ?_
              rintro e w7 ⟨rfl, r7, g7⟩
              have F7 : Hid (Fr _ _ _ _) := F6.out.trans (Fr.gb hB6 g7)
              have HR7 : Hid (NRow _ _ _ _) := NRow.gb HR6.out g7 hbB
              have R7 : Hid (RdAt _ _ _) := r7
              have hB7 : B ≤ w7.heap.size := Nat.le_trans hB6 g7.size
              have hl7 := Nat.le_trans (need_len h32) hl5
              clear g7 r7 r6 HR6 F6
              go_wp2
              exact ⟨⟨g, ns1, t2, by omega, by omega, m3, HE7, HR7, R7, F7, hl7, hB7⟩, by simp only [lenOf]; omega⟩
          · have HE7 : Hid (Pl.rdEl (f + 1) ns up l = some (ns1, t2)) := by unfold Hid; rw [HJ.out, h5]; simp only; rw [h41]
            refine (take_yes b t1 t2 41 _ r5 h41).mono ?_
            rintro e w6 ⟨rfl, r6, g6⟩
            have HR6 : Hid (NRow _ _ _ _) := NRow.gb HR5.out g6 hbB
            have F6 : Hid (Fr _ _ _ _) := F5.out.trans (Fr.gb hB5 g6)
            clear g6 HR5 F5
            go_wp2
            go_ret
            exact Or.inr ⟨_, _, _, HE7.out, rfl, HR6.out, r6, F6.out⟩
end Go.Proofs.Ythlpcmgeelkncaa
