/-
  mark.Read: what its rule refuses is recovered, and told as an error.
-/
import Derived.Test.YthlpcmgeelkncaaRde
import Derived.Test.YthlpcmgeelkncaaFar
import Derived.Test.YthlpcmgeelkncaaForW
import Derived.Test.YthlpcmgeelkncaaBox
import Derived.Defers
import Derived.Recover
namespace Go.Proofs.Ythlpcmgeelkncaa
open Go.RowKit

namespace Pl
/-- an element with all below it, as a right document; what stands behind it -/
def rdDoc (l : List UInt8) : Option (List Nd × List UInt8) :=
  match rdEl 130 [] (-1) l with
  | none => none
  | some (ns, r) => if checkDoc ns = 0 then some (ns, r) else none
theorem readDoc_eq (l : List UInt8) : readDoc l = match rdDoc l with | some (ns, []) => some ns | _ => none := by
  unfold readDoc rdDoc
  cases rdEl 130 [] (-1) l with
  | none => rfl
  | some p =>
    obtain ⟨ns, r⟩ := p
    simp only
    by_cases h : checkDoc ns = 0
    · rw [if_pos h]
      cases r with
      | nil => simp only; rw [if_pos h]
      | cons c t => rfl
    · rw [if_neg h]
      cases r with
      | nil => simp only; rw [if_neg h]
      | cons c t => rfl
end Pl
def DocSays (b : Nat) (l : List UInt8) (w : World) (e : Ending) (w' : World) : Prop :=
  (Pl.rdDoc l = none ∧ e = .panicked Left ∧ w.grownBy w' (some b)) ∨ (∃ ns r v', Pl.rdDoc l = some (ns, r) ∧ e = .returned (.agg #[v']) ∧ Row w.heap.size w' v' ns ∧ RdAt b r w' ∧ w.grownBy w' (some b))
theorem Row.down {B B' : Nat} {w : World} {v : Value} {ns : List Pl.Nd} (h : Row B w v ns) (hB : B' ≤ B) : Row B' w v ns := by
  obtain ⟨xs, ho, hc⟩ := h
  refine ⟨xs, ⟨ho.1, ?_⟩, hc⟩
  rcases ho.2 with h1 | ⟨g, cap, cur, e1, e2, e3⟩
  · exact Or.inl h1
  · exact Or.inr ⟨g, cap, cur, e1, Nat.le_trans hB e2, e3⟩
theorem gb_fr {w w0 w1 : World} {b : Nat} (h0 : Below w.heap.size w w0) (h : Fr (w.heap.size + 1) b w0 w1) : w.grownBy w1 (some b) :=
  ⟨h.os.trans h0.os, h.tape.trans h0.tape, h.output.trans h0.output, Nat.le_trans h0.size h.size, fun k hk hn => (h.block k (by omega) (fun e => hn (by rw [e]))).trans (h0.block k hk)⟩
set_option maxRecDepth 100000 in
set_option maxHeartbeats 1000000 in
theorem readDoc_any (b : Nat) (l : List UInt8) (w : World) (h : RdAt b l w) (hl : l.length ≤ maxLen) :
    Calls Try.prog 64 #[.pointer (some ⟨b, 0, none⟩)] w (DocSays b l w) := by
  have hb := h.facts.2.2
  have hA := on_alloc w (.cells #[.slice none 0 0] 24)
  have h0 := h.on hA
  have hz0 : (w.alloc (.cells #[.slice none 0 0] 24)).heap.size = w.heap.size + 1 := by simp
  have x0 : (w.alloc (.cells #[.slice none 0 0] 24)).heap[w.heap.size]? = some (.cells #[.slice none 0 0] 24) := heap_alloc_new w _
  go_enter Try.func64, Try.ntmps64
  go_wp2_with fail
  generalize w.alloc (.cells #[.slice none 0 0] 24) = w0 at *
  refine (element_any (w.heap.size + 1) b (by omega) 130 130 [] (.slice none 0 0) (-1) l w0 (Nat.le_refl _) (by simp) (by simp) (NRow.nil _ _) (by omega) h0 hl).mono ?_
  rintro e w1 (⟨hn, rfl, f1⟩ | ⟨ns, r, v1, hn, rfl, row1, r1, f1⟩)
  · have G1 : Hid (w.grownBy w1 (some b)) := gb_fr hA f1
    go_wp2
    exact ⟨rfl, Or.inl ⟨by unfold Pl.rdDoc; rw [hn], rfl, G1.out⟩⟩
  obtain ⟨a1, c1, rfl⟩ := row1.form
  obtain ⟨p1, p2⟩ := (Pl.rd_props 130).1 _ _ _ _ _ hn (by simp)
  have hfew := p2 (fun x hx => by simp at hx)
  have D1 := (NRow.row row1).doc p1 hfew
  have W1 := (NRow.row row1).on (on_alloc w1 (.cells #[.slice a1 ns.length c1] 24))
  have G1 : w.grownBy w1 (some b) := gb_fr hA f1
  have X1 : w1.heap[w.heap.size]? = some (.cells #[.slice none 0 0] 24) := (f1.block _ (by omega) (by omega)).trans x0
  have hs1 : w.heap.size + 1 ≤ w1.heap.size := by have := f1.size; omega
  have hA1 := on_alloc w1 (.cells #[.slice a1 ns.length c1] 24)
  have D2 := DocAt.on D1 hA1
  have HD2 : Hid (DocAt _ _ _) := D2
  have HW2 : Hid (Row _ _ _ _) := W1
  have G2 := gb_on G1 hA1
  have R2 := r1.on hA1
  have X2 : (w1.alloc (.cells #[.slice a1 ns.length c1] 24)).heap[w.heap.size]? = some (.cells #[.slice none 0 0] 24) := (hA1.block _ (by omega)).trans X1
  have q2 : (w1.alloc (.cells #[.slice a1 ns.length c1] 24)).cell? ⟨w1.heap.size, 0, none⟩ = some (.slice a1 ns.length c1) := by simp [go_sem]
  have HN : Hid _ := hn
  clear p2 hfew hn row1 r1 f1 D1 D2 h0 x0 X1 G1 W1
  go_wp2_with fail
  generalize w1.alloc (.cells #[.slice a1 ns.length c1] 24) = w2 at *
  refine (check_any _ ns _ HD2.out.2.2 HD2.out.1).mono ?_
  rintro e w3 ⟨rfl, h3⟩
  have G3 := gb_on G2 h3
  have HW3 : Hid (Row _ _ _ _) := Row.on HW2.out h3
  have R3 := R2.on h3
  have X3 : w3.heap[w.heap.size]? = some (.cells #[.slice none 0 0] 24) := (h3.block _ (by have := (Array.getElem?_eq_some_iff.1 X2).1; omega)).trans X2
  have q3 := cell_on h3 q2
  clear h3 HD2 HW2 G2 R2 X2 q2
  cases hz : (Pl.checkDoc ns != 0) with
  | true =>
    have hz1 : ¬ Pl.checkDoc ns = 0 := by simpa using hz
    have HE : Hid (Pl.rdDoc l = none) := by unfold Hid Pl.rdDoc; rw [HN.out]; simp only; rw [if_neg hz1]
    clear hz1
    go_wp2_with (go_at_call 79; refine (refuse_any _).mono ?_; rintro e w' ⟨rfl, rfl⟩)
    exact ⟨rfl, Or.inl ⟨HE.out, rfl, G3⟩⟩
  | false =>
    have hz1 : Pl.checkDoc ns = 0 := by simpa using hz
    have HE : Hid (Pl.rdDoc l = some (ns, r)) := by unfold Hid Pl.rdDoc; rw [HN.out]; simp only; rw [if_pos hz1]
    have cx : w3.cell? ⟨w.heap.size, 0, none⟩ = some (.slice none 0 0) := by simp [World.cell?, X3]
    have fx : w3.frozen? ⟨w.heap.size, 0, none⟩ = false := by simp [World.frozen?, X3]
    have G4 : Hid (w.grownBy (w3.setCell ⟨w.heap.size, 0, none⟩ (.slice a1 ns.length c1)) (some b)) := gb_box G3 (Nat.le_refl _) 0 _
    have R4 : Hid (RdAt b r (w3.setCell ⟨w.heap.size, 0, none⟩ (.slice a1 ns.length c1))) := rd_far R3 (by omega) _
    have D4 : Hid (Row w.heap.size (w3.setCell ⟨w.heap.size, 0, none⟩ (.slice a1 ns.length c1)) (.slice a1 ns.length c1) ns) := (Row.set HW3.out (M := w.heap.size) (j := 0) (by omega) cx (by simp) _).down (by omega)
    have q4 := World.cell?_setCell_same w3 ⟨w.heap.size, 0, none⟩ (.slice a1 ns.length c1) cx
    clear hz1 G3 R3 X3
    rw [show Pl.checkDoc ns = 0 by simpa using hz]
    go_wp2
    exact bodyPost_ret (v := .agg #[.slice a1 ns.length c1]) (by simp [results, Try.results64, go_sem, q4]) rfl (Or.inr ⟨ns, r, _, HE.out, rfl, D4.out, R4.out, G4.out⟩)
theorem caught (g r : Nat) (u : Value) (z : Int) (older : List PanicEntry) (w : World) (hg : g < w.heap.size) (hr : r < w.heap.size) (hgr : g ≠ r)
    (c0 : w.cell? ⟨g, 0, none⟩ = some u) (c2 : w.cell? ⟨r, 0, none⟩ = some (.int .i64 z))
    (f0 : w.frozen? ⟨g, 0, none⟩ = false) (f2 : w.frozen? ⟨r, 0, none⟩ = false) :
    CallsD Try.prog 78 #[.pointer (some ⟨g, 0, none⟩), .pointer (some ⟨r, 0, none⟩)] (.panicking ({ v := .iface 26 (.int .i64 1), recovered := false } :: older)) w fun e u' w' =>
      e = .returned (.tuple #[]) ∧ u' = .panicking ({ v := .iface 26 (.int .i64 1), recovered := true } :: older) ∧ w' = ((w.setCell ⟨g, 0, none⟩ (.slice none 0 0)).setCell ⟨r, 0, none⟩ (.int .i64 1)).alloc (.cells #[.slice none 0 0] 24) := by
  refine callsD_of_wpS Try.func78 rfl fun c₀ cs hu => ?_
  apply wpS_seq
  apply wpS_region
  simp [wpOpsS, go_sem, recoverD, hu, Try.ntmps78, Exit.thenS]
  refine wpS_cond (t := true) (by simp [Act.eval, Array.replicate]) ?_
  simp only [if_true]
  refine wpS_of_wp ?_
  have ht : (#[Value.pointer (some { block := g, off := 0 }), Value.pointer (some { block := r, off := 0 })] ++
          ((Array.replicate 4 undef).setIfInBounds 1 (Value.iface 26 (Value.int IntKind.i64 1))).setIfInBounds 2 (Value.bool true)) =
      #[Value.pointer (some { block := g, off := 0 }), Value.pointer (some { block := r, off := 0 }), undef, Value.iface 26 (Value.int IntKind.i64 1), Value.bool true, undef] := rfl
  rw [ht]
  clear ht
  go_wp2
  exact ⟨rfl, _, rfl, _, by simp [results, Try.results78], rfl, rfl, rfl⟩
theorem idle (g r : Nat) (w : World) :
    CallsD Try.prog 78 #[.pointer (some ⟨g, 0, none⟩), .pointer (some ⟨r, 0, none⟩)] .returning w fun e u' w' => e = .returned (.tuple #[]) ∧ u' = .returning ∧ w' = w := by
  refine callsD_of_wpS Try.func78 rfl fun c₀ cs hu => ?_
  apply wpS_seq
  apply wpS_region
  simp [wpOpsS, go_sem, recoverD, hu, Try.ntmps78, Exit.thenS]
  refine wpS_cond (t := false) (by simp [Act.eval, Array.replicate]) ?_
  simp only [Bool.false_eq_true, if_false]
  refine wpS_of_wp (wp_skip ?_)
  cases c₀
  simp_all [bodyPostS, results, Try.results78]
theorem caught_cells (g r : Nat) (u : Value) (z : Int) (older : List PanicEntry) (w : World) (hg : g < w.heap.size) (hr : r < w.heap.size) (hgr : g < r)
    (c0 : w.cell? ⟨g, 0, none⟩ = some u) (c2 : w.cell? ⟨r, 0, none⟩ = some (.int .i64 z))
    (f0 : w.frozen? ⟨g, 0, none⟩ = false) (f2 : w.frozen? ⟨r, 0, none⟩ = false) :
    CallsD Try.prog 78 #[.pointer (some ⟨g, 0, none⟩), .pointer (some ⟨r, 0, none⟩)] (.panicking ({ v := .iface 26 (.int .i64 1), recovered := false } :: older)) w fun e u' w' =>
      e = .returned (.tuple #[]) ∧ u' = .panicking ({ v := .iface 26 (.int .i64 1), recovered := true } :: older) ∧ w'.cell? ⟨g, 0, none⟩ = some (.slice none 0 0) ∧ w'.cell? ⟨r, 0, none⟩ = some (.int .i64 1) ∧ Below g w w' := by
  refine (caught g r u z older w hg hr (by omega) c0 c2 f0 f2).mono ?_
  rintro e u' w' ⟨rfl, rfl, rfl⟩
  have n1 : (⟨r, 0, none⟩ : Addr) ≠ ⟨g, 0, none⟩ := by intro e; injection e; omega
  refine ⟨rfl, rfl, ?_, ?_, ?_⟩
  · rw [World.cell?_alloc_past _ _ _ (by simpa [World.setCell] using hg), World.cell?_setCell_other _ _ _ _ n1]
    exact set_here _ ⟨_, c0⟩
  · rw [World.cell?_alloc_past _ _ _ (by simpa [World.setCell] using hr)]
    exact set_here _ (set_some _ _ ⟨_, c2⟩)
  · refine Below.alloc (((Below.refl _ _).setCell (p := ⟨g, 0, none⟩) (Nat.le_refl _) _).setCell (p := ⟨r, 0, none⟩) (Nat.le_of_lt hgr) _) ?_ _
    simp [World.setCell]; omega
/-- what Read tells -/
def readErr (l : List UInt8) : Int := if (Pl.readDoc l).isSome = true then 0 else 1
def readNs (l : List UInt8) : List Pl.Nd := (Pl.readDoc l).getD []
def ReadSays (l : List UInt8) (w : World) (e : Ending) (w' : World) : Prop := ∃ v', e = .returned (.tuple #[.agg #[v'], .int .i64 (readErr l)]) ∧ Far w.heap.size v' ∧ DocAt w' v' (readNs l) ∧ Below w.heap.size w w'
theorem ReadSays.mk {l : List UInt8} {w w' : World} {v' : Value} {k : Int} {ns : List Pl.Nd} (h1 : readErr l = k) (h2 : readNs l = ns) (hf : Far w.heap.size v') (h3 : DocAt w' v' ns) (h4 : Below w.heap.size w w') : ReadSays l w (.returned (.tuple #[.agg #[v'], .int .i64 k])) w' :=
  ⟨v', by rw [h1], hf, by rw [h2]; exact h3, h4⟩
theorem below_gb {w W w' : World} {b : Nat} (h : Below w.heap.size w W) (hg : W.grownBy w' (some b)) (hb : w.heap.size ≤ b) : Below w.heap.size w w' :=
  h.trans ⟨hg.os, hg.tape, hg.output, hg.size, fun k hk => hg.block k (Nat.lt_of_lt_of_le hk h.size) (by intro e; injection e with e; omega)⟩
theorem boxes3 (w : World) (o1 o2 o3 : Obj) : Below w.heap.size w (((w.alloc o1).alloc o2).alloc o3) := (((Below.refl w.heap.size w).alloc (Nat.le_refl _) o1).alloc (by simp) o2).alloc (by simp; omega) o3
set_option maxRecDepth 100000 in
set_option maxHeartbeats 1000000 in
theorem whole_any (l : List UInt8) (w : World) (hl : l.length ≤ maxLen) :
    Calls Try.prog 63 #[.string ⟨l.toArray⟩, .func (.func 64) #[] #[]] w (ReadSays l w) := by
  have hmf : ∀ (fn : Fn) (first cap : Array Value) (w : World), (Instr.makeFunc fn first cap).run Try.prog w = .ok (.func fn first cap) w := fun _ _ _ _ => rfl
  have hB0 := boxes3 w (.cells #[.slice none 0 0] 24) (.cells #[.int .i64 0] 26) (.cells #[.string ⟨l.toArray⟩] 110)
  have x0 : (((w.alloc (.cells #[.slice none 0 0] 24)).alloc (.cells #[.int .i64 0] 26)).alloc (.cells #[.string ⟨l.toArray⟩] 110)).heap[w.heap.size]? = some (.cells #[.slice none 0 0] 24) :=
    ((on_alloc _ _).block _ (by simp; omega)).trans (((on_alloc _ _).block _ (by simp)).trans (heap_alloc_new w _))
  have x1 : (((w.alloc (.cells #[.slice none 0 0] 24)).alloc (.cells #[.int .i64 0] 26)).alloc (.cells #[.string ⟨l.toArray⟩] 110)).heap[w.heap.size + 1]? = some (.cells #[.int .i64 0] 26) := by
    have := heap_alloc_new (w.alloc (.cells #[.slice none 0 0] 24)) (.cells #[.int .i64 0] 26)
    rw [show (w.alloc (.cells #[.slice none 0 0] 24)).heap.size = w.heap.size + 1 by simp] at this
    exact ((on_alloc _ _).block _ (by simp)).trans this
  have x2 : RdAt (w.heap.size + 1 + 1) l (((w.alloc (.cells #[.slice none 0 0] 24)).alloc (.cells #[.int .i64 0] 26)).alloc (.cells #[.string ⟨l.toArray⟩] 110)) := by
    have := heap_alloc_new ((w.alloc (.cells #[.slice none 0 0] 24)).alloc (.cells #[.int .i64 0] 26)) (.cells #[.string ⟨l.toArray⟩] 110)
    rw [show ((w.alloc (.cells #[.slice none 0 0] 24)).alloc (.cells #[.int .i64 0] 26)).heap.size = w.heap.size + 1 + 1 by simp] at this
    exact this
  have hz : (((w.alloc (.cells #[.slice none 0 0] 24)).alloc (.cells #[.int .i64 0] 26)).alloc (.cells #[.string ⟨l.toArray⟩] 110)).heap.size = w.heap.size + 3 := by simp
  go_enter_defers Try.func63, Try.ntmps63
  go_wp2_with fail
  generalize ((w.alloc (.cells #[.slice none 0 0] 24)).alloc (.cells #[.int .i64 0] 26)).alloc (.cells #[.string ⟨l.toArray⟩] 110) = w0 at *
  refine (readDoc_any _ l _ x2 hl).mono ?_
  rintro e w1 (⟨hn, rfl, g1⟩ | ⟨ns, r, v1, hn, rfl, row1, r1, g1⟩)
  · have X0 := box_kept x0 g1 (by omega)
    have X1 := box_kept x1 g1 (by omega)
    have c0 : w1.cell? ⟨w.heap.size, 0, none⟩ = some (.slice none 0 0) := by simp [World.cell?, X0]
    have c1 : w1.cell? ⟨w.heap.size + 1, 0, none⟩ = some (.int .i64 0) := by simp [World.cell?, X1]
    have f0 : w1.frozen? ⟨w.heap.size, 0, none⟩ = false := by simp [World.frozen?, X0]
    have f1 : w1.frozen? ⟨w.heap.size + 1, 0, none⟩ = false := by simp [World.frozen?, X1]
    have hs1 : w.heap.size + 3 ≤ w1.heap.size := by have := g1.size; omega
    have hB1 := below_gb hB0 g1 (by omega)
    have HE : Hid (readErr l = 1 ∧ readNs l = []) := by
      have : Pl.readDoc l = none := by rw [Pl.readDoc_eq, hn]
      unfold Hid readErr readNs; rw [this]; exact ⟨rfl, rfl⟩
    clear g1 hn X0 X1 x0 x1 x2
    go_wp2
    refine leaves_cons (f := 78) (args := #[.pointer (some ⟨w.heap.size, 0, none⟩), .pointer (some ⟨w.heap.size + 1, 0, none⟩)]) (by simp) (by simp [go_sem]) ?_
    refine (caught_cells _ _ _ 0 [] _ (by omega) (by omega) (by omega) c0 c1 f0 f1).mono ?_
    rintro e u' w'' ⟨rfl, rfl, d0, d1, hb2⟩
    simp [Leaves, settle, results, Try.results63, go_sem, d0, d1]
    exact ReadSays.mk HE.out.1 HE.out.2 (Far.nil _) (DocAt.nil _) (hB1.trans hb2)
  · obtain ⟨a1, n1, c1', rfl, _, _⟩ := Row.cap row1
    have X0 := box_kept x0 g1 (by omega)
    have X1 := box_kept x1 g1 (by omega)
    have c0 : w1.cell? ⟨w.heap.size, 0, none⟩ = some (.slice none 0 0) := by simp [World.cell?, X0]
    have c1 : w1.cell? ⟨w.heap.size + 1, 0, none⟩ = some (.int .i64 0) := by simp [World.cell?, X1]
    have f0 : w1.frozen? ⟨w.heap.size, 0, none⟩ = false := by simp [World.frozen?, X0]
    have f1 : w1.frozen? ⟨w.heap.size + 1, 0, none⟩ = false := by simp [World.frozen?, X1]
    have hs1 : w.heap.size + 3 ≤ w1.heap.size := by have := g1.size; omega
    have hB1 := below_gb hB0 g1 (by omega)
    have hB2 := hB1.setCell (p := ⟨w.heap.size, 0, none⟩) (Nat.le_refl _) (.slice a1 n1 c1')
    obtain ⟨rc, _, _⟩ := (rd_far (j := 0) r1 (M := w.heap.size) (by omega) (.slice a1 n1 c1')).facts
    have row2 := Row.set row1 (M := w.heap.size) (j := 0) (by omega) c0 (by simp) (.slice a1 n1 c1')
    have d0 := set_here (.slice a1 n1 c1') ⟨_, c0⟩
    have d1 : (w1.setCell ⟨w.heap.size, 0, none⟩ (.slice a1 n1 c1')).cell? ⟨w.heap.size + 1, 0, none⟩ = some (.int .i64 0) := cell_set c1 (by omega)
    have HRow : Hid (Row _ _ _ _) := row2
    have HN : Hid _ := hn
    clear g1 X0 X1 x0 x1 x2 row1 row2 r1 hn
    cases r with
    | cons ch t =>
      have HE : Hid (readErr l = 1 ∧ readNs l = []) := by
        have : Pl.readDoc l = none := by rw [Pl.readDoc_eq, HN.out]
        unfold Hid readErr readNs; rw [this]; exact ⟨rfl, rfl⟩
      go_wp2_with (go_at_call 79; refine (refuse_any _).mono ?_; rintro e w' ⟨rfl, rfl⟩)
      refine leaves_cons (f := 78) (args := #[.pointer (some ⟨w.heap.size, 0, none⟩), .pointer (some ⟨w.heap.size + 1, 0, none⟩)]) (by simp) (by simp [go_sem]) ?_
      refine (caught_cells _ _ _ 0 [] _ (by simp [World.setCell]; omega) (by simp [World.setCell]; omega) (by omega) d0 d1 (by simp [f0]) (by simp [f1])).mono ?_
      rintro e u' w'' ⟨rfl, rfl, q0, q1, hb2⟩
      simp [Leaves, settle, results, Try.results63, go_sem, q0, q1]
      exact ReadSays.mk HE.out.1 HE.out.2 (Far.nil _) (DocAt.nil _) (hB2.trans hb2)
    | nil =>
      have hrd : Pl.readDoc l = some ns := by rw [Pl.readDoc_eq, HN.out]
      have HE : Hid (readErr l = 0 ∧ readNs l = ns) := by
        unfold Hid readErr readNs; rw [hrd]; exact ⟨rfl, rfl⟩
      have hck := ((Pl.read_iff _ _).1 hrd).1
      have HK : Hid _ := hck
      have fA : (w1.setCell ⟨w.heap.size, 0, none⟩ (.slice a1 n1 c1')).frozen? ⟨w.heap.size, 0, none⟩ = false := by simp [f0]
      have fB : (w1.setCell ⟨w.heap.size, 0, none⟩ (.slice a1 n1 c1')).frozen? ⟨w.heap.size + 1, 0, none⟩ = false := by simp [f1]
      clear hck hrd
      go_wp2
      refine leaves_cons (f := 78) (args := #[.pointer (some ⟨w.heap.size, 0, none⟩), .pointer (some ⟨w.heap.size + 1, 0, none⟩)]) (by simp) (by simp [go_sem]) ?_
      refine (idle _ _ _).mono ?_
      rintro e u' w'' ⟨rfl, rfl, rfl⟩
      have e0 : (((w1.setCell ⟨w.heap.size, 0, none⟩ (.slice a1 n1 c1')).setCell ⟨w.heap.size, 0, none⟩ (.slice a1 n1 c1')).setCell ⟨w.heap.size + 1, 0, none⟩ (.int .i64 0)).cell? ⟨w.heap.size, 0, none⟩ = some (.slice a1 n1 c1') := cell_set (set_here _ ⟨_, d0⟩) (by omega)
      have e1 : (((w1.setCell ⟨w.heap.size, 0, none⟩ (.slice a1 n1 c1')).setCell ⟨w.heap.size, 0, none⟩ (.slice a1 n1 c1')).setCell ⟨w.heap.size + 1, 0, none⟩ (.int .i64 0)).cell? ⟨w.heap.size + 1, 0, none⟩ = some (.int .i64 0) := set_here _ ⟨_, cell_set d1 (by omega)⟩
      have row3 := (Row.set HRow.out (M := w.heap.size) (j := 0) (by omega) d0 (by simp) (.slice a1 n1 c1')).set (M := w.heap.size + 1) (j := 0) (by omega) (cell_set d1 (by omega)) (by simp) (.int .i64 0)
      have D3 := row3.doc (check_zero HK.out).2.1 (check_short HK.out)
      have hB3 := (hB2.setCell (p := ⟨w.heap.size, 0, none⟩) (Nat.le_refl _) (.slice a1 n1 c1')).setCell (p := ⟨w.heap.size + 1, 0, none⟩) (by simp) (.int .i64 0)
      simp only [Leaves, settle]
      refine ⟨_, by simp [results, Try.results63, go_sem, e0, e1], ReadSays.mk HE.out.1 HE.out.2 (row3.far.mono (by omega)) D3 hB3⟩
set_option maxRecDepth 100000 in
set_option maxHeartbeats 1000000 in
theorem read_any (l : List UInt8) (w : World) (hl : l.length ≤ maxLen) : Calls Try.prog 29 #[.string ⟨l.toArray⟩] w (ReadSays l w) := by
  have hA := on_alloc w (.cells #[.slice none 0 0] 24)
  have x0 : (w.alloc (.cells #[.slice none 0 0] 24)).heap[w.heap.size]? = some (.cells #[.slice none 0 0] 24) := heap_alloc_new w _
  have hz : (w.alloc (.cells #[.slice none 0 0] 24)).heap.size = w.heap.size + 1 := by simp
  go_enter Try.func29, Try.ntmps29
  go_wp2_with fail
  generalize w.alloc (.cells #[.slice none 0 0] 24) = w0 at *
  refine (whole_any l _ hl).mono ?_
  rintro e w1 ⟨v1, rfl, far, d1, h1⟩
  obtain ⟨a1, c1, rfl⟩ := DocAt.form d1
  have X1 : w1.heap[w.heap.size]? = some (.cells #[.slice none 0 0] 24) := (h1.block _ (by omega)).trans x0
  have cx : w1.cell? ⟨w.heap.size, 0, none⟩ = some (.slice none 0 0) := by simp [World.cell?, X1]
  have fx : w1.frozen? ⟨w.heap.size, 0, none⟩ = false := by simp [World.frozen?, X1]
  have D4 : Hid (DocAt _ _ _) := DocAt.set (u := .slice a1 (readNs l).length c1) d1 far (M := w.heap.size) (by omega) cx (by simp)
  have hB4 := (below_trans hA h1).setCell (p := ⟨w.heap.size, 0, none⟩) (Nat.le_refl _) (.slice a1 (readNs l).length c1)
  have HB4 : Hid (Below _ _ _) := hB4
  have q := World.cell?_setCell_same w1 ⟨w.heap.size, 0, none⟩ (.slice a1 (readNs l).length c1) cx
  clear h1 d1 x0 X1 hB4
  generalize hE : readErr l = E at *
  go_wp2
  exact bodyPost_ret (v := .tuple #[.agg #[.slice a1 (readNs l).length c1], .int .i64 E]) (by simp [results, Try.results29, go_sem, q]) rfl (ReadSays.mk hE rfl (far.mono (by omega)) D4.out HB4.out)
end Go.Proofs.Ythlpcmgeelkncaa
