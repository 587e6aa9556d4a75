/-
  Where Up goes: the five rules that elements are copied by.
-/
import Derived.Test.YtephhllfodlfbaaGreatDoorAdd
namespace Go.Proofs.YtephhllfodlfbaaGreatDoor
open Go.RowKit

namespace Pl
def wr (u : Int) : Int := RowKit.wrap64 u
theorem wr_in {u : Int} (h : -9223372036854775808 ≤ u) (h2 : u ≤ 9223372036854775807) : wr u = u := by
  unfold wr; rw [IntWalk.wrap64_in _ ⟨by omega, by omega⟩]
def mvPart (n : Int) (u : Int) : Int := if u < n then -1 else wr (u - n)
def mvRem (n d : Int) (u : Int) : Int := if u < n then u else wr (u - d)
def mvIn (up place : Int) (u : Int) : Int := if u < 0 then up else wr (u + place)
def mvOut (place k : Int) (u : Int) : Int := if u < place then u else wr (u + k)
end Pl

set_option maxHeartbeats 400000 in
theorem part1_any (M : Nat) (n u : Int) (w : World) (hc : w.cell? ⟨M, 0, none⟩ = some (.int .i64 n)) : Calls Tryz.prog 77 #[.int .i64 u, .pointer (some ⟨M, 0, none⟩)] w fun e w' => e = .returned (.int .i64 (Pl.mvPart n u)) ∧ w' = w := by
  by_cases h : u < n
  · have HH : Hid (Pl.mvPart n u = -1) := by unfold Hid Pl.mvPart; rw [if_pos h]
    go_enter Tryz.func77, Tryz.ntmps77
    go_wp2
    go_ret
    exact ⟨by rw [HH.out]; rfl, rfl⟩
  · have HH : Hid (Pl.mvPart n u = RowKit.wrap64 (u - n)) := by unfold Hid Pl.mvPart Pl.wr; rw [if_neg h]
    go_enter Tryz.func77, Tryz.ntmps77
    go_wp2
    go_ret
    exact ⟨by rw [HH.out]; rfl, rfl⟩
theorem enter36 (args : Array Value) (W : World) : (callFunc 77 args).run Tryz.prog W = .ok (.enter 77 args) W := by simp [callFunc, go_sem, Tryz.func77, Tryz.f77]
set_option maxHeartbeats 400000 in
theorem add_none (F : Fn) (caps bs : Array Value) (v0 : Value) (a : Option Addr) (cap : Nat) (w : World) :
    Calls Tryz.prog 75 #[v0, .slice a 0 cap, .func F bs caps] w fun e w' => e = .returned v0 ∧ w' = w := by
  go_enter Tryz.func75, Tryz.ntmps75
  go_wp2
  refine wp_loop_rounds 1 ?_
  rw [rounds_succ]
  go_wp2
  go_ret
  exact ⟨rfl, rfl⟩
theorem add_any (F : Nat) (caps : Array Value) (mv : Int → Int) (B : Nat) (v0 v1 : Value) (ns ms : List Pl.Nd) (w : World) (hB : B ≤ w.heap.size) (hr : Row B w v0 ns) (h64 : ns.length + ms.length ≤ 64)
    (hen : ∀ args W, (callFunc F args).run Tryz.prog W = .ok (.enter F args) W) (hl : ∀ x ∈ ms, x.cls.length ≤ 6 ∧ x.ats.length ≤ 4) (hm : NdsAt w v1 ms) (hlow : ∀ W, Below B w W → NdsAt W v1 ms)
    (hf : ∀ W (u : Int), Below B w W → Calls Tryz.prog F (#[.int .i64 u] ++ caps) W fun e w' => e = .returned (.int .i64 (mv u)) ∧ w' = W) :
    Calls Tryz.prog 75 #[v0, v1, .func (.func F) #[] caps] w fun e w' => ∃ v', e = .returned v' ∧ Row B w' v' (ns ++ ms.map (Pl.mvd mv)) ∧ Below B w w' := by
  obtain ⟨a, cap, rfl, hc⟩ := hm
  rcases hc with rfl | ⟨b, o, rfl, hc⟩
  · refine (add_none (.func F) caps #[] v0 a cap w).mono ?_
    rintro e w' ⟨rfl, rfl⟩
    exact ⟨v0, rfl, by simpa using hr, Below.refl _ _⟩
  · refine (add_some F caps mv B b o cap v0 ns ms w hB hr h64 hen hl ?_ hf)
    intro W hW i hi
    obtain ⟨a', cap', e, hc'⟩ := hlow W hW
    injection e with e1 e2 e3
    subst e1
    rcases hc' with h0 | ⟨b', o', e', hc'⟩
    · subst h0; simp at hi
    · injection e' with e'; injection e' with e1 e2; subst e1 e2; exact hc' i hi
end Go.Proofs.YtephhllfodlfbaaGreatDoor
/-
  A document as an argument or an answer; facts of right documents that the calls lean on.
-/
namespace Go.Proofs.YtephhllfodlfbaaGreatDoor
open Go.RowKit

/-- a slice with its room -/
def Capd (v : Value) : Prop := ∃ a l c, v = .slice a l c ∧ l ≤ c ∧ c ≤ maxLen
/-- a document's elements -/
def DocAt (w : World) (v : Value) (ns : List Pl.Nd) : Prop := NdsAt w v ns ∧ Capd v ∧ FitsAll ns
theorem DocAt.on {w w' : World} {v : Value} {ns : List Pl.Nd} (h : DocAt w v ns) (hb : Below w.heap.size w w') : DocAt w' v ns := ⟨h.1.on hb, h.2⟩
theorem DocAt.nil (w : World) : DocAt w (.slice none 0 0) [] := ⟨⟨none, 0, rfl, Or.inl rfl⟩, ⟨_, _, _, rfl, Nat.le_refl _, by unfold maxLen; omega⟩, by simp, fun i h => by simp at h⟩

theorem cell_set_str {w : World} {b o M j : Nat} {s : ByteArray} {u old : Value} (h : w.cell? ⟨b, o, none⟩ = some (.string s)) (h2 : w.cell? ⟨M, j, none⟩ = some old) (hs : ∀ s, old ≠ .string s) : (w.setCell ⟨M, j, none⟩ u).cell? ⟨b, o, none⟩ = some (.string s) := by
  rw [World.cell?_setCell_other _ _ _ _ (by intro e; rw [e, h] at h2; injection h2 with h2; exact hs s h2.symm)]; exact h
theorem StrsNe.set {g : Option Nat} {w : World} {v : Value} {ss : List (List UInt8)} (h : StrsNe g w v ss) {M j : Nat} {old : Value} (h2 : w.cell? ⟨M, j, none⟩ = some old) (hs : ∀ s, old ≠ .string s) (u : Value) : StrsNe g (w.setCell ⟨M, j, none⟩ u) v ss := by
  obtain ⟨a, cap, rfl, h⟩ := h
  refine ⟨a, cap, rfl, ?_⟩
  rcases h with h | ⟨b, o, ha, hB, hc⟩
  · exact Or.inl h
  · exact Or.inr ⟨b, o, ha, hB, fun i hi => cell_set_str (hc i hi) h2 hs⟩
theorem AtsNe.set {g : Option Nat} {w : World} {v : Value} {ss : List (List UInt8 × List UInt8)} (h : AtsNe g w v ss) {M j : Nat} {old : Value} (h2 : w.cell? ⟨M, j, none⟩ = some old) (hs : ∀ s, old ≠ .string s) (u : Value) : AtsNe g (w.setCell ⟨M, j, none⟩ u) v ss := by
  obtain ⟨a, cap, rfl, h⟩ := h
  refine ⟨a, cap, rfl, ?_⟩
  rcases h with h | ⟨b, o, ha, hB, hc⟩
  · exact Or.inl h
  · exact Or.inr ⟨b, o, ha, hB, fun i hi => ⟨cell_set_str (hc i hi).1 h2 hs, cell_set_str (hc i hi).2 h2 hs⟩⟩
theorem CellsOf.set {g : Option Nat} {w : World} {M j : Nat} {old : Value} (h2 : w.cell? ⟨M, j, none⟩ = some old) (hs : ∀ s, old ≠ .string s) (u : Value) : ∀ (xs : List Value) (ns : List Pl.Nd), CellsOf g w xs ns → CellsOf g (w.setCell ⟨M, j, none⟩ u) xs ns
  | [], [], _ => trivial
  | c0 :: c1 :: c2 :: c3 :: c4 :: r, x :: t, h => ⟨⟨h.1.1, h.1.2.1, h.1.2.2.1, h.1.2.2.2.1.set h2 hs u, h.1.2.2.2.2.set h2 hs u⟩, CellsOf.set h2 hs u r t h.2⟩
  | [], _ :: _, h => h.elim
  | _ :: _, [], h => by simp [CellsOf] at h
  | [_], _ :: _, h => by cases h
  | [_, _], _ :: _, h => by cases h
  | [_, _, _], _ :: _, h => by cases h
  | [_, _, _, _], _ :: _, h => by cases h
/-- a cell below the row, that holds no text, may be written -/
theorem Row.set {B : Nat} {w : World} {v : Value} {ns : List Pl.Nd} (h : Row B w v ns) {M j : Nat} {old : Value} (hM : M < B) (h2 : w.cell? ⟨M, j, none⟩ = some old) (hs : ∀ s, old ≠ .string s) (u : Value) : Row B (w.setCell ⟨M, j, none⟩ u) v ns := by
  obtain ⟨xs, ho, hc⟩ := h
  refine ⟨xs, ?_, CellsOf.set h2 hs u _ _ hc⟩
  refine ⟨ho.1, ?_⟩
  rcases ho.2 with h0 | ⟨g, cap, cur, rfl, hb, hgg, rest⟩
  · exact Or.inl h0
  · exact Or.inr ⟨g, cap, cur, rfl, hb, by rw [Below.heap_setCell _ _ _ _ (by simp; omega)]; exact hgg, rest⟩
theorem Row.cap {B : Nat} {w : World} {v : Value} {ns : List Pl.Nd} (h : Row B w v ns) : Capd v := by
  obtain ⟨xs, ho, _⟩ := h
  rcases ho.2 with ⟨rfl, h0⟩ | ⟨g, cap, cur, rfl, hb, hgg, h1, h2, _⟩
  · exact ⟨none, 0, 0, rfl, Nat.le_refl _, by unfold maxLen; omega⟩
  · exact ⟨_, _, _, rfl, h1, h2⟩
theorem Row.doc {B : Nat} {w : World} {v : Value} {ns : List Pl.Nd} (h : Row B w v ns) (hl : ns.length ≤ 64) (hf : ∀ x ∈ ns, x.cls.length ≤ 6 ∧ x.ats.length ≤ 4) : DocAt w v ns :=
  ⟨h.nds, h.cap, by unfold maxLen; omega, fun i hi => ⟨by have := (hf _ (List.getElem_mem hi)).1; unfold maxLen; omega, by have := (hf _ (List.getElem_mem hi)).2; unfold maxLen; omega⟩⟩

/-- what a right document has -/
theorem check_zero {ns : List Pl.Nd} (h : Pl.checkDoc ns = 0) : 1 ≤ ns.length ∧ ns.length ≤ 64 ∧ Pl.okTo ns ns.length = true := by
  unfold Pl.checkDoc at h
  split at h
  · omega
  · split at h
    · exact ⟨by omega, by omega, by assumption⟩
    · omega
theorem okTo_right {ns : List Pl.Nd} {n k : Nat} (h : Pl.okTo ns n = true) (hk : k < n) (hn : k < ns.length) : Pl.right ns[k] = true ∧ Pl.hangs ns k = true := by
  have := Pl.okTo_le h (n := k + 1) (by omega)
  rw [Pl.okTo_succ, List.getElem?_eq_getElem hn] at this
  simp only [Bool.and_eq_true] at this
  exact this.2
theorem right_short {x : Pl.Nd} (h : Pl.right x = true) : x.cls.length ≤ 6 ∧ x.ats.length ≤ 4 := by
  unfold Pl.right Pl.names at h
  simp only [Bool.and_eq_true, decide_eq_true_eq, List.length_map] at h
  exact ⟨h.1.1.2.1.1, h.1.2.1.1⟩
theorem check_short {ns : List Pl.Nd} (h : Pl.checkDoc ns = 0) : ∀ x ∈ ns, x.cls.length ≤ 6 ∧ x.ats.length ≤ 4 := by
  intro x hx
  obtain ⟨_, _, hk⟩ := check_zero h
  obtain ⟨i, hi, rfl⟩ := List.getElem_of_mem hx
  exact right_short (okTo_right hk hi hi).1
theorem checkAt_zero {ns : List Pl.Nd} {n : Int} (h : checkAtOf ns n = 0) : Pl.checkDoc ns = 0 ∧ ∃ k : Nat, n = k ∧ k < ns.length := by
  unfold checkAtOf at h
  split at h
  · split at h
    · rename_i h1 h2
      refine ⟨h1, n.toNat, ?_⟩
      unfold hasB at h2
      simp only [Bool.and_eq_true, decide_eq_true_eq] at h2
      omega
    · omega
  · omega
theorem behindFrom_le (ns : List Pl.Nd) (n : Nat) : ∀ (f e : Nat), e ≤ ns.length → e ≤ Pl.behindFrom ns n f e ∧ Pl.behindFrom ns n f e ≤ ns.length
  | 0, e, h => ⟨Nat.le_refl _, h⟩
  | f + 1, e, h => by
    unfold Pl.behindFrom
    split
    · rename_i h1
      have := behindFrom_le ns n f (e + 1) (by omega)
      omega
    · exact ⟨Nat.le_refl _, h⟩
theorem behind_le {ns : List Pl.Nd} {n : Nat} (h : n < ns.length) : n + 1 ≤ Pl.behind ns n ∧ Pl.behind ns n ≤ ns.length := behindFrom_le ns n _ _ h
/-- a stretch of a document's elements -/
theorem NdsAt.part {w : World} {b o : Nat} {ns : List Pl.Nd} (h : ∀ i (h : i < ns.length), NdAt w b (o + i * 5) ns[i]) (lo m cap' : Nat) (hm : lo + m ≤ ns.length) : NdsAt w (.slice (some ⟨b, o + lo * 5, none⟩) m cap') ((ns.drop lo).take m) := by
  have hl : ((ns.drop lo).take m).length = m := by simp; omega
  refine ⟨_, _, by rw [hl], Or.inr ⟨b, _, rfl, fun i hi => ?_⟩⟩
  have := h (lo + i) (by omega)
  rw [show o + lo * 5 + i * 5 = o + (lo + i) * 5 by omega]
  simpa using this
theorem mem_stretch {α : Type} {l : List α} {lo m : Nat} {x : α} (h : x ∈ (l.drop lo).take m) : x ∈ l := List.mem_of_mem_drop (List.mem_of_mem_take h)
/-- the part under an element, as the program copies it -/
def partOf (ns : List Pl.Nd) (n : Int) : List Pl.Nd := if checkAtOf ns n = 0 then ((ns.drop n.toNat).take (Pl.behind ns n.toNat - n.toNat)).map (Pl.mvd (Pl.mvPart n)) else []
theorem mvd_short {mv : Int → Int} {ms : List Pl.Nd} (h : ∀ x ∈ ms, x.cls.length ≤ 6 ∧ x.ats.length ≤ 4) : ∀ x ∈ ms.map (Pl.mvd mv), x.cls.length ≤ 6 ∧ x.ats.length ≤ 4 := by
  intro x hx
  obtain ⟨y, hy, rfl⟩ := List.mem_map.1 hx
  exact h y hy
end Go.Proofs.YtephhllfodlfbaaGreatDoor
/-
  Part: the elements under one, copied.
-/
namespace Go.Proofs.YtephhllfodlfbaaGreatDoor
open Go.RowKit

theorem three_on {W w' : World} {p0 p1 p2 : Addr} {v0 v1 v2 : Value} (h : W.cell? p0 = some v0 ∧ W.cell? p1 = some v1 ∧ W.cell? p2 = some v2) (hb : Below W.heap.size W w') : w'.cell? p0 = some v0 ∧ w'.cell? p1 = some v1 ∧ w'.cell? p2 = some v2 :=
  ⟨cell_on hb h.1, cell_on hb h.2.1, cell_on hb h.2.2⟩

set_option maxRecDepth 100000 in
set_option maxHeartbeats 4000000 in
theorem part_any (v : Value) (ns : List Pl.Nd) (n : Int) (w : World) (hd : DocAt w v ns) :
    Calls Tryz.prog 30 #[.agg #[v], .int .i64 n] w fun e w' => ∃ v', e = .returned (.tuple #[.agg #[v'], .int .i64 (checkAtOf ns n)]) ∧ DocAt w' v' (partOf ns n) ∧ Below w.heap.size w w' := by
  obtain ⟨hv, hcap, hf⟩ := hd
  obtain ⟨a, cap, rfl, hc⟩ := id hv
  have HV : Hid _ := hv
  clear hv
  obtain ⟨_, _, _, e0, hc1, hc2⟩ := hcap
  injection e0 with e1 e2 e3
  subst e1 e2 e3
  cases hz : (checkAtOf ns n != 0) with
  | true =>
    have HP : Hid (partOf ns n = []) := by unfold Hid partOf; rw [if_neg (by simpa using hz)]
    clear hc
    go_enter Tryz.func30, Tryz.ntmps30
    go_wp2_with fail
    refine (checkAt_any _ ns _ _ hf (NdsAt.on HV.out (((Below.refl _ _).alloc (Nat.le_refl _) _).alloc (by simp) _ |>.alloc (by simp; omega) _))).mono ?_
    rintro e w1 ⟨rfl, h1⟩
    have hB : Below w.heap.size w w1 := below_trans (((Below.refl _ _).alloc (Nat.le_refl _) _).alloc (by simp) _ |>.alloc (by simp; omega) _) h1
    have c0 := cell_on (p := ⟨w.heap.size + 1 + 1, 0, none⟩) (v := .slice none 0 0) h1 (by simp [go_sem])
    have f0 : w1.frozen? ⟨w.heap.size + 1 + 1, 0, none⟩ = false := by rw [h1.frozen (by simp)]; simp [go_sem]
    generalize hE : checkAtOf ns n = E at *
    clear h1
    go_wp2
    have q := World.cell?_setCell_same w1 ⟨w.heap.size + 1 + 1, 0, none⟩ (.slice none 0 0) c0
    exact bodyPost_ret (v := .tuple #[.agg #[.slice none 0 0], .int .i64 E]) (by simp [results, Tryz.results30, go_sem, q]) rfl
      ⟨_, by rw [hE], by rw [HP.out]; exact DocAt.nil _, hB.setCell (p := ⟨w.heap.size + 1 + 1, 0, none⟩) (by simp; omega) _⟩
  | false =>
    have hz0 : checkAtOf ns n = 0 := by simpa using hz
    obtain ⟨hk0, k, rfl, hk⟩ := checkAt_zero hz0
    obtain ⟨hl1, hl64, _⟩ := check_zero hk0
    have hsh := check_short hk0
    rcases hc with hc | ⟨b, o, rfl, hc⟩
    · subst hc; simp at hl1
    have hbe := behind_le hk
    have HP : Hid (partOf ns k = ((ns.drop k).take (Pl.behind ns k - k)).map (Pl.mvd (Pl.mvPart k))) := by unfold Hid partOf; rw [if_pos hz0]; rfl
    have HC : Hid _ := hc
    have HS : Hid _ := hsh
    clear hc hz hk0 hsh
    have i1 : (0 : Int) ≤ (k : Int) := by omega
    have i2 : (k : Int) ≤ (Pl.behind ns k : Int) := by omega
    have i3 : (Pl.behind ns k : Int) ≤ (cap : Int) := by omega
    have i4 : ¬ cap = k := by omega
    go_enter Tryz.func30, Tryz.ntmps30
    go_wp2_with fail
    have hB0 := (((Below.refl w.heap.size w).alloc (Nat.le_refl _) (.cells #[.slice (some ⟨b, o, none⟩) ns.length cap] 24)).alloc (by simp) (.cells #[.int .i64 k] 3)).alloc (by simp; omega) (.cells #[.slice none 0 0] 24)
    refine (checkAt_any _ ns _ _ hf (NdsAt.on HV.out hB0)).mono ?_
    rintro e w1 ⟨rfl, h1⟩
    rw [hz0]
    have hB : Below w.heap.size w w1 := below_trans hB0 h1
    have c0 := cell_on (p := ⟨w.heap.size, 0, none⟩) (v := .slice (some ⟨b, o, none⟩) ns.length cap) h1 (by simp [go_sem])
    have c1 := cell_on (p := ⟨w.heap.size + 1, 0, none⟩) (v := .int .i64 k) h1 (by simp [go_sem])
    have c2 := cell_on (p := ⟨w.heap.size + 1 + 1, 0, none⟩) (v := .slice none 0 0) h1 (by simp [go_sem])
    have f2 : w1.frozen? ⟨w.heap.size + 1 + 1, 0, none⟩ = false := by rw [h1.frozen (by simp)]; simp [go_sem]
    have hsz : w.heap.size + 3 ≤ w1.heap.size := by have := h1.size; simp at this; omega
    clear h1 hB0
    go_wp2
    have S0 : w1.drew.cell? ⟨w.heap.size, 0, none⟩ = some (.slice (some ⟨b, o, none⟩) ns.length cap) ∧ w1.drew.cell? ⟨w.heap.size + 1, 0, none⟩ = some (.int .i64 k) ∧ w1.drew.cell? ⟨w.heap.size + 1 + 1, 0, none⟩ = some (.slice none 0 0) := ⟨c0, c1, c2⟩
    have HC1 : ∀ i (h : i < ns.length), NdAt w1.drew b (o + i * 5) ns[i] := fun i hi => (HC.out i hi).on hB.drew
    have hW : ∀ W, Below w1.drew.heap.size w1.drew W → NdsAt W (.slice (some ⟨b, o + k * 5, none⟩) (Pl.behind ns k - k) (cap - k)) ((ns.drop k).take (Pl.behind ns k - k)) := fun W hW => NdsAt.part (fun i hi => (HC1 i hi).on hW) k _ _ (by omega)
    have hF : ∀ W (u : Int), Below w1.drew.heap.size w1.drew W → Calls Tryz.prog 77 (#[.int .i64 u] ++ #[.pointer (some ⟨w.heap.size + 1, 0, none⟩)]) W fun e w' => e = .returned (.int .i64 (Pl.mvPart k u)) ∧ w' = W := fun W u hb => part1_any _ _ _ _ (cell_on hb S0.2.1)
    have HW : Hid _ := hW
    have HF : Hid _ := hF
    have HC2 : Hid _ := HC1
    clear c0 c1 c2 hW hF HC1
    go_region_held3 (fun w' => w'.cell? ⟨w.heap.size, 0, none⟩ = some (.slice (some ⟨b, o, none⟩) ns.length cap) ∧ w'.cell? ⟨w.heap.size + 1, 0, none⟩ = some (.int .i64 k) ∧ w'.cell? ⟨w.heap.size + 1 + 1, 0, none⟩ = some (.slice none 0 0))
      (first | assumption | exact three_on (by assumption) (by assumption))
      (first | (go_at_call 76; refine (behind_some b o cap ns k _ hk hl64 HC2.out).mono ?_; rintro e w' ⟨rfl, rfl⟩) | (go_at_call 75; refine (add_any 77 _ _ w1.drew.heap.size _ _ [] _ _ (Nat.le_refl _) (Row.nil _ _) (by simp; omega) enter36 (fun x hx => HS.out x (mem_stretch hx)) (HW.out _ (Below.refl _ _)) HW.out HF.out).mono ?_; rintro e w2 ⟨v2, rfl, hrow, hb2⟩))
    all_goals
      have c2 : w2.cell? ⟨w.heap.size + 1 + 1, 0, none⟩ = some (.slice none 0 0) := cell_on hb2 S0.2.2
      have f3 : w2.frozen? ⟨w.heap.size + 1 + 1, 0, none⟩ = false := by rw [hb2.frozen (by show _ < w1.heap.size; simp; omega)]; exact f2
      have hB2 : Below w.heap.size w w2 := below_trans hB.drew hb2
      obtain ⟨a2, l2, c3, rfl, _, _⟩ := Row.cap hrow
      have HR : Hid _ := hrow
      clear hb2 S0 f2 hB hrow
      go_wp2
      have q := World.cell?_setCell_same w2 ⟨w.heap.size + 1 + 1, 0, none⟩ (.slice a2 l2 c3) c2
      refine bodyPost_ret (v := .tuple #[.agg #[.slice a2 l2 c3], .int .i64 0]) (by simp [results, Tryz.results30, go_sem, q]) rfl
        ⟨_, by rw [hz0], ?_, hB2.setCell (p := ⟨w.heap.size + 1 + 1, 0, none⟩) (by simp; omega) _⟩
      rw [HP.out]
      have hr := Row.set HR.out (M := w.heap.size + 1 + 1) (j := 0) (by show _ < w1.heap.size; omega) c2 (by simp) (.slice a2 l2 c3)
      rw [List.nil_append] at hr
      exact hr.doc (by simp; omega) (mvd_short (fun x hx => HS.out x (mem_stretch hx)))
end Go.Proofs.YtephhllfodlfbaaGreatDoor
/-
  Remove: what is under an element left out.
-/
namespace Go.Proofs.YtephhllfodlfbaaGreatDoor
open Go.RowKit

/-- what Remove tells -/
def remErr (ns : List Pl.Nd) (n : Int) : Int := if checkAtOf ns n = 0 then (if n = 0 then 3 else 0) else checkAtOf ns n
def remOf (ns : List Pl.Nd) (n : Int) : List Pl.Nd :=
  if remErr ns n = 0 then (ns.take n.toNat).map (Pl.mvd id) ++ (ns.drop (Pl.behind ns n.toNat)).map (Pl.mvd (Pl.mvRem n ((Pl.behind ns n.toNat : Int) - n))) else []
theorem NdsAt.head {w : World} {b o : Nat} {ns : List Pl.Nd} (h : ∀ i (h : i < ns.length), NdAt w b (o + i * 5) ns[i]) (m cap' : Nat) (hm : m ≤ ns.length) : NdsAt w (.slice (some ⟨b, o, none⟩) m cap') (ns.take m) := by
  have := NdsAt.part h 0 m cap' (by omega)
  simpa using this
theorem NdsAt.void {w : World} {ns : List Pl.Nd} (a : Option Addr) (lo c : Nat) (h : lo = ns.length) : NdsAt w (.slice a (ns.length - lo) c) (ns.drop lo) := by
  subst h
  exact ⟨a, c, by rw [List.drop_length, Nat.sub_self]; rfl, Or.inl (by simp)⟩
theorem NdsAt.tail {w : World} {b o : Nat} {ns : List Pl.Nd} (h : ∀ i (h : i < ns.length), NdAt w b (o + i * 5) ns[i]) (lo cap' : Nat) (hm : lo ≤ ns.length) : NdsAt w (.slice (some ⟨b, o + lo * 5, none⟩) (ns.length - lo) cap') (ns.drop lo) := by
  have := NdsAt.part h lo (ns.length - lo) cap' (by omega)
  rwa [List.take_of_length_le (by simp)] at this

end Go.Proofs.YtephhllfodlfbaaGreatDoor
