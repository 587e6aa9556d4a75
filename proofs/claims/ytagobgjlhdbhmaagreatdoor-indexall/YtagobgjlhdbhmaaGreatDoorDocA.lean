/-
  Where Up goes: the five rules that elements are copied by.
-/
import Derived.Test.YtagobgjlhdbhmaaGreatDoorAdd
namespace Go.Proofs.YtagobgjlhdbhmaaGreatDoor
open Go.RowKit

namespace Pl
def wr (u : Int) : Int := RowKit.wrap64 u
def mvPart (n : Int) (u : Int) : Int := if u < n then -1 else wr (u - n)
end Pl

set_option maxHeartbeats 400000 in
theorem part1_any (M : Nat) (n u : Int) (w : World) (hc : w.cell? ⟨M, 0, none⟩ = some (.int .i64 n)) : Calls Tryz.prog 127 #[.int .i64 u, .pointer (some ⟨M, 0, none⟩)] w fun e w' => e = .returned (.int .i64 (Pl.mvPart n u)) ∧ w' = w := by
  by_cases h : u < n
  · have HH : Hid (Pl.mvPart n u = -1) := by unfold Hid Pl.mvPart; rw [if_pos h]
    go_enter Tryz.func127, Tryz.ntmps127
    go_wp2
    go_ret
    exact ⟨by rw [HH.out]; rfl, rfl⟩
  · have HH : Hid (Pl.mvPart n u = RowKit.wrap64 (u - n)) := by unfold Hid Pl.mvPart Pl.wr; rw [if_neg h]
    go_enter Tryz.func127, Tryz.ntmps127
    go_wp2
    go_ret
    exact ⟨by rw [HH.out]; rfl, rfl⟩
theorem enter36 (args : Array Value) (W : World) : (callFunc 127 args).run Tryz.prog W = .ok (.enter 127 args) W := by simp [callFunc, go_sem, Tryz.func127, Tryz.f127]
set_option maxHeartbeats 400000 in
theorem add_none (F : Fn) (caps bs : Array Value) (v0 : Value) (a : Option Addr) (cap : Nat) (w : World) :
    Calls Tryz.prog 125 #[v0, .slice a 0 cap, .func F bs caps] w fun e w' => e = .returned v0 ∧ w' = w := by
  go_enter Tryz.func125, Tryz.ntmps125
  go_wp2
  refine wp_loop_rounds 1 ?_
  rw [rounds_succ]
  go_wp2
  go_ret
  exact ⟨rfl, rfl⟩
theorem add_any (F : Nat) (caps : Array Value) (mv : Int → Int) (B : Nat) (v0 v1 : Value) (ns ms : List Pl.Nd) (w : World) (hB : B ≤ w.heap.size) (hr : Row B w v0 ns) (h64 : ns.length + ms.length ≤ 64)
    (hen : ∀ args W, (callFunc F args).run Tryz.prog W = .ok (.enter F args) W) (hl : ∀ x ∈ ms, x.cls.length ≤ 6 ∧ x.ats.length ≤ 4) (hm : NdsAt w v1 ms) (hlow : ∀ W, Below B w W → NdsAt W v1 ms)
    (hf : ∀ W (u : Int), Below B w W → Calls Tryz.prog F (#[.int .i64 u] ++ caps) W fun e w' => e = .returned (.int .i64 (mv u)) ∧ w' = W) :
    Calls Tryz.prog 125 #[v0, v1, .func (.func F) #[] caps] w fun e w' => ∃ v', e = .returned v' ∧ Row B w' v' (ns ++ ms.map (Pl.mvd mv)) ∧ Below B w w' := by
  obtain ⟨a, cap, rfl, hc⟩ := hm
  rcases hc with rfl | ⟨b, o, rfl, hc⟩
  · refine (add_none (.func F) caps #[] v0 a cap w).mono ?_
    rintro e w' ⟨rfl, rfl⟩
    exact ⟨v0, rfl, by simpa using hr, Below.refl _ _⟩
  · refine (add_some F caps mv B b o cap v0 ns ms w hB hr h64 hen hl ?_ hf)
    intro W hW i hi
    obtain ⟨a', cap', e, hc'⟩ := hlow W hW
    injection e with e1 e2 e3
    subst e1
    rcases hc' with h0 | ⟨b', o', e', hc'⟩
    · subst h0; simp at hi
    · injection e' with e'; injection e' with e1 e2; subst e1 e2; exact hc' i hi
end Go.Proofs.YtagobgjlhdbhmaaGreatDoor
/-
  A document as an argument or an answer; facts of right documents that the calls lean on.
-/
namespace Go.Proofs.YtagobgjlhdbhmaaGreatDoor
open Go.RowKit

/-- a slice with its room -/
def Capd (v : Value) : Prop := ∃ a l c, v = .slice a l c ∧ l ≤ c ∧ c ≤ maxLen
/-- a document's elements -/
def DocAt (w : World) (v : Value) (ns : List Pl.Nd) : Prop := NdsAt w v ns ∧ Capd v ∧ FitsAll ns
theorem DocAt.on {w w' : World} {v : Value} {ns : List Pl.Nd} (h : DocAt w v ns) (hb : Below w.heap.size w w') : DocAt w' v ns := ⟨h.1.on hb, h.2⟩
theorem DocAt.nil (w : World) : DocAt w (.slice none 0 0) [] := ⟨⟨none, 0, rfl, Or.inl rfl⟩, ⟨_, _, _, rfl, Nat.le_refl _, by unfold maxLen; omega⟩, by simp, fun i h => by simp at h⟩

theorem cell_set_str {w : World} {b o M j : Nat} {s : ByteArray} {u old : Value} (h : w.cell? ⟨b, o, none⟩ = some (.string s)) (h2 : w.cell? ⟨M, j, none⟩ = some old) (hs : ∀ s, old ≠ .string s) : (w.setCell ⟨M, j, none⟩ u).cell? ⟨b, o, none⟩ = some (.string s) := by
  rw [World.cell?_setCell_other _ _ _ _ (by intro e; rw [e, h] at h2; injection h2 with h2; exact hs s h2.symm)]; exact h
theorem StrsNe.set {g : Option Nat} {w : World} {v : Value} {ss : List (List UInt8)} (h : StrsNe g w v ss) {M j : Nat} {old : Value} (h2 : w.cell? ⟨M, j, none⟩ = some old) (hs : ∀ s, old ≠ .string s) (u : Value) : StrsNe g (w.setCell ⟨M, j, none⟩ u) v ss := by
  obtain ⟨a, cap, rfl, h⟩ := h
  refine ⟨a, cap, rfl, ?_⟩
  rcases h with h | ⟨b, o, ha, hB, hc⟩
  · exact Or.inl h
  · exact Or.inr ⟨b, o, ha, hB, fun i hi => cell_set_str (hc i hi) h2 hs⟩
theorem AtsNe.set {g : Option Nat} {w : World} {v : Value} {ss : List (List UInt8 × List UInt8)} (h : AtsNe g w v ss) {M j : Nat} {old : Value} (h2 : w.cell? ⟨M, j, none⟩ = some old) (hs : ∀ s, old ≠ .string s) (u : Value) : AtsNe g (w.setCell ⟨M, j, none⟩ u) v ss := by
  obtain ⟨a, cap, rfl, h⟩ := h
  refine ⟨a, cap, rfl, ?_⟩
  rcases h with h | ⟨b, o, ha, hB, hc⟩
  · exact Or.inl h
  · exact Or.inr ⟨b, o, ha, hB, fun i hi => ⟨cell_set_str (hc i hi).1 h2 hs, cell_set_str (hc i hi).2 h2 hs⟩⟩
theorem CellsOf.set {g : Option Nat} {w : World} {M j : Nat} {old : Value} (h2 : w.cell? ⟨M, j, none⟩ = some old) (hs : ∀ s, old ≠ .string s) (u : Value) : ∀ (xs : List Value) (ns : List Pl.Nd), CellsOf g w xs ns → CellsOf g (w.setCell ⟨M, j, none⟩ u) xs ns
  | [], [], _ => trivial
  | c0 :: c1 :: c2 :: c3 :: c4 :: r, x :: t, h => ⟨⟨h.1.1, h.1.2.1, h.1.2.2.1, h.1.2.2.2.1.set h2 hs u, h.1.2.2.2.2.set h2 hs u⟩, CellsOf.set h2 hs u r t h.2⟩
  | [], _ :: _, h => h.elim
  | _ :: _, [], h => by simp [CellsOf] at h
  | [_], _ :: _, h => by cases h
  | [_, _], _ :: _, h => by cases h
  | [_, _, _], _ :: _, h => by cases h
  | [_, _, _, _], _ :: _, h => by cases h
/-- a cell below the row, that holds no text, may be written -/
theorem Row.set {B : Nat} {w : World} {v : Value} {ns : List Pl.Nd} (h : Row B w v ns) {M j : Nat} {old : Value} (hM : M < B) (h2 : w.cell? ⟨M, j, none⟩ = some old) (hs : ∀ s, old ≠ .string s) (u : Value) : Row B (w.setCell ⟨M, j, none⟩ u) v ns := by
  obtain ⟨xs, ho, hc⟩ := h
  refine ⟨xs, ?_, CellsOf.set h2 hs u _ _ hc⟩
  refine ⟨ho.1, ?_⟩
  rcases ho.2 with h0 | ⟨g, cap, cur, rfl, hb, hgg, rest⟩
  · exact Or.inl h0
  · exact Or.inr ⟨g, cap, cur, rfl, hb, by rw [Below.heap_setCell _ _ _ _ (by simp; omega)]; exact hgg, rest⟩
theorem Row.cap {B : Nat} {w : World} {v : Value} {ns : List Pl.Nd} (h : Row B w v ns) : Capd v := by
  obtain ⟨xs, ho, _⟩ := h
  rcases ho.2 with ⟨rfl, h0⟩ | ⟨g, cap, cur, rfl, hb, hgg, h1, h2, _⟩
  · exact ⟨none, 0, 0, rfl, Nat.le_refl _, by unfold maxLen; omega⟩
  · exact ⟨_, _, _, rfl, h1, h2⟩
theorem Row.doc {B : Nat} {w : World} {v : Value} {ns : List Pl.Nd} (h : Row B w v ns) (hl : ns.length ≤ 64) (hf : ∀ x ∈ ns, x.cls.length ≤ 6 ∧ x.ats.length ≤ 4) : DocAt w v ns :=
  ⟨h.nds, h.cap, by unfold maxLen; omega, fun i hi => ⟨by have := (hf _ (List.getElem_mem hi)).1; unfold maxLen; omega, by have := (hf _ (List.getElem_mem hi)).2; unfold maxLen; omega⟩⟩

/-- what a right document has -/
theorem check_zero {ns : List Pl.Nd} (h : Pl.checkDoc ns = 0) : 1 ≤ ns.length ∧ ns.length ≤ 64 ∧ Pl.okTo ns ns.length = true := by
  unfold Pl.checkDoc at h
  split at h
  · omega
  · split at h
    · exact ⟨by omega, by omega, by assumption⟩
    · omega
theorem okTo_right {ns : List Pl.Nd} {n k : Nat} (h : Pl.okTo ns n = true) (hk : k < n) (hn : k < ns.length) : Pl.right ns[k] = true ∧ Pl.hangs ns k = true := by
  have := Pl.okTo_le h (n := k + 1) (by omega)
  rw [Pl.okTo_succ, List.getElem?_eq_getElem hn] at this
  simp only [Bool.and_eq_true] at this
  exact this.2
theorem right_short {x : Pl.Nd} (h : Pl.right x = true) : x.cls.length ≤ 6 ∧ x.ats.length ≤ 4 := by
  unfold Pl.right Pl.names at h
  simp only [Bool.and_eq_true, decide_eq_true_eq, List.length_map] at h
  exact ⟨h.1.1.2.1.1, h.1.2.1.1⟩
theorem check_short {ns : List Pl.Nd} (h : Pl.checkDoc ns = 0) : ∀ x ∈ ns, x.cls.length ≤ 6 ∧ x.ats.length ≤ 4 := by
  intro x hx
  obtain ⟨_, _, hk⟩ := check_zero h
  obtain ⟨i, hi, rfl⟩ := List.getElem_of_mem hx
  exact right_short (okTo_right hk hi hi).1
theorem checkAt_zero {ns : List Pl.Nd} {n : Int} (h : checkAtOf ns n = 0) : Pl.checkDoc ns = 0 ∧ ∃ k : Nat, n = k ∧ k < ns.length := by
  unfold checkAtOf at h
  split at h
  · split at h
    · rename_i h1 h2
      refine ⟨h1, n.toNat, ?_⟩
      unfold hasB at h2
      simp only [Bool.and_eq_true, decide_eq_true_eq] at h2
      omega
    · omega
  · omega
theorem behindFrom_le (ns : List Pl.Nd) (n : Nat) : ∀ (f e : Nat), e ≤ ns.length → e ≤ Pl.behindFrom ns n f e ∧ Pl.behindFrom ns n f e ≤ ns.length
  | 0, e, h => ⟨Nat.le_refl _, h⟩
  | f + 1, e, h => by
    unfold Pl.behindFrom
    split
    · rename_i h1
      have := behindFrom_le ns n f (e + 1) (by omega)
      omega
    · exact ⟨Nat.le_refl _, h⟩
theorem behind_le {ns : List Pl.Nd} {n : Nat} (h : n < ns.length) : n + 1 ≤ Pl.behind ns n ∧ Pl.behind ns n ≤ ns.length := behindFrom_le ns n _ _ h
/-- a stretch of a document's elements -/
theorem NdsAt.part {w : World} {b o : Nat} {ns : List Pl.Nd} (h : ∀ i (h : i < ns.length), NdAt w b (o + i * 5) ns[i]) (lo m cap' : Nat) (hm : lo + m ≤ ns.length) : NdsAt w (.slice (some ⟨b, o + lo * 5, none⟩) m cap') ((ns.drop lo).take m) := by
  have hl : ((ns.drop lo).take m).length = m := by simp; omega
  refine ⟨_, _, by rw [hl], Or.inr ⟨b, _, rfl, fun i hi => ?_⟩⟩
  have := h (lo + i) (by omega)
  rw [show o + lo * 5 + i * 5 = o + (lo + i) * 5 by omega]
  simpa using this
theorem mem_stretch {α : Type} {l : List α} {lo m : Nat} {x : α} (h : x ∈ (l.drop lo).take m) : x ∈ l := List.mem_of_mem_drop (List.mem_of_mem_take h)
/-- the part under an element, as the program copies it -/
def partOf (ns : List Pl.Nd) (n : Int) : List Pl.Nd := if checkAtOf ns n = 0 then ((ns.drop n.toNat).take (Pl.behind ns n.toNat - n.toNat)).map (Pl.mvd (Pl.mvPart n)) else []
theorem mvd_short {mv : Int → Int} {ms : List Pl.Nd} (h : ∀ x ∈ ms, x.cls.length ≤ 6 ∧ x.ats.length ≤ 4) : ∀ x ∈ ms.map (Pl.mvd mv), x.cls.length ≤ 6 ∧ x.ats.length ≤ 4 := by
  intro x hx
  obtain ⟨y, hy, rfl⟩ := List.mem_map.1 hx
  exact h y hy
end Go.Proofs.YtagobgjlhdbhmaaGreatDoor
