/-
  Show's pieces: what is written, what is closed, what stands between two elements.
-/
import Derived.Test.YthlpcmgeelkncaaBld
import Derived.Test.YthlpcmgeelkncaaMkA
import Derived.Test.YthlpcmgeelkncaaTree
namespace Go.Proofs.Ythlpcmgeelkncaa
open Go.RowKit

/-- a builder that holds a text -/
def BB (B b : Nat) (l : List UInt8) (w : World) : Prop := Lib.IsBuilderF 83 5 B b (Lib.byteCells l) w
/-- what a builder's call leaves as it was -/
structure Keep (B b : Nat) (w w' : World) : Prop where
  below : Below B w w'
  kept : Lib.OthersKept 5 (some b) w w'
theorem Keep.refl (B b : Nat) (w : World) : Keep B b w w := ⟨Below.refl _ _, Lib.OthersKept.refl _ _ _⟩
theorem Keep.trans {B b : Nat} {w1 w2 w3 : World} (h : Keep B b w1 w2) (k : Keep B b w2 w3) : Keep B b w1 w3 := ⟨h.below.trans k.below, h.kept.trans k.kept⟩
theorem Keep.drew {B b : Nat} {w1 w2 : World} (h : Keep B b w1 w2) : Keep B b w1 w2.drew := ⟨h.below.drew, h.kept.drew⟩
theorem Keep.alloc {B b : Nat} {w1 w2 : World} (h : Keep B b w1 w2) (hB : B ≤ w2.heap.size) (o : Obj) : Keep B b w1 (w2.alloc o) := ⟨h.below.alloc hB o, h.kept.alloc o⟩
theorem Keep.blk {B b : Nat} {w w' : World} (h : Keep B b w w') {N : Nat} {c : Array Value} {T : TypeId} (hN : N ≠ b) (hT : T ≠ 5) (hb : w.heap[N]? = some (.cells c T)) : w'.heap[N]? = some (.cells c T) :=
  h.kept N _ hb (by simpa using hN) (fun c' fz e => by injection e with _ e2; exact hT e2)
theorem BB.drew {B b : Nat} {l : List UInt8} {w : World} (h : BB B b l w) : BB B b l w.drew := by
  rcases h with h | h
  · exact Or.inl h.drew
  · exact Or.inr h.drew
theorem BB.alloc {B b : Nat} {l : List UInt8} {w : World} (h : BB B b l w) (o : Obj) : BB B b l (w.alloc o) := Lib.IsBuilderF.alloc h o
theorem write_any (B b : Nat) (l : List UInt8) (s : ByteArray) (w : World) (h : BB B b l w) (hl : l.length + s.size ≤ 140737488355328) (hBw : B ≤ w.heap.size) :
    Calls Try.prog 77 #[.pointer (some ⟨b, 0, none⟩), .string s] w fun e w' => e = .returned (.tuple #[.int .i64 s.size, .nilIface]) ∧ BB B b (l ++ s.data.toList) w' ∧ Keep B b w w' := by
  refine (writeString_any B b (Lib.byteCells l) s w h (by rw [Lib.byteCells_length]; exact hl) hBw).mono ?_
  rintro e w' ⟨rfl, h1, h2, h3⟩
  refine ⟨rfl, ?_, h2, h3⟩
  unfold BB
  have e : Lib.byteCells (l ++ s.data.toList) = Lib.byteCells l ++ Lib.strCells s := by rw [Lib.strCells_eq]; unfold Lib.byteCells; rw [List.map_append]
  rw [e]; exact h1
namespace Pl
/-- from n on the way up leads to up -/
def Clo (ns : List Nd) (up : Int) (n : Nat) : Prop := -1 ≤ up ∧ up < n ∧ ∀ m : Nat, up < m → m ≤ n → up ≤ upOf ns m ∧ upOf ns m < m
theorem Clo.next {ns : List Nd} {up : Int} {n : Nat} (h : Clo ns up n) (hne : upOf ns n ≠ up) : 0 ≤ upOf ns n ∧ upOf ns n < n ∧ Clo ns up (upOf ns n).toNat := by
  obtain ⟨h1, h2, h3⟩ := h
  have := h3 n h2 (Nat.le_refl _)
  exact ⟨by omega, by omega, h1, by omega, fun m h4 h5 => h3 m h4 (by omega)⟩
theorem Clo.step {ns : List Nd} {up : Int} {n : Nat} (h : Clo ns up n) (hne : upOf ns n ≠ up) : cl ns up n = 41 :: cl ns up (upOf ns n).toNat := by
  obtain ⟨h1, h2, _⟩ := h.next hne
  exact cl_go hne h1 h2
theorem cl_len (ns : List Nd) (up : Int) : ∀ n : Nat, (cl ns up n).length ≤ n := by
  intro n
  induction n using Nat.strongRecOn with
  | ind n ih =>
    rw [cl]
    split
    · simp
    · rename_i h
      have h2 : 0 ≤ upOf ns n ∧ upOf ns n < n := by
        rcases Classical.em (0 ≤ upOf ns n ∧ upOf ns n < n) with h3 | h3
        · exact h3
        · exact absurd (Or.inr h3) h
      have := ih (upOf ns n).toNat (by omega)
      simp only [List.length_cons]
      omega
end Pl
set_option maxRecDepth 100000 in
set_option maxHeartbeats 1000000 in
theorem closeUp_any (B b bn on m cap : Nat) (ns : List Pl.Nd) (up : Int) (l : List UInt8) (w : World) (hm : 0 < m) (hmn : m ≤ ns.length) (h64 : ns.length ≤ 64) (hclo : Pl.Clo ns up (m - 1)) (hl : l.length ≤ 1000000) (hbn : bn < B) (hBw : B ≤ w.heap.size) (hb : BB B b l w)
    (hc : ∀ i (h : i < ns.length), NdAt w bn (on + i * 5) ns[i]) :
    Calls Try.prog 60 #[.pointer (some ⟨b, 0, none⟩), .slice (some ⟨bn, on, none⟩) m cap, .int .i64 up] w fun e w' => e = .returned (.tuple #[]) ∧ BB B b (l ++ Pl.cl ns up (m - 1)) w' ∧ Keep B b w w' := by
  have HB : Hid _ := hb
  have HC : Hid (∀ k, k < ns.length → ∀ W, Below B w W → W.cell? ⟨bn, on + k * 5, none⟩ = some (.int .i64 (Pl.upOf ns k))) := fun k hk W hW => (hW.cell (p := ⟨bn, on + k * 5, none⟩) hbn).trans (up_cell hc k hk)
  have HCl : Hid _ := hclo
  clear hb hc hclo
  go_enter Try.func60, Try.ntmps60
  go_wp2_with fail
  go_loopw [6] (fun n wr => ∃ (k : Nat) (t : List UInt8), k < m ∧ n = .int .i64 k ∧ Hid (Pl.Clo ns up k) ∧ Hid (BB B b t wr) ∧ Hid (l ++ Pl.cl ns up (m - 1) = t ++ Pl.cl ns up k) ∧ t.length + k ≤ l.length + m ∧ Hid (Keep B b w wr)) (fun n _ => (intOf n).toNat)
  case atStart => exact ⟨m - 1, l, by omega, by go_num, HCl, HB, rfl, by omega, Keep.refl _ _ _⟩
  case round =>
    obtain ⟨k, t, hk, rfl, hcl, hbb, heq, hlen, hkp⟩ := hrel
    have q := HC.out k (by omega) wr hkp.out.below
    cases hx : (Pl.upOf ns k != up) with
    | true =>
      have hne : Pl.upOf ns k ≠ up := by simpa using hx
      obtain ⟨h0, h1, hc2⟩ := hcl.out.next hne
      have HE2 : Hid (l ++ Pl.cl ns up (m - 1) = (t ++ [41]) ++ Pl.cl ns up (Pl.upOf ns k).toNat) := by
        unfold Hid
        rw [heq.out, hcl.out.step hne]
        simp
      have HC2 : Hid _ := hc2
      clear hc2 heq hne
      go_wp2_with fail
      refine (write_any B b t ⟨#[41]⟩ wr hbb.out (by show t.length + 1 ≤ _; omega) (Nat.le_trans hBw hkp.out.below.size)).mono ?_
      rintro e w2 ⟨rfl, hb2, hk2⟩
      have HB2 : Hid (BB B b (t ++ [41]) w2) := hb2
      have HK2 : Hid _ := hkp.out.trans hk2
      have q2 := HC.out k (by omega) w2 HK2.out.below
      obtain ⟨u, hu⟩ : ∃ u : Nat, Pl.upOf ns k = u := ⟨(Pl.upOf ns k).toNat, by omega⟩
      rw [hu] at q2 HC2 HE2 h1
      clear hb2 hk2 hx q hbb hu h0
      go_wp2
      exact ⟨⟨u, t ++ [41], by omega, rfl, HC2, HB2, HE2, by simp; omega, HK2⟩, by simp [intOf]; omega⟩
    | false =>
      have hne : Pl.upOf ns k = up := by simpa using hx
      have HE2 : Hid (l ++ Pl.cl ns up (m - 1) = t) := by
        unfold Hid
        rw [heq.out, Pl.cl_stop hne, List.append_nil]
      clear heq hne
      go_wp2
      go_end0
      exact ⟨rfl, by rw [HE2.out]; exact hbb.out, hkp.out⟩
end Go.Proofs.Ythlpcmgeelkncaa
