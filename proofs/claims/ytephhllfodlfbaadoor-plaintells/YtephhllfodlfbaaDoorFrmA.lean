/-
  The table of forms, and what is asked of it.
-/
import Derived.Test.YtephhllfodlfbaaDoorPkA
import Derived.Test.YtephhllfodlfbaaDoorRcD
namespace Go.Proofs.YtephhllfodlfbaaDoor
open Go.RowKit Go.Shelf

/-- what stands ahead, behind the name, and behind all -/
def fBegin : Nat → List UInt8
  | 1 => [46] | 2 => [35] | 3 => [91] | 4 => [91] | 5 => [91] | 6 => [91] | 7 => [91] | 8 => [91]
  | 9 => [58, 110, 116, 104, 40] | 10 => [58, 108, 97, 115, 116, 40] | 11 => [58, 101, 109, 112, 116, 121] | 12 => [58, 114, 111, 111, 116]
  | 13 => [58, 110, 111, 116, 40] | 14 => [58, 105, 115, 40] | 15 => [58, 104, 97, 115, 40]
  | _ => []
def fSign : Nat → List UInt8
  | 3 => [93] | 4 => [61] | 5 => [94, 61] | 6 => [36, 61] | 7 => [42, 61] | 8 => [126, 61]
  | _ => []
def fEnd : Nat → List UInt8
  | 4 => [93] | 5 => [93] | 6 => [93] | 7 => [93] | 8 => [93] | 9 => [41] | 10 => [41] | 13 => [41] | 14 => [41] | 15 => [41]
  | _ => []
/-- the variable path.forms holds what it was laid with -/
def FormsAt (w : World) : Prop := ∀ k : Nat, k ≤ 15 → w.cell? ⟨0, k * 7, none⟩ = some (.bool (Pl.kName k)) ∧ w.cell? ⟨0, k * 7 + 1, none⟩ = some (.bool (Pl.kValue k)) ∧ w.cell? ⟨0, k * 7 + 2, none⟩ = some (.bool (Pl.kNth k)) ∧ w.cell? ⟨0, k * 7 + 3, none⟩ = some (.bool (Pl.kList k)) ∧
  w.cell? ⟨0, k * 7 + 4, none⟩ = some (.string ⟨(fBegin k).toArray⟩) ∧ w.cell? ⟨0, k * 7 + 5, none⟩ = some (.string ⟨(fSign k).toArray⟩) ∧ w.cell? ⟨0, k * 7 + 6, none⟩ = some (.string ⟨(fEnd k).toArray⟩)
theorem FormsAt.on {w w' : World} (h : FormsAt w) (hb : Below w.heap.size w w') : FormsAt w' := fun k hk => by
  obtain ⟨h0, h1, h2, h3, h4, h5, h6⟩ := h k hk
  exact ⟨cell_on hb h0, cell_on hb h1, cell_on hb h2, cell_on hb h3, cell_on hb h4, cell_on hb h5, cell_on hb h6⟩
theorem kList_kind {k : Int} (h : Pl.isKind k = false) : Pl.kList k = false := by
  simp [Pl.isKind, Pl.kList] at *
  omega
theorem kind_nat {k : Int} (h : Pl.isKind k = true) : ∃ n : Nat, k = n ∧ n ≤ 15 ∧ 1 ≤ n := by
  simp [Pl.isKind] at h
  exact ⟨k.toNat, by omega, by omega, by omega⟩
set_option maxRecDepth 100000 in
set_option maxHeartbeats 2000000 in
theorem hasList_any (k a b : Int) (nm vl : Value) (v : Value) (au : Option Addr) (n cu : Nat) (w : World) (hv : v = .agg #[.int .i64 k, nm, vl, .int .i64 a, .int .i64 b, .slice au n cu]) (nb vb : ByteArray) (hn : nm = .string nb) (hvl : vl = .string vb) (hF : FormsAt w) :
    Calls Tryd.prog 46 #[v] w fun e w' => e = .returned (.bool (Pl.kList k)) ∧ Below w.heap.size w w' := by
  subst hv hn hvl
  have hbt := on_alloc w (.cells #[.int .i64 k, .string nb, .string vb, .int .i64 a, .int .i64 b, .slice au n cu] 45)
  have HB : Hid (Below _ _ _) := hbt
  have HF : Hid (FormsAt _) := hF.on hbt
  obtain ⟨r0, -⟩ := Blk6p.new w (.int .i64 k) (.string nb) (.string vb) (.int .i64 a) (.int .i64 b) (.slice au n cu)
  clear hbt hF
  cases hk : Pl.isKind k with
  | false =>
    have HK : Hid (Pl.kList k = false) := kList_kind hk
    go_enter Tryd.func46, Tryd.ntmps46
    go_wp2_with fail
    refine (isKind_any _ _).mono ?_
    rintro e w1 ⟨rfl, rfl⟩
    rw [hk]
    go_wp2
    go_ret
    exact ⟨by rw [HK.out]; rfl, HB.out⟩
  | true =>
    obtain ⟨m, rfl, hm, h1⟩ := kind_nat hk
    obtain ⟨-, -, -, f3, -⟩ := HF.out m hm
    have i1 : (0 : Int) ≤ (m : Int) := by omega
    have i2 : (m : Int) < 16 := by omega
    go_enter Tryd.func46, Tryd.ntmps46
    go_wp2_with fail
    refine (isKind_any _ _).mono ?_
    rintro e w1 ⟨rfl, rfl⟩
    rw [hk]
    go_wp2
    go_ret
    exact ⟨rfl, HB.out⟩
end Go.Proofs.YtephhllfodlfbaaDoor
