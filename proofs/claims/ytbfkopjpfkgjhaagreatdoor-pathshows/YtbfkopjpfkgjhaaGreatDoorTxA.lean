/-
  The document's own text of a test.
-/
import Derived.Test.YtbfkopjpfkgjhaaGreatDoorRpC
import Derived.Test.YtbfkopjpfkgjhaaGreatDoorNDig
namespace Go.Proofs.YtbfkopjpfkgjhaaGreatDoor
open Go.RowKit

/-- the document's own text of a list, of one level -/
def Texts {α : Type} (A : MemL α) (g : List α → List UInt8) (R : List α → Prop) : Prop := ∀ w v l, A w v l → R l → (g l).length ≤ 1000000000 → Calls Tryz.prog 8 #[v] w fun e w' => e = .returned (.string ⟨(g l).toArray⟩) ∧ Below w.heap.size w w'
theorem name_of_form {α : Type} {t : Pl.Tst α} (h : tF t = true) (hk : Pl.kName t.kind = false) : t.name = [] := by
  unfold tF Pl.tForm at h
  simp only [Bool.and_eq_true] at h
  have := h.1.1.1
  rw [hk] at this
  simpa [Pl.asked] using this
set_option maxRecDepth 100000 in
set_option maxHeartbeats 4000000 in
theorem testText_any {α : Type} {A : MemL α} {g : List α → List UInt8} {R : List α → Prop} (hA : IsL A) (hg0 : g [] = []) (hT : Texts A g R) (w : World) (t : Pl.Tst α) (au : Option Addr) (cu : Nat) (hl : A w (.slice au t.list.length cu) t.list) (hR : RT R t) (hlen : (Pl.showT g t).length ≤ 1000000000) :
    Calls Tryz.prog 22 #[.agg #[.int .i64 t.kind, .string ⟨t.name.toArray⟩, .string ⟨t.value.toArray⟩, .int .i64 t.a, .int .i64 t.b, .slice au t.list.length cu]] w fun e w' => e = .returned (.string ⟨(Pl.showT g t).toArray⟩) ∧ Below w.heap.size w w' := by
  obtain ⟨h1, h2, h3, h4⟩ := hR
  obtain ⟨k, name, value, a, b, list⟩ := t
  simp only at h1 h2 h3 h4 hl hlen ⊢
  obtain ⟨n, rfl, hn, hn1⟩ := kind_nat h1
  have HA : Hid (A w (.slice au list.length cu) list) := hl
  have HF : Hid (Below w.heap.size w _) := on_alloc w (.cells #[.int .i64 n, .string ⟨name.toArray⟩, .string ⟨value.toArray⟩, .int .i64 a, .int .i64 b, .slice au list.length cu] 61)
  have hl9 := hlen
  unfold Pl.showT Pl.tHead Pl.tValue Pl.tNth at hl9
  simp only [List.length_append] at hl9
  have hn' : n = 1 ∨ n = 2 ∨ n = 3 ∨ n = 4 ∨ n = 5 ∨ n = 6 ∨ n = 7 ∨ n = 8 ∨ n = 9 ∨ n = 10 ∨ n = 11 ∨ n = 12 ∨ n = 13 ∨ n = 14 ∨ n = 15 := by omega
  clear hl hn hn1 h1
  rcases hn' with rfl | rfl | rfl | rfl | rfl | rfl | rfl | rfl | rfl | rfl | rfl | rfl | rfl | rfl | rfl
  · have HS : Hid ((⟨#[46]⟩ : ByteArray) ++ (⟨name.toArray⟩ : ByteArray) = (⟨(Pl.showT g ⟨((1 : Nat) : Int), name, value, a, b, list⟩).toArray⟩ : ByteArray)) := by
      have e0 : list = [] := list_of_form h2 rfl
      subst e0
      unfold Hid Pl.showT Pl.tHead Pl.tValue Pl.tNth
      rw [hg0]
      apply ByteArray.ext
      simp [fBegin, fSign, fEnd, Pl.kValue, Pl.kNth]
    simp [fBegin, fSign, fEnd, Pl.kValue, Pl.kNth] at hl9
    clear hlen h2 h3 h4 HA
    go_enter Tryz.func22, Tryz.ntmps22
    go_wp2
    go_ret
    exact ⟨by rw [← HS.out]; rfl, HF.out⟩
  · have HS : Hid ((⟨#[35]⟩ : ByteArray) ++ (⟨name.toArray⟩ : ByteArray) = (⟨(Pl.showT g ⟨((2 : Nat) : Int), name, value, a, b, list⟩).toArray⟩ : ByteArray)) := by
      have e0 : list = [] := list_of_form h2 rfl
      subst e0
      unfold Hid Pl.showT Pl.tHead Pl.tValue Pl.tNth
      rw [hg0]
      apply ByteArray.ext
      simp [fBegin, fSign, fEnd, Pl.kValue, Pl.kNth]
    simp [fBegin, fSign, fEnd, Pl.kValue, Pl.kNth] at hl9
    clear hlen h2 h3 h4 HA
    go_enter Tryz.func22, Tryz.ntmps22
    go_wp2
    go_ret
    exact ⟨by rw [← HS.out]; rfl, HF.out⟩
  · have HS : Hid ((⟨#[91]⟩ : ByteArray) ++ (⟨name.toArray⟩ : ByteArray) ++ (⟨#[93]⟩ : ByteArray) = (⟨(Pl.showT g ⟨((3 : Nat) : Int), name, value, a, b, list⟩).toArray⟩ : ByteArray)) := by
      have e0 : list = [] := list_of_form h2 rfl
      subst e0
      unfold Hid Pl.showT Pl.tHead Pl.tValue Pl.tNth
      rw [hg0]
      apply ByteArray.ext
      simp [fBegin, fSign, fEnd, Pl.kValue, Pl.kNth]
    simp [fBegin, fSign, fEnd, Pl.kValue, Pl.kNth] at hl9
    clear hlen h2 h3 h4 HA
    go_enter Tryz.func22, Tryz.ntmps22
    go_wp2
    go_ret
    exact ⟨by rw [← HS.out]; rfl, HF.out⟩
  · have HS : Hid ((⟨#[91]⟩ : ByteArray) ++ (⟨name.toArray⟩ : ByteArray) ++ (⟨#[61, 34]⟩ : ByteArray) ++ (⟨value.toArray⟩ : ByteArray) ++ (⟨#[34, 93]⟩ : ByteArray) = (⟨(Pl.showT g ⟨((4 : Nat) : Int), name, value, a, b, list⟩).toArray⟩ : ByteArray)) := by
      have e0 : list = [] := list_of_form h2 rfl
      subst e0
      unfold Hid Pl.showT Pl.tHead Pl.tValue Pl.tNth
      rw [hg0]
      apply ByteArray.ext
      simp [fBegin, fSign, fEnd, Pl.kValue, Pl.kNth]
    simp [fBegin, fSign, fEnd, Pl.kValue, Pl.kNth] at hl9
    clear hlen h2 h3 h4 HA
    go_enter Tryz.func22, Tryz.ntmps22
    go_wp2
    go_ret
    exact ⟨by rw [← HS.out]; rfl, HF.out⟩
  · have HS : Hid ((⟨#[91]⟩ : ByteArray) ++ (⟨name.toArray⟩ : ByteArray) ++ (⟨#[94, 61, 34]⟩ : ByteArray) ++ (⟨value.toArray⟩ : ByteArray) ++ (⟨#[34, 93]⟩ : ByteArray) = (⟨(Pl.showT g ⟨((5 : Nat) : Int), name, value, a, b, list⟩).toArray⟩ : ByteArray)) := by
      have e0 : list = [] := list_of_form h2 rfl
      subst e0
      unfold Hid Pl.showT Pl.tHead Pl.tValue Pl.tNth
      rw [hg0]
      apply ByteArray.ext
      simp [fBegin, fSign, fEnd, Pl.kValue, Pl.kNth]
    simp [fBegin, fSign, fEnd, Pl.kValue, Pl.kNth] at hl9
    clear hlen h2 h3 h4 HA
    go_enter Tryz.func22, Tryz.ntmps22
    go_wp2
    go_ret
    exact ⟨by rw [← HS.out]; rfl, HF.out⟩
  · have HS : Hid ((⟨#[91]⟩ : ByteArray) ++ (⟨name.toArray⟩ : ByteArray) ++ (⟨#[36, 61, 34]⟩ : ByteArray) ++ (⟨value.toArray⟩ : ByteArray) ++ (⟨#[34, 93]⟩ : ByteArray) = (⟨(Pl.showT g ⟨((6 : Nat) : Int), name, value, a, b, list⟩).toArray⟩ : ByteArray)) := by
      have e0 : list = [] := list_of_form h2 rfl
      subst e0
      unfold Hid Pl.showT Pl.tHead Pl.tValue Pl.tNth
      rw [hg0]
      apply ByteArray.ext
      simp [fBegin, fSign, fEnd, Pl.kValue, Pl.kNth]
    simp [fBegin, fSign, fEnd, Pl.kValue, Pl.kNth] at hl9
    clear hlen h2 h3 h4 HA
    go_enter Tryz.func22, Tryz.ntmps22
    go_wp2
    go_ret
    exact ⟨by rw [← HS.out]; rfl, HF.out⟩
  · have HS : Hid ((⟨#[91]⟩ : ByteArray) ++ (⟨name.toArray⟩ : ByteArray) ++ (⟨#[42, 61, 34]⟩ : ByteArray) ++ (⟨value.toArray⟩ : ByteArray) ++ (⟨#[34, 93]⟩ : ByteArray) = (⟨(Pl.showT g ⟨((7 : Nat) : Int), name, value, a, b, list⟩).toArray⟩ : ByteArray)) := by
      have e0 : list = [] := list_of_form h2 rfl
      subst e0
      unfold Hid Pl.showT Pl.tHead Pl.tValue Pl.tNth
      rw [hg0]
      apply ByteArray.ext
      simp [fBegin, fSign, fEnd, Pl.kValue, Pl.kNth]
    simp [fBegin, fSign, fEnd, Pl.kValue, Pl.kNth] at hl9
    clear hlen h2 h3 h4 HA
    go_enter Tryz.func22, Tryz.ntmps22
    go_wp2
    go_ret
    exact ⟨by rw [← HS.out]; rfl, HF.out⟩
  · have HS : Hid ((⟨#[91]⟩ : ByteArray) ++ (⟨name.toArray⟩ : ByteArray) ++ (⟨#[126, 61, 34]⟩ : ByteArray) ++ (⟨value.toArray⟩ : ByteArray) ++ (⟨#[34, 93]⟩ : ByteArray) = (⟨(Pl.showT g ⟨((8 : Nat) : Int), name, value, a, b, list⟩).toArray⟩ : ByteArray)) := by
      have e0 : list = [] := list_of_form h2 rfl
      subst e0
      unfold Hid Pl.showT Pl.tHead Pl.tValue Pl.tNth
      rw [hg0]
      apply ByteArray.ext
      simp [fBegin, fSign, fEnd, Pl.kValue, Pl.kNth]
    simp [fBegin, fSign, fEnd, Pl.kValue, Pl.kNth] at hl9
    clear hlen h2 h3 h4 HA
    go_enter Tryz.func22, Tryz.ntmps22
    go_wp2
    go_ret
    exact ⟨by rw [← HS.out]; rfl, HF.out⟩
  · have hb9 : Nt.Pl.inB a ∧ Nt.Pl.inB b := by
      unfold nB within at h3
      simp only [Bool.and_eq_true, decide_eq_true_eq] at h3
      exact ⟨h3.1, h3.2⟩
    have hsl := shown_len h3
    have HS : Hid ((⟨#[58, 110, 116, 104, 40]⟩ : ByteArray) ++ (⟨(Nt.Pl.shown a b).toArray⟩ : ByteArray) ++ (⟨#[41]⟩ : ByteArray) = (⟨(Pl.showT g ⟨((9 : Nat) : Int), name, value, a, b, list⟩).toArray⟩ : ByteArray)) := by
      have e0 : list = [] := list_of_form h2 rfl
      have e1 : name = [] := name_of_form h2 rfl
      subst e0 e1
      unfold Hid Pl.showT Pl.tHead Pl.tValue Pl.tNth
      rw [hg0]
      apply ByteArray.ext
      simp [fBegin, fSign, fEnd, Pl.kValue, Pl.kNth]
    have HN : Hid (∀ W : World, Calls Tryz.prog 43 _ W _) := fun W => Nt.text_any a b W hb9.1 hb9.2
    clear hlen h2 h3 h4 HA hl9 hb9
    generalize Nt.Pl.shown a b = sh at *
    go_enter Tryz.func22, Tryz.ntmps22
    go_wp2_with fail
    refine (HN.out _).mono ?_
    rintro e w1 ⟨rfl, hb1⟩
    have HB1 : Hid (Below w.heap.size w w1) := below_trans HF.out hb1
    clear hb1 HF HN
    go_wp2
    go_ret
    exact ⟨by rw [← HS.out]; rfl, HB1.out⟩
  · have hb9 : Nt.Pl.inB a ∧ Nt.Pl.inB b := by
      unfold nB within at h3
      simp only [Bool.and_eq_true, decide_eq_true_eq] at h3
      exact ⟨h3.1, h3.2⟩
    have hsl := shown_len h3
    have HS : Hid ((⟨#[58, 108, 97, 115, 116, 40]⟩ : ByteArray) ++ (⟨(Nt.Pl.shown a b).toArray⟩ : ByteArray) ++ (⟨#[41]⟩ : ByteArray) = (⟨(Pl.showT g ⟨((10 : Nat) : Int), name, value, a, b, list⟩).toArray⟩ : ByteArray)) := by
      have e0 : list = [] := list_of_form h2 rfl
      have e1 : name = [] := name_of_form h2 rfl
      subst e0 e1
      unfold Hid Pl.showT Pl.tHead Pl.tValue Pl.tNth
      rw [hg0]
      apply ByteArray.ext
      simp [fBegin, fSign, fEnd, Pl.kValue, Pl.kNth]
    have HN : Hid (∀ W : World, Calls Tryz.prog 43 _ W _) := fun W => Nt.text_any a b W hb9.1 hb9.2
    clear hlen h2 h3 h4 HA hl9 hb9
    generalize Nt.Pl.shown a b = sh at *
    go_enter Tryz.func22, Tryz.ntmps22
    go_wp2_with fail
    refine (HN.out _).mono ?_
    rintro e w1 ⟨rfl, hb1⟩
    have HB1 : Hid (Below w.heap.size w w1) := below_trans HF.out hb1
    clear hb1 HF HN
    go_wp2
    go_ret
    exact ⟨by rw [← HS.out]; rfl, HB1.out⟩
  · have HS : Hid ((⟨#[58, 101, 109, 112, 116, 121]⟩ : ByteArray) = (⟨(Pl.showT g ⟨((11 : Nat) : Int), name, value, a, b, list⟩).toArray⟩ : ByteArray)) := by
      have e0 : list = [] := list_of_form h2 rfl
      have e1 : name = [] := name_of_form h2 rfl
      subst e0 e1
      unfold Hid Pl.showT Pl.tHead Pl.tValue Pl.tNth
      rw [hg0]
      apply ByteArray.ext
      simp [fBegin, fSign, fEnd, Pl.kValue, Pl.kNth]
    simp [fBegin, fSign, fEnd, Pl.kValue, Pl.kNth] at hl9
    clear hlen h2 h3 h4 HA
    go_enter Tryz.func22, Tryz.ntmps22
    go_wp2
    go_ret
    exact ⟨by rw [← HS.out]; rfl, HF.out⟩
  · have HS : Hid ((⟨#[58, 114, 111, 111, 116]⟩ : ByteArray) = (⟨(Pl.showT g ⟨((12 : Nat) : Int), name, value, a, b, list⟩).toArray⟩ : ByteArray)) := by
      have e0 : list = [] := list_of_form h2 rfl
      have e1 : name = [] := name_of_form h2 rfl
      subst e0 e1
      unfold Hid Pl.showT Pl.tHead Pl.tValue Pl.tNth
      rw [hg0]
      apply ByteArray.ext
      simp [fBegin, fSign, fEnd, Pl.kValue, Pl.kNth]
    simp [fBegin, fSign, fEnd, Pl.kValue, Pl.kNth] at hl9
    clear hlen h2 h3 h4 HA
    go_enter Tryz.func22, Tryz.ntmps22
    go_wp2
    go_ret
    exact ⟨by rw [← HS.out]; rfl, HF.out⟩
  · have hsl : (g list).length ≤ 1000000000 := by omega
    have HS : Hid ((⟨#[58, 110, 111, 116, 40]⟩ : ByteArray) ++ (⟨(g list).toArray⟩ : ByteArray) ++ (⟨#[41]⟩ : ByteArray) = (⟨(Pl.showT g ⟨((13 : Nat) : Int), name, value, a, b, list⟩).toArray⟩ : ByteArray)) := by
      have e1 : name = [] := name_of_form h2 rfl
      subst e1
      unfold Hid Pl.showT Pl.tHead Pl.tValue Pl.tNth
      apply ByteArray.ext
      simp [fBegin, fSign, fEnd, Pl.kValue, Pl.kNth]
    have HN : Hid (Calls Tryz.prog 8 _ _ _) := hT _ _ list (hA.on HA.out HF.out) (h4 rfl) hsl
    clear hlen h2 h3 h4 HA hl9
    generalize g list = sh at *
    go_enter Tryz.func22, Tryz.ntmps22
    go_wp2_with fail
    refine HN.out.mono ?_
    rintro e w1 ⟨rfl, hb1⟩
    have HB1 : Hid (Below w.heap.size w w1) := below_trans HF.out hb1
    clear hb1 HF HN
    go_wp2
    go_ret
    exact ⟨by rw [← HS.out]; rfl, HB1.out⟩
  · have hsl : (g list).length ≤ 1000000000 := by omega
    have HS : Hid ((⟨#[58, 105, 115, 40]⟩ : ByteArray) ++ (⟨(g list).toArray⟩ : ByteArray) ++ (⟨#[41]⟩ : ByteArray) = (⟨(Pl.showT g ⟨((14 : Nat) : Int), name, value, a, b, list⟩).toArray⟩ : ByteArray)) := by
      have e1 : name = [] := name_of_form h2 rfl
      subst e1
      unfold Hid Pl.showT Pl.tHead Pl.tValue Pl.tNth
      apply ByteArray.ext
      simp [fBegin, fSign, fEnd, Pl.kValue, Pl.kNth]
    have HN : Hid (Calls Tryz.prog 8 _ _ _) := hT _ _ list (hA.on HA.out HF.out) (h4 rfl) hsl
    clear hlen h2 h3 h4 HA hl9
    generalize g list = sh at *
    go_enter Tryz.func22, Tryz.ntmps22
    go_wp2_with fail
    refine HN.out.mono ?_
    rintro e w1 ⟨rfl, hb1⟩
    have HB1 : Hid (Below w.heap.size w w1) := below_trans HF.out hb1
    clear hb1 HF HN
    go_wp2
    go_ret
    exact ⟨by rw [← HS.out]; rfl, HB1.out⟩
  · have hsl : (g list).length ≤ 1000000000 := by omega
    have HS : Hid ((⟨#[58, 104, 97, 115, 40]⟩ : ByteArray) ++ (⟨(g list).toArray⟩ : ByteArray) ++ (⟨#[41]⟩ : ByteArray) = (⟨(Pl.showT g ⟨((15 : Nat) : Int), name, value, a, b, list⟩).toArray⟩ : ByteArray)) := by
      have e1 : name = [] := name_of_form h2 rfl
      subst e1
      unfold Hid Pl.showT Pl.tHead Pl.tValue Pl.tNth
      apply ByteArray.ext
      simp [fBegin, fSign, fEnd, Pl.kValue, Pl.kNth]
    have HN : Hid (Calls Tryz.prog 8 _ _ _) := hT _ _ list (hA.on HA.out HF.out) (h4 rfl) hsl
    clear hlen h2 h3 h4 HA hl9
    generalize g list = sh at *
    go_enter Tryz.func22, Tryz.ntmps22
    go_wp2_with fail
    refine HN.out.mono ?_
    rintro e w1 ⟨rfl, hb1⟩
    have HB1 : Hid (Below w.heap.size w w1) := below_trans HF.out hb1
    clear hb1 HF HN
    go_wp2
    go_ret
    exact ⟨by rw [← HS.out]; rfl, HB1.out⟩
end Go.Proofs.YtbfkopjpfkgjhaaGreatDoor
