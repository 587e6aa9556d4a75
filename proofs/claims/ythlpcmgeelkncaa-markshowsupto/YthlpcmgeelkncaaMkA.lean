/-
  Documents shown, in plain lists: what is written one element behind the other is the tree's text. No program is walked in this text.
-/
import Derived.Test.YthlpcmgeelkncaaTreO
namespace Go.Proofs.Ythlpcmgeelkncaa.Pl

/-- an element shown, without what is below it -/
def showNd (x : Nd) : List UInt8 :=
  x.tag ++ (if x.id = [] then [] else 35 :: x.id) ++ x.cls.flatMap (fun c => 46 :: c) ++ x.ats.flatMap (fun a => 91 :: (a.1 ++ [61, 34] ++ a.2 ++ [34, 93]))
theorem showNd_up (x : Nd) (u : Int) : showNd { x with up := u } = showNd x := rfl
/-- trees shown, a blank between each two -/
def textF : F → List UInt8
  | .nil => []
  | .cons x k r => showNd x ++ (if k.len = 0 then [] else 40 :: (textF k ++ [41])) ++ (if r.len = 0 then [] else 32 :: textF r)
/-- what is closed from element n on, up to the one that hangs below up -/
def cl (ns : List Nd) (up : Int) (n : Nat) : List UInt8 :=
  if _h : upOf ns n = up ∨ ¬ (0 ≤ upOf ns n ∧ upOf ns n < n) then [] else 41 :: cl ns up (upOf ns n).toNat
termination_by n
decreasing_by omega
def linkTo (ns : List Nd) (n : Nat) (up : Int) : List UInt8 := if up = (n : Int) - 1 then [40] else cl ns up (n - 1) ++ [32]
def showTo (ns : List Nd) : Nat → List UInt8
  | 0 => []
  | n + 1 => showTo ns n ++ (if n = 0 then [] else linkTo ns n (upOf ns n)) ++ showNd (ndAt ns n)
def showDoc (ns : List Nd) : List UInt8 := showTo ns ns.length ++ cl ns (-1) (ns.length - 1)

theorem cl_stop {ns : List Nd} {up : Int} {n : Nat} (h : upOf ns n = up) : cl ns up n = [] := by
  rw [cl, dif_pos (Or.inl h)]
theorem cl_go {ns : List Nd} {up : Int} {n : Nat} (h : upOf ns n ≠ up) (h0 : 0 ≤ upOf ns n) (h1 : upOf ns n < n) : cl ns up n = 41 :: cl ns up (upOf ns n).toNat := by
  rw [cl, dif_neg (by omega)]
/-- closed up to pos, and pos itself -/
theorem cl_over {ns : List Nd} {up : Int} {pos e : Nat} (hu : up < pos) (hp : upOf ns pos = up) (h : ∀ m : Nat, pos < m → m < e → (pos : Int) ≤ upOf ns m ∧ upOf ns m < m) :
    ∀ n : Nat, pos < n → n < e → cl ns up n = cl ns pos n ++ [41] := by
  intro n
  induction n using Nat.strongRecOn with
  | ind n ih =>
    intro h1 h2
    obtain ⟨a, b⟩ := h n h1 h2
    rw [cl_go (by omega) (by omega) b]
    by_cases he : upOf ns n = pos
    · rw [cl_stop he, he, show ((pos : Int)).toNat = pos by omega, cl_stop hp]; rfl
    · rw [cl_go he (by omega) b, ih (upOf ns n).toNat (by omega) (by omega) (by omega)]; rfl
theorem upOf_l {a b : List Nd} {i : Nat} (h : i < a.length) : upOf (a ++ b) i = upOf a i := by
  unfold upOf
  rw [List.getElem?_append_left h]
theorem upOf_r {a b : List Nd} {i : Nat} (h : a.length ≤ i) : upOf (a ++ b) i = upOf b (i - a.length) := by
  unfold upOf
  rw [List.getElem?_append_right h]
theorem ndAt_l {a b : List Nd} {i : Nat} (h : i < a.length) : ndAt (a ++ b) i = ndAt a i := by
  unfold ndAt
  rw [List.getElem?_append_left h]
theorem ndAt_r {a b : List Nd} {i : Nat} (h : a.length ≤ i) : ndAt (a ++ b) i = ndAt b (i - a.length) := by
  unfold ndAt
  rw [List.getElem?_append_right h]
/-- where what is laid down hangs -/
theorem lay_up (f : F) : ∀ (pos : Nat) (up : Int) (j : Nat), up < pos → j < f.size → up ≤ upOf (layF f pos up) j ∧ upOf (layF f pos up) j < (pos + j : Nat) := by
  induction f with
  | nil => intro pos up j _ h; simp [F.size] at h
  | cons x k r ihk ihr =>
    intro pos up j hu hj
    rw [layF]
    have hl : ({ x with up := up } :: layF k (pos + 1) pos).length = k.size + 1 := by simp [layF_len]
    by_cases h : j < k.size + 1
    · rw [upOf_l (by omega)]
      cases j with
      | zero => exact ⟨Int.le_refl _, by show up < _; omega⟩
      | succ j =>
        have := ihk (pos + 1) pos j (by omega) (by omega)
        have e : upOf ({ x with up := up } :: layF k (pos + 1) pos) (j + 1) = upOf (layF k (pos + 1) pos) j := rfl
        rw [e]
        omega
    · simp only [F.size] at hj
      rw [upOf_r (by omega), hl]
      have := ihr (pos + 1 + k.size) up (j - (k.size + 1)) (by omega) (by omega)
      omega
theorem len_pos {f : F} (h : f.len ≠ 0) : 0 < f.size := by
  have := F.len_le_size f
  omega
/-- what is shown of trees that lie side by side -/
theorem show_trees (f : F) : ∀ (ns pre rest : List Nd) (up : Int), f.len ≠ 0 → 0 < pre.length → up < pre.length → ns = pre ++ (layF f pre.length up ++ rest) →
    showTo ns (pre.length + f.size) ++ cl ns up (pre.length + f.size - 1) = showTo ns pre.length ++ linkTo ns pre.length up ++ textF f := by
  induction f with
  | nil => intro _ _ _ _ h; simp [F.len] at h
  | cons x k r ihk ihr =>
    intro ns pre rest up _ hp hu hns
    have hns1 : ns = (pre ++ [{ x with up := up }]) ++ (layF k (pre.length + 1) pre.length ++ (layF r (pre.length + 1 + k.size) up ++ rest)) := by
      rw [hns, layF]; simp
    have hns2 : ns = (pre ++ ({ x with up := up } :: layF k (pre.length + 1) pre.length)) ++ (layF r (pre.length + 1 + k.size) up ++ rest) := by
      rw [hns, layF]; simp
    have hat : ndAt ns pre.length = { x with up := up } ∧ upOf ns pre.length = up := by
      rw [hns1, ndAt_l (by simp), upOf_l (by simp), ndAt_r (Nat.le_refl _), upOf_r (Nat.le_refl _)]
      simp [ndAt, upOf]
    have hone : showTo ns (pre.length + 1) = showTo ns pre.length ++ linkTo ns pre.length up ++ showNd x := by
      rw [showTo, if_neg (by omega), hat.1, hat.2]; rfl
    -- the first tree
    have hT : showTo ns (pre.length + 1 + k.size) ++ cl ns up (pre.length + k.size) = showTo ns pre.length ++ linkTo ns pre.length up ++ (showNd x ++ (if k.len = 0 then [] else 40 :: (textF k ++ [41]))) := by
      by_cases hk : k.len = 0
      · have hk0 : k = .nil := by
          cases k with
          | nil => rfl
          | cons a b c => simp [F.len] at hk
        subst hk0
        simp only [F.size, Nat.add_zero]
        rw [hone, cl_stop hat.2, if_pos hk]
        simp
      · have h1 := ihk ns (pre ++ [{ x with up := up }]) (layF r (pre.length + 1 + k.size) up ++ rest) pre.length hk (by simp) (by simp; omega) (by simpa using hns1)
        rw [show (pre ++ [({ x with up := up } : Nd)]).length = pre.length + 1 by simp] at h1
        have hpos := len_pos hk
        have hc := cl_over (ns := ns) (up := up) (pos := pre.length) (e := pre.length + 1 + k.size) hu hat.2 (fun m h2 h3 => by
          have := lay_up k (pre.length + 1) pre.length (m - (pre.length + 1)) (by omega) (by omega)
          have e : upOf ns m = upOf (layF k (pre.length + 1) pre.length) (m - (pre.length + 1)) := by
            rw [hns1, upOf_r (by simp; omega), upOf_l (by simp [layF_len]; omega)]
            simp
          rw [e]; omega) (pre.length + k.size) (by omega) (by omega)
        rw [hc, if_neg hk, ← List.append_assoc]
        rw [show pre.length + 1 + k.size - 1 = pre.length + k.size by omega] at h1
        rw [h1, hone]
        have hl : linkTo ns (pre.length + 1) pre.length = [40] := by unfold linkTo; rw [if_pos (by omega)]
        rw [hl]
        simp
    by_cases hr : r.len = 0
    · have hr0 : r = .nil := by
        cases r with
        | nil => rfl
        | cons a b c => simp [F.len] at hr
      subst hr0
      rw [textF, if_pos hr]
      simp only [F.size, Nat.add_zero, List.append_nil]
      rw [show pre.length + (k.size + 1) = pre.length + 1 + k.size by omega, show pre.length + 1 + k.size - 1 = pre.length + k.size by omega]
      exact hT
    · have hl2 : (pre ++ ({ x with up := up } :: layF k (pre.length + 1) pre.length)).length = pre.length + 1 + k.size := by simp [layF_len]; omega
      have h2 := ihr ns (pre ++ ({ x with up := up } :: layF k (pre.length + 1) pre.length)) rest up hr (by rw [hl2]; omega) (by rw [hl2]; omega) (by rw [hl2]; exact hns2)
      rw [hl2] at h2
      simp only [F.size]
      rw [show pre.length + (k.size + r.size + 1) = pre.length + 1 + k.size + r.size by omega, h2]
      have hl3 : linkTo ns (pre.length + 1 + k.size) up = cl ns up (pre.length + k.size) ++ [32] := by
        unfold linkTo
        rw [if_neg (by omega), show pre.length + 1 + k.size - 1 = pre.length + k.size by omega]
      rw [hl3, textF, if_neg hr, ← List.append_assoc, hT]
      simp
/-- a document is shown as its tree -/
theorem show_tree (x : Nd) (k : F) : showDoc (layT x k 0 (-1)) = textF (.cons x k .nil) := by
  have hlen : (layT x k 0 (-1)).length = k.size + 1 := layT_len x k 0 (-1)
  have h0 : upOf (layT x k 0 (-1)) 0 = -1 := rfl
  have h1 : ndAt (layT x k 0 (-1)) 0 = { x with up := -1 } := rfl
  have hone : showTo (layT x k 0 (-1)) 1 = showNd x := by
    rw [showTo, showTo, if_pos rfl, h1]; rfl
  unfold showDoc
  rw [hlen, textF, if_pos (show F.nil.len = 0 from rfl)]
  by_cases hk : k.len = 0
  · have hk0 : k = .nil := by
      cases k with
      | nil => rfl
      | cons a b c => simp [F.len] at hk
    subst hk0
    simp only [F.size]
    rw [hone, cl_stop h0, if_pos hk]
    simp
  · have hpos := len_pos hk
    have h2 := show_trees k (layT x k 0 (-1)) [{ x with up := -1 }] [] 0 hk (by simp) (by simp) (by simp [layT])
    have hc := cl_over (ns := layT x k 0 (-1)) (up := -1) (pos := 0) (e := k.size + 1) (by omega) h0 (fun m h2 h3 => by
      have := lay_up k 1 0 (m - 1) (by omega) (by omega)
      have e : upOf (layT x k 0 (-1)) m = upOf (layF k 1 0) (m - 1) := by
        obtain ⟨m, rfl⟩ : ∃ m', m = m' + 1 := ⟨m - 1, by omega⟩
        rfl
      rw [e]; omega) k.size (by omega) (by omega)
    simp only [List.length_singleton] at h2
    rw [show 1 + k.size - 1 = k.size by omega, show 1 + k.size = k.size + 1 by omega] at h2
    rw [show k.size + 1 - 1 = k.size by omega, hc, if_neg hk, ← List.append_assoc]
    have h3 : ((0 : Nat) : Int) = 0 := rfl
    rw [h3, h2, hone]
    have hl : linkTo (layT x k 0 (-1)) 1 0 = [40] := by unfold linkTo; rw [if_pos (by omega)]
    rw [hl]
    simp
end Go.Proofs.Ythlpcmgeelkncaa.Pl
