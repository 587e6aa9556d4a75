/-
  The document's own check of a list of paths.
-/
import Derived.Test.YtephhllfodlfbaaDoorRcC
import Derived.Test.YtephhllfodlfbaaDoorRcD
namespace Go.Proofs.YtephhllfodlfbaaDoor
open Go.RowKit

namespace Pl
def kind3 : List D3 → Bool := evUp pKinds (evUp pKinds (evUp pKinds fun _ => true))
def form3 : List D3 → Bool := evUp (pForm isName isValue) (evUp (pForm isName isValue) (evUp (pForm isName isValue) fun _ => true))
/-- which fault a list has -/
def pick4 (a b c d : Bool) : Int := if a then (if b then (if c then (if d then 0 else 3) else 1) else 4) else 2
end Pl
def nth3 : List Pl.D3 → Bool := nthL (nthL (nthL fun _ => true))
def chkList (l : List Pl.D3) : Int := Pl.pick4 (Pl.fit3 l) (Pl.kind3 l) (Pl.form3 l) (nth3 l)
theorem inner_fit {α : Type} {f : List α → Bool} {ok : List α → Prop} {l : List (Pl.Pth α)} (h : Pl.fitUp f l = true) (hf : ∀ l, f l = true → ok l) : Inner ok l := by
  intro p hp s hs t ht hk
  rw [fit_eq, Bool.and_eq_true, List.all_eq_true] at h
  have h1 := h.2 p hp
  unfold fitP at h1
  rw [Bool.and_eq_true, List.all_eq_true] at h1
  have h2 := h1.2 s hs
  unfold fitS at h2
  rw [Bool.and_eq_true, List.all_eq_true] at h2
  have h3 := h2.2 t ht
  unfold fitT at h3
  rw [hk] at h3
  exact hf _ h3
/-- where the forms are right, a list stands only where one is asked for -/
theorem inner_form {α : Type} {g : List α → Bool} {ok : List α → Prop} {l : List (Pl.Pth α)} (h : Pl.evUp (Pl.pForm Pl.isName Pl.isValue) g l = true) (h0 : ok []) (hin : Inner (fun l => g l = true → ok l) l) : InnerA ok l := by
  intro p hp s hs t ht
  rw [form_eq, List.all_eq_true] at h
  have h1 := h p hp
  unfold formP at h1
  rw [List.all_eq_true] at h1
  have h2 := h1 s hs
  unfold formS at h2
  rw [Bool.and_eq_true, List.all_eq_true] at h2
  have h3 := h2.2 t ht
  unfold formT tF Pl.tForm at h3
  simp only [Bool.and_eq_true] at h3
  cases hk : Pl.kList t.kind with
  | true =>
    have := h3.2
    rw [hk] at this
    exact hin p hp s hs t ht hk this
  | false =>
    have := h3.1.2
    rw [hk] at this
    have hz : t.list.length = 0 := by simpa using this
    rw [List.length_eq_zero_iff.1 hz]
    exact h0
theorem kinds_3 (w : World) (v : Value) (l : List Pl.D3) (h : A3 w v l) (hf : Pl.fit3 l = true) : Calls Tryd.prog 18 #[v] w fun e w' => e = .returned (.bool (!Pl.kind3 l)) ∧ Below w.heap.size w w' :=
  kind_up isL_2 (fun l => Pl.fitUp (Pl.fitUp fun _ => false) l = true) _
    (fun w v l h hl => kind_up isL_1 (fun l => Pl.fitUp (fun _ => false) l = true) _
      (fun w v l h hl => kind_up isL_z (fun _ => False) (fun _ => true) (fun _ _ _ _ hx => hx.elim) w v l h (inner_fit hl fun _ hx => by cases hx)) w v l h (inner_fit hl fun _ hx => hx)) w v l h (inner_fit hf fun _ hx => hx)
theorem forms_3 (w : World) (v : Value) (l : List Pl.D3) (h : A3 w v l) (hf : Pl.fit3 l = true) : Calls Tryd.prog 19 #[v] w fun e w' => e = .returned (.bool (!Pl.form3 l)) ∧ Below w.heap.size w w' :=
  form_up isL_2 (fun l => Pl.fitUp (Pl.fitUp fun _ => false) l = true) _
    (fun w v l h hl => form_up isL_1 (fun l => Pl.fitUp (fun _ => false) l = true) _
      (fun w v l h hl => form_up isL_z (fun _ => False) (fun _ => true) (fun _ _ _ _ hx => hx.elim) w v l h (inner_fit hl fun _ hx => by cases hx)) w v l h (inner_fit hl fun _ hx => hx)) w v l h (inner_fit hf fun _ hx => hx)
/-- the lists that may stand at each level, where all else is right -/
def okN1 (l : List Pl.D1) : Prop := InnerA (fun l => l = []) l
def okN2 (l : List Pl.D2) : Prop := InnerA okN1 l
theorem okN1_of {l : List Pl.D1} (hf : Pl.fitUp (fun _ => false) l = true) (hg : Pl.evUp (Pl.pForm Pl.isName Pl.isValue) (fun _ => true) l = true) : okN1 l :=
  inner_form hg rfl (inner_fit hf fun _ hx => by cases hx)
theorem okN2_of {l : List Pl.D2} (hf : Pl.fitUp (Pl.fitUp fun _ => false) l = true) (hg : Pl.evUp (Pl.pForm Pl.isName Pl.isValue) (Pl.evUp (Pl.pForm Pl.isName Pl.isValue) fun _ => true) l = true) : okN2 l :=
  inner_form hg (fun _ h => by cases h) (inner_fit hf fun _ hx hy => okN1_of hx hy)
theorem okN3_of {l : List Pl.D3} (hf : Pl.fit3 l = true) (hg : Pl.form3 l = true) : InnerA okN2 l :=
  inner_form hg (fun _ h => by cases h) (inner_fit hf fun _ hx hy => okN2_of hx hy)
theorem nths_3 (w : World) (v : Value) (l : List Pl.D3) (h : A3 w v l) (hl : InnerA okN2 l) : Calls Tryd.prog 20 #[v] w fun e w' => e = .returned (.bool (!nth3 l)) ∧ Below w.heap.size w w' :=
  nth_up isL_2 okN2 _ (fun w v l h hl => nth_up isL_1 okN1 _ (fun w v l h hl => nth_up isL_z (fun l => l = []) _ nth_z w v l h hl) w v l h hl) w v l h hl
set_option maxRecDepth 100000 in
set_option maxHeartbeats 2000000 in
theorem refList_any (w : World) (v : Value) (l : List Pl.D3) (h : A3 w v l) : Calls Tryd.prog 7 #[v] w fun e w' => e = .returned (.int .i64 (chkList l)) ∧ Below w.heap.size w w' := by
  obtain ⟨a, c, rfl, -⟩ := isL_3.form h
  have HH : Hid (∀ W, Below w.heap.size w W → A3 W (.slice a l.length c) l) := fun W hW => isL_3.on h hW
  have HM := fun W hW => many_3 W _ l (HH.out W hW)
  have HK := fun W hW => kinds_3 W _ l (HH.out W hW)
  have HO := fun W hW => forms_3 W _ l (HH.out W hW)
  have HN := fun W hW => nths_3 W _ l (HH.out W hW)
  have HR : Hid (Pl.fit3 l = true → Pl.form3 l = true → InnerA okN2 l) := fun x y => okN3_of x y
  have HC : Hid (chkList l = Pl.pick4 (Pl.fit3 l) (Pl.kind3 l) (Pl.form3 l) (nth3 l)) := rfl
  generalize chkList l = E at *
  obtain ⟨bm, hbm⟩ : ∃ x, Pl.fit3 l = x := ⟨_, rfl⟩
  obtain ⟨bk, hbk⟩ : ∃ x, Pl.kind3 l = x := ⟨_, rfl⟩
  obtain ⟨bo, hbo⟩ : ∃ x, Pl.form3 l = x := ⟨_, rfl⟩
  obtain ⟨bn, hbn⟩ : ∃ x, nth3 l = x := ⟨_, rfl⟩
  simp only [hbm, hbk, hbo, hbn] at HM HK HO HN HR HC
  have HM' : Hid _ := HM
  have HK' : Hid _ := HK
  have HO' : Hid _ := HO
  have HN' : Hid _ := HN
  clear HM HK HO HN h hbm hbk hbo hbn HH
  go_enter Tryd.func7, Tryd.ntmps7
  go_wp2_with fail
  refine (HM'.out _ (Below.refl _ _)).mono ?_
  rintro e w1 ⟨rfl, h1⟩
  have HB : Hid (Below w.heap.size w w1) := h1
  clear h1
  cases bm with
  | false =>
    have HE : Hid (E = 2) := HC.out
    go_wp2
    go_ret
    exact ⟨by rw [HE.out]; rfl, HB.out⟩
  | true =>
    go_wp2_with fail
    refine (HK'.out _ HB.out (by first | rfl | trivial)).mono ?_
    rintro e w2 ⟨rfl, h1⟩
    replace HB : Hid (Below w.heap.size w w2) := below_trans HB.out h1
    clear h1
    cases bk with
    | false =>
      have HE : Hid (E = 4) := HC.out
      go_wp2
      go_ret
      exact ⟨by rw [HE.out]; rfl, HB.out⟩
    | true =>
      go_wp2_with fail
      refine (HO'.out _ HB.out (by first | rfl | trivial)).mono ?_
      rintro e w3 ⟨rfl, h1⟩
      replace HB : Hid (Below w.heap.size w w3) := below_trans HB.out h1
      clear h1
      cases bo with
      | false =>
        have HE : Hid (E = 1) := HC.out
        go_wp2
        go_ret
        exact ⟨by rw [HE.out]; rfl, HB.out⟩
      | true =>
        go_wp2_with fail
        refine (HN'.out _ HB.out (HR.out (by first | rfl | trivial) (by first | rfl | trivial))).mono ?_
        rintro e w4 ⟨rfl, h1⟩
        replace HB : Hid (Below w.heap.size w w4) := below_trans HB.out h1
        clear h1
        cases bn with
        | false =>
          have HE : Hid (E = 3) := HC.out
          go_wp2
          go_ret
          exact ⟨by rw [HE.out]; rfl, HB.out⟩
        | true =>
          have HE : Hid (E = 0) := HC.out
          go_wp2
          go_ret
          exact ⟨by rw [HE.out]; rfl, HB.out⟩
end Go.Proofs.YtephhllfodlfbaaDoor
