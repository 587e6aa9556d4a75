/-
  What is shown is read as it was, and nothing else is: in plain lists. No program is walked in this text.
-/
import Derived.Test.YthlpcmgeelkncaaMkB
import Derived.Test.YthlpcmgeelkncaaLayM
namespace Go.Proofs.Ythlpcmgeelkncaa.Pl

theorem rightF_lay (g : F) : ∀ (pos : Nat) (up : Int), (∀ y ∈ layF g pos up, right y = true) → RightF g := by
  induction g with
  | nil => intro _ _ _; trivial
  | cons x k r ihk ihr =>
    intro pos up h
    rw [layF] at h
    exact ⟨h { x with up := up } (by simp), ihk (pos + 1) pos (fun y hy => h y (by simp [hy])), ihr (pos + 1 + k.size) up (fun y hy => h y (by simp [hy]))⟩
theorem whole_seg {ns : List Nd} (hg : GoodTo ns ns.length) (h1 : 1 ≤ ns.length) : layT (ndAt ns 0) (forestOf ns ns.length (kidsOf ns (0 : Nat))) 0 (-1) = ns := by
  have hb : behind ns 0 = ns.length := behind_eq (by omega) (by omega) (Nat.le_refl _) (fun m h1 h2 => by have := (hg m h2).2 h1; omega) (fun h => by omega)
  rw [lay_tree hg ns.length 0 0 (-1) (by omega) (by omega), hb]
  have : seg ns 0 ns.length id = ns := by unfold seg; rw [List.drop_zero, List.take_of_length_le (by omega), map_mvd_id]
  refine (seg_congr (Nat.le_refl _) fun m h2 h3 => ?_).trans this
  rcases Nat.eq_zero_or_pos m with h | h
  · rw [(hg m h3).1 h]; rfl
  · have := (hg m h3).2 h
    rw [if_neg (by omega)]
    simp
theorem root_tree {ns : List Nd} (h : checkDoc ns = 0) : ∃ x k, ns = layT x k 0 (-1) ∧ right x = true ∧ RightF k ∧ k.size + 1 ≤ 64 := by
  obtain ⟨h1, h2, hr, hg⟩ := (check_iff ns).1 h
  have hw := whole_seg hg h1
  refine ⟨ndAt ns 0, forestOf ns ns.length (kidsOf ns (0 : Nat)), hw.symm, ?_, ?_, ?_⟩
  · rw [ndAt_eq ns 0 (by omega)]; exact hr _ (List.getElem_mem _)
  · refine rightF_lay _ 1 0 (fun y hy => hr y ?_)
    rw [← hw]
    unfold layT
    exact List.mem_cons_of_mem _ hy
  · have := congrArg List.length hw
    rw [layT_len] at this
    omega
/-- the right document that is shown so -/
def readDoc (l : List UInt8) : Option (List Nd) :=
  match rdEl 130 [] (-1) l with
  | some (ns, []) => if checkDoc ns = 0 then some ns else none
  | _ => none
/-- WHAT IS SHOWN IS READ AS IT WAS, AND NOTHING ELSE IS. -/
theorem read_iff (l : List UInt8) (ns : List Nd) : readDoc l = some ns ↔ checkDoc ns = 0 ∧ l = showDoc ns := by
  unfold readDoc
  constructor
  · intro h
    split at h
    · rename_i ns' h1
      split at h
      · rename_i hc
        simp only [Option.some.injEq] at h
        subst h
        obtain ⟨x, k, e1, e2⟩ := (rd_sound 130).1 _ _ _ _ _ h1
        refine ⟨hc, ?_⟩
        rw [e2, List.append_nil, e1, List.nil_append]
        exact (show_tree x k).symm
      · cases h
    · cases h
  · rintro ⟨hc, rfl⟩
    obtain ⟨x, k, e1, hx, hk, hs⟩ := root_tree hc
    have h1 := rd_tree x k 130 hx hk hs (by omega)
    rw [← show_tree, ← e1] at h1
    rw [h1]
    simp only
    rw [if_pos hc]
end Go.Proofs.Ythlpcmgeelkncaa.Pl
