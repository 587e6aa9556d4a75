/-
  path's fits, at the three levels.
-/
import Derived.Test.YtephhllfodlfbaaDoorFit
import Derived.Test.YtephhllfodlfbaaDoorFrmA
import Derived.Test.YtephhllfodlfbaaDoorRcC
namespace Go.Proofs.YtephhllfodlfbaaDoor
open Go.RowKit Go.Shelf

attribute [local go_sem] Oper.semAt_some

set_option maxRecDepth 100000 in
set_option maxHeartbeats 2000000 in
theorem fits_z (d : Int) (d1 : 3 < d) (w : World) (v : Value) (l : List Unit) (h : ZAt w v l) : Calls Tryd.prog 25 #[v, .int .i64 d] w fun e w' => e = .returned (.bool ((fun _ => false : List Unit → Bool) l)) ∧ Below w.heap.size w w' := by
  obtain ⟨a, c, rfl, -⟩ := h
  have HB0 : Hid (Below w.heap.size w ((w.alloc (.cells #[.int .i64 d] 3)).alloc (.cells #[.bool false] 4))) := ((Below.refl _ w).alloc (Nat.le_refl _) _).alloc (by simp) _
  refine (callsIn_wide (n := 6)).1 ?_
  refine callsIn_of_wp_marks Tryd.func25 rfl trivial ?_ rfl
  simp only [Tryd.ntmps25, List.size_toArray, List.length_cons, List.length_nil, Nat.reduceAdd, Nat.reduceSub, Array.replicate_succ, Array.replicate_zero, List.push_toArray, List.append_toArray, List.nil_append, List.cons_append]
  gi_wp2
  exact ⟨.bool false, by simp [results, Tryd.results25, go_sem], rfl, HB0.out⟩
theorem fits_1 (w : World) (v : Value) (l : List Pl.D1) (h : A1 w v l) (hF : FormsAt w) : Calls Tryd.prog 25 #[v, .int .i64 3] w fun e w' => e = .returned (.bool (Pl.fitUp (fun _ => false) l)) ∧ Below w.heap.size w w' :=
  fits_up isL_z 3 (by omega) (fun _ => false) (fun w v l h _ => fits_z (3 + 1) (by omega) w v l h) w v l h hF
theorem fits_2 (w : World) (v : Value) (l : List Pl.D2) (h : A2 w v l) (hF : FormsAt w) : Calls Tryd.prog 25 #[v, .int .i64 2] w fun e w' => e = .returned (.bool (Pl.fitUp (Pl.fitUp fun _ => false) l)) ∧ Below w.heap.size w w' :=
  fits_up isL_1 2 (by omega) (Pl.fitUp fun _ => false) (fun w v l h hF => by rw [show (2 : Int) + 1 = 3 from rfl]; exact fits_1 w v l h hF) w v l h hF
theorem fits_3 (w : World) (v : Value) (l : List Pl.D3) (h : A3 w v l) (hF : FormsAt w) : Calls Tryd.prog 25 #[v, .int .i64 1] w fun e w' => e = .returned (.bool (Pl.fit3 l)) ∧ Below w.heap.size w w' :=
  fits_up isL_2 1 (by omega) (Pl.fitUp (Pl.fitUp fun _ => false)) (fun w v l h hF => by rw [show (1 : Int) + 1 = 2 from rfl]; exact fits_2 w v l h hF) w v l h hF
end Go.Proofs.YtephhllfodlfbaaDoor
/-
  path's testHasForm.
-/
namespace Go.Proofs.YtephhllfodlfbaaDoor
open Go.RowKit

set_option maxHeartbeats 1000000 in
theorem isAsked_any (a b c : Bool) (w : World) : Calls Tryd.prog 64 #[.bool a, .bool b, .bool c] w fun e w' => e = .returned (.bool (Pl.asked a b c)) ∧ w' = w := by
  cases a
  all_goals
    go_enter Tryd.func64, Tryd.ntmps64
    go_wp2
    go_ret
    exact ⟨rfl, rfl⟩
set_option maxRecDepth 100000 in
set_option maxHeartbeats 4000000 in
theorem testHasForm_any {α : Type} (t : Pl.Tst α) (au : Option Addr) (cu : Nat) (w : World) (hF : FormsAt w) (hk : Pl.isKind t.kind = true) :
    Calls Tryd.prog 50 #[.agg #[.int .i64 t.kind, .string ⟨t.name.toArray⟩, .string ⟨t.value.toArray⟩, .int .i64 t.a, .int .i64 t.b, .slice au t.list.length cu]] w fun e w' => e = .returned (.bool (tF t)) ∧ Below w.heap.size w w' := by
  obtain ⟨m, hm, hm15, -⟩ := kind_nat hk
  have hbt := on_alloc w (.cells #[.int .i64 t.kind, .string ⟨t.name.toArray⟩, .string ⟨t.value.toArray⟩, .int .i64 t.a, .int .i64 t.b, .slice au t.list.length cu] 45)
  obtain ⟨f0, f1, f2, f3, f4, f5, f6⟩ := (hF.on hbt) m hm15
  obtain ⟨EV, hEV⟩ : ∃ x, tF t = x := ⟨_, rfl⟩
  rw [hEV]
  have HE : Hid (EV = (Pl.asked (Pl.kName t.kind) (Pl.isName t.name) t.name.isEmpty && Pl.asked (Pl.kValue t.kind) (Pl.isValue t.value) t.value.isEmpty && (Pl.kNth t.kind || decide (t.a = 0 ∧ t.b = 0)) && (Pl.kList t.kind || decide (t.list.length = 0)))) := hEV.symm
  rw [hm] at HE hbt ⊢ f0 f1 f2 f3 f4 f5 f6
  have i1 : (0 : Int) ≤ (m : Int) := by omega
  have i2 : (m : Int) < 16 := by omega
  have HB : Hid (Below _ _ _) := hbt
  clear hbt hF hEV hk
  generalize Pl.kName m = kn at *
  generalize Pl.kValue m = kv at *
  generalize Pl.kNth m = kc at *
  generalize Pl.kList m = kl at *
  generalize t.a = na at *
  generalize t.b = nb at *
  generalize t.list.length = len at *
  have n1 := isName_any t.name
  have n2 := isValue_any t.value
  generalize Pl.isName t.name = nm at *
  generalize Pl.isValue t.value = vm at *
  obtain ⟨ne, hne⟩ : ∃ y, t.name.isEmpty = y := ⟨_, rfl⟩
  obtain ⟨ve, hve⟩ : ∃ y, t.value.isEmpty = y := ⟨_, rfl⟩
  rw [hne, hve] at HE
  have c1 := isAsked_any kn nm ne
  have c2 := isAsked_any kv vm ve
  generalize Pl.asked kn nm ne = A1 at *
  generalize Pl.asked kv vm ve = A2 at *
  have HB2 : Hid (Below w.heap.size w ((w.alloc (.cells #[.int .i64 m, .string ⟨t.name.toArray⟩, .string ⟨t.value.toArray⟩, .int .i64 na, .int .i64 nb, .slice au len cu] 45)).alloc (.cells #[.bool kn, .bool kv, .bool kc, .bool kl, .string ⟨(fBegin m).toArray⟩, .string ⟨(fSign m).toArray⟩, .string ⟨(fEnd m).toArray⟩] 71))) := below_trans HB.out (on_alloc _ _)
  cases A1 with
  | false =>
    go_enter Tryd.func50, Tryd.ntmps50
    go_wp2
    go_quiet ((first | (go_at_call 49; with_reducible exact Calls.quiet_of_same (n1 _)) | (go_at_call 65; with_reducible exact Calls.quiet_of_same (n2 _)) | (go_at_call 64; with_reducible exact Calls.quiet_of_same (c1 _)) | (go_at_call 64; with_reducible exact Calls.quiet_of_same (c2 _))))
    go_wp2
    go_ret
    exact ⟨by rw [HE.out]; simp, below_drewN HB2.out _⟩
  | true =>
    cases A2 with
    | false =>
      go_enter Tryd.func50, Tryd.ntmps50
      go_wp2
      go_quiet ((first | (go_at_call 49; with_reducible exact Calls.quiet_of_same (n1 _)) | (go_at_call 65; with_reducible exact Calls.quiet_of_same (n2 _)) | (go_at_call 64; with_reducible exact Calls.quiet_of_same (c1 _)) | (go_at_call 64; with_reducible exact Calls.quiet_of_same (c2 _))))
      go_wp2
      go_ret
      exact ⟨by rw [HE.out]; simp, below_drewN HB2.out _⟩
    | true =>
      cases kc with
      | true =>
        cases kl with
        | true =>
          go_enter Tryd.func50, Tryd.ntmps50
          go_wp2
          go_quiet ((first | (go_at_call 49; with_reducible exact Calls.quiet_of_same (n1 _)) | (go_at_call 65; with_reducible exact Calls.quiet_of_same (n2 _)) | (go_at_call 64; with_reducible exact Calls.quiet_of_same (c1 _)) | (go_at_call 64; with_reducible exact Calls.quiet_of_same (c2 _))))
          go_wp2
          go_ret
          exact ⟨by rw [HE.out]; simp, below_drewN HB2.out _⟩
        | false =>
          by_cases hl : len = 0
          · subst hl
            go_enter Tryd.func50, Tryd.ntmps50
            go_wp2
            go_quiet ((first | (go_at_call 49; with_reducible exact Calls.quiet_of_same (n1 _)) | (go_at_call 65; with_reducible exact Calls.quiet_of_same (n2 _)) | (go_at_call 64; with_reducible exact Calls.quiet_of_same (c1 _)) | (go_at_call 64; with_reducible exact Calls.quiet_of_same (c2 _))))
            go_wp2
            go_ret
            exact ⟨by rw [HE.out]; simp, below_drewN HB2.out _⟩
          · have hl2 : ((len : Int) == 0) = false := by simp [hl]
            have HHL : Hid (¬ len = 0) := hl
            clear hl
            go_enter Tryd.func50, Tryd.ntmps50
            go_wp2
            go_quiet ((first | (go_at_call 49; with_reducible exact Calls.quiet_of_same (n1 _)) | (go_at_call 65; with_reducible exact Calls.quiet_of_same (n2 _)) | (go_at_call 64; with_reducible exact Calls.quiet_of_same (c1 _)) | (go_at_call 64; with_reducible exact Calls.quiet_of_same (c2 _))))
            go_wp2
            go_ret
            exact ⟨by rw [HE.out]; simp [HHL.out], below_drewN HB2.out _⟩
      | false =>
        by_cases ha : na = 0
        · by_cases hb : nb = 0
          · subst ha hb
            cases kl with
            | true =>
              go_enter Tryd.func50, Tryd.ntmps50
              go_wp2
              go_quiet ((first | (go_at_call 49; with_reducible exact Calls.quiet_of_same (n1 _)) | (go_at_call 65; with_reducible exact Calls.quiet_of_same (n2 _)) | (go_at_call 64; with_reducible exact Calls.quiet_of_same (c1 _)) | (go_at_call 64; with_reducible exact Calls.quiet_of_same (c2 _))))
              go_wp2
              go_ret
              exact ⟨by rw [HE.out]; simp, below_drewN HB2.out _⟩
            | false =>
              by_cases hl : len = 0
              · subst hl
                go_enter Tryd.func50, Tryd.ntmps50
                go_wp2
                go_quiet ((first | (go_at_call 49; with_reducible exact Calls.quiet_of_same (n1 _)) | (go_at_call 65; with_reducible exact Calls.quiet_of_same (n2 _)) | (go_at_call 64; with_reducible exact Calls.quiet_of_same (c1 _)) | (go_at_call 64; with_reducible exact Calls.quiet_of_same (c2 _))))
                go_wp2
                go_ret
                exact ⟨by rw [HE.out]; simp, below_drewN HB2.out _⟩
              · have hl2 : ((len : Int) == 0) = false := by simp [hl]
                have HHL : Hid (¬ len = 0) := hl
                clear hl
                go_enter Tryd.func50, Tryd.ntmps50
                go_wp2
                go_quiet ((first | (go_at_call 49; with_reducible exact Calls.quiet_of_same (n1 _)) | (go_at_call 65; with_reducible exact Calls.quiet_of_same (n2 _)) | (go_at_call 64; with_reducible exact Calls.quiet_of_same (c1 _)) | (go_at_call 64; with_reducible exact Calls.quiet_of_same (c2 _))))
                go_wp2
                go_ret
                exact ⟨by rw [HE.out]; simp [HHL.out], below_drewN HB2.out _⟩
          · subst ha
            have hb2 : (nb == 0) = false := by simp [hb]
            have HNB : Hid (¬ nb = 0) := hb
            clear hb
            go_enter Tryd.func50, Tryd.ntmps50
            go_wp2
            go_quiet ((first | (go_at_call 49; with_reducible exact Calls.quiet_of_same (n1 _)) | (go_at_call 65; with_reducible exact Calls.quiet_of_same (n2 _)) | (go_at_call 64; with_reducible exact Calls.quiet_of_same (c1 _)) | (go_at_call 64; with_reducible exact Calls.quiet_of_same (c2 _))))
            go_wp2
            go_ret
            exact ⟨by rw [HE.out]; simp [HNB.out], below_drewN HB2.out _⟩
        · have ha2 : (na == 0) = false := by simp [ha]
          have HNA : Hid (¬ na = 0) := ha
          clear ha
          go_enter Tryd.func50, Tryd.ntmps50
          go_wp2
          go_quiet ((first | (go_at_call 49; with_reducible exact Calls.quiet_of_same (n1 _)) | (go_at_call 65; with_reducible exact Calls.quiet_of_same (n2 _)) | (go_at_call 64; with_reducible exact Calls.quiet_of_same (c1 _)) | (go_at_call 64; with_reducible exact Calls.quiet_of_same (c2 _))))
          go_wp2
          go_ret
          exact ⟨by rw [HE.out]; simp [HNA.out], below_drewN HB2.out _⟩
end Go.Proofs.YtephhllfodlfbaaDoor
