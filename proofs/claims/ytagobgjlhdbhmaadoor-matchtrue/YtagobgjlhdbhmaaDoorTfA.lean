/-
  path's testHasForm.
-/
import Derived.Test.YtagobgjlhdbhmaaDoorFrmA
import Derived.Test.YtagobgjlhdbhmaaDoorRcE
namespace Go.Proofs.YtagobgjlhdbhmaaDoor
open Go.RowKit

set_option maxHeartbeats 1000000 in
theorem isAsked_any (a b c : Bool) (w : World) : Calls Tryd.prog 69 #[.bool a, .bool b, .bool c] w fun e w' => e = .returned (.bool (Pl.asked a b c)) ∧ w' = w := by
  cases a
  all_goals
    go_enter Tryd.func69, Tryd.ntmps69
    go_wp2
    go_ret
    exact ⟨rfl, rfl⟩
set_option maxRecDepth 100000 in
set_option maxHeartbeats 4000000 in
theorem testHasForm_any {α : Type} (t : Pl.Tst α) (au : Option Addr) (cu : Nat) (w : World) (hF : FormsAt w) (hk : Pl.isKind t.kind = true) :
    Calls Tryd.prog 43 #[.agg #[.int .i64 t.kind, .string ⟨t.name.toArray⟩, .string ⟨t.value.toArray⟩, .int .i64 t.a, .int .i64 t.b, .slice au t.list.length cu]] w fun e w' => e = .returned (.bool (tF t)) ∧ Below w.heap.size w w' := by
  obtain ⟨m, hm, hm15, -⟩ := kind_nat hk
  have hbt := on_alloc w (.cells #[.int .i64 t.kind, .string ⟨t.name.toArray⟩, .string ⟨t.value.toArray⟩, .int .i64 t.a, .int .i64 t.b, .slice au t.list.length cu] 34)
  obtain ⟨f0, f1, f2, f3, f4, f5, f6⟩ := (hF.on hbt) m hm15
  obtain ⟨EV, hEV⟩ : ∃ x, tF t = x := ⟨_, rfl⟩
  rw [hEV]
  have HE : Hid (EV = (Pl.asked (Pl.kName t.kind) (Pl.isName t.name) t.name.isEmpty && Pl.asked (Pl.kValue t.kind) (Pl.isValue t.value) t.value.isEmpty && (Pl.kNth t.kind || decide (t.a = 0 ∧ t.b = 0)) && (Pl.kList t.kind || decide (t.list.length = 0)))) := hEV.symm
  rw [hm] at HE hbt ⊢ f0 f1 f2 f3 f4 f5 f6
  have i1 : (0 : Int) ≤ (m : Int) := by omega
  have i2 : (m : Int) < 16 := by omega
  have HB : Hid (Below _ _ _) := hbt
  clear hbt hF hEV hk
  generalize Pl.kName m = kn at *
  generalize Pl.kValue m = kv at *
  generalize Pl.kNth m = kc at *
  generalize Pl.kList m = kl at *
  generalize t.a = na at *
  generalize t.b = nb at *
  generalize t.list.length = len at *
  have n1 := isName_any t.name
  have n2 := isValue_any t.value
  generalize Pl.isName t.name = nm at *
  generalize Pl.isValue t.value = vm at *
  obtain ⟨ne, hne⟩ : ∃ y, t.name.isEmpty = y := ⟨_, rfl⟩
  obtain ⟨ve, hve⟩ : ∃ y, t.value.isEmpty = y := ⟨_, rfl⟩
  rw [hne, hve] at HE
  have c1 := isAsked_any kn nm ne
  have c2 := isAsked_any kv vm ve
  generalize Pl.asked kn nm ne = A1 at *
  generalize Pl.asked kv vm ve = A2 at *
  have HB2 : Hid (Below w.heap.size w ((w.alloc (.cells #[.int .i64 m, .string ⟨t.name.toArray⟩, .string ⟨t.value.toArray⟩, .int .i64 na, .int .i64 nb, .slice au len cu] 34)).alloc (.cells #[.bool kn, .bool kv, .bool kc, .bool kl, .string ⟨(fBegin m).toArray⟩, .string ⟨(fSign m).toArray⟩, .string ⟨(fEnd m).toArray⟩] 90))) := below_trans HB.out (on_alloc _ _)
  cases A1 with
  | false =>
    go_enter Tryd.func43, Tryd.ntmps43
    go_wp2
    go_quiet ((first | (go_at_call 32; with_reducible exact Calls.quiet_of_same (n1 _)) | (go_at_call 67; with_reducible exact Calls.quiet_of_same (n2 _)) | (go_at_call 69; with_reducible exact Calls.quiet_of_same (c1 _)) | (go_at_call 69; with_reducible exact Calls.quiet_of_same (c2 _))))
    go_wp2
    go_ret
    exact ⟨by rw [HE.out]; simp, below_drewN HB2.out _⟩
  | true =>
    cases A2 with
    | false =>
      go_enter Tryd.func43, Tryd.ntmps43
      go_wp2
      go_quiet ((first | (go_at_call 32; with_reducible exact Calls.quiet_of_same (n1 _)) | (go_at_call 67; with_reducible exact Calls.quiet_of_same (n2 _)) | (go_at_call 69; with_reducible exact Calls.quiet_of_same (c1 _)) | (go_at_call 69; with_reducible exact Calls.quiet_of_same (c2 _))))
      go_wp2
      go_ret
      exact ⟨by rw [HE.out]; simp, below_drewN HB2.out _⟩
    | true =>
      cases kc with
      | true =>
        cases kl with
        | true =>
          go_enter Tryd.func43, Tryd.ntmps43
          go_wp2
          go_quiet ((first | (go_at_call 32; with_reducible exact Calls.quiet_of_same (n1 _)) | (go_at_call 67; with_reducible exact Calls.quiet_of_same (n2 _)) | (go_at_call 69; with_reducible exact Calls.quiet_of_same (c1 _)) | (go_at_call 69; with_reducible exact Calls.quiet_of_same (c2 _))))
          go_wp2
          go_ret
          exact ⟨by rw [HE.out]; simp, below_drewN HB2.out _⟩
        | false =>
          by_cases hl : len = 0
          · subst hl
            go_enter Tryd.func43, Tryd.ntmps43
            go_wp2
            go_quiet ((first | (go_at_call 32; with_reducible exact Calls.quiet_of_same (n1 _)) | (go_at_call 67; with_reducible exact Calls.quiet_of_same (n2 _)) | (go_at_call 69; with_reducible exact Calls.quiet_of_same (c1 _)) | (go_at_call 69; with_reducible exact Calls.quiet_of_same (c2 _))))
            go_wp2
            go_ret
            exact ⟨by rw [HE.out]; simp, below_drewN HB2.out _⟩
          · have hl2 : ((len : Int) == 0) = false := by simp [hl]
            have HHL : Hid (¬ len = 0) := hl
            clear hl
            go_enter Tryd.func43, Tryd.ntmps43
            go_wp2
            go_quiet ((first | (go_at_call 32; with_reducible exact Calls.quiet_of_same (n1 _)) | (go_at_call 67; with_reducible exact Calls.quiet_of_same (n2 _)) | (go_at_call 69; with_reducible exact Calls.quiet_of_same (c1 _)) | (go_at_call 69; with_reducible exact Calls.quiet_of_same (c2 _))))
            go_wp2
            go_ret
            exact ⟨by rw [HE.out]; simp [HHL.out], below_drewN HB2.out _⟩
      | false =>
        by_cases ha : na = 0
        · by_cases hb : nb = 0
          · subst ha hb
            cases kl with
            | true =>
              go_enter Tryd.func43, Tryd.ntmps43
              go_wp2
              go_quiet ((first | (go_at_call 32; with_reducible exact Calls.quiet_of_same (n1 _)) | (go_at_call 67; with_reducible exact Calls.quiet_of_same (n2 _)) | (go_at_call 69; with_reducible exact Calls.quiet_of_same (c1 _)) | (go_at_call 69; with_reducible exact Calls.quiet_of_same (c2 _))))
              go_wp2
              go_ret
              exact ⟨by rw [HE.out]; simp, below_drewN HB2.out _⟩
            | false =>
              by_cases hl : len = 0
              · subst hl
                go_enter Tryd.func43, Tryd.ntmps43
                go_wp2
                go_quiet ((first | (go_at_call 32; with_reducible exact Calls.quiet_of_same (n1 _)) | (go_at_call 67; with_reducible exact Calls.quiet_of_same (n2 _)) | (go_at_call 69; with_reducible exact Calls.quiet_of_same (c1 _)) | (go_at_call 69; with_reducible exact Calls.quiet_of_same (c2 _))))
                go_wp2
                go_ret
                exact ⟨by rw [HE.out]; simp, below_drewN HB2.out _⟩
              · have hl2 : ((len : Int) == 0) = false := by simp [hl]
                have HHL : Hid (¬ len = 0) := hl
                clear hl
                go_enter Tryd.func43, Tryd.ntmps43
                go_wp2
                go_quiet ((first | (go_at_call 32; with_reducible exact Calls.quiet_of_same (n1 _)) | (go_at_call 67; with_reducible exact Calls.quiet_of_same (n2 _)) | (go_at_call 69; with_reducible exact Calls.quiet_of_same (c1 _)) | (go_at_call 69; with_reducible exact Calls.quiet_of_same (c2 _))))
                go_wp2
                go_ret
                exact ⟨by rw [HE.out]; simp [HHL.out], below_drewN HB2.out _⟩
          · subst ha
            have hb2 : (nb == 0) = false := by simp [hb]
            have HNB : Hid (¬ nb = 0) := hb
            clear hb
            go_enter Tryd.func43, Tryd.ntmps43
            go_wp2
            go_quiet ((first | (go_at_call 32; with_reducible exact Calls.quiet_of_same (n1 _)) | (go_at_call 67; with_reducible exact Calls.quiet_of_same (n2 _)) | (go_at_call 69; with_reducible exact Calls.quiet_of_same (c1 _)) | (go_at_call 69; with_reducible exact Calls.quiet_of_same (c2 _))))
            go_wp2
            go_ret
            exact ⟨by rw [HE.out]; simp [HNB.out], below_drewN HB2.out _⟩
        · have ha2 : (na == 0) = false := by simp [ha]
          have HNA : Hid (¬ na = 0) := ha
          clear ha
          go_enter Tryd.func43, Tryd.ntmps43
          go_wp2
          go_quiet ((first | (go_at_call 32; with_reducible exact Calls.quiet_of_same (n1 _)) | (go_at_call 67; with_reducible exact Calls.quiet_of_same (n2 _)) | (go_at_call 69; with_reducible exact Calls.quiet_of_same (c1 _)) | (go_at_call 69; with_reducible exact Calls.quiet_of_same (c2 _))))
          go_wp2
          go_ret
          exact ⟨by rw [HE.out]; simp [HNA.out], below_drewN HB2.out _⟩
end Go.Proofs.YtagobgjlhdbhmaaDoor
