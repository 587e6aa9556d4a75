/-
  index.asked: what a path asks for.
-/
import Derived.Test.YtephhllfodlfbaaGreatDoorVLBb
namespace Go.Proofs.YtephhllfodlfbaaGreatDoor
open Go.RowKit

theorem kadd_box {wr w2 w' : World} {B n : Nat} {v : Value} {xs : List Value} (ho : wr.ownsRow B 128 2 v n xs) (hg : w2.grownBy w' v.ownBlock) {p : Addr} {u : Value} (hp : w2.cell? p = some u) (hlt : wr.heap.size ≤ p.block) : w'.cell? p = some u := by
  rw [World.cell?_of_block (hg.block _ (cell_lt hp) (fun e => by have := (ho.lt _ e.symm).2; omega))]
  exact hp
theorem len_flat {β γ : Type} {f : β → List γ} {m : Nat} : ∀ {l : List β}, (∀ x ∈ l, (f x).length ≤ m) → (l.flatMap f).length ≤ m * l.length
  | [], _ => by simp
  | x :: r, h => by
    have h1 := h x List.mem_cons_self
    have h2 := len_flat (l := r) fun y hy => h y (List.mem_cons_of_mem _ hy)
    rw [List.flatMap_cons, List.length_append, List.length_cons, Nat.mul_succ]
    omega
section
variable {α : Type}
theorem askT_len (t : Pl.Tst α) : (askT t).length ≤ 1 := by
  unfold askT
  split
  · simp
  · split <;> simp
def tagK (s : Pl.Stp α) : List Pl.Key := if s.tag = [] then [] else [(1, s.tag)]
theorem askS_len {s : Pl.Stp α} (h : s.tests.length ≤ 6) : (askS s).length ≤ 7 := by
  have h1 := len_flat (f := askT) (l := s.tests) (m := 1) fun t _ => askT_len t
  unfold askS
  rw [List.length_append]
  split <;> simp only [List.length_nil, List.length_cons] <;> omega
/-- the keys of the first steps, and of the first tests of the one behind -/
def askTo (p : Pl.Pth α) (k : Nat) : List Pl.Key := (p.steps.take k).flatMap askS
def askIn (s : Pl.Stp α) (j : Nat) : List Pl.Key := tagK s ++ (s.tests.take j).flatMap askT
theorem askIn_next {s : Pl.Stp α} {j : Nat} (h : j < s.tests.length) : askIn s (j + 1) = askIn s j ++ askT s.tests[j] := by
  unfold askIn
  rw [List.take_succ_eq_append_getElem h, List.flatMap_append, List.append_assoc]
  simp
theorem askIn_all (s : Pl.Stp α) : askIn s s.tests.length = askS s := by
  unfold askIn askS tagK
  rw [List.take_length]
theorem askTo_next {p : Pl.Pth α} {k : Nat} (h : k < p.steps.length) : askTo p (k + 1) = askTo p k ++ askS p.steps[k] := by
  unfold askTo
  rw [List.take_succ_eq_append_getElem h, List.flatMap_append]
  simp
theorem askTo_all (p : Pl.Pth α) : askTo p p.steps.length = askP p := by
  unfold askTo askP
  rw [List.take_length]
theorem askIn_len {s : Pl.Stp α} {j : Nat} (hj : j ≤ 6) : (askIn s j).length ≤ 7 := by
  have h1 := len_flat (f := askT) (l := s.tests.take j) (m := 1) fun t _ => askT_len t
  have h2 : (s.tests.take j).length ≤ j := by rw [List.length_take]; omega
  unfold askIn tagK
  rw [List.length_append]
  split <;> simp only [List.length_nil, List.length_cons] <;> omega
theorem askTo_len {p : Pl.Pth α} (h : ∀ s ∈ p.steps, s.tests.length ≤ 6) {k : Nat} (hk : k ≤ 5) : (askTo p k).length ≤ 35 := by
  have h1 := len_flat (f := askS) (l := p.steps.take k) (m := 7) fun s hs => askS_len (h s (List.mem_of_mem_take hs))
  have h2 : (p.steps.take k).length ≤ k := by rw [List.length_take]; omega
  unfold askTo
  omega
end
abbrev KR (B : Nat) (W : World) (v : Value) (ks : List Pl.Key) : Prop := W.ownsRow B 128 2 v ks.length (keyCells ks)
set_option maxRecDepth 100000 in
set_option maxHeartbeats 8000000 in
theorem asked_any {α : Type} {A : MemL α} (hA : IsL A) (v : Value) (p : Pl.Pth α) (w : World) (hv : PthV A w v p) (h5 : p.steps.length ≤ 5) (h6 : ∀ s ∈ p.steps, s.tests.length ≤ 6) :
    Calls Tryz.prog 98 #[v] w fun e w' => ∃ u, e = .returned u ∧ KR (w.heap.size + 1) w' u (askP p) ∧ Below w.heap.size w w' := by
  obtain ⟨vs, vl, rfl, hS, hL⟩ := hv
  obtain ⟨as_, cs, rfl, _, hS⟩ := hS
  obtain ⟨al, cl, rfl⟩ := hL.form
  have HS : Hid _ := hS
  have H6 : Hid _ := h6
  have HB0 : Hid (Below w.heap.size w (w.alloc (.cells #[.slice as_ p.steps.length cs, .slice al p.links.length cl] 64))) := on_alloc _ _
  have HZ0 : Hid ((w.alloc (.cells #[.slice as_ p.steps.length cs, .slice al p.links.length cl] 64)).heap.size = w.heap.size + 1) := by unfold Hid; simp
  clear hS hL h6
  go_enter Tryz.func98, Tryz.ntmps98
  go_wp2
  generalize w.alloc (.cells #[.slice as_ p.steps.length cs, .slice al p.links.length cl] 64) = w0 at *
  go_loopw [3, 11] (fun u i wr => ∃ k : Nat, k ≤ p.steps.length ∧ i = .int .i64 k ∧ Hid (KR (w.heap.size + 1) wr u (askTo p k)) ∧ Hid (Below w.heap.size w wr) ∧ Hid (w.heap.size + 1 ≤ wr.heap.size)) (fun _ i _ => p.steps.length - (intOf i).toNat)
  case atStart => exact ⟨0, Nat.zero_le _, rfl, World.ownsRow_nil _ _ _ _, HB0, by unfold Hid; have := HZ0.out; omega⟩
  case round =>
    obtain ⟨k, hk, rfl, HK, HB, HZ⟩ := hrel
    by_cases hlt : k < p.steps.length
    · rcases HS.out with h0 | ⟨b, o, rfl, hc⟩
      · rw [h0] at hlt; simp at hlt
      obtain ⟨vt, n0, n1, hR⟩ := hc k hlt
      replace n0 := cell_on HB.out n0
      replace n1 := cell_on HB.out n1
      have h6k := H6.out p.steps[k] (List.getElem_mem hlt)
      obtain ⟨at_, ct, rfl, _, hT⟩ := hR
      have HT : Hid _ := hT
      have HNo : Hid _ := askTo_next hlt
      have HLo : Hid ((askTo p k).length + 1 ≤ 64) := by
        unfold Hid
        have e1 := askTo_len H6.out (k := k) (by omega)
        omega
      have i1 : (0 : Int) ≤ (k : Int) := by omega
      have i2 : (k : Int) < (p.steps.length : Int) := by omega
      clear hc hT
      generalize p.steps[k] = s at *
      have HBa : Hid (Below w.heap.size w (wr.alloc (.cells #[.string ⟨s.tag.toArray⟩, .slice at_ s.tests.length ct] 67))) := below_trans HB.out (on_alloc _ _)
      have HKa : Hid (KR (w.heap.size + 1) (wr.alloc (.cells #[.string ⟨s.tag.toArray⟩, .slice at_ s.tests.length ct] 67)) _ _) := own_on HK.out (on_alloc _ _)
      have HZa : Hid (w.heap.size + 1 ≤ (wr.alloc (.cells #[.string ⟨s.tag.toArray⟩, .slice at_ s.tests.length ct] 67)).heap.size) := by unfold Hid; have := HZ.out; simp; omega
      have hcase : s.tag.isEmpty = true ∨ s.tag.isEmpty = false := by cases s.tag.isEmpty <;> simp
      rcases hcase with hi | hi
      · have HK2 : Hid (KR (w.heap.size + 1) (wr.alloc (.cells #[.string ⟨s.tag.toArray⟩, .slice at_ s.tests.length ct] 67)) u3 (askTo p k ++ askIn s 0)) := by
          unfold Hid askIn tagK
          rw [if_pos (List.isEmpty_iff.1 hi)]
          simpa using HKa.out
        have HB2 := HBa
        have HZ2 := HZa
        go_wp2
        clear HKa HBa HZa
        generalize wr.alloc (.cells #[.string ⟨s.tag.toArray⟩, .slice at_ s.tests.length ct] 67) = w2 at *
        go_loopw [3, 27] (fun u i wr => ∃ j : Nat, j ≤ s.tests.length ∧ i = .int .i64 j ∧ Hid (KR (w.heap.size + 1) wr u (askTo p k ++ askIn s j)) ∧ Hid (Below w.heap.size w wr) ∧ Hid (w.heap.size + 1 ≤ wr.heap.size)) (fun _ i _ => s.tests.length - (intOf i).toNat)
        case atStart => exact ⟨0, Nat.zero_le _, rfl, HK2, HB2, HZ2⟩
        case round =>
          obtain ⟨j, hj, rfl, HKq, HBq, HZq⟩ := hrel
          by_cases hjl : j < s.tests.length
          · rcases HT.out with h0 | ⟨b2, o2, rfl, hc2⟩
            · rw [h0] at hjl; simp at hjl
            obtain ⟨vv, m0, m1, m2, m3, m4, m5, hl⟩ := TstAt.on hA (hc2 j hjl) HBq.out
            obtain ⟨al2, cl2, rfl, _⟩ := hA.form hl
            have HNx : Hid (askTo p k ++ askIn s (j + 1) = (askTo p k ++ askIn s j) ++ askT s.tests[j]) := by unfold Hid; rw [askIn_next hjl, List.append_assoc]
            have HLn : Hid ((askTo p k ++ askIn s j).length + 1 ≤ 64) := by
              unfold Hid
              have e1 := askTo_len H6.out (k := k) (by omega)
              have e2 := askIn_len (s := s) (j := j) (by omega)
              rw [List.length_append]
              omega
            have j1 : (0 : Int) ≤ (j : Int) := by omega
            have j2 : (j : Int) < (s.tests.length : Int) := by omega
            clear hc2 hl
            generalize s.tests[j] = t at *
            generalize askTo p k ++ askIn s j = ks at *
            have HBa : Hid (Below w.heap.size w (wr.alloc (.cells #[.int .i64 t.kind, .string ⟨t.name.toArray⟩, .string ⟨t.value.toArray⟩, .int .i64 t.a, .int .i64 t.b, .slice al2 t.list.length cl2] 71))) := below_trans HBq.out (on_alloc _ _)
            have HKa : Hid (KR (w.heap.size + 1) (wr.alloc (.cells #[.int .i64 t.kind, .string ⟨t.name.toArray⟩, .string ⟨t.value.toArray⟩, .int .i64 t.a, .int .i64 t.b, .slice al2 t.list.length cl2] 71)) _ _) := own_on HKq.out (on_alloc _ _)
            have HZa : Hid (w.heap.size + 1 ≤ (wr.alloc (.cells #[.int .i64 t.kind, .string ⟨t.name.toArray⟩, .string ⟨t.value.toArray⟩, .int .i64 t.a, .int .i64 t.b, .slice al2 t.list.length cl2] 71)).heap.size) := by unfold Hid; have := HZq.out; simp; omega
            by_cases e2 : t.kind = 2
            · have HAk : Hid (askT t = [(2, t.name)]) := by unfold Hid askT; rw [if_pos e2]
              rw [e2] at HKa HBa HZa
              go_wp2_with (at_builtin; refine Hid.out ?_)
              unfold Hid
              refine wpList_kadd (B := w.heap.size + 1) (w2 := wr.alloc (.cells #[.int .i64 2, .string ⟨t.name.toArray⟩, .string ⟨t.value.toArray⟩, .int .i64 t.a, .int .i64 t.b, .slice al2 t.list.length cl2] 71)) (v := u3) (ks := ks) (k := (2, t.name)) ?_ (.tmp 35) (.tmp 39) ?_ ?_ ?_ HKa.out HLn.out HZa.out ?_
              · rfl
              · rfl
              · rfl
              · first | rfl | (simp [Act.eval]; done)
              intro g cap w' ho' hg'
              have HK' : Hid (KR (w.heap.size + 1) w' (.slice (some ⟨g, 0, none⟩) (ks.length + 1) cap) (askTo p k ++ askIn s (j + 1))) := by unfold Hid KR; rw [HNx.out, HAk.out, List.length_append]; exact ho'
              have HB' : Hid (Below w.heap.size w w') := (below_trans HBa.out (on_alloc _ _)).grown hg' (by have := HZq.out; simp; omega) (fun k hk => by have := (HKa.out.lt k hk).1; omega)
              have HZ' : Hid (w.heap.size + 1 ≤ w'.heap.size) := by unfold Hid; have := HZq.out; have := hg'.size; simp at this; omega
              clear ho' hg'
              go_wp2
              exact ⟨⟨j + 1, hjl, by go_num, HK', HB', HZ'⟩, by simp [intOf]; omega⟩
            · by_cases e1 : t.kind = 1
              · have HAk : Hid (askT t = [(3, t.name)]) := by unfold Hid askT; rw [if_neg e2, if_pos e1]
                rw [e1] at HKa HBa HZa
                go_wp2_with (at_builtin; refine Hid.out ?_)
                unfold Hid
                refine wpList_kadd (B := w.heap.size + 1) (w2 := wr.alloc (.cells #[.int .i64 1, .string ⟨t.name.toArray⟩, .string ⟨t.value.toArray⟩, .int .i64 t.a, .int .i64 t.b, .slice al2 t.list.length cl2] 71)) (v := u3) (ks := ks) (k := (3, t.name)) ?_ (.tmp 43) (.tmp 47) ?_ ?_ ?_ HKa.out HLn.out HZa.out ?_
                · rfl
                · rfl
                · rfl
                · first | rfl | (simp [Act.eval]; done)
                intro g cap w' ho' hg'
                have HK' : Hid (KR (w.heap.size + 1) w' (.slice (some ⟨g, 0, none⟩) (ks.length + 1) cap) (askTo p k ++ askIn s (j + 1))) := by unfold Hid KR; rw [HNx.out, HAk.out, List.length_append]; exact ho'
                have HB' : Hid (Below w.heap.size w w') := (below_trans HBa.out (on_alloc _ _)).grown hg' (by have := HZq.out; simp; omega) (fun k hk => by have := (HKa.out.lt k hk).1; omega)
                have HZ' : Hid (w.heap.size + 1 ≤ w'.heap.size) := by unfold Hid; have := HZq.out; have := hg'.size; simp at this; omega
                clear ho' hg'
                go_wp2
                exact ⟨⟨j + 1, hjl, by go_num, HK', HB', HZ'⟩, by simp [intOf]; omega⟩
              · have HAk : Hid (askT t = []) := by unfold Hid askT; rw [if_neg e2, if_neg e1]
                have HK' : Hid (KR (w.heap.size + 1) (wr.alloc (.cells #[.int .i64 t.kind, .string ⟨t.name.toArray⟩, .string ⟨t.value.toArray⟩, .int .i64 t.a, .int .i64 t.b, .slice al2 t.list.length cl2] 71)) u3 (askTo p k ++ askIn s (j + 1))) := by unfold Hid; rw [HNx.out, HAk.out, List.append_nil]; exact HKa.out
                go_wp2
                exact ⟨⟨j + 1, hjl, by go_num, HK', HBa, HZa⟩, by simp [intOf]; omega⟩
          · have HK' : Hid (KR (w.heap.size + 1) wr u3 (askTo p (k + 1))) := by
              unfold Hid
              rw [HNo.out, ← askIn_all, show s.tests.length = j by omega]
              exact HKq.out
            go_wp2
            exact ⟨⟨k + 1, hlt, by go_num, HK', HBq, HZq⟩, by simp [intOf]; omega⟩
      · go_wp2_with (at_builtin; refine Hid.out ?_)
        unfold Hid
        refine wpList_kadd (B := w.heap.size + 1) (w2 := wr.alloc (.cells #[.string ⟨s.tag.toArray⟩, .slice at_ s.tests.length ct] 67)) (v := u3) (ks := askTo p k) (k := (1, s.tag)) ?_ (.tmp 18) (.tmp 22) ?_ ?_ ?_ HKa.out HLo.out HZa.out ?_
        · rfl
        · rfl
        · rfl
        · first | rfl | (simp [Act.eval]; done)
        intro g cap w2 ho' hg'
        have HK2 : Hid (KR (w.heap.size + 1) w2 (.slice (some ⟨g, 0, none⟩) ((askTo p k).length + 1) cap) (askTo p k ++ askIn s 0)) := by
          unfold Hid KR askIn tagK
          rw [if_neg (by intro e; rw [e] at hi; simp at hi), List.take_zero, List.flatMap_nil, List.append_nil, List.length_append]
          exact ho'
        have HB2 : Hid (Below w.heap.size w w2) := (below_trans HBa.out (on_alloc _ _)).grown hg' (by have := HZ.out; simp; omega) (fun k hk => by have := (HKa.out.lt k hk).1; omega)
        have HZ2 : Hid (w.heap.size + 1 ≤ w2.heap.size) := by unfold Hid; have := HZ.out; have := hg'.size; simp at this; omega
        have c1 : w2.cell? ⟨wr.heap.size, 1, none⟩ = some (.slice at_ s.tests.length ct) := kadd_box HK.out hg' (cell_on (on_alloc _ _) (by simp [go_sem])) (Nat.le_refl _)
        clear ho' hg' HKa HBa HZa
        go_wp2
        go_loopw [3, 27] (fun u i wr => ∃ j : Nat, j ≤ s.tests.length ∧ i = .int .i64 j ∧ Hid (KR (w.heap.size + 1) wr u (askTo p k ++ askIn s j)) ∧ Hid (Below w.heap.size w wr) ∧ Hid (w.heap.size + 1 ≤ wr.heap.size)) (fun _ i _ => s.tests.length - (intOf i).toNat)
        case atStart => exact ⟨0, Nat.zero_le _, rfl, HK2, HB2, HZ2⟩
        case round =>
          obtain ⟨j, hj, rfl, HKq, HBq, HZq⟩ := hrel
          by_cases hjl : j < s.tests.length
          · rcases HT.out with h0 | ⟨b2, o2, rfl, hc2⟩
            · rw [h0] at hjl; simp at hjl
            obtain ⟨vv, m0, m1, m2, m3, m4, m5, hl⟩ := TstAt.on hA (hc2 j hjl) HBq.out
            obtain ⟨al2, cl2, rfl, _⟩ := hA.form hl
            have HNx : Hid (askTo p k ++ askIn s (j + 1) = (askTo p k ++ askIn s j) ++ askT s.tests[j]) := by unfold Hid; rw [askIn_next hjl, List.append_assoc]
            have HLn : Hid ((askTo p k ++ askIn s j).length + 1 ≤ 64) := by
              unfold Hid
              have e1 := askTo_len H6.out (k := k) (by omega)
              have e2 := askIn_len (s := s) (j := j) (by omega)
              rw [List.length_append]
              omega
            have j1 : (0 : Int) ≤ (j : Int) := by omega
            have j2 : (j : Int) < (s.tests.length : Int) := by omega
            clear hc2 hl
            generalize s.tests[j] = t at *
            generalize askTo p k ++ askIn s j = ks at *
            have HBa : Hid (Below w.heap.size w (wr.alloc (.cells #[.int .i64 t.kind, .string ⟨t.name.toArray⟩, .string ⟨t.value.toArray⟩, .int .i64 t.a, .int .i64 t.b, .slice al2 t.list.length cl2] 71))) := below_trans HBq.out (on_alloc _ _)
            have HKa : Hid (KR (w.heap.size + 1) (wr.alloc (.cells #[.int .i64 t.kind, .string ⟨t.name.toArray⟩, .string ⟨t.value.toArray⟩, .int .i64 t.a, .int .i64 t.b, .slice al2 t.list.length cl2] 71)) _ _) := own_on HKq.out (on_alloc _ _)
            have HZa : Hid (w.heap.size + 1 ≤ (wr.alloc (.cells #[.int .i64 t.kind, .string ⟨t.name.toArray⟩, .string ⟨t.value.toArray⟩, .int .i64 t.a, .int .i64 t.b, .slice al2 t.list.length cl2] 71)).heap.size) := by unfold Hid; have := HZq.out; simp; omega
            by_cases e2 : t.kind = 2
            · have HAk : Hid (askT t = [(2, t.name)]) := by unfold Hid askT; rw [if_pos e2]
              rw [e2] at HKa HBa HZa
              go_wp2_with (at_builtin; refine Hid.out ?_)
              unfold Hid
              refine wpList_kadd (B := w.heap.size + 1) (w2 := wr.alloc (.cells #[.int .i64 2, .string ⟨t.name.toArray⟩, .string ⟨t.value.toArray⟩, .int .i64 t.a, .int .i64 t.b, .slice al2 t.list.length cl2] 71)) (v := u3) (ks := ks) (k := (2, t.name)) ?_ (.tmp 35) (.tmp 39) ?_ ?_ ?_ HKa.out HLn.out HZa.out ?_
              · rfl
              · rfl
              · rfl
              · first | rfl | (simp [Act.eval]; done)
              intro g cap w' ho' hg'
              have HK' : Hid (KR (w.heap.size + 1) w' (.slice (some ⟨g, 0, none⟩) (ks.length + 1) cap) (askTo p k ++ askIn s (j + 1))) := by unfold Hid KR; rw [HNx.out, HAk.out, List.length_append]; exact ho'
              have HB' : Hid (Below w.heap.size w w') := (below_trans HBa.out (on_alloc _ _)).grown hg' (by have := HZq.out; simp; omega) (fun k hk => by have := (HKa.out.lt k hk).1; omega)
              have HZ' : Hid (w.heap.size + 1 ≤ w'.heap.size) := by unfold Hid; have := HZq.out; have := hg'.size; simp at this; omega
              clear ho' hg'
              go_wp2
              exact ⟨⟨j + 1, hjl, by go_num, HK', HB', HZ'⟩, by simp [intOf]; omega⟩
            · by_cases e1 : t.kind = 1
              · have HAk : Hid (askT t = [(3, t.name)]) := by unfold Hid askT; rw [if_neg e2, if_pos e1]
                rw [e1] at HKa HBa HZa
                go_wp2_with (at_builtin; refine Hid.out ?_)
                unfold Hid
                refine wpList_kadd (B := w.heap.size + 1) (w2 := wr.alloc (.cells #[.int .i64 1, .string ⟨t.name.toArray⟩, .string ⟨t.value.toArray⟩, .int .i64 t.a, .int .i64 t.b, .slice al2 t.list.length cl2] 71)) (v := u3) (ks := ks) (k := (3, t.name)) ?_ (.tmp 43) (.tmp 47) ?_ ?_ ?_ HKa.out HLn.out HZa.out ?_
                · rfl
                · rfl
                · rfl
                · first | rfl | (simp [Act.eval]; done)
                intro g cap w' ho' hg'
                have HK' : Hid (KR (w.heap.size + 1) w' (.slice (some ⟨g, 0, none⟩) (ks.length + 1) cap) (askTo p k ++ askIn s (j + 1))) := by unfold Hid KR; rw [HNx.out, HAk.out, List.length_append]; exact ho'
                have HB' : Hid (Below w.heap.size w w') := (below_trans HBa.out (on_alloc _ _)).grown hg' (by have := HZq.out; simp; omega) (fun k hk => by have := (HKa.out.lt k hk).1; omega)
                have HZ' : Hid (w.heap.size + 1 ≤ w'.heap.size) := by unfold Hid; have := HZq.out; have := hg'.size; simp at this; omega
                clear ho' hg'
                go_wp2
                exact ⟨⟨j + 1, hjl, by go_num, HK', HB', HZ'⟩, by simp [intOf]; omega⟩
              · have HAk : Hid (askT t = []) := by unfold Hid askT; rw [if_neg e2, if_neg e1]
                have HK' : Hid (KR (w.heap.size + 1) (wr.alloc (.cells #[.int .i64 t.kind, .string ⟨t.name.toArray⟩, .string ⟨t.value.toArray⟩, .int .i64 t.a, .int .i64 t.b, .slice al2 t.list.length cl2] 71)) u3 (askTo p k ++ askIn s (j + 1))) := by unfold Hid; rw [HNx.out, HAk.out, List.append_nil]; exact HKa.out
                go_wp2
                exact ⟨⟨j + 1, hjl, by go_num, HK', HBa, HZa⟩, by simp [intOf]; omega⟩
          · have HK' : Hid (KR (w.heap.size + 1) wr u3 (askTo p (k + 1))) := by
              unfold Hid
              rw [HNo.out, ← askIn_all, show s.tests.length = j by omega]
              exact HKq.out
            go_wp2
            exact ⟨⟨k + 1, hlt, by go_num, HK', HBq, HZq⟩, by simp [intOf]; omega⟩
    · have HK' : Hid (KR (w.heap.size + 1) wr u3 (askP p)) := by
        unfold Hid
        rw [← askTo_all, show p.steps.length = k by omega]
        exact HK.out
      go_wp2
      go_ret
      exact ⟨_, rfl, HK'.out, HB.out⟩
end Go.Proofs.YtephhllfodlfbaaGreatDoor
