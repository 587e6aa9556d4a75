/-
  A function that goes over an iterator in a loop: what it leaves behind, mark by mark.
-/
import Derived.Test.YtephhllfodlfbaaDoorPkC
import Derived.Test.YtephhllfodlfbaaDoorRcB
namespace Go.Proofs.YtephhllfodlfbaaDoor
open Go.RowKit Go.Shelf

/-- the marks among the deferred calls: each its own block, from B on, with no call in it -/
def Marks (B : Nat) (W : World) (ds : List Deferred) : Prop := ∃ Ds : List Nat, ds = Ds.map (fun D => { target := .collected D, args := #[] }) ∧ Ds.Nodup ∧ ∀ D ∈ Ds, B ≤ D ∧ W.heap[D]? = some (.deferred (some []))
theorem Marks.nil (B : Nat) (W : World) : Marks B W [] := ⟨[], rfl, List.nodup_nil, fun D h => by cases h⟩
/-- they stand wherever what is no cells lies as it lay -/
theorem Marks.keeps {B : Nat} {W W' : World} {ds : List Deferred} (h : Marks B W ds) (hk : KeepsOthers W W') : Marks B W' ds := by
  obtain ⟨Ds, h1, h2, h3⟩ := h
  exact ⟨Ds, h1, h2, fun D hD => ⟨(h3 D hD).1, hk.same D _ (h3 D hD).2 rfl⟩⟩
theorem Marks.cons {B D : Nat} {W : World} {ds : List Deferred} (h : Marks B W ds) (hB : B ≤ D) (hD : W.heap[D]? = some (.deferred (some []))) (hn : ∀ D' , ({ target := .collected D', args := #[] } : Deferred) ∈ ds → D' ≠ D) : Marks B W ({ target := .collected D, args := #[] } :: ds) := by
  obtain ⟨Ds, rfl, h2, h3⟩ := h
  refine ⟨D :: Ds, rfl, List.nodup_cons.2 ⟨fun hm => hn D (List.mem_map.2 ⟨D, hm, rfl⟩) rfl, h2⟩, fun E hE => ?_⟩
  rcases List.mem_cons.1 hE with rfl | hE
  · exact ⟨hB, hD⟩
  · exact h3 E hE
theorem Marks.lt {B : Nat} {W : World} {ds : List Deferred} (h : Marks B W ds) : ∀ D', ({ target := .collected D', args := #[] } : Deferred) ∈ ds → D' < W.heap.size := by
  obtain ⟨Ds, rfl, _, h3⟩ := h
  intro D' hD
  obtain ⟨E, hE, he⟩ := List.mem_map.1 hD
  simp only [Deferred.mk.injEq, Target.collected.injEq, and_true] at he
  subst he
  exact (Array.getElem?_eq_some_iff.1 (h3 _ hE).2).1
/-- the way out over all marks -/
theorem leaves_marks {F : Fence} {n : Nat} {P : Program} {fn : Func} {tmps : Array Value} {R : Ending → World → Prop} {B n₀ : Nat} (hn : n₀ ≤ B) : ∀ (Ds : List Nat) (W : World), Ds.Nodup → (∀ D ∈ Ds, B ≤ D ∧ W.heap[D]? = some (.deferred (some []))) →
    (∀ W', Below n₀ W W' → (∀ (a : Addr) v, W.cell? a = some v → W'.cell? a = some v) → LeavesIn F n P fn tmps R [] .returning W') → LeavesInM F n P fn tmps R (Ds.map fun D => { target := .collected D, args := #[] }) .returning W := by
  intro Ds
  induction Ds with
  | nil => exact fun W _ _ h => h W (Below.refl _ _) (fun _ _ h => h)
  | cons D Ds ih =>
    intro W hnd hD h
    obtain ⟨hB, hK⟩ := hD D (by simp)
    obtain ⟨hnot, hnd2⟩ := List.nodup_cons.1 hnd
    refine ⟨by simp, .inl ⟨D, _, rfl, run_takeDeferred hK, ih _ hnd2 (fun E hE => ⟨(hD E (by simp [hE])).1, ?_⟩) fun W' hb hc => h W' ?_ ?_⟩⟩
    · have hne : E ≠ D := fun e => hnot (e ▸ hE)
      have := (grownBy_putObj' W D (.deferred none)).block E (Array.getElem?_eq_some_iff.1 (hD E (by simp [hE])).2).1 (by intro e; exact hne (by injection e))
      exact this.trans (hD E (by simp [hE])).2
    · exact ((Below.refl n₀ W).grown (grownBy_putObj' W D (.deferred none)) (by have := (Array.getElem?_eq_some_iff.1 hK).1; omega) (fun k e => by cases e; omega)).trans hb
    · intro a v hv
      exact hc a v (cell_kept hv (grownBy_putObj' W D (.deferred none)) (fun r e => by cases e; exact ⟨_, hK, rfl⟩))
end Go.Proofs.YtephhllfodlfbaaDoor
/-
  path's pathFits.
-/
namespace Go.Proofs.YtephhllfodlfbaaDoor
open Go.RowKit

set_option maxRecDepth 100000 in
set_option maxHeartbeats 2000000 in
theorem pathFits_any {α : Type} {A : MemL α} (hA : IsL A) (v u : Value) (p : Pl.Pth α) (w : World) (hs : RowAt (StpAt A) 2 w v p.steps) (hu : RowAt IntAt 1 w u p.links) :
    Calls Tryd.prog 44 #[.agg #[v, u]] w fun e w' => e = .returned (.bool (Pl.pFits p)) ∧ Below w.heap.size w w' := by
  obtain ⟨ax, cx, rfl⟩ := hs.form
  obtain ⟨al, cl, rfl⟩ := hu.form
  have fs := hs.fit
  have fl := hu.fit
  unfold maxLen at fs fl
  have hbx := on_alloc w (.cells #[.slice ax p.steps.length cx, .slice al p.links.length cl] 38)
  have HB : Hid (Below w.heap.size w _) := hbx
  have HA : Hid (IsL A) := hA
  have HS : Hid (RowAt (StpAt A) 2 _ (.slice ax p.steps.length cx) p.steps) := hs.map fun b o x hx => hx.on hA hbx
  obtain ⟨x0, x1⟩ := Blk2p.new w (.slice ax p.steps.length cx) (.slice al p.links.length cl)
  obtain ⟨EV, hEV⟩ : ∃ x, Pl.pFits p = x := ⟨_, rfl⟩
  rw [hEV]
  clear hs hu hA hbx
  by_cases h1 : p.steps.length < 1
  · have HE : Hid (EV = false) := by
      unfold Hid
      rw [← hEV]
      unfold Pl.pFits
      rw [decide_eq_false (by omega)]
      rfl
    have h1' : (p.steps.length : Int) < 1 := by omega
    clear hEV
    go_enter Tryd.func44, Tryd.ntmps44
    go_wp2
    go_ret
    exact ⟨by rw [HE.out]; rfl, HB.out⟩
  · have h1' : ¬ (p.steps.length : Int) < 1 := by omega
    by_cases h2 : 5 < p.steps.length
    · have HE : Hid (EV = false) := by
        unfold Hid
        rw [← hEV]
        unfold Pl.pFits
        rw [decide_eq_false (by omega)]
        rfl
      have h2' : (5 : Int) < (p.steps.length : Int) := by omega
      clear hEV
      go_enter Tryd.func44, Tryd.ntmps44
      go_wp2
      go_ret
      exact ⟨by rw [HE.out]; rfl, HB.out⟩
    · have h2' : ¬ (5 : Int) < (p.steps.length : Int) := by omega
      have hr : wrap64 ((p.steps.length : Int) - 1) = (p.steps.length : Int) - 1 := IntWalk.wrap64_in _ ⟨by omega, by omega⟩
      by_cases h3 : p.links.length + 1 = p.steps.length
      · have hq : ((p.links.length : Int) != (p.steps.length : Int) - 1) = false := by simp; omega
        have HE : Hid (EV = p.steps.all fun s => decide (s.tests.length ≤ 6)) := by
          unfold Hid
          rw [← hEV]
          unfold Pl.pFits
          rw [decide_eq_true (by omega), Bool.true_and]
        clear hEV
        go_enter Tryd.func44, Tryd.ntmps44
        go_wp2
        generalize w.alloc (.cells #[.slice ax p.steps.length cx, .slice al p.links.length cl] 38) = W1 at *
        go_loopw [28] (fun i wr => ∃ k : Nat, k ≤ p.steps.length ∧ i = .int .i64 k ∧ Hid ((p.steps.take k).all (fun s => decide (s.tests.length ≤ 6)) = true) ∧ Hid (Below W1.heap.size W1 wr)) (fun i _ => p.steps.length - (intOf i).toNat)
        case atStart => exact ⟨0, Nat.zero_le _, rfl, by simp [Hid], Below.refl _ _⟩
        case round =>
          obtain ⟨k, hk, rfl, HT, HB2⟩ := hrel
          by_cases hlt : k < p.steps.length
          · obtain ⟨-, b2, o2, rfl, hc2⟩ := RowAt.at HS.out (by omega)
            obtain ⟨vt, m0, m1, rt⟩ := (hc2 k hlt).on HA.out HB2.out
            obtain ⟨at_, ct, rfl⟩ := rt.form
            have ft := rt.fit
            unfold maxLen at ft
            have k1 : (0 : Int) ≤ (k : Int) := by omega
            have k2 : (k : Int) < (p.steps.length : Int) := by omega
            have HBAD : Hid (decide (p.steps[k].tests.length ≤ 6) = false → EV = false) := fun h => HE.out.trans (all_bad hlt h)
            have HOK : Hid (decide (p.steps[k].tests.length ≤ 6) = true → (p.steps.take (k + 1)).all (fun s => decide (s.tests.length ≤ 6)) = true) := fun h => all_next hlt HT.out h
            clear hc2 HT rt
            generalize p.steps[k] = st at *
            have hbs := on_alloc wr (.cells #[.string ⟨st.tag.toArray⟩, .slice at_ st.tests.length ct] 41)
            have HB3 : Hid (Below W1.heap.size W1 _) := below_trans HB2.out hbs
            clear hbs
            by_cases h6 : st.tests.length ≤ 6
            · have h6' : ¬ (6 : Int) < (st.tests.length : Int) := by omega
              have HK : Hid ((p.steps.take (k + 1)).all (fun s => decide (s.tests.length ≤ 6)) = true) := HOK.out (decide_eq_true h6)
              go_wp2
              exact ⟨⟨k + 1, hlt, by go_num, HK, HB3⟩, by simp [intOf]; omega⟩
            · have h6' : (6 : Int) < (st.tests.length : Int) := by omega
              have HK : Hid (EV = false) := HBAD.out (decide_eq_false h6)
              go_wp2
              go_ret
              exact ⟨by rw [HK.out]; rfl, below_trans HB.out HB3.out⟩
          · have HK : Hid (EV = true) := HE.out.trans (all_done hlt HT.out)
            go_wp2
            go_ret
            exact ⟨by rw [HK.out]; rfl, below_trans HB.out HB2.out⟩
      · have hq : ((p.links.length : Int) != (p.steps.length : Int) - 1) = true := by simp; omega
        have HE : Hid (EV = false) := by
          unfold Hid
          rw [← hEV]
          unfold Pl.pFits
          rw [decide_eq_false (by omega)]
          rfl
        clear hEV
        go_enter Tryd.func44, Tryd.ntmps44
        go_wp2
        go_ret
        exact ⟨by rw [HE.out]; rfl, HB.out⟩
end Go.Proofs.YtephhllfodlfbaaDoor
