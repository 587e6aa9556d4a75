/-
  plain.plainer: a list made plainer once, from what is done with its paths.
-/
import Derived.Test.YtephhllfodlfbaaDoorPnL
namespace Go.Proofs.YtephhllfodlfbaaDoor
open Go.RowKit

/-- what plainerPath does -/
def PathC {α : Type} [DecidableEq α] (A : MemL α) (L : Pl.Lev α) : Prop := ∀ (as_ al : Option Addr) (cs cl : Nat) (p : Pl.Pth α) (w : World), RowAt (StpAt A) 2 w (.slice as_ p.steps.length cs) p.steps → RowAt IntAt 1 w (.slice al p.links.length cl) p.links → Pl.okP L.W p →
  Calls Tryd.prog 30 #[.agg #[.slice as_ p.steps.length cs, .slice al p.links.length cl]] w fun e w' => ∃ a1 c1 a2 c2, e = .returned (.agg #[.slice a1 (Pl.plP L.f L.only p).steps.length c1, .slice a2 (Pl.plP L.f L.only p).links.length c2]) ∧ RowAt (StpAt A) 2 (mask (frm w.heap.size) w') (.slice a1 (Pl.plP L.f L.only p).steps.length c1) (Pl.plP L.f L.only p).steps ∧ RowAt IntAt 1 (mask (frm w.heap.size) w') (.slice a2 (Pl.plP L.f L.only p).links.length c2) (Pl.plP L.f L.only p).links ∧ Below w.heap.size w w'
theorem Grow.lt {β : Type} {P : Nat → Bool} {B : Nat} {e : TypeId} {k : Nat} {V : World → List Value → β → Prop} {w : World} {v : Value} {l : List β} (h : Grow P B e k V w v l) : ∀ g, v.ownBlock = some g → g < w.heap.size := by
  obtain ⟨xs, hown, _⟩ := h
  exact fun g hg => (World.ownsRow.lt hown g hg).2
def plTo {α : Type} [DecidableEq α] (L : Pl.Lev α) (l : List (Pl.Pth α)) (k : Nat) : List (Pl.Pth α) := (l.take k).map (Pl.plP L.f L.only)
theorem plTo_next {α : Type} [DecidableEq α] {L : Pl.Lev α} {l : List (Pl.Pth α)} {k : Nat} (h : k < l.length) : plTo L l (k + 1) = plTo L l k ++ [Pl.plP L.f L.only l[k]] := by
  unfold plTo
  rw [List.take_succ_eq_append_getElem h, List.map_append]
  rfl
theorem plTo_len {α : Type} [DecidableEq α] (L : Pl.Lev α) (l : List (Pl.Pth α)) (k : Nat) : (plTo L l k).length ≤ k := by
  unfold plTo
  rw [List.length_map, List.length_take]
  omega
set_option maxRecDepth 100000 in
set_option maxHeartbeats 8000000 in
theorem plainer_up {α : Type} [DecidableEq α] {A : MemL α} (hA : IsL A) (hS : IsSub A) (L : Pl.Lev α) (hL : Pl.IsLev L) (hPath : PathC A L) (hsame : ∀ (w : World) (v1 v2 : Value) (l m : List α), A w v1 l → A w v2 m → L.W l → L.W m → Calls Tryd.prog 16 #[v1, v2] w fun e w' => e = .returned (.bool (sm l m)) ∧ Below w.heap.size w w')
    (w : World) (v : Value) (l : List (Pl.Pth α)) (hl : LstAt A w v l) (hok : Pl.okL L.W l) :
    Calls Tryd.prog 15 #[v] w fun e w' => ∃ a c, e = .returned (.slice a (Pl.plL L.f L.only l).length c) ∧ LstAt A (mask (frm w.heap.size) w') (.slice a (Pl.plL L.f L.only l).length c) (Pl.plL L.f L.only l) ∧ Below w.heap.size w w' := by
  obtain ⟨a, c, rfl, -, hcs⟩ := hl
  have HR : Hid _ := hcs
  have HOK : Hid (Pl.okL L.W l) := hok
  have h5 := hok.1
  clear hcs hok
  go_enter Tryd.func15, Tryd.ntmps15
  go_wp2
  go_loopw [3, 8] (fun u i wr => ∃ k : Nat, k ≤ l.length ∧ i = .int .i64 k ∧ Hid (Grow (frm w.heap.size) w.heap.size 38 2 (VP A) wr u (plTo L l k)) ∧ Hid (Below w.heap.size w wr)) (fun _ i _ => l.length - (intOf i).toNat)
  case atStart => exact ⟨0, Nat.zero_le _, rfl, Grow.nil _ _ _ _ _ _, Below.refl _ _⟩
  case round =>
    obtain ⟨k, hk, rfl, HG, HB⟩ := hrel
    obtain ⟨au, cu, rfl⟩ := HG.out.form
    by_cases hlt : k < l.length
    · as_aux_lemma =>
      rcases HR.out with h0 | ⟨b, o, rfl, hc⟩
      · rw [h0] at hlt; simp at hlt
      obtain ⟨vs, vl, n0, n1, hP, hLk⟩ := hc k hlt
      obtain ⟨as_, cs, rfl⟩ := hP.form
      obtain ⟨al, cl, rfl⟩ := hLk.form
      replace n0 := cell_on HB.out n0
      replace n1 := cell_on HB.out n1
      have hokp := HOK.out.2 l[k] (List.getElem_mem hlt)
      have HNX : Hid _ := plTo_next (L := L) hlt
      have HLN : Hid ((plTo L l k).length + 1 ≤ 64) := by unfold Hid; have := plTo_len L l k; omega
      have i1 : (0 : Int) ≤ (k : Int) := by omega
      have i2 : (k : Int) < (l.length : Int) := by omega
      clear hc
      generalize l[k] = p at *
      generalize plTo L l k = done at *
      have hba := on_alloc wr (.cells #[.slice as_ p.steps.length cs, .slice al p.links.length cl] 38)
      have hbw := below_trans HB.out hba
      have HC : Hid (Calls Tryd.prog 30 _ _ _) := hPath as_ al cs cl p (wr.alloc (.cells #[.slice as_ p.steps.length cs, .slice al p.links.length cl] 38)) (hP.map fun _ _ _ hq => hq.on hA hbw) (hLk.map fun _ _ _ hq => cell_on hbw hq) hokp
      have HBA : Hid (Below wr.heap.size wr (wr.alloc (.cells #[.slice as_ p.steps.length cs, .slice al p.links.length cl] 38))) := hba
      have HBW : Hid (Below w.heap.size w (wr.alloc (.cells #[.slice as_ p.steps.length cs, .slice al p.links.length cl] 38))) := hbw
      clear hba hbw hP hLk hokp
      obtain ⟨wq, hwq⟩ : ∃ q, q = wr := ⟨_, rfl⟩
      subst hwq
      go_wp2_with fail
      clear n0 n1
      generalize wq.alloc (.cells #[.slice as_ p.steps.length cs, .slice al p.links.length cl] 38) = wa at *
      refine HC.out.mono ?_
      rintro e w2 ⟨a1, c1, a2, c2, rfl, hr1, hr2, hb2⟩
      generalize Pl.plP L.f L.only p = q at *
      have hbq : Below wq.heap.size wq w2 := below_trans HBA.out hb2
      have HG2 : Hid (Grow (frm w.heap.size) w.heap.size 38 2 (VP A) w2 (.slice au done.length cu) done) := HG.out.move (isV_p hS) fun j hj hjw => ⟨hj, hbq.block j hjw⟩
      have hsz : w.heap.size ≤ w2.heap.size := (below_trans HBW.out hb2).size
      have HSZ : Hid _ := hsz
      have hi : Incl (mask (frm wa.heap.size) w2) (mask (Off (frm w.heap.size) (.slice au done.length cu)) w2) := incl_mask fun j o y hj hy => by
        simp only [frm, decide_eq_true_eq] at hj
        refine ⟨?_, hy⟩
        unfold Off
        have h1 := HBA.out.size
        have h2 := HB.out.size
        rw [show frm w.heap.size j = true by simp only [frm, decide_eq_true_eq]; omega]
        have : (Value.slice au done.length cu).ownBlock ≠ some j := fun h => by have := HG.out.lt j h; omega
        simpa using this
      have HNEW : Hid (VP A (mask (Off (frm w.heap.size) (.slice au done.length cu)) w2) [.slice a1 q.steps.length c1, .slice a2 q.links.length c2] q) := ⟨_, _, rfl, hr1.map fun _ _ _ hq => hq.sub hS hi, ints_sub hr2 hi⟩
      have HB2 : Hid (Below w.heap.size w w2) := below_trans HBW.out hb2
      clear hr1 hr2 hb2 hbq hi hsz HC
      go_wp2_with (at_builtin; refine Hid.out ?_)
      unfold Hid
      refine wpList_grow (isV_p hS) Tryd.underlying22 infP rfl (by decide) (by decide) (w2 := w2) (v := .slice au done.length cu) (l := done) (x := q) (news := [.slice a1 q.steps.length c1, .slice a2 q.links.length c2]) ?_ (.tmp 12) (.tmp 15) ?_ ?_ ?_ HG2.out HNEW.out ?_ HLN.out HSZ.out ?_ ?_
      · rfl
      · rfl
      · rfl
      · first | rfl | (simp [Act.eval]; done)
      · intro u hu
        simp only [List.mem_cons, List.not_mem_nil, or_false] at hu
        rcases hu with rfl | rfl <;> rfl
      · have := HSZ.out
        simp only [frm, decide_eq_true_eq]
        omega
      intro g cap w3 hg3 hb3 _
      have HG3 : Hid (Grow (frm w.heap.size) w.heap.size 38 2 (VP A) w3 (.slice (some ⟨g, 0, none⟩) (done.length + 1) cap) (plTo L l (k + 1))) := by unfold Hid; rw [HNX.out]; exact hg3
      have HB3 : Hid (Below w.heap.size w w3) := (below_trans HB2.out (on_alloc _ _)).grown hb3 (by have := HB2.out.size; simp; omega) (fun j hj => (HG2.out.own j hj).2)
      clear hg3 hb3
      go_wp2
      exact ⟨⟨k + 1, hlt, by go_num, HG3, HB3⟩, by simp [intOf]; omega⟩
    · as_aux_lemma =>
      have hke : k = l.length := by omega
      subst hke
      have HPL : Hid (Pl.plL L.f L.only l = Pl.firsts (plTo L l l.length)) := by unfold Hid Pl.plL plTo; rw [List.take_length]
      have hlen := plTo_len L l l.length
      have hw : ∀ q ∈ plTo L l l.length, ∀ s ∈ q.steps, ∀ t ∈ s.tests, L.W t.list := by
        intro q hq s hs t ht
        unfold plTo at hq
        rw [List.take_length] at hq
        obtain ⟨p, hp, rfl⟩ := List.mem_map.1 hq
        exact (((Pl.plP_sz hL (HOK.out.2 p hp)).2.2.2.2) s hs).2 t ht
      have HCF : Hid (Calls Tryd.prog 31 _ _ _) := firstsP_any hA (fun p => ∀ s ∈ p.steps, ∀ t ∈ s.tests, L.W t.list) (fun W v u t s ht hs p q => sameP_any hA L.W hsame W v u t s ht hs p q) hS w.heap.size _ _ wr HB.out.size (Grow.row (isV_p hS) HG.out) (by omega) hw
      clear hw hlen
      generalize plTo L l l.length = done at *
      go_wp2_with fail
      refine HCF.out.mono ?_
      rintro e w8 ⟨v8, rfl, hr8, hb8⟩
      obtain ⟨a8, c8, rfl⟩ := hr8.form
      have HR8 : Hid (LstAt A (mask (frm w.heap.size) w8) (.slice a8 (Pl.firsts done).length c8) (Pl.firsts done)) := hr8
      have HB8 : Hid (Below w.heap.size w w8) := below_trans HB.out hb8
      clear hr8 hb8 HCF
      go_wp2
      go_ret
      rw [HPL.out]
      exact ⟨a8, c8, rfl, HR8.out, HB8.out⟩
end Go.Proofs.YtephhllfodlfbaaDoor
