/-
  The tree with another one laid in, laid down, is the document with it. No program is walked in this text.
-/
import Derived.Test.YtbpgcfabepioiaaGreatWiP
import Derived.Test.YtbpgcfabepioiaaGreatRemM
import Derived.Test.YtbpgcfabepioiaaGreatForW
namespace Go.Proofs.YtbpgcfabepioiaaGreat.Pl

theorem insIf_no (ex : Nd) (ek : F) (a : Int) (f : F) : insIf ex ek false a f = f := by
  unfold insIf; rw [if_neg (by simp)]
theorem insIf_at (ex : Nd) (ek : F) (a : Nat) (f : F) (h : a ≤ f.len) : insIf ex ek true a f = insAt ex ek f a := by
  unfold insIf
  rw [if_pos ⟨rfl, by omega, by omega⟩, show ((a : Int)).toNat = a by omega]
theorem behind_in {ns : List Nd} {m n : Nat} (hm : m ≤ n) (hn : n < ns.length) (h : n < behind ns m) : behind ns n ≤ behind ns m := by
  obtain ⟨a1, a2, a3, a4⟩ := behind_spec (ns := ns) (n := m) (by omega)
  obtain ⟨e1, e2, e3, e4⟩ := behind_spec hn
  rcases Nat.lt_or_ge (behind ns m) (behind ns n) with h2 | h2
  · have := a4 (by omega)
    have := e3 (behind ns m) h h2
    omega
  · exact h2
theorem from_mem {ns : List Nd} {m lo k : Nat} (h : k ∈ kidsFrom ns m lo) : lo ≤ k ∧ k < ns.length := by
  unfold kidsFrom at h
  rw [List.mem_filter, List.mem_range'_1] at h
  omega
section
variable {ns : List Nd} (hg : GoodTo ns ns.length)
include hg
theorem with_far {up : Nat} (at_ : Int) (ex : Nd) (ek : F) : ∀ (f : Nat) (l : List Nat), (∀ m ∈ l, m < ns.length ∧ (up < m ∨ behind ns m ≤ up)) → withF up at_ ex ek (markedF ns f l) = markedF ns f l := by
  intro f
  induction f with
  | zero => intro l _; rfl
  | succ f ih =>
    intro l
    induction l with
    | nil => intro _; rfl
    | cons a r ihr =>
      intro h
      obtain ⟨h1, h2⟩ := h a (by simp)
      have hb := (behind_spec h1).1
      have e1 : markedF ns (f + 1) (a :: r) = .cons (mark ns a) (markedF ns f (kidsOf ns a)) (markedF ns (f + 1) r) := rfl
      have hne : ((mark ns a).up == (up : Int)) = false := by
        show ((a : Int) == (up : Int)) = false
        simp; omega
      rw [e1, withF, hne, insIf_no, ihr (fun m hm => h m (by simp [hm])), ih (kidsOf ns a) (fun k hk => by
        obtain ⟨k1, k2, k3, k4⟩ := kid_in hg h1 hk
        exact ⟨k1, by omega⟩)]
theorem ins_tree {up P S : Nat} {at_ : Nat} {ex : Nd} {ek : F} (hup : up < ns.length) (hS : S = ek.size + 1) (hat : at_ ≤ (kidsOf ns up).length) (hP : (kidsOf ns up)[at_]? = some P ∨ (at_ = (kidsOf ns up).length ∧ P = behind ns up)) :
    ∀ (f m pos : Nat) (upv : Int), m ≤ up → up < behind ns m → ns.length ≤ m + f →
    layT (mark ns m) (insIf ex ek ((m : Int) == (up : Int)) at_ (withF up at_ ex ek (markedF ns f (kidsOf ns m)))) pos upv =
      seg ns m P (fun u => if u < m then upv else u - m + pos) ++ layT ex ek (pos + (P - m)) ((pos : Int) + (up - m)) ++ seg ns P (behind ns m) (fun u => if u < P then u - m + pos else u + S - m + pos) := by
  have hPb : up < P ∧ P ≤ behind ns up := by
    obtain ⟨e1, e2, _, _⟩ := behind_spec hup
    rcases hP with h | ⟨_, h⟩
    · have hk := List.mem_of_getElem? h
      obtain ⟨_, k2, k3, _⟩ := kid_in hg hup hk
      omega
    · omega
  intro f
  induction f with
  | zero => intro m pos upv h1 h2 h3; omega
  | succ f ih =>
    intro m pos upv hmu hub hf
    have hm : m < ns.length := by omega
    obtain ⟨a1, a2, a3, a4⟩ := behind_spec hm
    have hbb := behind_in hmu hup hub
    have hk : kidsOf ns m = kidsFrom ns m (m + 1) := kids_from (by omega) fun i hi => by have := low_of hg i (by omega); omega
    have hnext : ∀ lo, lo = m + 1 → lo < behind ns m → upOf ns lo = m := fun lo e h => by
      subst e
      have := a3 (m + 1) (by omega) h
      have := low_of hg (m + 1) (by omega)
      omega
    -- behind the place
    have after : ∀ (d lo p : Nat), behind ns m - lo = d → m < lo → P ≤ lo → lo ≤ behind ns m → (lo < behind ns m → upOf ns lo = m) → p + m = pos + lo + S →
        layF (mtrees (fun k => markedF ns f (kidsOf ns k)) ns (kidsFrom ns m lo)) p pos = seg ns lo (behind ns m) (fun u => if u < P then u - m + pos else u + S - m + pos) := by
      intro d
      induction d using Nat.strongRecOn with
      | ind d ihd =>
        intro lo p hd h0 h1 h2 h3 hp
        rcases Nat.lt_or_ge lo (behind ns m) with h4 | h4
        · have hu := h3 h4
          obtain ⟨b1, b2, b3, b4⟩ := next_kid hg hm h0 h4 hu
          rw [from_cons b1 (by omega) hu b4]
          have hT := mark_tree hg f lo p pos (by omega) (by omega)
          have hsz : (markedF ns f (kidsOf ns lo)).size + 1 = behind ns lo - lo := by
            have := congrArg List.length hT
            rwa [layT_len, seg_len (by omega)] at this
          have hR := ihd (behind ns m - behind ns lo) (by omega) (behind ns lo) (p + (behind ns lo - lo)) rfl (by omega) (by omega) b2 b3 (by omega)
          show layF (.cons (mark ns lo) (markedF ns f (kidsOf ns lo)) (mtrees (fun k => markedF ns f (kidsOf ns k)) ns (kidsFrom ns m (behind ns lo)))) p pos = _
          rw [layF, show p + 1 + (markedF ns f (kidsOf ns lo)).size = p + (behind ns lo - lo) by omega, hR]
          rw [show ({ mark ns lo with up := (pos : Int) } :: layF (markedF ns f (kidsOf ns lo)) (p + 1) p) = layT (mark ns lo) (markedF ns f (kidsOf ns lo)) p pos from rfl, hT]
          rw [← seg_append (lo := lo) (mid := behind ns lo) (hi := behind ns m) (by omega) b2 a2]
          congr 1
          refine seg_congr (by omega) fun x h5 h6 => ?_
          by_cases hx : x = lo
          · subst hx
            rw [if_pos (by omega), if_pos (by omega), hu]
            omega
          · have h7 := (behind_spec (ns := ns) (n := lo) (by omega)).2.2.1 x (by omega) h6
            rw [if_neg (by omega), if_neg (by omega)]
            omega
        · have : lo = behind ns m := by omega
          subst this
          rw [from_nil]
          · unfold seg; simp [mtrees, layF]
          · intro i h5 h6
            have := behind_out hg hm i h5 h6
            omega
    have core : layF (insIf ex ek ((m : Int) == (up : Int)) at_ (withF up at_ ex ek (markedF ns (f + 1) (kidsOf ns m)))) (pos + 1) pos =
        seg ns (m + 1) P (fun u => u - m + pos) ++ layT ex ek (pos + (P - m)) ((pos : Int) + (up - m)) ++ seg ns P (behind ns m) (fun u => if u < P then u - m + pos else u + S - m + pos) := by
      by_cases hmu2 : m = up
      · subst hmu2
        rw [show ((m : Int) == (m : Int)) = true by simp, with_far hg (up := m) at_ ex ek (f + 1) (kidsOf ns m) (fun k hk => by
          obtain ⟨k1, k2, _, _⟩ := kid_in hg hm hk
          exact ⟨k1, Or.inl k2⟩)]
        have hlen : (markedF ns (f + 1) (kidsOf ns m)).len = (kidsOf ns m).length := mtrees_len _ _ _
        rw [insIf_at _ _ _ _ (by rw [hlen]; exact hat)]
        show layF (insAt ex ek (mtrees (fun k => markedF ns f (kidsOf ns k)) ns (kidsOf ns m)) at_) (pos + 1) pos = _
        have step : ∀ (a lo : Nat), m < lo → lo ≤ behind ns m → (lo < behind ns m → upOf ns lo = m) → ((kidsFrom ns m lo)[a]? = some P ∨ (a = (kidsFrom ns m lo).length ∧ P = behind ns m)) →
            lo ≤ P ∧ layF (insAt ex ek (mtrees (fun k => markedF ns f (kidsOf ns k)) ns (kidsFrom ns m lo)) a) (pos + (lo - m)) pos =
              seg ns lo P (fun u => u - m + pos) ++ layT ex ek (pos + (P - m)) pos ++ seg ns P (behind ns m) (fun u => if u < P then u - m + pos else u + S - m + pos) := by
          intro a
          induction a with
          | zero =>
            intro lo h1 h2 h3 h4
            have hPl : P = lo := by
              rcases Nat.lt_or_ge lo (behind ns m) with h5 | h5
              · obtain ⟨b1, b2, b3, b4⟩ := next_kid hg hm h1 h5 (h3 h5)
                rw [from_cons b1 (by omega) (h3 h5) b4] at h4
                simp at h4
                omega
              · have hn : kidsFrom ns m lo = [] := from_nil fun i h6 h7 => by
                  have := behind_out hg hm i (by omega) h7
                  omega
                rw [hn] at h4
                simp at h4
                omega
            subst hPl
            refine ⟨Nat.le_refl _, ?_⟩
            have e0 : insAt ex ek (mtrees (fun k => markedF ns f (kidsOf ns k)) ns (kidsFrom ns m P)) 0 = .cons ex ek (mtrees (fun k => markedF ns f (kidsOf ns k)) ns (kidsFrom ns m P)) := by
              unfold insAt
              rfl
            rw [e0, layF, after _ P (pos + (P - m) + 1 + ek.size) rfl h1 (Nat.le_refl _) h2 h3 (by omega)]
            have : seg ns P P (fun u => u - m + (pos : Int)) = [] := by unfold seg; simp
            rw [this]; rfl
          | succ a iha =>
            intro lo h1 h2 h3 h4
            rcases Nat.lt_or_ge lo (behind ns m) with h5 | h5
            · have hu := h3 h5
              obtain ⟨b1, b2, b3, b4⟩ := next_kid hg hm h1 h5 hu
              rw [from_cons b1 (by omega) hu b4] at h4 ⊢
              simp only [List.getElem?_cons_succ, List.length_cons, Nat.add_right_cancel_iff] at h4
              obtain ⟨hle, hR⟩ := iha (behind ns lo) (by omega) b2 b3 h4
              refine ⟨by omega, ?_⟩
              have hT := mark_tree hg f lo (pos + (lo - m)) pos (by omega) (by omega)
              have hsz : (markedF ns f (kidsOf ns lo)).size + 1 = behind ns lo - lo := by
                have := congrArg List.length hT
                rwa [layT_len, seg_len (by omega)] at this
              show layF (.cons (mark ns lo) (markedF ns f (kidsOf ns lo)) (insAt ex ek (mtrees (fun k => markedF ns f (kidsOf ns k)) ns (kidsFrom ns m (behind ns lo))) a)) (pos + (lo - m)) pos = _
              rw [layF, show pos + (lo - m) + 1 + (markedF ns f (kidsOf ns lo)).size = pos + (behind ns lo - m) by omega, hR]
              rw [show ({ mark ns lo with up := (pos : Int) } :: layF (markedF ns f (kidsOf ns lo)) (pos + (lo - m) + 1) (pos + (lo - m) : Nat)) = layT (mark ns lo) (markedF ns f (kidsOf ns lo)) (pos + (lo - m)) pos from rfl, hT]
              rw [← seg_append (lo := lo) (mid := behind ns lo) (hi := P) (by omega) hle (by omega), List.append_assoc, List.append_assoc, List.append_assoc]
              congr 1
              refine seg_congr (by omega) fun x h5 h6 => ?_
              by_cases hx : x = lo
              · subst hx
                rw [if_pos (by omega), hu]
                omega
              · have h7 := (behind_spec (ns := ns) (n := lo) (by omega)).2.2.1 x (by omega) h6
                rw [if_neg (by omega)]
                omega
            · have hn : kidsFrom ns m lo = [] := from_nil fun i h6 h7 => by
                have := behind_out hg hm i (by omega) h7
                omega
              rw [hn] at h4
              simp at h4
        have := (step at_ (m + 1) (by omega) a1 (hnext _ rfl) (by rw [← hk]; exact hP)).2
        rw [hk, show pos + 1 = pos + (m + 1 - m) by omega, this, show ((pos : Int) + ((m : Int) - m)) = pos by omega]
      · have hmu3 : m < up := by omega
        have hne : ((m : Int) == (up : Int)) = false := by simp; omega
        rw [hne, insIf_no]
        have ahead : ∀ (d lo : Nat), up - lo = d → m < lo → lo ≤ up → upOf ns lo = m →
            layF (withF up at_ ex ek (mtrees (fun k => markedF ns f (kidsOf ns k)) ns (kidsFrom ns m lo))) (pos + (lo - m)) pos =
              seg ns lo P (fun u => u - m + pos) ++ layT ex ek (pos + (P - m)) ((pos : Int) + (up - m)) ++ seg ns P (behind ns m) (fun u => if u < P then u - m + pos else u + S - m + pos) := by
          intro d
          induction d using Nat.strongRecOn with
          | ind d ihd =>
            intro lo hd h1 h2 hu
            obtain ⟨b1, b2, b3, b4⟩ := next_kid hg hm h1 (by omega) hu
            rw [from_cons b1 (by omega) hu b4]
            show layF (withF up at_ ex ek (.cons (mark ns lo) (markedF ns f (kidsOf ns lo)) (mtrees (fun k => markedF ns f (kidsOf ns k)) ns (kidsFrom ns m (behind ns lo))))) (pos + (lo - m)) pos = _
            rw [withF, show ((mark ns lo).up == (up : Int)) = ((lo : Int) == (up : Int)) from rfl, layF]
            rw [show ({ mark ns lo with up := (pos : Int) } :: layF (insIf ex ek ((lo : Int) == (up : Int)) at_ (withF up at_ ex ek (markedF ns f (kidsOf ns lo)))) (pos + (lo - m) + 1) (pos + (lo - m) : Nat)) = layT (mark ns lo) (insIf ex ek ((lo : Int) == (up : Int)) at_ (withF up at_ ex ek (markedF ns f (kidsOf ns lo)))) (pos + (lo - m)) pos from rfl]
            rcases Nat.lt_or_ge up (behind ns lo) with h4 | h4
            · have hT := ih lo (pos + (lo - m)) pos h2 h4 (by omega)
              have hbl := behind_in h2 hup h4
              have hfar : withF up at_ ex ek (mtrees (fun k => markedF ns f (kidsOf ns k)) ns (kidsFrom ns m (behind ns lo))) = mtrees (fun k => markedF ns f (kidsOf ns k)) ns (kidsFrom ns m (behind ns lo)) :=
                with_far hg (up := up) at_ ex ek (f + 1) (kidsFrom ns m (behind ns lo)) (fun k hk => by
                  have := from_mem hk
                  exact ⟨this.2, Or.inl (by omega)⟩)
              have hsz : (insIf ex ek ((lo : Int) == (up : Int)) at_ (withF up at_ ex ek (markedF ns f (kidsOf ns lo)))).size + 1 = behind ns lo - lo + S := by
                have := congrArg List.length hT
                rw [layT_len, List.length_append, List.length_append, seg_len (by omega), seg_len (by omega), layT_len] at this
                omega
              rw [hT, hfar, after _ (behind ns lo) (pos + (lo - m) + 1 + (insIf ex ek ((lo : Int) == (up : Int)) at_ (withF up at_ ex ek (markedF ns f (kidsOf ns lo)))).size) rfl (by omega) (by omega) b2 b3 (by omega)]
              rw [← seg_append (lo := P) (mid := behind ns lo) (hi := behind ns m) (by omega) b2 a2, ← List.append_assoc]
              congr 1
              congr 1
              · congr 1
                · refine seg_congr (by omega) fun x h5 h6 => ?_
                  by_cases hx : x = lo
                  · subst hx
                    rw [if_pos (by omega), hu]
                    omega
                  · have h7 := (behind_spec (ns := ns) (n := lo) (by omega)).2.2.1 x (by omega) (by omega)
                    rw [if_neg (by omega)]
                    omega
                · rw [show pos + (lo - m) + (P - lo) = pos + (P - m) by omega]
                  congr 1
                  omega
              · refine seg_congr (by omega) fun x h5 h6 => ?_
                by_cases hx : upOf ns x < P
                · rw [if_pos hx, if_pos hx]; omega
                · rw [if_neg hx, if_neg hx]; omega
            · have hin : insIf ex ek ((lo : Int) == (up : Int)) at_ (withF up at_ ex ek (markedF ns f (kidsOf ns lo))) = markedF ns f (kidsOf ns lo) := by
                have hne2 : ((lo : Int) == (up : Int)) = false := by simp; omega
                rw [hne2, insIf_no]
                exact with_far hg (up := up) at_ ex ek f (kidsOf ns lo) (fun k hk => by
                  obtain ⟨k1, k2, k3, k4⟩ := kid_in hg (by omega) hk
                  exact ⟨k1, Or.inr (by omega)⟩)
              rw [hin]
              have hT := mark_tree hg f lo (pos + (lo - m)) pos (by omega) (by omega)
              have hsz : (markedF ns f (kidsOf ns lo)).size + 1 = behind ns lo - lo := by
                have := congrArg List.length hT
                rwa [layT_len, seg_len (by omega)] at this
              have hR := ihd (up - behind ns lo) (by omega) (behind ns lo) rfl (by omega) h4 (b3 (by omega))
              rw [hT, show pos + (lo - m) + 1 + (markedF ns f (kidsOf ns lo)).size = pos + (behind ns lo - m) by omega, hR]
              rw [← seg_append (lo := lo) (mid := behind ns lo) (hi := P) (by omega) (by omega) (by omega), List.append_assoc, List.append_assoc, List.append_assoc]
              congr 1
              refine seg_congr (by omega) fun x h5 h6 => ?_
              by_cases hx : x = lo
              · subst hx
                rw [if_pos (by omega), hu]
                omega
              · have h7 := (behind_spec (ns := ns) (n := lo) (by omega)).2.2.1 x (by omega) h6
                rw [if_neg (by omega)]
                omega
        have := ahead _ (m + 1) rfl (by omega) (by omega) (hnext _ rfl (by omega))
        show layF (withF up at_ ex ek (mtrees (fun k => markedF ns f (kidsOf ns k)) ns (kidsOf ns m))) (pos + 1) pos = _
        rw [hk, show pos + 1 = pos + (m + 1 - m) by omega, this]
    rw [seg_cons (lo := m) (hi := P) (by omega) (by omega)]
    unfold layT
    rw [core, List.cons_append, List.cons_append]
    congr 1
    · rw [if_pos (low_of hg m hm).2]
      rfl
    · congr 1
      congr 1
      refine seg_congr (by omega) fun x h5 h6 => ?_
      have := a3 x (by omega) (by omega)
      rw [if_neg (by omega)]
end
end Go.Proofs.YtbpgcfabepioiaaGreat.Pl
namespace Go.Proofs.YtbpgcfabepioiaaGreat

theorem whole_lay {es : List Pl.Nd} (hg : Pl.GoodTo es es.length) (h1 : 1 ≤ es.length) (h64 : es.length ≤ 64) {ek : Pl.F} (he : ek.bare = (Pl.forestOf es es.length (Pl.kidsOf es (0 : Nat))).bare) (p : Nat) (hp : p ≤ 64) (up : Int) (u : Int) :
    Pl.layT { Pl.ndAt es 0 with up := u } ek p up = es.map (Pl.mvd (Pl.mvIn up p)) := by
  have hb : Pl.behind es 0 = es.length := Pl.behind_eq (by omega) (by omega) (Nat.le_refl _) (fun m h1 h2 => by have := (hg m h2).2 h1; omega) (fun h => by omega)
  have h2 := Pl.lay_tree hg es.length 0 p up (by omega) (by omega)
  have h3 : Pl.layT { Pl.ndAt es 0 with up := u } ek p up = Pl.layT (Pl.ndAt es 0) (Pl.forestOf es es.length (Pl.kidsOf es (0 : Nat))) p up := by
    unfold Pl.layT
    rw [← Pl.lay_bare ek, he, Pl.lay_bare]
  rw [h3, h2, hb]
  have h4 : es.map (Pl.mvd (Pl.mvIn up p)) = Pl.seg es 0 es.length (Pl.mvIn up p) := by
    unfold Pl.seg
    rw [List.drop_zero, List.take_of_length_le (by omega)]
  rw [h4]
  refine Pl.seg_congr (Nat.le_refl _) fun m _ h6 => ?_
  unfold Pl.mvIn
  rcases Nat.eq_zero_or_pos m with h | h
  · rw [(hg m h6).1 h]; rfl
  · have := (hg m h6).2 h
    rw [if_neg (by omega), if_neg (by omega), Pl.wr_in (by omega) (by omega)]
    omega
theorem place_is {ns : List Pl.Nd} {k a : Nat} (ha : a ≤ (Pl.kidsOf ns k).length) : (Pl.kidsOf ns k)[a]? = some (placeOf ns k a) ∨ (a = (Pl.kidsOf ns k).length ∧ placeOf ns k a = Pl.behind ns k) := by
  unfold placeOf
  by_cases h : a < (Pl.kidsOf ns k).length
  · refine Or.inl ?_
    rw [if_pos (by omega), show ((a : Int)).toNat = a by omega, List.getD_eq_getElem?_getD, List.getElem?_eq_getElem h]
    rfl
  · refine Or.inr ⟨by omega, ?_⟩
    rw [if_neg (by omega), show ((k : Int)).toNat = k by omega]
theorem ins_root {ns es : List Pl.Nd} (hg : Pl.GoodTo ns ns.length) (he : Pl.GoodTo es es.length) (h1 : 1 ≤ es.length) {k a : Nat} (hk : k < ns.length) (ha : a ≤ (Pl.kidsOf ns k).length) (h64 : ns.length + es.length ≤ 64) {ek : Pl.F} (hek : ek.bare = (Pl.forestOf es es.length (Pl.kidsOf es (0 : Nat))).bare) (u : Int) :
    Pl.layT (Pl.mark ns 0) (Pl.insIf { Pl.ndAt es 0 with up := u } ek ((Pl.mark ns 0).up == (k : Int)) a (Pl.withF k a { Pl.ndAt es 0 with up := u } ek (Pl.markedF ns ns.length (Pl.kidsOf ns (0 : Nat))))) 0 (-1) = insRow ns k (placeOf ns k a) es := by
  have hb : Pl.behind ns 0 = ns.length := Pl.behind_eq (by omega) (by omega) (Nat.le_refl _) (fun m h1 h2 => by have := (hg m h2).2 h1; omega) (fun h => by omega)
  have hP := place_is ha
  have hpb : k < placeOf ns k a ∧ placeOf ns k a ≤ Pl.behind ns k ∧ Pl.behind ns k ≤ ns.length := by
    obtain ⟨e1, e2, _, _⟩ := Pl.behind_spec hk
    rcases hP with h | ⟨_, h⟩
    · have hm := List.mem_of_getElem? h
      obtain ⟨_, k2, k3, _⟩ := Pl.kid_in hg hk hm
      omega
    · omega
  have hsz : es.length = ek.size + 1 := by
    have := congrArg List.length (whole_lay he h1 (by omega) hek 0 (by omega) 0 0)
    rw [Pl.layT_len, List.length_map] at this
    omega
  have h2 := Pl.ins_tree hg (ex := { Pl.ndAt es 0 with up := u }) (ek := ek) (P := placeOf ns k a) (S := es.length) (at_ := a) hk hsz ha hP ns.length 0 0 (-1) (by omega) (by omega) (by omega)
  have e0 : ((Pl.mark ns 0).up == (k : Int)) = (((0 : Nat) : Int) == (k : Int)) := rfl
  rw [e0, h2, hb]
  unfold insRow
  have ht : (ns.take (placeOf ns k a)).map (Pl.mvd id) = Pl.seg ns 0 (placeOf ns k a) id := by unfold Pl.seg; simp
  have hd : (ns.drop (placeOf ns k a)).map (Pl.mvd (Pl.mvOut (placeOf ns k a) es.length)) = Pl.seg ns (placeOf ns k a) ns.length (Pl.mvOut (placeOf ns k a) es.length) := by
    unfold Pl.seg
    rw [List.take_of_length_le (by simp)]
  rw [ht, hd]
  have hw := whole_lay he h1 (by omega) hek (placeOf ns k a) (by omega) k u
  rw [show 0 + (placeOf ns k a - 0) = placeOf ns k a by omega, show (((0 : Nat) : Int) + ((k : Int) - ((0 : Nat) : Int))) = (k : Int) by omega, hw]
  congr 1
  · congr 1
    refine Pl.seg_congr (by omega) fun x h3 h4 => ?_
    rcases Nat.eq_zero_or_pos x with h | h
    · rw [(hg x (by omega)).1 h]; rfl
    · have := (hg x (by omega)).2 h
      rw [if_neg (by omega)]
      simp
  · refine Pl.seg_congr (Nat.le_refl _) fun x h3 h4 => ?_
    have hx := (hg x h4).2 (by omega)
    unfold Pl.mvOut
    by_cases hu : Pl.upOf ns x < placeOf ns k a
    · rw [if_pos hu, if_pos hu]; omega
    · rw [if_neg hu, if_neg hu, Pl.wr_in (by omega) (by omega)]
      omega
end Go.Proofs.YtbpgcfabepioiaaGreat
