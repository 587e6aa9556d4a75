/-
  What was taken out and laid in again leaves all as it was: in plain lists.
-/
import Derived.Test.YtephhllfodlfbaaGreatDoorTrek
import Derived.Test.YtephhllfodlfbaaGreatDoorMbD
namespace Go.Proofs.YtephhllfodlfbaaGreatDoor
open Pl

/-- the rest, and the part, of element N whose own end at e -/
def restRow (ns : List Pl.Nd) (N e : Nat) : List Pl.Nd := ns.take N ++ (ns.drop e).map (mvd (mvRem N ((e : Int) - N)))
def partRow (ns : List Pl.Nd) (N e : Nat) : List Pl.Nd := ((ns.drop N).take (e - N)).map (mvd (mvPart N))
section
variable {ns : List Pl.Nd} {N e : Nat}
theorem rest_len (h1 : N ≤ e) (h2 : e ≤ ns.length) : (restRow ns N e).length = ns.length - (e - N) := by unfold restRow; simp; omega
theorem part_len (h1 : N ≤ e) (h2 : e ≤ ns.length) : (partRow ns N e).length = e - N := by unfold partRow; simp; omega
theorem rest_up1 (h1 : N ≤ e) (h2 : e ≤ ns.length) {i : Nat} (h : i < N) : upOf (restRow ns N e) i = upOf ns i := by
  unfold restRow
  rw [upOf_left (by simp; omega), upOf_take h]
theorem rest_up2 (h1 : N ≤ e) (h2 : e ≤ ns.length) {i : Nat} (h : e ≤ i) (h3 : i < ns.length) : upOf (restRow ns N e) (i - (e - N)) = mvRem N ((e : Int) - N) (upOf ns i) := by
  unfold restRow
  have hl : (ns.take N).length = N := by simp; omega
  rw [upOf_right (by omega), hl, upOf_map (by simp; omega), upOf_drop]
  congr 2
  omega
theorem part_up (h2 : e ≤ ns.length) {i : Nat} (h : N ≤ i) (h3 : i < e) : upOf (partRow ns N e) (i - N) = mvPart N (upOf ns i) := by
  unfold partRow
  rw [upOf_map (by simp; omega), upOf_take (by omega), upOf_drop]
  congr 2
  omega
theorem mvRem_lt (d u : Int) (h : u < N) : mvRem N d u = u := by unfold mvRem; rw [if_pos h]
theorem mvRem_ge (d u : Int) (h : (N : Int) ≤ u) (h2 : u < 1000) (h3 : 0 ≤ d) (h4 : d ≤ 1000) : mvRem N d u = u - d := by unfold mvRem; rw [if_neg (by omega), wr_in (by omega) (by omega)]
theorem mvPart_lt (u : Int) (h : u < N) : mvPart N u = -1 := by unfold mvPart; rw [if_pos h]
theorem mvPart_ge (u : Int) (h : (N : Int) ≤ u) (h2 : u < 1000) : mvPart N u = u - N := by unfold mvPart; rw [if_neg (by omega), wr_in (by omega) (by omega)]

theorem part_good (hg : GoodTo ns ns.length) (h64 : ns.length ≤ 64) (hN : N < ns.length) (he : e = behind ns N) : GoodTo (partRow ns N e) (partRow ns N e).length := by
  obtain ⟨b1, b2, b3, b4⟩ := behind_spec hN
  rw [← he] at b1 b2 b3 b4
  rw [part_len (by omega) b2]
  have hU : ∀ i : Nat, 0 < i → i < e - N → (N : Int) ≤ upOf ns (N + i) ∧ upOf ns (N + i) < N + i ∧ upOf (partRow ns N e) i = upOf ns (N + i) - N := by
    intro i h1 h2
    have h3 := part_up (ns := ns) (N := N) b2 (i := N + i) (by omega) (by omega)
    rw [show N + i - N = i by omega] at h3
    have h4 := b3 (N + i) (by omega) (by omega)
    have hl := up_low hg (i := N + i) (by omega)
    exact ⟨h4, by omega, by rw [h3, mvPart_ge _ h4 (by omega)]⟩
  intro n hn
  refine ⟨fun h0 => ?_, fun h0 => ?_⟩
  · have h3 := part_up (ns := ns) (N := N) b2 (i := N) (Nat.le_refl _) (by omega)
    rw [Nat.sub_self] at h3
    rw [h0, h3, mvPart_lt _ (up_low hg hN).2.1]
  · obtain ⟨q1, q2, q3⟩ := hU n h0 hn
    rw [q3]
    refine ⟨by omega, by omega, fun m h1 h2 => ?_⟩
    obtain ⟨s1, s2, s3⟩ := hU m (by omega) (by omega)
    rw [s3]
    have := ((hg (N + n) (by omega)).2 (by omega)).2.2 (N + m) (by omega) (by omega)
    omega
theorem rest_out (hg : GoodTo ns ns.length) (h64 : ns.length ≤ 64) (hN : N < ns.length) (he : e = behind ns N) (i : Nat) (hi : e ≤ i) (hi2 : i < ns.length) :
    (upOf ns i < N → upOf (restRow ns N e) (i - (e - N)) = upOf ns i) ∧ ((N : Int) ≤ upOf ns i → (e : Int) ≤ upOf ns i ∧ upOf (restRow ns N e) (i - (e - N)) = upOf ns i - ((e : Int) - N)) := by
  obtain ⟨b1, b2, b3, b4⟩ := behind_spec hN
  rw [← he] at b1 b2 b3 b4
  have h3 := rest_up2 (ns := ns) (N := N) (by omega) b2 hi hi2
  have ho := behind_out hg hN i (by omega) hi2
  rw [← he] at ho
  have hl := up_low hg hi2
  refine ⟨fun h => by rw [h3, mvRem_lt _ _ h], fun h => ⟨by omega, by rw [h3, mvRem_ge _ _ h (by omega) (by omega) (by omega)]⟩⟩
theorem rest_good (hg : GoodTo ns ns.length) (h64 : ns.length ≤ 64) (hN : N < ns.length) (hN1 : 1 ≤ N) (he : e = behind ns N) : GoodTo (restRow ns N e) (restRow ns N e).length := by
  obtain ⟨b1, b2, b3, b4⟩ := behind_spec hN
  rw [← he] at b1 b2 b3 b4
  rw [rest_len (by omega) b2]
  have hI : ∀ i : Nat, i < N → upOf (restRow ns N e) i = upOf ns i := fun i h => rest_up1 (by omega) b2 h
  intro n hn
  by_cases c1 : n < N
  · rw [hI n c1]
    obtain ⟨a, b⟩ := hg n (by omega)
    refine ⟨a, fun h0 => ?_⟩
    obtain ⟨q1, q2, q3⟩ := b h0
    exact ⟨q1, q2, fun m h1 h2 => by rw [hI m (by omega)]; exact q3 m h1 h2⟩
  refine ⟨fun h0 => by omega, fun _ => ?_⟩
  obtain ⟨i, hi1, hi2, rfl⟩ : ∃ i, e ≤ i ∧ i < ns.length ∧ n = i - (e - N) := ⟨n + (e - N), by omega, by omega, by omega⟩
  obtain ⟨o1, o2⟩ := rest_out hg h64 hN he i hi1 hi2
  have hgi := (hg i hi2).2 (by omega)
  by_cases hu : upOf ns i < N
  · rw [o1 hu]
    refine ⟨hgi.1, by omega, fun m h1 h2 => ?_⟩
    by_cases m1 : m < N
    · rw [hI m m1]; exact hgi.2.2 m h1 (by omega)
    · obtain ⟨j, hj1, hj2, rfl⟩ : ∃ j, e ≤ j ∧ j < i ∧ m = j - (e - N) := ⟨m + (e - N), by omega, by omega, by omega⟩
      obtain ⟨s1, s2⟩ := rest_out hg h64 hN he j hj1 (by omega)
      have := hgi.2.2 j (by omega) (by omega)
      by_cases hv : upOf ns j < N
      · rw [s1 hv]; exact this
      · have := s2 (by omega)
        omega
  · obtain ⟨u1, u2⟩ := o2 (by omega)
    rw [u2]
    refine ⟨by omega, by omega, fun m h1 h2 => ?_⟩
    obtain ⟨j, hj1, hj2, rfl⟩ : ∃ j, e ≤ j ∧ j < i ∧ m = j - (e - N) := ⟨m + (e - N), by omega, by omega, by omega⟩
    obtain ⟨s1, s2⟩ := rest_out hg h64 hN he j hj1 (by omega)
    have := hgi.2.2 j (by omega) (by omega)
    have := s2 (by omega)
    omega
/-- laid in again at N -/
theorem rest_ins (hg : GoodTo ns ns.length) (h64 : ns.length ≤ 64) (hN : N < ns.length) (hN1 : 1 ≤ N) (he : e = behind ns N) (u : Nat) (hu : upOf ns N = u) : insRow (restRow ns N e) u N (partRow ns N e) = ns := by
  obtain ⟨b1, b2, b3, b4⟩ := behind_spec hN
  rw [← he] at b1 b2 b3 b4
  unfold insRow
  have hl : (ns.take N).length = N := by simp; omega
  have h1 : (restRow ns N e).take N = ns.take N := by
    unfold restRow
    rw [List.take_append_of_le_length (by omega), List.take_of_length_le (by omega)]
  have h2 : (restRow ns N e).drop N = (ns.drop e).map (mvd (mvRem N ((e : Int) - N))) := by
    unfold restRow
    rw [List.drop_append_of_le_length (by omega), List.drop_of_length_le (by omega), List.nil_append]
  have h3 : (partRow ns N e).map (mvd (mvIn u N)) = (ns.drop N).take (e - N) := by
    unfold partRow
    refine mvd_back fun i hi => ?_
    have hi' : i < e - N := by simp at hi; omega
    rw [upOf_take hi', upOf_drop]
    rcases Nat.eq_zero_or_pos i with h0 | h0
    · subst h0
      rw [Nat.add_zero, mvPart_lt _ (up_low hg hN).2.1, mvIn_neg _ (by omega), hu]
    · have h4 := b3 (N + i) (by omega) (by omega)
      have hlw := up_low hg (i := N + i) (by omega)
      rw [mvPart_ge _ h4 (by omega), mvIn_pos _ (by omega) (by omega) (by omega)]
      omega
  have h4 : ((ns.drop e).map (mvd (mvRem N ((e : Int) - N)))).map (mvd (mvOut N (partRow ns N e).length)) = ns.drop e := by
    refine mvd_back fun i hi => ?_
    have hi' : e + i < ns.length := by simp at hi; omega
    rw [upOf_drop, part_len (by omega) b2]
    have ho := behind_out hg hN (e + i) (by omega) hi'
    rw [← he] at ho
    have hlw := up_low hg hi'
    by_cases hv : upOf ns (e + i) < N
    · rw [mvRem_lt _ _ hv, mvOut_lt _ _ hv]
    · rw [mvRem_ge _ _ (by omega) (by omega) (by omega) (by omega), mvOut_ge _ _ (by omega) (by omega) (by omega)]
      omega
  rw [h1, h2, h3, h4, map_mvd_id]
  have h5 : ns.drop e = (ns.drop N).drop (e - N) := by rw [List.drop_drop]; congr 1; omega
  rw [h5, List.append_assoc, List.take_append_drop, List.take_append_drop]
end
/-- what was taken out and laid in again leaves all as it was -/
theorem rem_back {ns : List Pl.Nd} {n : Int} (h : checkAtOf ns n = 0) (h2 : remErr ns n = 0) : ∃ N u : Nat, n = N ∧ N < ns.length ∧ upOf ns N = u ∧ checkAtOf ns u = 0 ∧ (kidsOf ns u)[(kidsTo ns u N).length]? = some N ∧ ns.length ≤ 64 ∧
    insErr (remOf ns n) u ((kidsTo ns u N).length : Int) (partOf ns n) = 0 ∧ insOf (remOf ns n) u ((kidsTo ns u N).length : Int) (partOf ns n) = ns := by
  obtain ⟨c1, N, rfl, hN⟩ := checkAt_zero h
  obtain ⟨l1, l2, r1, g1⟩ := (check_iff ns).1 c1
  have hN1 : 1 ≤ N := by
    unfold remErr at h2
    rw [if_pos h] at h2
    split at h2
    · omega
    · omega
  have hgN := (g1 N hN).2 (by omega)
  obtain ⟨u, hu⟩ : ∃ u : Nat, upOf ns N = u := ⟨(upOf ns N).toNat, by omega⟩
  obtain ⟨b1, b2, b3, b4⟩ := behind_spec hN
  have hY : remOf ns N = restRow ns N (behind ns N) := by unfold remOf restRow; rw [if_pos h2, show ((N : Int)).toNat = N by omega, map_mvd_id]
  have hP : partOf ns N = partRow ns N (behind ns N) := by unfold partOf partRow; rw [if_pos h, show ((N : Int)).toNat = N by omega]
  rw [hY, hP]
  have gY := rest_good g1 l2 hN hN1 rfl
  have gP := part_good g1 l2 hN rfl
  have lY := rest_len (ns := ns) (N := N) (by omega) b2
  have lP := part_len (ns := ns) (N := N) (by omega) b2
  have rY : Rights (restRow ns N (behind ns N)) := rights_append (rights_take r1) (rights_mvd (rights_drop r1))
  have rP : Rights (partRow ns N (behind ns N)) := rights_mvd (rights_take (rights_drop r1))
  have cY : checkDoc (restRow ns N (behind ns N)) = 0 := (check_iff _).2 ⟨by omega, by omega, rY, gY⟩
  have cP : checkDoc (partRow ns N (behind ns N)) = 0 := (check_iff _).2 ⟨by omega, by omega, rP, gP⟩
  have hins := rest_ins g1 l2 hN hN1 rfl u hu
  have hcg : kidsTo (restRow ns N (behind ns N)) u N = kidsTo ns u N := kidsTo_congr u N (fun i hi => rest_up1 (by omega) b2 hi)
  have hout := rest_out g1 l2 hN rfl
  obtain ⟨r, hr1, hr2⟩ := kidsTo_split (restRow ns N (behind ns N)) u N (restRow ns N (behind ns N)).length (by omega)
  have hle : (kidsTo ns u N).length ≤ (kidsOf (restRow ns N (behind ns N)) u).length := by
    unfold kidsOf
    rw [hr1, hcg, List.length_append]
    omega
  have hpl : placeOf (restRow ns N (behind ns N)) u ((kidsTo ns u N).length : Int) = N := by
    unfold placeOf
    by_cases hc : N < (restRow ns N (behind ns N)).length ∧ upOf (restRow ns N (behind ns N)) N = u
    · have hk := kid_at hc.1 hc.2
      rw [hcg] at hk
      obtain ⟨hk1, hk2⟩ := List.getElem?_eq_some_iff.1 hk
      rw [if_pos (by omega), show (((kidsTo ns u N).length : Int)).toNat = (kidsTo ns u N).length by omega, List.getD, hk]
      rfl
    · have hEN : behind ns N < ns.length → upOf ns (behind ns N) ≤ u ∧ upOf (restRow ns N (behind ns N)) N = upOf ns (behind ns N) := by
        intro hlt
        have h5 := b4 hlt
        have h6 := ((g1 _ hlt).2 (by omega)).2.2 N (by omega) (by omega)
        have h7 := (hout (behind ns N) (Nat.le_refl _) hlt).1 h5
        rw [show behind ns N - (behind ns N - N) = N by omega] at h7
        exact ⟨by omega, h7⟩
      have hrn : r = [] := by
        rcases r with _ | ⟨s, r⟩
        · rfl
        · have hs : s ∈ kidsOf (restRow ns N (behind ns N)) u := by unfold kidsOf; rw [hr1]; simp
          obtain ⟨m1, m2⟩ := kids_mem hs
          have hsN := hr2 s (by simp)
          exfalso
          apply hc
          refine ⟨by omega, ?_⟩
          by_cases hse : s = N
          · rw [hse] at m2; exact m2
          · have hlt : behind ns N < ns.length := by omega
            obtain ⟨h8, h9⟩ := hEN hlt
            obtain ⟨o1, o2⟩ := hout (s + (behind ns N - N)) (by omega) (by omega)
            rw [show s + (behind ns N - N) - (behind ns N - N) = s by omega] at o1 o2
            have hus : upOf ns (s + (behind ns N - N)) = u := by
              by_cases hv : upOf ns (s + (behind ns N - N)) < N
              · rw [← o1 hv]; exact m2
              · have := o2 (by omega); omega
            have := ((g1 (s + (behind ns N - N)) (by omega)).2 (by omega)).2.2 (behind ns N) (by omega) (by omega)
            rw [h9]
            omega
      have hlen : (kidsOf (restRow ns N (behind ns N)) u).length = (kidsTo ns u N).length := by
        unfold kidsOf
        rw [hr1, hrn, List.append_nil, hcg]
      rw [if_neg (by omega), show ((u : Int)).toNat = u by omega]
      refine behind_eq (by omega) (by omega) (by omega) (fun m h5 h6 => ?_) (fun h5 => ?_)
      · rw [rest_up1 (by omega) b2 h6]
        have := hgN.2.2 m (by omega) h6
        omega
      · obtain ⟨h8, h9⟩ := hEN (by omega)
        have : ¬ upOf (restRow ns N (behind ns N)) N = u := fun h => hc ⟨h5, h⟩
        omega
  have hE : insErr (restRow ns N (behind ns N)) u ((kidsTo ns u N).length : Int) (partRow ns N (behind ns N)) = 0 := by
    unfold insErr hasB
    rw [if_pos cY, if_pos cP, if_pos (by simp; omega), if_neg (by omega), if_neg (by omega)]
  refine ⟨N, u, rfl, hN, hu, checkAt_of c1 (by omega), kid_at hN hu, l2, hE, ?_⟩
  unfold insOf
  rw [if_pos hE, hpl]
  exact hins
end Go.Proofs.YtephhllfodlfbaaGreatDoor
/-
  Put: an element in another's place.
-/
namespace Go.Proofs.YtephhllfodlfbaaGreatDoor
open Go.RowKit

theorem seven_on {W w' : World} {p0 p1 p2 p3 p4 p5 p6 : Addr} {v0 v1 v2 v3 v4 v5 v6 : Value} (h : W.cell? p0 = some v0 ∧ W.cell? p1 = some v1 ∧ W.cell? p2 = some v2 ∧ W.cell? p3 = some v3 ∧ W.cell? p4 = some v4 ∧ W.cell? p5 = some v5 ∧ W.cell? p6 = some v6) (hb : Below W.heap.size W w') : w'.cell? p0 = some v0 ∧ w'.cell? p1 = some v1 ∧ w'.cell? p2 = some v2 ∧ w'.cell? p3 = some v3 ∧ w'.cell? p4 = some v4 ∧ w'.cell? p5 = some v5 ∧ w'.cell? p6 = some v6 :=
  ⟨cell_on hb h.1, cell_on hb h.2.1, cell_on hb h.2.2.1, cell_on hb h.2.2.2.1, cell_on hb h.2.2.2.2.1, cell_on hb h.2.2.2.2.2.1, cell_on hb h.2.2.2.2.2.2⟩
/-- the world with an element written into a row -/
def wput (W : World) (g k : Nat) (u0 u1 u2 u3 u4 : Value) : World := ((((W.setCell ⟨g, k * 5, none⟩ u0).setCell ⟨g, k * 5 + 1, none⟩ u1).setCell ⟨g, k * 5 + 2, none⟩ u2).setCell ⟨g, k * 5 + 3, none⟩ u3).setCell ⟨g, k * 5 + 4, none⟩ u4
theorem wput_out {W : World} {g k : Nat} {u0 u1 u2 u3 u4 : Value} {p : Addr} {v : Value} (hne : p.block ≠ g ∨ p.off < k * 5 ∨ k * 5 + 5 ≤ p.off) (h : W.cell? p = some v) : (wput W g k u0 u1 u2 u3 u4).cell? p = some v := by
  have hn : ∀ i, i < 5 → (⟨g, k * 5 + i, none⟩ : Addr) ≠ p := by
    intro i hi e
    subst e
    simp at hne
    omega
  unfold wput
  rw [World.cell?_setCell_other _ _ _ _ (hn 4 (by omega)), World.cell?_setCell_other _ _ _ _ (hn 3 (by omega)), World.cell?_setCell_other _ _ _ _ (hn 2 (by omega)), World.cell?_setCell_other _ _ _ _ (hn 1 (by omega)), World.cell?_setCell_other _ _ _ _ (show (⟨g, k * 5, none⟩ : Addr) ≠ p from hn 0 (by omega))]
  exact h
theorem wput_in {W : World} {g k : Nat} {u0 u1 u2 u3 u4 c0 c1 c2 c3 c4 : Value} (h0 : W.cell? ⟨g, k * 5, none⟩ = some c0) (h1 : W.cell? ⟨g, k * 5 + 1, none⟩ = some c1) (h2 : W.cell? ⟨g, k * 5 + 2, none⟩ = some c2) (h3 : W.cell? ⟨g, k * 5 + 3, none⟩ = some c3) (h4 : W.cell? ⟨g, k * 5 + 4, none⟩ = some c4) :
    (wput W g k u0 u1 u2 u3 u4).cell? ⟨g, k * 5, none⟩ = some u0 ∧ (wput W g k u0 u1 u2 u3 u4).cell? ⟨g, k * 5 + 1, none⟩ = some u1 ∧ (wput W g k u0 u1 u2 u3 u4).cell? ⟨g, k * 5 + 2, none⟩ = some u2 ∧ (wput W g k u0 u1 u2 u3 u4).cell? ⟨g, k * 5 + 3, none⟩ = some u3 ∧ (wput W g k u0 u1 u2 u3 u4).cell? ⟨g, k * 5 + 4, none⟩ = some u4 := by
  have hn : ∀ i j, i < 5 → j < 5 → i ≠ j → (⟨g, k * 5 + i, none⟩ : Addr) ≠ ⟨g, k * 5 + j, none⟩ := by
    intro i j _ _ h e
    injection e with e1 e2
    omega
  have hn0 : ∀ j, 0 < j → j < 5 → (⟨g, k * 5 + j, none⟩ : Addr) ≠ ⟨g, k * 5, none⟩ := by
    intro j _ _ e
    injection e with e1 e2
    omega
  have hn1 : ∀ j, 0 < j → j < 5 → (⟨g, k * 5, none⟩ : Addr) ≠ ⟨g, k * 5 + j, none⟩ := by
    intro j _ _ e
    injection e with e1 e2
    omega
  unfold wput
  refine ⟨?_, ?_, ?_, ?_, ?_⟩
  · rw [World.cell?_setCell_other _ _ _ _ (hn0 4 (by omega) (by omega)), World.cell?_setCell_other _ _ _ _ (hn0 3 (by omega) (by omega)), World.cell?_setCell_other _ _ _ _ (hn0 2 (by omega) (by omega)), World.cell?_setCell_other _ _ _ _ (hn0 1 (by omega) (by omega))]
    exact World.cell?_setCell_same _ _ _ h0
  · rw [World.cell?_setCell_other _ _ _ _ (hn 4 1 (by omega) (by omega) (by omega)), World.cell?_setCell_other _ _ _ _ (hn 3 1 (by omega) (by omega) (by omega)), World.cell?_setCell_other _ _ _ _ (hn 2 1 (by omega) (by omega) (by omega))]
    refine World.cell?_setCell_same _ _ _ (u := c1) ?_
    rw [World.cell?_setCell_other _ _ _ _ (hn1 1 (by omega) (by omega))]; exact h1
  · rw [World.cell?_setCell_other _ _ _ _ (hn 4 2 (by omega) (by omega) (by omega)), World.cell?_setCell_other _ _ _ _ (hn 3 2 (by omega) (by omega) (by omega))]
    refine World.cell?_setCell_same _ _ _ (u := c2) ?_
    rw [World.cell?_setCell_other _ _ _ _ (hn 1 2 (by omega) (by omega) (by omega)), World.cell?_setCell_other _ _ _ _ (hn1 2 (by omega) (by omega))]; exact h2
  · rw [World.cell?_setCell_other _ _ _ _ (hn 4 3 (by omega) (by omega) (by omega))]
    refine World.cell?_setCell_same _ _ _ (u := c3) ?_
    rw [World.cell?_setCell_other _ _ _ _ (hn 2 3 (by omega) (by omega) (by omega)), World.cell?_setCell_other _ _ _ _ (hn 1 3 (by omega) (by omega) (by omega)), World.cell?_setCell_other _ _ _ _ (hn1 3 (by omega) (by omega))]; exact h3
  · refine World.cell?_setCell_same _ _ _ (u := c4) ?_
    rw [World.cell?_setCell_other _ _ _ _ (hn 3 4 (by omega) (by omega) (by omega)), World.cell?_setCell_other _ _ _ _ (hn 2 4 (by omega) (by omega) (by omega)), World.cell?_setCell_other _ _ _ _ (hn 1 4 (by omega) (by omega) (by omega)), World.cell?_setCell_other _ _ _ _ (hn1 4 (by omega) (by omega))]; exact h4
theorem seven_put {W : World} {g k : Nat} {u0 u1 u2 u3 u4 : Value} {p0 p1 p2 p3 p4 p5 p6 : Addr} {v0 v1 v2 v3 v4 v5 v6 : Value} (h : W.cell? p0 = some v0 ∧ W.cell? p1 = some v1 ∧ W.cell? p2 = some v2 ∧ W.cell? p3 = some v3 ∧ W.cell? p4 = some v4 ∧ W.cell? p5 = some v5 ∧ W.cell? p6 = some v6) (hg : p0.block ≠ g ∧ p1.block ≠ g ∧ p2.block ≠ g ∧ p3.block ≠ g ∧ p4.block ≠ g ∧ p5.block ≠ g ∧ p6.block ≠ g) : (wput W g k u0 u1 u2 u3 u4).cell? p0 = some v0 ∧ (wput W g k u0 u1 u2 u3 u4).cell? p1 = some v1 ∧ (wput W g k u0 u1 u2 u3 u4).cell? p2 = some v2 ∧ (wput W g k u0 u1 u2 u3 u4).cell? p3 = some v3 ∧ (wput W g k u0 u1 u2 u3 u4).cell? p4 = some v4 ∧ (wput W g k u0 u1 u2 u3 u4).cell? p5 = some v5 ∧ (wput W g k u0 u1 u2 u3 u4).cell? p6 = some v6 :=
  ⟨wput_out (Or.inl hg.1) h.1, wput_out (Or.inl hg.2.1) h.2.1, wput_out (Or.inl hg.2.2.1) h.2.2.1, wput_out (Or.inl hg.2.2.2.1) h.2.2.2.1, wput_out (Or.inl hg.2.2.2.2.1) h.2.2.2.2.1, wput_out (Or.inl hg.2.2.2.2.2.1) h.2.2.2.2.2.1, wput_out (Or.inl hg.2.2.2.2.2.2) h.2.2.2.2.2.2⟩
/-- the elements behind the writing -/
theorem Row.put {B : Nat} {w W : World} {g cap k M : Nat} {ns : List Pl.Nd} {x : Pl.Nd} {vc va u old : Value} (h : Row B w (.slice (some ⟨g, 0, none⟩) ns.length cap) ns) (hW : Below w.heap.size w W) (hk : k < ns.length) (hvc : StrsFrom w.heap.size W vc x.cls) (hva : AtsFrom w.heap.size W va x.ats)
    (hM : M ≠ g) (ho : W.cell? ⟨M, 0, none⟩ = some old) (hs : ∀ s, old ≠ .string s) :
    NdsAt ((wput W g k (.int .i64 x.up) (.string ⟨x.tag.toArray⟩) (.string ⟨x.id.toArray⟩) vc va).setCell ⟨M, 0, none⟩ u) (.slice (some ⟨g, 0, none⟩) ns.length cap) (ns.set k x) := by
  have hR := h.on hW
  obtain ⟨xs, hown, hc⟩ := id hR
  have hgw : g < w.heap.size := by
    obtain ⟨ys, h2, _⟩ := h
    exact (World.ownsRow.lt h2 g rfl).2
  have ho2 : (wput W g k (.int .i64 x.up) (.string ⟨x.tag.toArray⟩) (.string ⟨x.id.toArray⟩) vc va).cell? ⟨M, 0, none⟩ = some old := wput_out (Or.inl hM) ho
  have hcells : ∀ i (hi : i < ns.length), ∃ vc va, W.cell? ⟨g, i * 5, none⟩ = some (.int .i64 ns[i].up) ∧ W.cell? ⟨g, i * 5 + 1, none⟩ = some (.string ⟨ns[i].tag.toArray⟩) ∧ W.cell? ⟨g, i * 5 + 2, none⟩ = some (.string ⟨ns[i].id.toArray⟩) ∧ W.cell? ⟨g, i * 5 + 3, none⟩ = some vc ∧ W.cell? ⟨g, i * 5 + 4, none⟩ = some va ∧ StrsNe (some g) W vc ns[i].cls ∧ AtsNe (some g) W va ns[i].ats := by
    intro i hi
    obtain ⟨vc, va, h0, h1, h2, h3, h4, hcc, haa⟩ := CellsOf.get xs ns hc i hi
    have k0 := World.ownsRow.cells hown rfl _ _ h0
    have k1 := World.ownsRow.cells hown rfl _ _ h1
    have k2 := World.ownsRow.cells hown rfl _ _ h2
    have k3 := World.ownsRow.cells hown rfl _ _ h3
    have k4 := World.ownsRow.cells hown rfl _ _ h4
    simp only [Addr.add_lit, Nat.zero_add] at k0 k1 k2 k3 k4
    exact ⟨vc, va, k0, k1, k2, k3, k4, hcc, haa⟩
  have far : ∀ {p : Addr} {v : Value}, p.block = g → (wput W g k (.int .i64 x.up) (.string ⟨x.tag.toArray⟩) (.string ⟨x.id.toArray⟩) vc va).cell? p = some v → ((wput W g k (.int .i64 x.up) (.string ⟨x.tag.toArray⟩) (.string ⟨x.id.toArray⟩) vc va).setCell ⟨M, 0, none⟩ u).cell? p = some v := by
    intro p v hp hc
    rw [World.cell?_setCell_other _ _ _ _ (by intro e; rw [← e] at hp; exact hM hp)]; exact hc
  have str : ∀ {b o : Nat} {s : List UInt8}, b ≠ g → W.cell? ⟨b, o, none⟩ = some (.string ⟨s.toArray⟩) → ((wput W g k (.int .i64 x.up) (.string ⟨x.tag.toArray⟩) (.string ⟨x.id.toArray⟩) vc va).setCell ⟨M, 0, none⟩ u).cell? ⟨b, o, none⟩ = some (.string ⟨s.toArray⟩) := by
    intro b o s hb hc
    exact cell_set_str (wput_out (Or.inl hb) hc) ho2 hs
  have strs : ∀ {v : Value} {ss : List (List UInt8)}, StrsNe (some g) W v ss → StrsAt ((wput W g k (.int .i64 x.up) (.string ⟨x.tag.toArray⟩) (.string ⟨x.id.toArray⟩) vc va).setCell ⟨M, 0, none⟩ u) v ss := by
    rintro v ss ⟨a, c, rfl, h⟩
    refine ⟨a, c, rfl, ?_⟩
    rcases h with h | ⟨b, o, ha, hne, hc⟩
    · exact Or.inl h
    · exact Or.inr ⟨b, o, ha, fun i hi => str (fun e => hne (by rw [e])) (hc i hi)⟩
  have atss : ∀ {v : Value} {ss : List (List UInt8 × List UInt8)}, AtsNe (some g) W v ss → AtsAt ((wput W g k (.int .i64 x.up) (.string ⟨x.tag.toArray⟩) (.string ⟨x.id.toArray⟩) vc va).setCell ⟨M, 0, none⟩ u) v ss := by
    rintro v ss ⟨a, c, rfl, h⟩
    refine ⟨a, c, rfl, ?_⟩
    rcases h with h | ⟨b, o, ha, hne, hc⟩
    · exact Or.inl h
    · exact Or.inr ⟨b, o, ha, fun i hi => ⟨str (fun e => hne (by rw [e])) (hc i hi).1, str (fun e => hne (by rw [e])) (hc i hi).2⟩⟩
  refine ⟨_, cap, by rw [List.length_set], Or.inr ⟨g, 0, rfl, fun i hi => ?_⟩⟩
  rw [List.length_set] at hi
  rw [Nat.zero_add]
  by_cases hik : i = k
  · subst hik
    rw [List.getElem_set_self]
    obtain ⟨vc', va', k0, k1, k2, k3, k4, _, _⟩ := hcells i hk
    obtain ⟨q0, q1, q2, q3, q4⟩ := wput_in (u0 := .int .i64 x.up) (u1 := .string ⟨x.tag.toArray⟩) (u2 := .string ⟨x.id.toArray⟩) (u3 := vc) (u4 := va) k0 k1 k2 k3 k4
    exact ⟨vc, va, far rfl q0, far rfl q1, far rfl q2, far rfl q3, far rfl q4, strs (hvc.ne (fun j hj => by injection hj; omega)), atss (hva.ne (fun j hj => by injection hj; omega))⟩
  · rw [List.getElem_set_ne (Ne.symm hik)]
    obtain ⟨vc', va', k0, k1, k2, k3, k4, hcc, haa⟩ := hcells i hi
    have hoff : ∀ j, j < 5 → i * 5 + j < k * 5 ∨ k * 5 + 5 ≤ i * 5 + j := by intro j hj; omega
    exact ⟨vc', va', far rfl (wput_out (Or.inr (hoff 0 (by omega))) k0), far rfl (wput_out (Or.inr (hoff 1 (by omega))) k1), far rfl (wput_out (Or.inr (hoff 2 (by omega))) k2), far rfl (wput_out (Or.inr (hoff 3 (by omega))) k3), far rfl (wput_out (Or.inr (hoff 4 (by omega))) k4), strs hcc, atss haa⟩
end Go.Proofs.YtephhllfodlfbaaGreatDoor
/-
  Put: the call.
-/
namespace Go.Proofs.YtephhllfodlfbaaGreatDoor
open Go.RowKit

def putErr (ns : List Pl.Nd) (n : Int) (x : Pl.Nd) : Int := if checkAtOf ns n = 0 then (if Pl.right x = true then 0 else 1) else checkAtOf ns n
def putOf (ns : List Pl.Nd) (n : Int) (x : Pl.Nd) : List Pl.Nd := if putErr ns n x = 0 then (ns.map (Pl.mvd id)).set n.toNat { x with up := Pl.upOf ns n.toNat } else []

/-- a row's cells are there -/
theorem put_cells {B : Nat} {w W : World} {g n cap k : Nat} {ns : List Pl.Nd} (h : Row B w (.slice (some ⟨g, 0, none⟩) n cap) ns) (hW : Below w.heap.size w W) (hk : k < ns.length) :
    (∃ c, W.cell? ⟨g, k * 5, none⟩ = some c) ∧ (∃ c, W.cell? ⟨g, k * 5 + 1, none⟩ = some c) ∧ (∃ c, W.cell? ⟨g, k * 5 + 2, none⟩ = some c) ∧ (∃ c, W.cell? ⟨g, k * 5 + 3, none⟩ = some c) ∧ ∃ c, W.cell? ⟨g, k * 5 + 4, none⟩ = some c := by
  obtain ⟨xs, hown, hc⟩ := h.on hW
  obtain ⟨vc, va, h0, h1, h2, h3, h4, _, _⟩ := CellsOf.get xs ns hc k hk
  have k0 := World.ownsRow.cells hown rfl _ _ h0
  have k1 := World.ownsRow.cells hown rfl _ _ h1
  have k2 := World.ownsRow.cells hown rfl _ _ h2
  have k3 := World.ownsRow.cells hown rfl _ _ h3
  have k4 := World.ownsRow.cells hown rfl _ _ h4
  simp only [Addr.add_lit, Nat.zero_add] at k0 k1 k2 k3 k4
  exact ⟨⟨_, k0⟩, ⟨_, k1⟩, ⟨_, k2⟩, ⟨_, k3⟩, ⟨_, k4⟩⟩

end Go.Proofs.YtephhllfodlfbaaGreatDoor
