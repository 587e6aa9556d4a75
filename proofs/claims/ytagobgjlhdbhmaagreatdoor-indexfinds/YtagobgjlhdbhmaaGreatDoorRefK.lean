/-
  A right document, as the document's own answer tells it.
-/
import Derived.Test.YtagobgjlhdbhmaaGreatDoorRefF
import Derived.Test.YtagobgjlhdbhmaaGreatDoorKids
import Derived.Test.YtagobgjlhdbhmaaGreatDoorRem
namespace Go.Proofs.YtagobgjlhdbhmaaGreatDoor
open Go.RowKit

set_option maxHeartbeats 400000 in
theorem refCheck_many (a : Option Addr) (n cap : Nat) (w : World) (h : n < 1 ∨ 64 < n) (hm : n ≤ maxLen) :
    Calls Tryz.prog 21 #[.agg #[.slice a n cap]] w fun e w' => e = .returned (.int .i64 2) ∧ Below w.heap.size w w' := by
  unfold maxLen at hm
  have hw : within (n : Int) 1 64 = false := by unfold within; simp; omega
  go_enter Tryz.func21, Tryz.ntmps21
  go_wp2_with (go_at_call 33; refine (within_any _ _ _ _).mono ?_; rintro e w' ⟨rfl, rfl⟩; rw [hw])
  go_ret
  exact ⟨rfl, on_alloc _ _⟩
set_option maxHeartbeats 2000000 in
theorem refCheck_some (b o cap : Nat) (ns : List Pl.Nd) (w : World) (h1 : 1 ≤ ns.length) (h64 : ns.length ≤ 64) (hf : FitsAll ns) (hc : ∀ i (h : i < ns.length), NdAt w b (o + i * 5) ns[i]) :
    Calls Tryz.prog 21 #[.agg #[.slice (some ⟨b, o, none⟩) ns.length cap]] w fun e w' => e = .returned (.int .i64 (Pl.checkDoc ns)) ∧ Below w.heap.size w w' := by
  have HC : Hid (∀ i (h : i < ns.length), NdAt w b (o + i * 5) ns[i]) := hc
  have HFit : Hid (FitsAll ns) := hf
  clear hc hf
  have hw : within (ns.length : Int) 1 64 = true := by unfold within; simp; omega
  go_enter Tryz.func21, Tryz.ntmps21
  go_wp2_with (go_at_call 33; refine (within_any _ _ _ _).mono ?_; rintro e w' ⟨rfl, rfl⟩; rw [hw])
  go_loopw [3] (fun i wr => ∃ k : Nat, k ≤ ns.length ∧ i = .int .i64 k ∧ Hid (Pl.okTo ns k = true) ∧ Below w.heap.size w wr ∧ wr.cell? ⟨w.heap.size, 0, none⟩ = some (.slice (some ⟨b, o, none⟩) ns.length cap)) (fun i _ => ns.length - (intOf i).toNat)
  case atStart => exact ⟨0, Nat.zero_le _, rfl, rfl, on_alloc _ _, by simp [go_sem]⟩
  case round =>
    obtain ⟨k, hk, rfl, hd, hB, hbox⟩ := hrel
    by_cases hlt : k < ns.length
    · obtain ⟨vc, va, n0, n1, n2, n3, n4, nc, na⟩ := (HC.out k hlt).on hB
      obtain ⟨ac, cc, rfl, _⟩ := id nc
      obtain ⟨aa, ca, rfl, _⟩ := id na
      have HV : Hid (NdV wr (.agg #[.int .i64 ns[k].up, .string ⟨ns[k].tag.toArray⟩, .string ⟨ns[k].id.toArray⟩, .slice ac ns[k].cls.length cc, .slice aa ns[k].ats.length ca]) ns[k]) := ⟨_, _, rfl, nc, na⟩
      clear nc na
      cases hr : Pl.right ns[k] with
      | false =>
        have HF : Hid (Pl.checkDoc ns = 1) := checkDoc_one h1 h64 (okTo_false hlt (by rw [hr]; rfl))
        go_wp2_with fail
        refine (fine_any _ ns[k] _ (HFit.out.2 k hlt) HV.out).mono ?_
        rintro e w1 ⟨rfl, hw1⟩
        rw [hr]
        have hB1 := below_trans hB hw1
        go_wp2
        go_ret
        exact ⟨by rw [HF.out]; rfl, hB1⟩
      | true =>
        go_wp2_with fail
        refine (fine_any _ ns[k] _ (HFit.out.2 k hlt) HV.out).mono ?_
        rintro e w1 ⟨rfl, hw1⟩
        rw [hr]
        have hB1 := below_trans hB hw1
        have hbox1 := cell_on hw1 hbox
        have HC1 : Hid (∀ k, k < ns.length → w1.cell? ⟨b, o + k * 5, none⟩ = some (.int .i64 (Pl.upOf ns k))) := fun k h => up_cell (fun i h => (HC.out i h).on hB1) k h
        have ck := HC1.out k hlt
        clear hw1 hbox n0 n1 n2 n3 n4 HV
        rcases Nat.eq_zero_or_pos k with rfl | hkp
        · rw [Nat.zero_mul, Nat.add_zero] at ck
          have i0 : (0 : Int) < (ns.length : Int) := by omega
          cases hh : (Pl.upOf ns 0 == -1) with
          | false =>
            have hhang : Pl.hangs ns 0 = false := by simp [Pl.hangs, hh]
            have HF : Hid (Pl.checkDoc ns = 1) := checkDoc_one h1 h64 (okTo_false hlt (by rw [hhang]; simp))
            generalize Pl.upOf ns 0 = u at *
            go_wp2
            go_ret
            exact ⟨by rw [HF.out]; rfl, hB1⟩
          | true =>
            have hhang : Pl.hangs ns 0 = true := by simp [Pl.hangs, hh]
            have HN : Hid (Pl.okTo ns (0 + 1) = true) := okTo_next hlt hd.out hr hhang
            generalize Pl.upOf ns 0 = u at *
            go_wp2
            refine wp_loop_rounds 1 ?_
            rw [rounds_succ]
            go_wp2
            exact ⟨⟨1, hlt, by go_num, HN, hB1, hbox1⟩, by simp [intOf]; omega⟩
        · have hz : ((k : Int) == 0) = false := by simp; omega
          have HH : Hid (Pl.hangs ns k = way ns ((k : Int) - 1) (Pl.upOf ns k)) := hangs_way ns k (by omega)
          have HL : Hid (Pl.Low ns k) := Pl.okTo_low k hd.out
          have HF : Hid (Pl.hangs ns k = false → Pl.checkDoc ns = 1) := fun hh => checkDoc_one h1 h64 (okTo_false hlt (by rw [hh]; simp))
          have HN : Hid (Pl.hangs ns k = true → Pl.okTo ns (k + 1) = true) := fun hh => okTo_next hlt hd.out hr hh
          generalize Pl.upOf ns k = t at *
          go_wp2
          go_loop [4, 5] (fun f u => ∃ (fb : Bool) (q : Int), f = .bool fb ∧ u = .int .i64 q ∧ -1 ≤ q ∧ q < k ∧ Hid (fb = true → Pl.hangs ns k = true) ∧ Hid (fb = false → Pl.hangs ns k = way ns q t)) (fun _ u => (intOf u + 1).toNat)
          case atStart => exact ⟨false, (k : Int) - 1, rfl, rfl, by omega, by omega, (fun h => by cases h), fun _ => HH.out⟩
          case round =>
            obtain ⟨fb, q, rfl, rfl, hq1, hq2, hf1, hf2⟩ := hrel
            by_cases hneg : q < 0
            · cases fb with
              | true =>
                have HO : Hid (Pl.okTo ns (k + 1) = true) := HN.out (hf1.out rfl)
                go_wp2
                exact ⟨⟨k + 1, hlt, by go_num, HO, hB1, hbox1⟩, by simp [intOf]; omega⟩
              | false =>
                have HO : Hid (Pl.checkDoc ns = 1) := by
                  refine HF.out ?_
                  have : q = -1 := by omega
                  subst this
                  exact (hf2.out rfl).trans (way_neg ns t)
                go_wp2
                go_ret
                exact ⟨by rw [HO.out]; rfl, hB1⟩
            · cases fb with
              | true =>
                have HO : Hid (Pl.okTo ns (k + 1) = true) := HN.out (hf1.out rfl)
                go_wp2
                exact ⟨⟨k + 1, hlt, by go_num, HO, hB1, hbox1⟩, by simp [intOf]; omega⟩
              | false =>
                obtain ⟨j, rfl⟩ : ∃ j : Nat, q = j := ⟨q.toNat, by omega⟩
                have hj : j < k := by omega
                have cj := HC1.out j (by omega)
                obtain ⟨u1, u2⟩ := HL.out j hj
                cases he : ((j : Int) == t) with
                | true =>
                  have HT : Hid (Pl.hangs ns k = true) := by
                    have : (j : Int) = t := by simpa using he
                    rw [Hid, hf2.out rfl, ← this]; exact way_hit ns j
                  generalize Pl.upOf ns j = u at *
                  go_wp2
                  exact ⟨⟨true, u, rfl, rfl, u1, by omega, fun _ => HT.out, (fun h => by cases h)⟩, by simp [intOf]; omega⟩
                | false =>
                  have HS : Hid (Pl.hangs ns k = way ns (Pl.upOf ns j) t) := (hf2.out rfl).trans (way_step HL.out j hj t he)
                  generalize Pl.upOf ns j = u at *
                  go_wp2
                  exact ⟨⟨false, u, rfl, rfl, u1, by omega, (fun h => by cases h), fun _ => HS.out⟩, by simp [intOf]; omega⟩
    · have HF : Hid (Pl.checkDoc ns = 0) := by
        have he : k = ns.length := by omega
        have := hd.out
        rw [he] at this
        exact checkDoc_zero h1 h64 this
      go_wp2
      go_ret
      exact ⟨by rw [HF.out]; rfl, hB⟩
theorem refCheck_any (v : Value) (ns : List Pl.Nd) (w : World) (hf : FitsAll ns) (hv : NdsAt w v ns) :
    Calls Tryz.prog 21 #[.agg #[v]] w fun e w' => e = .returned (.int .i64 (Pl.checkDoc ns)) ∧ Below w.heap.size w w' := by
  obtain ⟨a, cap, rfl, h⟩ := hv
  by_cases hl : ns.length < 1 ∨ 64 < ns.length
  · have : Pl.checkDoc ns = 2 := by unfold Pl.checkDoc; rw [if_pos hl]
    rw [this]
    exact refCheck_many a ns.length cap w hl hf.1
  · rcases h with rfl | ⟨b, o, rfl, hc⟩
    · simp at hl
    · exact refCheck_some b o cap ns w (by omega) (by omega) hf hc

end Go.Proofs.YtagobgjlhdbhmaaGreatDoor
/-
  insert: elements laid in among others.
-/
namespace Go.Proofs.YtagobgjlhdbhmaaGreatDoor
open Go.RowKit

theorem two_cells (w : World) (o1 o2 o3 : Obj) : Below w.heap.size w (((w.alloc o1).alloc o2).alloc o3) := ((Below.refl w.heap.size w).alloc (Nat.le_refl _) o1).alloc (by simp) o2 |>.alloc (by simp; omega) o3

end Go.Proofs.YtagobgjlhdbhmaaGreatDoor
/-
  Insert: a document laid in below an element.
-/
namespace Go.Proofs.YtagobgjlhdbhmaaGreatDoor
open Go.RowKit

end Go.Proofs.YtagobgjlhdbhmaaGreatDoor
/-
  Kids and Under.
-/
namespace Go.Proofs.YtagobgjlhdbhmaaGreatDoor
open Go.RowKit

end Go.Proofs.YtagobgjlhdbhmaaGreatDoor
/-
  Right documents in plain lists: no two links cross. No program is walked in this text.
-/
namespace Go.Proofs.YtagobgjlhdbhmaaGreatDoor.Pl

/-- the first N elements hang as they must: links do not cross -/
def GoodTo (ns : List Nd) (N : Nat) : Prop :=
  ∀ n : Nat, n < N → (n = 0 → upOf ns n = -1) ∧ (0 < n → 0 ≤ upOf ns n ∧ upOf ns n < n ∧ ∀ m : Nat, upOf ns n < m → m < n → upOf ns n ≤ upOf ns m)
theorem chase_iff {ns : List Nd} {n : Nat} (hg : GoodTo ns n) : ∀ (f : Nat) (k t : Int), k < n → -1 ≤ k → k + 1 < f → (chase ns f k t = true ↔ 0 ≤ t ∧ t ≤ k ∧ ∀ m : Nat, t < m → (m : Int) ≤ k → t ≤ upOf ns m) := by
  intro f
  induction f with
  | zero => intro k t _ h1 h2; omega
  | succ f ih =>
    intro k t hk h1 h2
    unfold chase
    by_cases h0 : k < 0
    · rw [if_pos h0]
      constructor
      · intro h; cases h
      · rintro ⟨a, b, _⟩; omega
    · rw [if_neg h0]
      by_cases he : (k == t) = true
      · rw [if_pos he]
        have he' : k = t := by simpa using he
        constructor
        · intro _; exact ⟨by omega, by omega, fun m _ _ => by omega⟩
        · intro _; rfl
      · rw [if_neg he]
        have he' : k ≠ t := by simpa using he
        obtain ⟨k', rfl⟩ : ∃ k' : Nat, k = k' := ⟨k.toNat, by omega⟩
        obtain ⟨g0, g1⟩ := hg k' (by omega)
        have hup : -1 ≤ upOf ns k' ∧ upOf ns k' < k' := by
          rcases Nat.eq_zero_or_pos k' with h | h
          · rw [g0 h]; omega
          · have := g1 h; omega
        rw [show ((k' : Int)).toNat = k' by omega, ih _ _ (by omega) hup.1 (by omega)]
        constructor
        · rintro ⟨a, b, c⟩
          refine ⟨a, by omega, fun m hm hmk => ?_⟩
          by_cases hmu : (m : Int) ≤ upOf ns k'
          · exact c m hm hmu
          · by_cases hmk' : m = k'
            · subst hmk'; exact b
            · have hpos : 0 < k' := by omega
              have := (g1 hpos).2.2 m (by omega) (by omega)
              omega
        · rintro ⟨a, b, c⟩
          exact ⟨a, c k' (by omega) (by omega), fun m hm hmk => c m hm (by omega)⟩
theorem hangs_iff {ns : List Nd} {n : Nat} (hg : GoodTo ns n) : hangs ns n = true ↔ (n = 0 → upOf ns n = -1) ∧ (0 < n → 0 ≤ upOf ns n ∧ upOf ns n < n ∧ ∀ m : Nat, upOf ns n < m → m < n → upOf ns n ≤ upOf ns m) := by
  unfold hangs
  by_cases h0 : n = 0
  · subst h0
    simp
  · rw [if_neg h0, chase_iff hg _ _ _ (by omega) (by omega) (by omega)]
    constructor
    · rintro ⟨a, b, c⟩
      exact ⟨fun h => absurd h h0, fun _ => ⟨a, by omega, fun m h1 h2 => c m h1 (by omega)⟩⟩
    · rintro ⟨_, h⟩
      obtain ⟨a, b, c⟩ := h (by omega)
      exact ⟨a, by omega, fun m h1 h2 => c m h1 (by omega)⟩
theorem GoodTo.succ {ns : List Nd} {n : Nat} (hg : GoodTo ns n) (h : (n = 0 → upOf ns n = -1) ∧ (0 < n → 0 ≤ upOf ns n ∧ upOf ns n < n ∧ ∀ m : Nat, upOf ns n < m → m < n → upOf ns n ≤ upOf ns m)) : GoodTo ns (n + 1) := by
  intro k hk
  by_cases h1 : k = n
  · subst h1; exact h
  · exact hg k (by omega)
def Rights (ns : List Nd) : Prop := ∀ x ∈ ns, right x = true
theorem okTo_good {ns : List Nd} : ∀ N, N ≤ ns.length → okTo ns N = true → GoodTo ns N ∧ ∀ k (h : k < ns.length), k < N → right ns[k] = true
  | 0, _, _ => ⟨fun n h => by omega, fun k _ h => by omega⟩
  | N + 1, hN, h => by
    rw [okTo_succ, Bool.and_eq_true, Bool.and_eq_true, List.getElem?_eq_getElem (by omega : N < ns.length)] at h
    obtain ⟨g, r⟩ := okTo_good N (by omega) h.1
    refine ⟨g.succ ((hangs_iff g).1 h.2.2), fun k hk hkN => ?_⟩
    by_cases h1 : k = N
    · subst h1; exact h.2.1
    · exact r k hk (by omega)
theorem good_okTo {ns : List Nd} (hr : Rights ns) : ∀ N, N ≤ ns.length → GoodTo ns N → okTo ns N = true
  | 0, _, _ => rfl
  | N + 1, hN, h => by
    have hlt : N < ns.length := by omega
    have g : GoodTo ns N := fun n hn => h n (by omega)
    rw [okTo_succ, List.getElem?_eq_getElem hlt, good_okTo hr N (by omega) g, (hangs_iff g).2 (h N (by omega))]
    simp [hr _ (List.getElem_mem hlt)]
/-- what a right document is -/
theorem check_iff (ns : List Nd) : checkDoc ns = 0 ↔ 1 ≤ ns.length ∧ ns.length ≤ 64 ∧ Rights ns ∧ GoodTo ns ns.length := by
  unfold checkDoc
  by_cases h : ns.length < 1 ∨ 64 < ns.length
  · rw [if_pos h]
    constructor
    · intro h; omega
    · intro h2; omega
  · rw [if_neg h]
    constructor
    · intro h2
      have hk : okTo ns ns.length = true := by
        cases hh : okTo ns ns.length with
        | true => rfl
        | false => rw [hh] at h2; simp at h2
      obtain ⟨g, r⟩ := okTo_good _ (Nat.le_refl _) hk
      refine ⟨by omega, by omega, fun x hx => ?_, g⟩
      obtain ⟨i, hi, rfl⟩ := List.getElem_of_mem hx
      exact r i hi hi
    · rintro ⟨_, _, r, g⟩
      rw [if_pos (good_okTo r _ (Nat.le_refl _) g)]

end Go.Proofs.YtagobgjlhdbhmaaGreatDoor.Pl
/-
  Kids and those under one, as the document's own answer tells them.
-/
namespace Go.Proofs.YtagobgjlhdbhmaaGreatDoor
open Go.RowKit

/-- a list of numbers in blocks from B on -/
def IntsF (B : Nat) (w : World) (v : Value) (ks : List Nat) : Prop :=
  ∃ a cap, v = .slice a ks.length cap ∧ (ks = [] ∨ ∃ b o, a = some ⟨b, o, none⟩ ∧ B ≤ b ∧ ∀ i (h : i < ks.length), w.cell? ⟨b, o + i, none⟩ = some (.int .i64 (ks[i] : Nat)))
theorem intsF_of_row {w : World} {B : Nat} {v : Value} {l : List Nat} (h : w.ownsRow B 3 1 v l.length (natCells l)) : IntsF B w v l := by
  have hh := h
  obtain ⟨_, h0 | ⟨g, cap, cur, rfl, hb, _⟩⟩ := h
  · obtain ⟨rfl, hl⟩ := h0
    have : l = [] := by simpa using hl
    subst this
    exact ⟨none, 0, rfl, Or.inl rfl⟩
  · refine ⟨_, cap, rfl, Or.inr ⟨g, 0, rfl, hb, fun i hi => ?_⟩⟩
    have := World.ownsRow.cells hh rfl i (.int .i64 (l[i] : Int)) (by simp [natCells, List.getElem?_eq_getElem hi])
    rw [Addr.add_lit] at this
    simpa using this
theorem IntsF.ints {B : Nat} {w : World} {v : Value} {l : List Nat} (h : IntsF B w v l) : IntsAt w v (l.map fun (k : Nat) => (k : Int)) := by
  obtain ⟨a, cap, rfl, h⟩ := h
  refine ⟨a, cap, by simp, ?_⟩
  rcases h with h | ⟨b, o, ha, _, hc⟩
  · exact Or.inl (by simp [h])
  · exact Or.inr ⟨b, o, ha, fun i hi => by simpa using hc i (by simpa using hi)⟩
theorem IntsF.mono {B B' : Nat} {w : World} {v : Value} {l : List Nat} (h : IntsF B w v l) (hB : B' ≤ B) : IntsF B' w v l := by
  obtain ⟨a, cap, rfl, h⟩ := h
  refine ⟨a, cap, rfl, ?_⟩
  rcases h with h | ⟨b, o, ha, hb, hc⟩
  · exact Or.inl h
  · exact Or.inr ⟨b, o, ha, by omega, hc⟩
set_option maxHeartbeats 1600000 in
theorem refKids_some (b o cap : Nat) (ns : List Pl.Nd) (n : Int) (w : World) (h64 : ns.length ≤ 64) (hc : ∀ i (h : i < ns.length), NdAt w b (o + i * 5) ns[i]) :
    Calls Tryz.prog 38 #[.agg #[.slice (some ⟨b, o, none⟩) ns.length cap], .int .i64 n] w fun e w' =>
      ∃ v, e = .returned v ∧ IntsF w.heap.size w' v (Pl.kidsOf ns n) ∧ Below w.heap.size w w' := by
  have HC : Hid (∀ k, k < ns.length → w.cell? ⟨b, o + k * 5, none⟩ = some (.int .i64 (Pl.upOf ns k))) := fun k h => up_cell hc k h
  clear hc
  obtain ⟨i0, hi, hz0, hz1, hz2⟩ := info_parts Tryz.info3
  go_enter Tryz.func38, Tryz.ntmps38
  go_wp2
  go_loopw [5, 6] (fun v i wr => ∃ k : Nat, k ≤ ns.length ∧ i = .int .i64 k ∧ wr.ownsRow (w.heap.size + 1) 3 1 v (Pl.kidsTo ns n k).length (natCells (Pl.kidsTo ns n k)) ∧ Below w.heap.size w wr ∧ w.heap.size + 1 ≤ wr.heap.size ∧ wr.cell? ⟨w.heap.size, 0, none⟩ = some (.slice (some ⟨b, o, none⟩) ns.length cap)) (fun _ i _ => ns.length - (intOf i).toNat)
  case atStart => exact ⟨0, Nat.zero_le _, rfl, World.ownsRow_nil _ _ _ _, on_alloc _ _, by simp, by simp [go_sem]⟩
  case round =>
    obtain ⟨k, hk, rfl, hown, hB, hsz, hbox⟩ := hrel
    by_cases hlt : k < ns.length
    · have n0 := cell_on hB (HC.out k hlt)
      generalize hU : Pl.upOf ns k = u at n0
      have HU2 : Hid _ := hU
      clear hU
      cases he : (u == n) with
      | true =>
        have HK : Hid (Pl.kidsTo ns n (k + 1) = Pl.kidsTo ns n k ++ [k]) := Pl.kidsTo_hit ns n k (by rw [HU2.out]; exact he)
        have hkl := Pl.kidsTo_len ns n k
        have hne : some w.heap.size ≠ u5.ownBlock := fun e => by have := (World.ownsRow.lt hown _ e.symm).1; omega
        go_wp2_with (at_builtin; refine wpList_append_own _ rfl _ _ 38 rfl (w.heap.size + 1) 3 i0 (.int .i64 0) 1 8 Tryz.underlying38 hi hz0 hz1 hz2 rfl (by decide) _ _ _ rfl (hown.alloc _) ⟨wr.heap.size, 0, none⟩ 1 1 [.int .i64 k] rfl rfl ?c1 ?c2 ?c3 ?c4 ?c5 ?_)
        case c1 =>
          intro j u hj
          match j, hj with
          | 0, hj => simp at hj; subst hj; simp [Addr.add, go_sem]
        case c2 => intro u hu; simp at hu; subst hu; rfl
        case c3 => unfold maxLen; omega
        case c4 => omega
        case c5 => simp; omega
        intro v' w1 hown' hgrow _
        have hB1 : Below w.heap.size w w1 := (hB.alloc hB.size _).grown hgrow (by have := hB.size; simp; omega) (fun g hg => by have := (World.ownsRow.lt hown g hg).1; omega)
        have hbox1 := grown_cell (b := w.heap.size) hgrow hne (cell_on (on_alloc _ _) hbox)
        have hsz1 : w.heap.size + 1 ≤ w1.heap.size := by have := hgrow.size; simp at this; omega
        clear hgrow hown hbox
        go_wp2
        refine ⟨⟨k + 1, hlt, by go_num, ?_, hB1, hsz1, hbox1⟩, by simp [intOf]; omega⟩
        rw [HK.out]
        simpa [natCells] using hown'
      | false =>
        have HK : Hid (Pl.kidsTo ns n (k + 1) = Pl.kidsTo ns n k) := Pl.kidsTo_miss ns n k (by rw [HU2.out]; exact he)
        go_wp2
        refine ⟨⟨k + 1, hlt, by go_num, ?_, hB, hsz, hbox⟩, by simp [intOf]; omega⟩
        rw [HK.out]
        exact hown
    · have hkl : k = ns.length := by omega
      subst hkl
      go_wp2
      go_ret
      exact ⟨_, rfl, (intsF_of_row hown).mono (by omega), hB⟩
/-- the one above, that above it, and so on -/
def aboveB (ns : List Pl.Nd) (a n : Nat) : Bool := way ns (Pl.upOf ns n) a
end Go.Proofs.YtagobgjlhdbhmaaGreatDoor
