/-
  index.Look: who an index names for a key.
-/
import Derived.Test.YtagobgjlhdbhmaaGreatDoorFdF
import Derived.Test.YtagobgjlhdbhmaaGreatDoorFdP
import Derived.Test.YtagobgjlhdbhmaaGreatDoorDocO
namespace Go.Proofs.YtagobgjlhdbhmaaGreatDoor
open Go.RowKit

def zCells (l : List Int) : List Value := l.map fun n => .int .i64 n
theorem ints_of_zrow {w : World} {B : Nat} {v : Value} {l : List Int} (h : w.ownsRow B 3 1 v l.length (zCells l)) : IntsAt w v l := by
  have hh := h
  obtain ⟨_, h0 | ⟨g, cap, cur, rfl, hBg, _⟩⟩ := h
  · obtain ⟨rfl, hl⟩ := h0
    have : l = [] := by simpa using hl
    subst this
    exact ⟨none, 0, rfl, Or.inl rfl⟩
  · refine ⟨_, cap, rfl, Or.inr ⟨g, 0, rfl, fun i hi => ?_⟩⟩
    have h0 := World.ownsRow.cells hh rfl i (.int .i64 l[i]) (by simp [zCells, List.getElem?_eq_getElem hi])
    rw [Addr.add_lit] at h0
    exact h0
/-- 'append(nil, xs...)' of numbers: a copy -/
theorem wpList_copyI {w : World} {ops : Array Oper} {rest : List Oper} {o : Oper} {a : Act} {Q : Exit → Act → World → Prop} (hgd : o.guard = none) (s x : Operand)
    (ho : o.op = .call { callee := .builtin .append, args := #[s, x], argTypes := #[38, 38] }) (hs : a.eval s = .slice none 0 0) (xv : Value) (ss : List Int) (hx : a.eval x = xv) (hS : IntsAt w xv ss) (hl : ss.length * 8 ≤ 140737488351232)
    (h : ∀ a' c' w', IntsAt w' (.slice a' ss.length c') ss → Below w.heap.size w w' → wpList Tryz.prog ops Q rest (a.put o.dst (.slice a' ss.length c')) w') : wpList Tryz.prog ops Q (o :: rest) a w := by
  obtain ⟨i3, hi3, hz0, hz1, hz2⟩ := info_parts Tryz.info3
  obtain ⟨ad, cap, rfl, hc⟩ := hS
  rcases hc with rfl | ⟨b, of, rfl, hc⟩
  · refine wpList_plain hgd fun K hK => ?_
    have hr := append_nil_nil Tryz.underlying38 hi3 ad cap o.type w
    unfold Oper.wp execOp
    simp only [ho, resolve, invoke, builtin, Sem.run_bind, Sem.run_pure, Result.andThen_ok, List.map_toArray, List.map_cons, List.map_nil, hs, hx, List.length_nil, hr]
    exact hK _ _ (h none 0 w ⟨none, 0, rfl, Or.inl rfl⟩ (Below.refl _ _))
  · refine wpList_append_own w hgd s x 38 ho w.heap.size 3 i3 (.int .i64 0) 1 8 Tryz.underlying38 hi3 hz0 hz1 hz2 rfl (by decide) (.slice none 0 0) 0 [] hs (World.ownsRow_nil _ _ _ _) ⟨b, of, none⟩ ss.length cap (zCells ss) hx (by simp [zCells]) ?_ ?_ (by unfold maxLen; omega) (by omega) (Nat.le_refl _) ?_
    · intro j u hj
      have hlt : j < ss.length := by
        have := (List.getElem?_eq_some_iff.1 hj).1
        simpa [zCells] using this
      rw [Addr.add_lit, hc j hlt]
      simp [zCells, List.getElem?_eq_getElem hlt] at hj
      rw [hj]
    · intro u hu
      simp only [zCells, List.mem_map] at hu
      obtain ⟨_, _, rfl⟩ := hu
      rfl
    · intro v' w' hown hg _
      rw [Nat.zero_add, List.nil_append] at hown
      have hS' := ints_of_zrow hown
      obtain ⟨a', c', rfl, hcc⟩ := id hS'
      exact h a' c' w' hS' ((Below.refl _ _).grown hg (Nat.le_refl _) (fun k hk => by simp [Value.ownBlock] at hk))
def lookIn (k : Pl.Key) : List Pl.Er → List Int
  | [] => []
  | e :: r => if e.1 = k then e.2 else lookIn k r
def lookErr (l : List Pl.Er) (kind : Int) : Int := if kind < 1 ∨ 3 < kind then 4 else if 512 < l.length then 2 else 0
def lookOf (l : List Pl.Er) (kind : Int) (name : List UInt8) : List Int := if lookErr l kind = 0 then lookIn (kind, name) l else []
theorem look_hit {l : List Pl.Er} {k : Pl.Key} {i : Nat} (h : i < l.length) (hp : l[i].1 = k) : lookIn k (l.drop i) = l[i].2 := by
  rw [List.drop_eq_getElem_cons h]
  exact if_pos hp
theorem look_miss {l : List Pl.Er} {k : Pl.Key} {i : Nat} (h : i < l.length) (hp : l[i].1 ≠ k) : lookIn k (l.drop i) = lookIn k (l.drop (i + 1)) := by
  rw [List.drop_eq_getElem_cons h]
  exact if_neg hp
set_option maxRecDepth 100000 in
set_option maxHeartbeats 4000000 in
theorem look_any (v : Value) (l : List Pl.Er) (kind : Int) (name : List UInt8) (w : World) (h1 : EnsAt w v l) (hz : ∀ e ∈ l, e.2.length * 8 ≤ 140737488351232) :
    Calls Tryz.prog 23 #[v, .int .i64 kind, .string ⟨name.toArray⟩] w fun e w' => ∃ u, e = .returned (.tuple #[u, .int .i64 (lookErr l kind)]) ∧ IntsAt w' u (lookOf l kind name) ∧ Below w.heap.size w w' := by
  obtain ⟨a1, c1, rfl, h1⟩ := h1
  have H1 : Hid _ := h1
  have HZ : Hid _ := hz
  clear h1 hz
  have hnil : ∀ w : World, IntsAt w (.slice none 0 0) [] := fun w => ⟨none, 0, rfl, Or.inl rfl⟩
  have HN : Hid _ := hnil
  clear hnil
  by_cases hk1 : kind < 1
  · have HE : Hid (lookErr l kind = 4) := by unfold Hid lookErr; rw [if_pos (Or.inl hk1)]
    have HO : Hid (lookOf l kind name = []) := by unfold Hid lookOf; rw [HE.out]; rfl
    rw [HE.out, HO.out]
    clear HE HO
    go_enter Tryz.func23, Tryz.ntmps23
    go_wp2
    go_ret2
    exact ⟨_, rfl, HN.out _, Below.refl _ _⟩
  by_cases hk3 : 3 < kind
  · have HE : Hid (lookErr l kind = 4) := by unfold Hid lookErr; rw [if_pos (Or.inr hk3)]
    have HO : Hid (lookOf l kind name = []) := by unfold Hid lookOf; rw [HE.out]; rfl
    rw [HE.out, HO.out]
    clear HE HO
    go_enter Tryz.func23, Tryz.ntmps23
    go_wp2
    go_ret2
    exact ⟨_, rfl, HN.out _, Below.refl _ _⟩
  have hkk : ¬ (kind < 1 ∨ 3 < kind) := by omega
  by_cases hm : 512 < l.length
  · have HE : Hid (lookErr l kind = 2) := by unfold Hid lookErr; rw [if_neg hkk, if_pos hm]
    have HO : Hid (lookOf l kind name = []) := by unfold Hid lookOf; rw [HE.out]; rfl
    rw [HE.out, HO.out]
    have hm' : (512 : Int) < (l.length : Int) := by omega
    clear HE HO hkk hm
    go_enter Tryz.func23, Tryz.ntmps23
    go_wp2
    go_ret2
    exact ⟨_, rfl, HN.out _, Below.refl _ _⟩
  have HE : Hid (lookErr l kind = 0) := by unfold Hid lookErr; rw [if_neg hkk, if_neg hm]
  have HO : Hid (lookOf l kind name = lookIn (kind, name) l) := by unfold Hid lookOf; rw [HE.out]; rfl
  rw [HE.out, HO.out]
  have hm' : ¬ (512 : Int) < (l.length : Int) := by omega
  have hl5 : l.length ≤ 512 := by omega
  clear HE HO hkk hm
  go_enter Tryz.func23, Tryz.ntmps23
  go_wp2
  clear hm' hk1 hk3
  go_loopw [21] (fun i wr => ∃ k : Nat, k ≤ l.length ∧ i = .int .i64 k ∧ Hid (lookIn (kind, name) (l.drop k) = lookIn (kind, name) l) ∧ Hid (Below w.heap.size w wr)) (fun i _ => l.length - (intOf i).toNat)
  case atStart => exact ⟨0, Nat.zero_le _, rfl, rfl, Below.refl _ _⟩
  case round =>
    obtain ⟨k, hk, rfl, ht, hD⟩ := hrel
    have hB := hD.out
    by_cases hlt : k < l.length
    · rcases H1.out with h0 | ⟨b, o, rfl, hc⟩
      · subst h0; simp at hlt
      obtain ⟨vi, n0, n1, n2, n3⟩ := (hc k hlt).on hB
      have HZK : Hid _ := HZ.out l[k] (List.getElem_mem hlt)
      have i1 : (0 : Int) ≤ (k : Int) := by omega
      have i2 : (k : Int) < (l.length : Int) := by omega
      have HH : Hid (l[k].1 = (kind, name) → lookIn (kind, name) l = l[k].2) := fun he => by rw [← ht.out, look_hit hlt he]
      have HM : Hid (l[k].1 ≠ (kind, name) → lookIn (kind, name) (l.drop (k + 1)) = lookIn (kind, name) l) := fun he => by rw [← ht.out, look_miss hlt he]
      obtain ⟨ai, ci, rfl, _⟩ := id n3
      have N3 : Hid (IntsAt _ _ _) := n3
      clear hc n3 ht
      generalize l[k] = x at *
      obtain ⟨⟨k1, s1⟩, q1⟩ := x
      dsimp only at n0 n1 n2 N3 HZK
      have hb1 := on_alloc wr (.cells #[.int .i64 k1, .string ⟨s1.toArray⟩, .slice ai q1.length ci] 55)
      have HB1 : Hid (Below w.heap.size w _) := below_trans hB hb1
      have N4 : Hid (IntsAt _ _ _) := N3.out.on hb1
      clear hb1 N3
      by_cases e1 : k1 = kind
      · by_cases e2 : s1 = name
        · subst e1
          subst e2
          have HL : Hid (lookIn (k1, s1) l = q1) := HH.out rfl
          clear HH HM
          go_wp2_with (at_builtin; refine wpList_copyI rfl _ _ rfl rfl _ q1 rfl N4.out HZK.out ?_; intro a' c' w' hi hb')
          have HI : Hid (IntsAt _ _ _) := hi
          have HBZ : Hid (Below w.heap.size w w') := below_trans HB1.out hb'
          clear hi hb' HB1 N4
          go_wp2
          go_ret2
          rw [HL.out]
          exact ⟨_, rfl, HI.out, HBZ.out⟩
        · have HM2 : Hid _ := HM.out (by intro e; injection e with _ e4; exact e2 e4)
          have e5 : (s1 == name) = false := by simpa using e2
          clear e2
          subst e1
          go_wp2
          exact ⟨⟨k + 1, hlt, by go_num, HM2, HB1⟩, by simp [intOf]; omega⟩
      · have HM2 : Hid _ := HM.out (by intro e; injection e with e3 _; exact e1 e3)
        go_wp2
        exact ⟨⟨k + 1, hlt, by go_num, HM2, HB1⟩, by simp [intOf]; omega⟩
    · have HT : Hid (lookIn (kind, name) l = []) := by
        have := ht.out
        rw [List.drop_of_length_le (by omega)] at this
        exact this.symm
      go_wp2
      go_ret2
      rw [HT.out]
      exact ⟨_, rfl, HN.out _, hD.out⟩
end Go.Proofs.YtagobgjlhdbhmaaGreatDoor
/-
  live's four calls.
-/
namespace Go.Proofs.YtagobgjlhdbhmaaGreatDoor
open Go.RowKit

theorem Blk2.any {w w' : World} {N : Nat} {c0 c1 : Value} (h : Blk2 w N c0 c1) (hb : Below w.heap.size w w') : Blk2 w' N c0 c1 := h.on hb
set_option maxRecDepth 100000 in
set_option maxHeartbeats 2000000 in
theorem open_any (v : Value) (ns : List Pl.Nd) (w : World) (hd : DocAt w v ns) : Calls Tryz.prog 77 #[.agg #[v]] w fun e w' => IdxSays (checkAtOf ns 0) (partOf ns 0) w e w' := by
  obtain ⟨a, c, rfl⟩ := hd.form
  have hb0 := boxes w (.cells #[.slice a ns.length c] 24) (.cells #[.slice none 0 0, .slice none 0 0] 59)
  have bR : Blk2 ((w.alloc (.cells #[.slice a ns.length c] 24)).alloc (.cells #[.slice none 0 0, .slice none 0 0] 59)) (w.heap.size + 1) (.slice none 0 0) (.slice none 0 0) := by
    have := Blk2.new (w.alloc (.cells #[.slice a ns.length c] 24)) (.slice none 0 0) (.slice none 0 0)
    simpa using this
  have bS : Blk1 ((w.alloc (.cells #[.slice a ns.length c] 24)).alloc (.cells #[.slice none 0 0, .slice none 0 0] 59)) w.heap.size (.slice a ns.length c) := (Blk1.new w _).on (on_alloc _ _)
  obtain ⟨x0, _⟩ := bS.facts
  have HD : Hid (DocAt _ _ _) := hd.on hb0
  have HB0 : Hid (Below _ _ _) := hb0
  have HBR0 : Hid (Blk2 _ _ _ _) := bR
  clear hd hb0 bR bS
  go_enter Tryz.func77, Tryz.ntmps77
  go_wp2_with fail
  generalize (w.alloc (.cells #[.slice a ns.length c] 24)).alloc (.cells #[.slice none 0 0, .slice none 0 0] 59) = w0 at *
  refine (part_any _ ns 0 _ HD.out).mono ?_
  rintro e w1 ⟨v1, rfl, hd1, hb1⟩
  obtain ⟨a1, c1, rfl⟩ := hd1.form
  have HD1 : Hid (DocAt _ _ _) := hd1
  have HBR : Hid (Blk2 _ _ _ _) := Blk2.on HBR0.out hb1
  have HBA : Hid (Below w.heap.size w w1) := below_trans HB0.out hb1
  clear hd1 hb1
  generalize hP : partOf ns 0 = P at HD1 ⊢
  generalize hC : checkAtOf ns 0 = C
  have HPe : Hid _ := hP
  have HCe : Hid _ := hC
  clear hP hC
  go_wp2_with fail
  refine (indexed_any _ P C _ HD1.out).mono ?_
  rintro e wz ⟨vz, rfl, hpz, hbz⟩
  obtain ⟨a8, c8, a9, c9, rfl, hd8, he9⟩ := hpz
  have HBz : Hid (Below w.heap.size w wz) := below_trans HBA.out hbz
  have bRz := Blk2.on HBR.out hbz
  obtain ⟨⟨r0, r1⟩, fR⟩ := bRz.facts
  obtain ⟨p1, p2⟩ := PgAt.box hd8 he9 bRz
  obtain ⟨⟨q0, q1⟩, _⟩ := p2.facts
  have HP1 : Hid (PgAt _ _ _ _) := p1
  have HQ0 : Hid _ := q0
  have HQ1 : Hid _ := q1
  clear p1 p2 q0 q1 hd8 he9 bRz hbz
  generalize hD : pgDoc C P = D at HP1 HQ0 HQ1 ⊢
  generalize hI : pgIdx C P = I at HP1 HQ0 HQ1 ⊢
  generalize hE : pgErr C P = EE at *
  have HDe : Hid _ := hD
  have HIe : Hid _ := hI
  have HEe : Hid _ := hE
  clear hD hI hE
  go_wp2
  have q0 := HQ0.out
  have q1 := HQ1.out
  exact bodyPost_ret (v := .tuple #[.agg #[.slice a8 D.length c8, .slice a9 I.length c9], .int .i64 EE]) (by simp [results, Tryz.results77, go_sem, q0, q1]) rfl
    ⟨_, by rw [HPe.out, HCe.out, HEe.out], by rw [HPe.out, HCe.out, HDe.out, HIe.out]; exact HP1.out, (HBz.out.setCell (p := ⟨w.heap.size + 1, 0, none⟩) (by first | (simp; done) | (simp; omega)) _).setCell (p := ⟨w.heap.size + 1, 1, none⟩) (by first | (simp; done) | (simp; omega)) _⟩
end Go.Proofs.YtagobgjlhdbhmaaGreatDoor
/-
  The page that the laws begin with.
-/
namespace Go.Proofs.YtagobgjlhdbhmaaGreatDoor
open Go.RowKit

theorem s_chk : Pl.checkDoc smallNs = 0 := by kernel_rfl
theorem s_at : checkAtOf smallNs 0 = 0 := by kernel_rfl
theorem s_part : partOf smallNs 0 = smallNs := by kernel_rfl
theorem s_err : pgErr (checkAtOf smallNs 0) (partOf smallNs 0) = 0 := by rw [s_at, s_part]; unfold pgErr; rw [if_pos rfl, s_chk]
theorem s_doc : pgDoc (checkAtOf smallNs 0) (partOf smallNs 0) = smallNs := by rw [s_at, s_part]; unfold pgDoc; rw [if_pos rfl, s_chk]; rfl
theorem s_idx : pgIdx (checkAtOf smallNs 0) (partOf smallNs 0) = Pl.idxAns smallNs := by rw [s_at, s_part]; unfold pgIdx; rw [if_pos rfl]
set_option maxRecDepth 100000 in
set_option maxHeartbeats 2000000 in
theorem page_any (w : World) : Calls Tryz.prog 52 #[] w fun e w' => ∃ v, e = .returned v ∧ PgAt w' v smallNs (Pl.idxAns smallNs) ∧ Below w.heap.size w w' := by
  have bR := Blk2.new w (.slice none 0 0) (.slice none 0 0)
  have HB0 : Hid (Below w.heap.size w (w.alloc (.cells #[.slice none 0 0, .slice none 0 0] 59))) := on_alloc _ _
  have HBR0 : Hid (Blk2 _ _ _ _) := bR
  clear bR
  go_enter Tryz.func52, Tryz.ntmps52
  go_wp2_with fail
  generalize w.alloc (.cells #[.slice none 0 0, .slice none 0 0] 59) = w0 at *
  refine (small_any _).mono ?_
  rintro e w1 ⟨v1, rfl, hd1, hb1⟩
  have HD1 : Hid (DocAt _ _ _) := hd1
  have HBR1 : Hid (Blk2 _ _ _ _) := Blk2.on HBR0.out hb1
  have HB1 : Hid (Below w.heap.size w w1) := below_trans HB0.out hb1
  clear hd1 hb1 HBR0 HB0
  go_wp2_with fail
  refine (open_any _ smallNs _ HD1.out).mono ?_
  rintro e wy ⟨vz, rfl, hpz, hbz⟩
  rw [s_err]
  rw [s_doc, s_idx] at hpz
  obtain ⟨a8, c8, a9, c9, rfl, hd8, he9⟩ := hpz
  generalize hsm : smallNs = S at *
  generalize hI : Pl.idxAns S = I at *
  have hba := on_alloc wy (.cells #[.slice a8 S.length c8, .slice a9 I.length c9] 59)
  have HBz : Hid (Below w.heap.size w (wy.alloc (.cells #[.slice a8 S.length c8, .slice a9 I.length c9] 59))) := below_trans (below_trans HB1.out hbz) hba
  have bRz := Blk2.on (Blk2.on HBR1.out hbz) hba
  obtain ⟨⟨r0, r1⟩, fR⟩ := bRz.facts
  obtain ⟨p1, p2⟩ := PgAt.box (hd8.on hba) (he9.on hba) bRz
  obtain ⟨⟨q0, q1⟩, _⟩ := p2.facts
  have HP1 : Hid (PgAt _ _ _ _) := p1
  have HQ0 : Hid _ := q0
  have HQ1 : Hid _ := q1
  clear p1 p2 q0 q1 hd8 he9 bRz hbz hba HD1 HBR1 HB1
  have HS : Hid _ := hsm
  have HI : Hid _ := hI
  clear hsm hI
  go_wp2
  have q0 := HQ0.out
  have q1 := HQ1.out
  exact bodyPost_ret (v := .agg #[.slice a8 S.length c8, .slice a9 I.length c9]) (by simp [results, Tryz.results52, go_sem, q0, q1]) rfl
    ⟨_, rfl, by rw [HS.out, HI.out]; exact HP1.out, (HBz.out.setCell (p := ⟨w.heap.size, 0, none⟩) (by first | (simp; done) | (simp; omega)) _).setCell (p := ⟨w.heap.size, 1, none⟩) (by first | (simp; done) | (simp; omega)) _⟩
end Go.Proofs.YtagobgjlhdbhmaaGreatDoor
