/-
  What the document says of a path.
-/
import Derived.Test.YtagobgjlhdbhmaaGreatDoorRmF
import Derived.Deep.RegionLaw
import Derived.Deep.DeepCutAuto
namespace Go.Proofs.YtagobgjlhdbhmaaGreatDoor
open Go.RowKit

theorem RowAt.cap {β : Type} {E : World → Nat → Nat → β → Prop} {k : Nat} {w : World} {a : Option Addr} {n c : Nat} {l : List β} (h : RowAt E k w (.slice a n c) l) : n = l.length ∧ l.length ≤ c ∧ c ≤ maxLen := by
  obtain ⟨a', c', e, h, _⟩ := h
  injection e with e1 e2 e3
  subst e2 e3
  exact ⟨rfl, h⟩
/-- the first ones of a row -/
theorem RowAt.take {β : Type} {E : World → Nat → Nat → β → Prop} {k : Nat} {w : World} {a : Option Addr} {n c : Nat} {l : List β} (h : RowAt E k w (.slice a n c) l) (j : Nat) (hj : j ≤ l.length) : RowAt E k w (.slice a j c) (l.take j) := by
  obtain ⟨a', c', e, hf, h⟩ := h
  injection e with e1 e2 e3
  subst e1 e2 e3
  have hl : (l.take j).length = j := by simp; omega
  refine ⟨a, c, by rw [hl], ⟨by omega, hf.2⟩, ?_⟩
  rcases h with rfl | ⟨b, o, ha, hc⟩
  · exact Or.inl (by simp)
  · exact Or.inr ⟨b, o, ha, fun i hi => by
      rw [hl] at hi
      simpa using hc i (by omega)⟩
theorem on8 {W W' : World} {p1 p2 p3 p4 p5 p6 p7 p8 : Addr} {u1 u2 u3 u4 u5 u6 u7 u8 : Value} (h : W.cell? p1 = some u1 ∧ W.cell? p2 = some u2 ∧ W.cell? p3 = some u3 ∧ W.cell? p4 = some u4 ∧ W.cell? p5 = some u5 ∧ W.cell? p6 = some u6 ∧ W.cell? p7 = some u7 ∧ W.cell? p8 = some u8) (hb : Below W.heap.size W W') : W'.cell? p1 = some u1 ∧ W'.cell? p2 = some u2 ∧ W'.cell? p3 = some u3 ∧ W'.cell? p4 = some u4 ∧ W'.cell? p5 = some u5 ∧ W'.cell? p6 = some u6 ∧ W'.cell? p7 = some u7 ∧ W'.cell? p8 = some u8 :=
  ⟨cell_on hb h.1, cell_on hb h.2.1, cell_on hb h.2.2.1, cell_on hb h.2.2.2.1, cell_on hb h.2.2.2.2.1, cell_on hb h.2.2.2.2.2.1, cell_on hb h.2.2.2.2.2.2.1, cell_on hb h.2.2.2.2.2.2.2⟩
theorem on5 {W W' : World} {p1 p2 p3 p4 p5 : Addr} {u1 u2 u3 u4 u5 : Value} (h : W.cell? p1 = some u1 ∧ W.cell? p2 = some u2 ∧ W.cell? p3 = some u3 ∧ W.cell? p4 = some u4 ∧ W.cell? p5 = some u5) (hb : Below W.heap.size W W') : W'.cell? p1 = some u1 ∧ W'.cell? p2 = some u2 ∧ W'.cell? p3 = some u3 ∧ W'.cell? p4 = some u4 ∧ W'.cell? p5 = some u5 :=
  ⟨cell_on hb h.1, cell_on hb h.2.1, cell_on hb h.2.2.1, cell_on hb h.2.2.2.1, cell_on hb h.2.2.2.2⟩
/-- the boxes of pathMatches: the document, the path, the step -/
structure QsB (w W : World) (dv vs vk : Value) (tag : List UInt8) (vt : Value) : Prop where
  d : W.cell? ⟨w.heap.size, 0, none⟩ = some dv
  p0 : W.cell? ⟨w.heap.size + 1, 0, none⟩ = some vs
  p1 : W.cell? ⟨w.heap.size + 1, 1, none⟩ = some vk
  s0 : W.cell? ⟨w.heap.size + 1 + 1, 0, none⟩ = some (.string ⟨tag.toArray⟩)
  s1 : W.cell? ⟨w.heap.size + 1 + 1, 1, none⟩ = some vt
theorem QsB.on {w W W' : World} {dv vs vk : Value} {tag : List UInt8} {vt : Value} (h : QsB w W dv vs vk tag vt) (hb : Below W.heap.size W W') : QsB w W' dv vs vk tag vt := ⟨cell_on hb h.d, cell_on hb h.p0, cell_on hb h.p1, cell_on hb h.s0, cell_on hb h.s1⟩
theorem blk2d {W : World} {N : Nat} {T : TypeId} {u0 u1 : Value} (h : W.heap[N]? = some (.cells #[u0, u1] T)) : W.cell? ⟨N, 0, none⟩ = some u0 ∧ W.cell? ⟨N, 1, none⟩ = some u1 := by
  refine ⟨?_, ?_⟩ <;> simp [World.cell?, h]
theorem frz {W : World} {N : Nat} {T : TypeId} {c : Array Value} (h : W.heap[N]? = some (.cells c T)) (i : Nat) : W.frozen? ⟨N, i, none⟩ = false := by simp [World.frozen?, h]
theorem stpM_tag {α : Type} {ns : List Pl.Nd} {g : List α → Nat → Bool} {tag : List UInt8} {ts : List (Pl.Tst α)} {n : Nat} (h : tag.isEmpty = false) (h2 : (tag == tagAt ns n) = false) : stpM ns g ⟨tag, ts⟩ n = false := by
  unfold stpM
  dsimp only
  rw [h, h2]
  rfl
theorem stpM_no {α : Type} {ns : List Pl.Nd} {g : List α → Nat → Bool} {tag : List UInt8} {ts : List (Pl.Tst α)} {n j : Nat} (hj : j < ts.length) (h : tstM ns g ts[j] n = false) : stpM ns g ⟨tag, ts⟩ n = false := by
  unfold stpM
  dsimp only
  have : (ts.all fun t => tstM ns g t n) = false := by
    rw [Bool.eq_false_iff]
    intro e
    rw [List.all_eq_true] at e
    rw [e _ (List.getElem_mem hj)] at h
    cases h
  rw [this, Bool.and_false]
theorem stpM_yes {α : Type} {ns : List Pl.Nd} {g : List α → Nat → Bool} {tag : List UInt8} {ts : List (Pl.Tst α)} {n : Nat} (h : (tag.isEmpty || tag == tagAt ns n) = true) (h2 : ∀ j (hj : j < ts.length), tstM ns g ts[j] n = true) : stpM ns g ⟨tag, ts⟩ n = true := by
  unfold stpM
  dsimp only
  rw [h, Bool.true_and, List.all_eq_true]
  intro t ht
  obtain ⟨j, hj, rfl⟩ := List.getElem_of_mem ht
  exact h2 j hj
theorem pthM_no {α : Type} {ns : List Pl.Nd} {g : List α → Nat → Bool} {p : Pl.Pth α} {k n : Nat} (h : stpM ns g (stpAt p k) n = false) : pthM ns g p k n = false := by
  cases k with
  | zero => exact h
  | succ k => unfold pthM; rw [h]; rfl
set_option maxRecDepth 100000 in
set_option maxHeartbeats 16000000 in
theorem pathM_any {α : Type} {A : MemL α} (hA : IsL A) {g : List Pl.Nd → List α → Nat → Bool} {R : List α → Prop} (hm : RMs A g R) (p : Pl.Pth α) (hp : RP R p) (ns : List Pl.Nd) (b o cap : Nat) (k : Nat) :
    k < p.steps.length → ∀ (a1 : Option Addr) (cs : Nat) (ak : Option Addr) (ck : Nat) (n : Nat) (w : World), RD w b o ns → n < ns.length → RowAt (StpAt A) 2 w (.slice a1 (k + 1) cs) (p.steps.take (k + 1)) → RowAt IntAt 1 w (.slice ak k ck) (p.links.take k) →
    Calls Tryz.prog 45 #[.agg #[.slice (some ⟨b, o, none⟩) ns.length cap], .agg #[.slice a1 (k + 1) cs, .slice ak k ck], .int .i64 n] w fun e w' => e = .returned (.bool (pthM ns (g ns) p k n)) ∧ Below w.heap.size w w' := by
  induction k using Nat.strongRecOn with
  | _ k ih =>
  intro hk a1 cs ak ck n w hd hn hS hK
  have hl1 : (p.steps.take (k + 1)).length = k + 1 := by simp; omega
  obtain ⟨-, bs, os, rfl, hst⟩ := RowAt.at hS (by omega)
  have h1 := hst k (by omega)
  have e1 : (p.steps.take (k + 1))[k]'(by omega) = p.steps[k] := by simp
  rw [e1] at h1
  have hcS := RowAt.cap hS
  have hcK := RowAt.cap hK
  have hSt : RS R p.steps[k] := hp.2.2 _ (List.getElem_mem hk)
  have HST : Hid (stpAt p k = p.steps[k]) := by
    unfold Hid stpAt
    rw [List.getElem?_eq_getElem hk]
    rfl
  generalize p.steps[k] = st at *
  obtain ⟨tag, tests⟩ := st
  obtain ⟨vt, y0, y1, hrow⟩ := h1
  dsimp only at y0 y1 hrow
  obtain ⟨at_, ct, rfl⟩ := hrow.form
  obtain ⟨-, hts6, hRT⟩ := hSt
  dsimp only at hts6 hRT
  have hb1 := on_alloc w (.cells #[.slice (some ⟨b, o, none⟩) ns.length cap] 24)
  have hb2 := on_alloc (w.alloc (.cells #[.slice (some ⟨b, o, none⟩) ns.length cap] 24)) (.cells #[.slice (some ⟨bs, os, none⟩) (k + 1) cs, .slice ak k ck] 70)
  have hb3 := on_alloc ((w.alloc (.cells #[.slice (some ⟨b, o, none⟩) ns.length cap] 24)).alloc (.cells #[.slice (some ⟨bs, os, none⟩) (k + 1) cs, .slice ak k ck] 70)) (.cells #[.string ⟨tag.toArray⟩, .slice at_ tests.length ct] 67)
  have HB : Hid (Below w.heap.size w (((w.alloc (.cells #[.slice (some ⟨b, o, none⟩) ns.length cap] 24)).alloc (.cells #[.slice (some ⟨bs, os, none⟩) (k + 1) cs, .slice ak k ck] 70)).alloc (.cells #[.string ⟨tag.toArray⟩, .slice at_ tests.length ct] 67))) := below_trans (below_trans hb1 hb2) hb3
  have e2 := World.alloc_heap_new (w.alloc (.cells #[.slice (some ⟨b, o, none⟩) ns.length cap] 24)) (.cells #[.slice (some ⟨bs, os, none⟩) (k + 1) cs, .slice ak k ck] 70)
  have e3 := World.alloc_heap_new ((w.alloc (.cells #[.slice (some ⟨b, o, none⟩) ns.length cap] 24)).alloc (.cells #[.slice (some ⟨bs, os, none⟩) (k + 1) cs, .slice ak k ck] 70)) (.cells #[.string ⟨tag.toArray⟩, .slice at_ tests.length ct] 67)
  simp only [World.size_alloc] at e2 e3
  have HQ : Hid (QsB w (((w.alloc (.cells #[.slice (some ⟨b, o, none⟩) ns.length cap] 24)).alloc (.cells #[.slice (some ⟨bs, os, none⟩) (k + 1) cs, .slice ak k ck] 70)).alloc (.cells #[.string ⟨tag.toArray⟩, .slice at_ tests.length ct] 67)) (.slice (some ⟨b, o, none⟩) ns.length cap) (.slice (some ⟨bs, os, none⟩) (k + 1) cs) (.slice ak k ck) tag (.slice at_ tests.length ct)) := by
    obtain ⟨q0, q1⟩ := blk2d e2
    obtain ⟨r0, r1⟩ := blk2d e3
    exact ⟨cell_on hb3 (cell_on hb2 (by simp [go_sem])), cell_on hb3 q0, cell_on hb3 q1, r0, r1⟩
  have z0 := cell_on (below_trans hb1 hb2) y0
  have z1 := cell_on (below_trans hb1 hb2) y1
  have c1 := cell_on hb2 (cell_on (v := .slice (some ⟨b, o, none⟩) ns.length cap) (p := ⟨w.heap.size, 0, none⟩) (Below.refl _ _) (by simp [go_sem]))
  have g0 := (blk2d e2).1
  have HD0 : Hid (RD w b o ns) := hd
  have HROW : Hid (RowAt (TstAt A) 6 w (.slice at_ tests.length ct) tests) := hrow
  have HSS : Hid (RowAt (StpAt A) 2 w (.slice (some ⟨bs, os, none⟩) (k + 1) cs) (p.steps.take (k + 1))) := hS
  have HKK : Hid (RowAt IntAt 1 w (.slice ak k ck) (p.links.take k)) := hK
  have HIA : Hid (IsL A) := hA
  have HPS : Hid (∀ (t : Pl.Tst α) (x : Value) (W : World), RD W b o ns → TstV A W x t → RT R t → Calls Tryz.prog 12 #[.agg #[.slice (some ⟨b, o, none⟩) ns.length cap], x, .int .i64 n] W fun e w' => e = .returned (.bool (tstM ns (g ns) t n)) ∧ Below W.heap.size W w') := fun t x W h1 h2 h3 => passes_any hA hm b o cap ns x t n W h1 hn h2 h3
  have HRT : Hid (∀ t ∈ tests, RT R t) := hRT
  have HIH : Hid (∀ j, j < k → j < p.steps.length → ∀ (a1 : Option Addr) (cs : Nat) (ak : Option Addr) (ck : Nat) (n : Nat) (w : World), RD w b o ns → n < ns.length → RowAt (StpAt A) 2 w (.slice a1 (j + 1) cs) (p.steps.take (j + 1)) → RowAt IntAt 1 w (.slice ak j ck) (p.links.take j) → Calls Tryz.prog 45 #[.agg #[.slice (some ⟨b, o, none⟩) ns.length cap], .agg #[.slice a1 (j + 1) cs, .slice ak j ck], .int .i64 n] w fun e w' => e = .returned (.bool (pthM ns (g ns) p j n)) ∧ Below w.heap.size w w') := ih
  have HLL : Hid (p.links.length + 1 = p.steps.length) := hp.1.2.2
  have hcs : k + 1 ≤ cs ∧ cs ≤ maxLen := by have := hcS.2; rw [hl1] at this; exact this
  have hck : k ≤ ck ∧ ck ≤ maxLen := by
    have h1 := hcK.2
    have h2 := hcK.1
    rw [← h2] at h1
    exact h1
  unfold maxLen at hcs hck
  have hk5 : k ≤ 4 := by have := hp.1.2.1; omega
  have i1 : (0 : Int) ≤ (n : Int) := by omega
  have i2 : (n : Int) < (ns.length : Int) := by omega
  have i3 : ((k + 1 : Nat) : Int) - 1 = (k : Int) := by omega
  have i4 : (k : Int) + 1 - 1 = (k : Int) := by omega
  have i5 : (0 : Int) ≤ (k : Int) := by omega
  have i6 : (k : Int) < ((k + 1 : Nat) : Int) := by omega
  have i7 : (k : Int) < (k : Int) + 1 := by omega
  have n1 : (((w.alloc (.cells #[.slice (some ⟨b, o, none⟩) ns.length cap] 24)).alloc (.cells #[.slice (some ⟨bs, os, none⟩) (k + 1) cs, .slice ak k ck] 70)).alloc (.cells #[.string ⟨tag.toArray⟩, .slice at_ tests.length ct] 67)).cell? ⟨b, o + n * 5 + 1, none⟩ = some (.string ⟨(tagAt ns n).toArray⟩) := by
    obtain ⟨vc, va, m0, m1, m2, m3, m4, _⟩ := hd.at_ n hn
    rw [(at_parts hn).1]
    exact cell_on HB.out m1
  have h64 := hd.n64
  clear hb1 hb2 hb3 e2 e3 y0 y1 hS hK hrow hA hm hRT hd hst hcS hcK ih hl1 e1 hp
  go_enter Tryz.func45, Tryz.ntmps45
  go_wp2_with fail
  clear z0 z1 c1 g0
  generalize ((w.alloc (.cells #[.slice (some ⟨b, o, none⟩) ns.length cap] 24)).alloc (.cells #[.slice (some ⟨bs, os, none⟩) (k + 1) cs, .slice ak k ck] 70)).alloc (.cells #[.string ⟨tag.toArray⟩, .slice at_ tests.length ct] 67) = W at *
  obtain ⟨d0, -, -, s0, s1⟩ := id HQ.out
  by_cases htag : (tag.isEmpty || tag == tagAt ns n) = true
  case neg =>
    have hne : tag.isEmpty = false := by
      cases h : tag.isEmpty with
      | false => rfl
      | true => rw [h] at htag; simp at htag
    have hnt : (tag == tagAt ns n) = false := by
      cases h : (tag == tagAt ns n) with
      | false => rfl
      | true => rw [h] at htag; simp at htag
    have HN : Hid (pthM ns (g ns) p k n = false) := pthM_no (by rw [HST.out]; exact stpM_tag hne hnt)
    generalize tagAt ns n = tg at *
    have he2 : ¬ (⟨tag.toArray⟩ : ByteArray) = ⟨tg.toArray⟩ := fun e => by
      have := congrArg (fun x : ByteArray => x.data.toList) e
      simp at this
      rw [this] at hnt
      simp at hnt
    clear htag
    go_quiet (fail)
    go_wp2
    go_ret
    exact ⟨by rw [HN.out]; rfl, below_drewN HB.out _⟩
  case pos =>
    have HYES : Hid ((∀ j (hj : j < tests.length), tstM ns (g ns) tests[j] n = true) → stpM ns (g ns) ⟨tag, tests⟩ n = true) := fun h => stpM_yes htag h
    go_cut [34] (fun s34 wx => s34 = .bool false ∧ Hid (Below W.heap.size W wx))
    case first =>
      cases hte : tag.isEmpty
      case true =>
        clear htag
        go_quiet (fail)
        go_wp2_with fail
        go_meet
        exact ⟨rfl, below_drewN (Below.refl _ _) _⟩
      case false =>
        have e : tagAt ns n = tag := by
          rw [hte, Bool.false_or] at htag
          exact (by simpa using htag : tag = tagAt ns n).symm
        rw [e] at n1
        clear htag e
        go_quiet (fail)
        go_wp2_with fail
        go_meet
        exact ⟨rfl, below_drewN (Below.refl _ _) _⟩
    case rest =>
      obtain ⟨rfl, HBC⟩ := hcut
      clear n1 htag
      go_wp2_with fail
      clear d0 s0 s1
      go_loopw [9] (fun i wr => ∃ j : Nat, j ≤ tests.length ∧ i = .int .i64 j ∧ Hid (∀ i (h : i < tests.length), i < j → tstM ns (g ns) tests[i] n = true) ∧ Hid (Below W.heap.size W wr)) (fun i _ => tests.length - (intOf i).toNat)
      case atStart => exact ⟨0, Nat.zero_le _, rfl, fun i _ h => by omega, HBC⟩
      case round =>
        obtain ⟨j, hj, rfl, HDN, HBR⟩ := hrel
        obtain ⟨d0, p0, p1, s0, s1⟩ := HQ.out.on HBR.out
        have HBW : Hid (Below w.heap.size w wr) := below_trans HB.out HBR.out
        by_cases hlt : j < tests.length
        · obtain ⟨-, bt, ot, rfl, hcells⟩ := RowAt.at HROW.out (by omega)
          obtain ⟨vt1, t0, t1, t2, t3, t4, t5, hA5⟩ := hcells j hlt
          obtain ⟨al, cl, rfl, -⟩ := HIA.out.form hA5
          have HC := HPS.out tests[j] (.agg #[.int .i64 tests[j].kind, .string ⟨tests[j].name.toArray⟩, .string ⟨tests[j].value.toArray⟩, .int .i64 tests[j].a, .int .i64 tests[j].b, .slice al tests[j].list.length cl]) wr.drew ((HD0.out.on HBW.out).on (Below.refl _ wr).drew) ⟨_, rfl, HIA.out.on hA5 HBW.out.drew⟩ (HRT.out _ (List.getElem_mem hlt))
          have S0 : wr.drew.cell? ⟨w.heap.size, 0, none⟩ = some (.slice (some ⟨b, o, none⟩) ns.length cap) ∧ wr.drew.cell? ⟨w.heap.size + 1 + 1, 1, none⟩ = some (.slice (some ⟨bt, ot, none⟩) tests.length ct) ∧ wr.drew.cell? ⟨bt, ot + j * 6, none⟩ = some (.int .i64 tests[j].kind) ∧ wr.drew.cell? ⟨bt, ot + j * 6 + 1, none⟩ = some (.string ⟨tests[j].name.toArray⟩) ∧ wr.drew.cell? ⟨bt, ot + j * 6 + 2, none⟩ = some (.string ⟨tests[j].value.toArray⟩) ∧ wr.drew.cell? ⟨bt, ot + j * 6 + 3, none⟩ = some (.int .i64 tests[j].a) ∧ wr.drew.cell? ⟨bt, ot + j * 6 + 4, none⟩ = some (.int .i64 tests[j].b) ∧ wr.drew.cell? ⟨bt, ot + j * 6 + 5, none⟩ = some (.slice al tests[j].list.length cl) := ⟨d0, s1, cell_on HBW.out.drew t0, cell_on HBW.out.drew t1, cell_on HBW.out.drew t2, cell_on HBW.out.drew t3, cell_on HBW.out.drew t4, cell_on HBW.out.drew t5⟩
          have j1 : (0 : Int) ≤ (j : Int) := by omega
          have j2 : (j : Int) < (tests.length : Int) := by omega
          cases htm : tstM ns (g ns) tests[j] n with
          | false =>
            have HN : Hid (pthM ns (g ns) p k n = false) := pthM_no (by rw [HST.out]; exact stpM_no hlt htm)
            rw [htm] at HC
            have HC2 : Hid (Calls Tryz.prog 12 _ _ _) := HC
            clear HC htm t0 t1 t2 t3 t4 t5 hA5 hcells p0 p1 s0
            generalize tests[j] = tt at *
            go_wp2_with fail
            clear d0 s1
            go_region_held3 (fun w' => w'.cell? ⟨w.heap.size, 0, none⟩ = some (.slice (some ⟨b, o, none⟩) ns.length cap) ∧ w'.cell? ⟨w.heap.size + 1 + 1, 1, none⟩ = some (.slice (some ⟨bt, ot, none⟩) tests.length ct) ∧ w'.cell? ⟨bt, ot + j * 6, none⟩ = some (.int .i64 tt.kind) ∧ w'.cell? ⟨bt, ot + j * 6 + 1, none⟩ = some (.string ⟨tt.name.toArray⟩) ∧ w'.cell? ⟨bt, ot + j * 6 + 2, none⟩ = some (.string ⟨tt.value.toArray⟩) ∧ w'.cell? ⟨bt, ot + j * 6 + 3, none⟩ = some (.int .i64 tt.a) ∧ w'.cell? ⟨bt, ot + j * 6 + 4, none⟩ = some (.int .i64 tt.b) ∧ w'.cell? ⟨bt, ot + j * 6 + 5, none⟩ = some (.slice al tt.list.length cl)) (first | with_reducible assumption | exact on8 (by with_reducible assumption) (by with_reducible assumption))
              (first | (go_at_call 12; refine HC2.out.mono ?_; rintro e w2 ⟨rfl, hb2⟩))
            all_goals
              have HB2 : Hid (Below w.heap.size w w2) := below_trans HBW.out.drew hb2
              clear hb2 S0
              go_wp2
              go_ret
              exact ⟨by rw [HN.out]; rfl, HB2.out⟩
          | true =>
            have HDN2 : Hid (∀ i (h : i < tests.length), i < j + 1 → tstM ns (g ns) tests[i] n = true) := by
              intro i h hi
              by_cases e : i = j
              · subst e
                exact htm
              · exact HDN.out i h (by omega)
            rw [htm] at HC
            have HC2 : Hid (Calls Tryz.prog 12 _ _ _) := HC
            clear HC htm t0 t1 t2 t3 t4 t5 hA5 hcells p0 p1 s0
            generalize tests[j] = tt at *
            go_wp2_with fail
            clear d0 s1
            go_region_held3 (fun w' => w'.cell? ⟨w.heap.size, 0, none⟩ = some (.slice (some ⟨b, o, none⟩) ns.length cap) ∧ w'.cell? ⟨w.heap.size + 1 + 1, 1, none⟩ = some (.slice (some ⟨bt, ot, none⟩) tests.length ct) ∧ w'.cell? ⟨bt, ot + j * 6, none⟩ = some (.int .i64 tt.kind) ∧ w'.cell? ⟨bt, ot + j * 6 + 1, none⟩ = some (.string ⟨tt.name.toArray⟩) ∧ w'.cell? ⟨bt, ot + j * 6 + 2, none⟩ = some (.string ⟨tt.value.toArray⟩) ∧ w'.cell? ⟨bt, ot + j * 6 + 3, none⟩ = some (.int .i64 tt.a) ∧ w'.cell? ⟨bt, ot + j * 6 + 4, none⟩ = some (.int .i64 tt.b) ∧ w'.cell? ⟨bt, ot + j * 6 + 5, none⟩ = some (.slice al tt.list.length cl)) (first | with_reducible assumption | exact on8 (by with_reducible assumption) (by with_reducible assumption))
              (first | (go_at_call 12; refine HC2.out.mono ?_; rintro e w2 ⟨rfl, hb2⟩))
            all_goals
              have HB2 : Hid (Below W.heap.size W w2) := below_trans HBR.out.drew hb2
              clear hb2 S0
              go_wp2
              exact ⟨⟨j + 1, by omega, by go_num, HDN2, HB2⟩, by simp [intOf]; omega⟩
        · have HY : Hid (stpM ns (g ns) (stpAt p k) n = true) := by
            unfold Hid
            rw [HST.out]
            exact HYES.out fun i h => HDN.out i h (by omega)
          by_cases hk0 : k = 0
          · have HT : Hid (pthM ns (g ns) p k n = true) := by
              unfold Hid
              rw [hk0]
              rw [hk0] at HY
              exact HY.out
            have hkb : ((k : Int) == 0) = true := by simp [hk0]
            clear hk0
            go_wp2_with fail
            go_ret
            exact ⟨by rw [HT.out]; rfl, HBW.out⟩
          · have hkb : ((k : Int) == 0) = false := by simpa using hk0
            obtain ⟨q, hq⟩ : ∃ q, q + 1 = k := ⟨k - 1, by omega⟩
            have HE : Hid (pthM ns (g ns) p k n = (List.range n).any fun m => reach ns (lnkAt p q) m n && pthM ns (g ns) p q m) := by
              unfold Hid
              rw [← hq] at HY ⊢
              show (stpM ns (g ns) (stpAt p (q + 1)) n && _) = _
              rw [HY.out, Bool.true_and]
            have HQK : Hid (q + 1 = k) := hq
            have q1 : (k : Int) - 1 = (q : Int) := by omega
            have q5 : IntKind.i64.wrap ((k : Int) - 1) = (q : Int) := by rw [q1]; exact IntWalk.i64_in _ ⟨by omega, by omega⟩
            have q6 : IntKind.i64.wrap (q : Int) = (q : Int) := IntWalk.i64_in _ ⟨by omega, by omega⟩
            obtain ⟨-, bk, ok, rfl, hkc⟩ := RowAt.at HKK.out (by have := HLL.out; simp; omega)
            have q2 : (0 : Int) ≤ (q : Int) := by omega
            have q3 : (q : Int) ≤ (ck : Int) := by omega
            have q4 : (k : Int) ≤ (cs : Int) := by omega
            have hba := on_alloc wr (.cells #[.slice none 0 0, .slice none 0 0] 70)
            have p0a := cell_on hba p0
            have p1a := cell_on hba p1
            have X := World.alloc_heap_new wr (.cells #[.slice none 0 0, .slice none 0 0] 70)
            obtain ⟨xa, xb⟩ := blk2d X
            have xf : ∀ i, (wr.alloc (.cells #[.slice none 0 0, .slice none 0 0] 70)).frozen? ⟨wr.heap.size, i, none⟩ = false := fun i => frz X i
            have xf0 := xf 0
            have xf1 := xf 1
            clear hk0 hq s0 xf X hba
            go_wp2_with fail
            have hlk : lnkAt p q = (p.links.take k)[q]'(by have := HLL.out; have := HQK.out; simp; omega) := by
              unfold lnkAt
              rw [List.getElem?_eq_getElem (by have := HLL.out; have := HQK.out; omega)]
              simp
            have lc : w.cell? ⟨bk, ok + q, none⟩ = some (.int .i64 (lnkAt p q)) := by
              rw [hlk]
              have h1 := hkc q (by have := HLL.out; have := HQK.out; simp; omega)
              unfold IntAt at h1
              rw [Nat.mul_one] at h1
              exact h1
            have HLC : Hid (w.cell? ⟨bk, ok + q, none⟩ = some (.int .i64 (lnkAt p q))) := lc
            have HR : Hid (∀ (m : Nat) (W : World), Below w.heap.size w W → Calls Tryz.prog 66 #[.agg #[.slice (some ⟨b, o, none⟩) ns.length cap], .int .i64 (lnkAt p q), .int .i64 m, .int .i64 n] W fun e w' => e = .returned (.bool (reach ns (lnkAt p q) m n)) ∧ Below W.heap.size W w') := fun m W hW => reaches_any b o cap ns (lnkAt p q) m n W (HD0.out.on hW) hn
            have HIW : Hid (∀ (m : Nat) (W : World), m < n → Below w.heap.size w W → Calls Tryz.prog 45 #[.agg #[.slice (some ⟨b, o, none⟩) ns.length cap], .agg #[.slice (some ⟨bs, os, none⟩) k cs, .slice (some ⟨bk, ok, none⟩) q ck], .int .i64 m] W fun e w' => e = .returned (.bool (pthM ns (g ns) p q m)) ∧ Below W.heap.size W w') := fun m W hm hW => by
              have hqk := HQK.out
              have h1 := HSS.out.take (q + 1) (by simp; omega)
              have h2 := HKK.out.take q (by have := HLL.out; simp; omega)
              rw [List.take_take, Nat.min_eq_left (by omega)] at h1 h2
              have := HIH.out q (by omega) (by omega) (some ⟨bs, os, none⟩) cs (some ⟨bk, ok, none⟩) ck m W (HD0.out.on hW) (by omega) (h1.map fun b o x hx => hx.on HIA.out hW) (h2.map fun b o x hx => cell_on hW hx)
              rw [hqk] at this
              exact this
            clear hlk lc hkc xa xb
            generalize lnkAt p q = lk at *
            go_cut [10] (fun s10 wx => s10 = .pointer (some ⟨wr.heap.size, 0, none⟩) ∧ wx = (wr.alloc (.cells #[.slice (some ⟨bs, os, none⟩) k cs, .slice (some ⟨bk, ok, none⟩) q ck] 70)).drew)
            case first =>
              go_region_law (fail)
              all_goals
                go_wp2_with fail
                go_meet
                exact ⟨rfl, rfl⟩
            case rest =>
              obtain ⟨rfl, rfl⟩ := hcut
              clear p0a p1a xf0 xf1
              have hbb := on_alloc wr (.cells #[.slice (some ⟨bs, os, none⟩) k cs, .slice (some ⟨bk, ok, none⟩) q ck] 70)
              obtain ⟨xa, xb⟩ := blk2d (World.alloc_heap_new wr (.cells #[.slice (some ⟨bs, os, none⟩) k cs, .slice (some ⟨bk, ok, none⟩) q ck] 70))
              have HBZ : Hid (Below w.heap.size w ((wr.alloc (.cells #[.slice (some ⟨bs, os, none⟩) k cs, .slice (some ⟨bk, ok, none⟩) q ck] 70)).drew)) := (below_trans HBW.out hbb).drew
              have HZ : Hid (((wr.alloc (.cells #[.slice (some ⟨bs, os, none⟩) k cs, .slice (some ⟨bk, ok, none⟩) q ck] 70)).drew).cell? ⟨w.heap.size, 0, none⟩ = some (.slice (some ⟨b, o, none⟩) ns.length cap) ∧ ((wr.alloc (.cells #[.slice (some ⟨bs, os, none⟩) k cs, .slice (some ⟨bk, ok, none⟩) q ck] 70)).drew).cell? ⟨w.heap.size + 1, 1, none⟩ = some (.slice (some ⟨bk, ok, none⟩) k ck) ∧ ((wr.alloc (.cells #[.slice (some ⟨bs, os, none⟩) k cs, .slice (some ⟨bk, ok, none⟩) q ck] 70)).drew).cell? ⟨bk, ok + q, none⟩ = some (.int .i64 lk) ∧ ((wr.alloc (.cells #[.slice (some ⟨bs, os, none⟩) k cs, .slice (some ⟨bk, ok, none⟩) q ck] 70)).drew).cell? ⟨wr.heap.size, 0, none⟩ = some (.slice (some ⟨bs, os, none⟩) k cs) ∧ ((wr.alloc (.cells #[.slice (some ⟨bs, os, none⟩) k cs, .slice (some ⟨bk, ok, none⟩) q ck] 70)).drew).cell? ⟨wr.heap.size, 1, none⟩ = some (.slice (some ⟨bk, ok, none⟩) q ck)) := ⟨cell_on hbb.drew d0, cell_on hbb.drew p1, cell_on HBZ.out HLC.out, xa, xb⟩
              clear xa xb hbb d0 p0 p1 s1
              go_wp2_with fail
              generalize (wr.alloc (.cells #[.slice (some ⟨bs, os, none⟩) k cs, .slice (some ⟨bk, ok, none⟩) q ck] 70)).drew = W2 at *
              generalize wr.heap.size = Na at *
              go_loopw [11] (fun i wr => ∃ m : Nat, m ≤ n ∧ i = .int .i64 m ∧ Hid (∀ j, j < m → (reach ns lk j n && pthM ns (g ns) p q j) = false) ∧ Hid (Below W2.heap.size W2 wr)) (fun i _ => n - (intOf i).toNat)
              case atStart => exact ⟨0, Nat.zero_le _, rfl, fun j hj => by omega, Below.refl _ _⟩
              case round =>
                obtain ⟨m, hmn, rfl, HDM, HBM⟩ := hrel
                have HBX : Hid (Below w.heap.size w wr) := below_trans HBZ.out HBM.out
                by_cases hlt2 : m < n
                · have S1 : wr.drew.cell? ⟨w.heap.size, 0, none⟩ = some (.slice (some ⟨b, o, none⟩) ns.length cap) ∧ wr.drew.cell? ⟨w.heap.size + 1, 1, none⟩ = some (.slice (some ⟨bk, ok, none⟩) k ck) ∧ wr.drew.cell? ⟨bk, ok + q, none⟩ = some (.int .i64 lk) ∧ wr.drew.cell? ⟨Na, 0, none⟩ = some (.slice (some ⟨bs, os, none⟩) k cs) ∧ wr.drew.cell? ⟨Na, 1, none⟩ = some (.slice (some ⟨bk, ok, none⟩) q ck) := on5 HZ.out HBM.out.drew
                  have HC1 := HR.out m wr.drew HBX.out.drew
                  have m1 : (q : Int) < (k : Int) := by have := HQK.out; omega
                  cases hre : reach ns lk m n with
                  | false =>
                    have HDM2 : Hid (∀ j, j < m + 1 → (reach ns lk j n && pthM ns (g ns) p q j) = false) := by
                      intro j hj
                      by_cases e : j = m
                      · subst e
                        rw [hre]
                        rfl
                      · exact HDM.out j (by omega)
                    rw [hre] at HC1
                    have HC1' : Hid (Calls Tryz.prog 66 _ _ _) := HC1
                    clear HC1 hre
                    go_wp2_with fail
                    obtain ⟨v1, v2, v3, v4, v5⟩ := id S1
                    first | go_region_law (first | (go_simp; go_at_call 66; refine HC1'.out.mono ?_; rintro e w5 ⟨rfl, hb5⟩; obtain ⟨z1, z2, z3, z4, z5⟩ := on5 S1 hb5)) | fail
                    all_goals
                      have HB5 : Hid (Below W2.heap.size W2 w5) := below_trans HBM.out.drew hb5
                      clear hb5 S1 v1 v2 v3 v4 v5
                      go_wp2
                      exact ⟨⟨m + 1, by omega, by go_num, HDM2, HB5⟩, by simp [intOf]; omega⟩
                  | true =>
                    rw [hre] at HC1
                    have HC1' : Hid (Calls Tryz.prog 66 _ _ _) := HC1
                    have HRE : Hid (reach ns lk m n = true) := hre
                    clear HC1 hre
                    have HC2 : ∀ W, Below w.heap.size w W → Calls Tryz.prog 45 _ W _ := fun W hW => HIW.out m W hlt2 hW
                    cases hpm : pthM ns (g ns) p q m with
                    | false =>
                      have HDM2 : Hid (∀ j, j < m + 1 → (reach ns lk j n && pthM ns (g ns) p q j) = false) := by
                        intro j hj
                        by_cases e : j = m
                        · subst e
                          rw [hpm, Bool.and_false]
                        · exact HDM.out j (by omega)
                      simp only [hpm] at HC2
                      have HC2' : Hid (∀ W, Below w.heap.size w W → Calls Tryz.prog 45 _ W _) := HC2
                      clear HC2 hpm
                      go_wp2_with fail
                      go_region_held3 (fun w' => w'.cell? ⟨w.heap.size, 0, none⟩ = some (.slice (some ⟨b, o, none⟩) ns.length cap) ∧ w'.cell? ⟨w.heap.size + 1, 1, none⟩ = some (.slice (some ⟨bk, ok, none⟩) k ck) ∧ w'.cell? ⟨bk, ok + q, none⟩ = some (.int .i64 lk) ∧ w'.cell? ⟨Na, 0, none⟩ = some (.slice (some ⟨bs, os, none⟩) k cs) ∧ w'.cell? ⟨Na, 1, none⟩ = some (.slice (some ⟨bk, ok, none⟩) q ck)) (first | with_reducible assumption | exact on5 (by with_reducible assumption) (by with_reducible assumption))
                        (first | (go_at_call 66; refine HC1'.out.mono ?_; rintro e w5 ⟨rfl, hb5⟩) | (go_at_call 45; refine (HC2'.out _ (below_trans HBX.out.drew hb5)).mono ?_; rintro e w6 ⟨rfl, hb6⟩))
                      all_goals
                        have HB6 : Hid (Below W2.heap.size W2 w6) := below_trans (below_trans HBM.out.drew hb5) hb6
                        clear hb5 hb6 S1
                        go_wp2
                        exact ⟨⟨m + 1, by omega, by go_num, HDM2, HB6⟩, by simp [intOf]; omega⟩
                    | true =>
                      have HTR : Hid (pthM ns (g ns) p k n = true) := by
                        unfold Hid
                        rw [HE.out]
                        exact any_some hlt2 (by rw [HRE.out, hpm]; rfl)
                      simp only [hpm] at HC2
                      have HC2' : Hid (∀ W, Below w.heap.size w W → Calls Tryz.prog 45 _ W _) := HC2
                      clear HC2 hpm
                      go_wp2_with fail
                      go_region_held3 (fun w' => w'.cell? ⟨w.heap.size, 0, none⟩ = some (.slice (some ⟨b, o, none⟩) ns.length cap) ∧ w'.cell? ⟨w.heap.size + 1, 1, none⟩ = some (.slice (some ⟨bk, ok, none⟩) k ck) ∧ w'.cell? ⟨bk, ok + q, none⟩ = some (.int .i64 lk) ∧ w'.cell? ⟨Na, 0, none⟩ = some (.slice (some ⟨bs, os, none⟩) k cs) ∧ w'.cell? ⟨Na, 1, none⟩ = some (.slice (some ⟨bk, ok, none⟩) q ck)) (first | with_reducible assumption | exact on5 (by with_reducible assumption) (by with_reducible assumption))
                        (first | (go_at_call 66; refine HC1'.out.mono ?_; rintro e w5 ⟨rfl, hb5⟩) | (go_at_call 45; refine (HC2'.out _ (below_trans HBX.out.drew hb5)).mono ?_; rintro e w6 ⟨rfl, hb6⟩))
                      all_goals
                        have HB6 : Hid (Below w.heap.size w w6) := below_trans (below_trans HBX.out.drew hb5) hb6
                        clear hb5 hb6 S1
                        go_wp2
                        go_ret
                        exact ⟨by rw [HTR.out]; rfl, HB6.out⟩
                · have HFL : Hid (pthM ns (g ns) p k n = false) := by
                    unfold Hid
                    rw [HE.out]
                    exact any_none fun j hj => HDM.out j (by omega)
                  go_wp2
                  go_ret
                  exact ⟨by rw [HFL.out]; rfl, HBX.out⟩
end Go.Proofs.YtagobgjlhdbhmaaGreatDoor
