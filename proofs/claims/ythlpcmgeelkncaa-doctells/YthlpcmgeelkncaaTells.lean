/-
  The law of what the document's calls tell, walked.
-/
import Derived.Test.YthlpcmgeelkncaaRefP
import Derived.Test.YthlpcmgeelkncaaBegun
import Derived.Test.YthlpcmgeelkncaaBox
namespace Go.Proofs.Ythlpcmgeelkncaa
open Go.RowKit

theorem uno_on {t W w' : World} {p0 : Addr} {v0 : Value} (h : W.cell? p0 = some v0 ∧ Below t.heap.size t W) (hb : Below W.heap.size W w') : w'.cell? p0 = some v0 ∧ Below t.heap.size t w' := ⟨cell_on hb h.1, below_trans h.2 hb⟩
theorem uno_set {t W : World} {b0 o0 M i : Nat} {v0 u : Value} (h0 : b0 < M) (hM : t.heap.size ≤ M) (h : W.cell? ⟨b0, o0, none⟩ = some v0 ∧ Below t.heap.size t W) : (W.setCell ⟨M, i, none⟩ u).cell? ⟨b0, o0, none⟩ = some v0 ∧ Below t.heap.size t (W.setCell ⟨M, i, none⟩ u) :=
  ⟨cell_set h.1 (by omega), h.2.setCell (p := ⟨M, i, none⟩) hM u⟩
theorem uno_last {t W : World} {p0 : Addr} {v0 : Value} (h : W.cell? p0 = some v0 ∧ Below t.heap.size t W) : Below t.heap.size t W := h.2
theorem tri_on {t W w' : World} {p0 p1 p2 : Addr} {v0 v1 v2 : Value} (h : W.cell? p0 = some v0 ∧ W.cell? p1 = some v1 ∧ W.cell? p2 = some v2 ∧ Below t.heap.size t W) (hb : Below W.heap.size W w') : w'.cell? p0 = some v0 ∧ w'.cell? p1 = some v1 ∧ w'.cell? p2 = some v2 ∧ Below t.heap.size t w' := ⟨cell_on hb h.1, cell_on hb h.2.1, cell_on hb h.2.2.1, below_trans h.2.2.2 hb⟩
theorem tri_last {t W : World} {p0 p1 p2 : Addr} {v0 v1 v2 : Value} (h : W.cell? p0 = some v0 ∧ W.cell? p1 = some v1 ∧ W.cell? p2 = some v2 ∧ Below t.heap.size t W) : Below t.heap.size t W := h.2.2.2
theorem IntsF.on {B : Nat} {w w' : World} {v : Value} {l : List Nat} (h : IntsF B w v l) (hb : Below w.heap.size w w') : IntsF B w' v l := by
  obtain ⟨a, cap, rfl, h⟩ := h
  refine ⟨a, cap, rfl, ?_⟩
  rcases h with h | ⟨b, o, ha, hB, hc⟩
  · exact Or.inl h
  · exact Or.inr ⟨b, o, ha, hB, fun i hi => cell_on hb (hc i hi)⟩
theorem IntsF.set {B : Nat} {w : World} {v : Value} {l : List Nat} (h : IntsF B w v l) {M : Nat} (hM : M < B) (j : Nat) (u : Value) : IntsF B (w.setCell ⟨M, j, none⟩ u) v l := by
  obtain ⟨a, cap, rfl, h⟩ := h
  refine ⟨a, cap, rfl, ?_⟩
  rcases h with h | ⟨b, o, ha, hB, hc⟩
  · exact Or.inl h
  · exact Or.inr ⟨b, o, ha, hB, fun i hi => cell_set (hc i hi) (by omega)⟩
theorem IntsF.form {B : Nat} {w : World} {v : Value} {l : List Nat} (h : IntsF B w v l) : ∃ a c, v = .slice a l.length c := by
  obtain ⟨a, cap, rfl, _⟩ := h
  exact ⟨a, cap, rfl⟩

set_option maxRecDepth 100000 in
set_option maxHeartbeats 8000000 in
theorem tells_any (v : Value) (ns : List Pl.Nd) (n : Int) (w : World) (hd : DocAt w v ns) :
    Calls Try.prog 3 #[.agg #[v], .int .i64 n] w fun e w' => e = .returned (.bool true) ∧ Below w.heap.size w w' := by
  obtain ⟨a, cap, rfl⟩ := hd.form
  have hB := on_alloc w (.cells #[.slice a ns.length cap] 24)
  have D1 : Hid _ := DocAt.on hd hB
  have c5 : (w.alloc (.cells #[.slice a ns.length cap] 24)).cell? ⟨w.heap.size, 0, none⟩ = some (.slice a ns.length cap) := by simp [go_sem]
  clear hd
  go_enter Try.func3, Try.ntmps3
  go_wp2_with fail
  generalize w.alloc (.cells #[.slice a ns.length cap] 24) = w0 at *
  refine (kids_any _ ns n _ D1.out).mono ?_
  rintro e w1 ⟨vl, rfl, il, h1⟩
  obtain ⟨al, cl, rfl, _⟩ := id il
  have IL : Hid _ := il
  clear il
  replace D1 : Hid _ := DocAt.on D1.out h1
  replace c5 := cell_on h1 c5
  replace hB := below_trans hB h1
  clear h1
  rw [List.length_map]
  go_wp2_with fail
  refine (under_any _ ns n _ D1.out).mono ?_
  rintro e w2 ⟨rfl, h1⟩
  replace D1 : Hid _ := DocAt.on D1.out h1
  replace IL : Hid _ := IntsAt.on IL.out h1
  replace c5 := cell_on h1 c5
  replace hB := below_trans hB h1
  clear h1
  go_wp2_with fail
  refine (part_any _ ns n _ D1.out).mono ?_
  rintro e w3 ⟨vp, rfl, dp, h1⟩
  obtain ⟨ap, cp, rfl⟩ := dp.form
  have h2 := below_trans h1 (on_alloc w3 (.cells #[.slice ap (partOf ns n).length cp] 24))
  have p9 : (w3.alloc (.cells #[.slice ap (partOf ns n).length cp] 24)).cell? ⟨w3.heap.size, 0, none⟩ = some (.slice ap (partOf ns n).length cp) := by simp [go_sem]
  have DP : Hid _ := DocAt.on dp (on_alloc w3 (.cells #[.slice ap (partOf ns n).length cp] 24))
  replace D1 : Hid _ := DocAt.on D1.out h2
  replace IL : Hid _ := IntsAt.on IL.out h2
  replace c5 := cell_on h2 c5
  replace hB := below_trans hB h2
  clear h1 h2 dp
  go_wp2_with fail
  generalize w3.alloc (.cells #[.slice ap (partOf ns n).length cp] 24) = w4 at *
  refine (There_any _ ns n _ D1.out.2.2 D1.out.1).mono ?_
  rintro e w5 ⟨rfl, h1⟩
  replace D1 : Hid (DocAt w5 (.slice a ns.length cap) ns) := DocAt.on D1.out h1
  replace DP : Hid (DocAt w5 (.slice ap (partOf ns n).length cp) (partOf ns n)) := DocAt.on DP.out h1
  replace IL : Hid (IntsAt w5 (.slice al (kidsAns ns n).length cl) ((kidsAns ns n).map fun (k : Nat) => (k : Int))) := by have := IntsAt.on IL.out h1; rwa [List.length_map] at this
  replace c5 := cell_on h1 c5
  replace p9 := cell_on h1 p9
  replace hB := below_trans hB h1
  clear h1
  have k5 := cell_lt c5
  have hkl : (kidsAns ns n).length ≤ 64 := by
    unfold kidsAns
    split
    · rename_i h
      exact Nat.le_trans (Pl.kidsTo_len ns n ns.length) (check_zero (checkAt_zero h).1).2.1
    · simp
  replace hkl : ((kidsAns ns n).map fun (k : Nat) => (k : Int)).length ≤ 64 := by rw [List.length_map]; exact hkl
  by_cases hz : checkAtOf ns n = 0
  case' pos =>
    obtain ⟨hk0, N, rfl, hN⟩ := checkAt_zero hz
    obtain ⟨hl1, hl64, hok⟩ := check_zero hk0
    have hsh := check_short hk0
    have hgood := ((Pl.check_iff ns).1 hk0).2.2.2
    have hlow := Pl.okTo_low ns.length hok
    have eK : Hid (kidsAns ns N = Pl.kidsOf ns N) := by unfold Hid kidsAns; rw [if_pos hz]
    have eU : Hid (underAns ns N = (Pl.behind ns N : Int) - N - 1) := by unfold Hid underAns; rw [if_pos hz]; rfl
    have eP : Hid (partOf ns N = ((ns.drop N).take (Pl.behind ns N - N)).map (Pl.mvd (Pl.mvPart N))) := by unfold Hid partOf; rw [if_pos hz]; rfl
    obtain ⟨a', cap', e', hc⟩ := id D1.out.1
    injection e' with e1 e2 e3
    subst e1 e3
    rcases hc with h0 | ⟨b, o, rfl, hc⟩
    · subst h0; simp at hN
    rw [hz]
    have c14 : (w5.alloc (.cells #[.slice none 0 0] 24)).drew.cell? ⟨w5.heap.size, 0, none⟩ = some (.slice none 0 0) := by simp [go_sem]
    have f14 : (w5.alloc (.cells #[.slice none 0 0] 24)).drew.frozen? ⟨w5.heap.size, 0, none⟩ = false := by simp [go_sem]
    have S0 : (w5.alloc (.cells #[.slice none 0 0] 24)).drew.cell? ⟨w.heap.size, 0, none⟩ = some (.slice (some ⟨b, o, none⟩) ns.length cap) ∧ Below w5.heap.size w5 (w5.alloc (.cells #[.slice none 0 0] 24)).drew := ⟨cell_on (on_alloc _ _).drew c5, (on_alloc _ _).drew⟩
    have HC : Hid (∀ i (h : i < ns.length), NdAt w5 b (o + i * 5) ns[i]) := hc
    have HSH : Hid _ := hsh
    have HGO : Hid _ := hgood
    have HLO : Hid _ := hlow
    clear hc hsh hgood hlow hok e2
    go_wp2_with fail
    go_cut [12, 13] (fun s12 s13 wx => ∃ ak ck, s12 = .slice ak (kidsAns ns N).length ck ∧ s13 = .int .i64 (underAns ns N) ∧ Hid (BoxAt wx w5.heap.size (partOf ns N)) ∧ Hid (IntsAt wx (.slice ak (kidsAns ns N).length ck) ((kidsAns ns N).map fun (k : Nat) => (k : Int))) ∧ Hid (Below w5.heap.size w5 wx))
    case first =>
      go_region_held3 (fun w' => w'.cell? ⟨w.heap.size, 0, none⟩ = some (.slice (some ⟨b, o, none⟩) ns.length cap) ∧ Below w5.heap.size w5 w')
        (first | with_reducible assumption | exact uno_on (by with_reducible assumption) (by with_reducible assumption) | exact uno_set k5 (Nat.le_refl _) (by with_reducible assumption))
        (first | (go_at_call 13; refine (refKids_some b o cap ns _ _ hl64 (fun i hi => (HC.out i hi).on (uno_last (by with_reducible assumption)))).mono ?_; rintro e wk ⟨vk, rfl, hint, hbk⟩; replace f14 := (hbk.frozen (p := ⟨w5.heap.size, 0, none⟩) (cell_lt c14)).trans f14; replace hint := hint.mono (B' := w5.heap.size + 1) (cell_lt c14); replace c14 := cell_on hbk c14; (try replace dp := DocAt.on dp hbk); obtain ⟨ak, ck, rfl⟩ := hint.form) | (go_at_call 14; refine (refUnder_some b o cap ns N _ hN hl64 HGO.out HLO.out (fun i hi => (HC.out i hi).on (uno_last (by with_reducible assumption)))).mono ?_; rintro e wu ⟨rfl, hbu⟩; replace f14 := (hbu.frozen (p := ⟨w5.heap.size, 0, none⟩) (cell_lt c14)).trans f14; replace c14 := cell_on hbu c14; (try replace dp := DocAt.on dp hbu); (try replace hint := IntsF.on hint hbu); rw [← eU.out]) | (go_at_call 15; refine (refPart_some b o cap ns N _ hN hl64 HSH.out HGO.out HLO.out (fun i hi => (HC.out i hi).on (uno_last (by with_reducible assumption)))).mono ?_; rintro e wp ⟨vp, rfl, dp, far, hbp⟩; replace f14 := (hbp.frozen (p := ⟨w5.heap.size, 0, none⟩) (cell_lt c14)).trans f14; replace far := far.mono (B' := w5.heap.size + 1) (cell_lt c14); replace c14 := cell_on hbp c14; (try replace hint := IntsF.on hint hbp); rw [← eP.out] at dp; obtain ⟨aq, cq, rfl⟩ := dp.form))
      all_goals
        have hwx := uno_last (by with_reducible assumption)
        go_wp2_with fail
        go_meet
        rw [← eK.out] at hint
        exact ⟨_, _, by rw [eK.out], rfl, ⟨_, _, World.cell?_setCell_same _ _ _ c14, DocAt.set dp far (Nat.lt_succ_self _) c14 (by simp)⟩, (hint.set (Nat.lt_succ_self _) 0 _).ints, hwx⟩
    case' rest =>
      obtain ⟨ak, ck, rfl, rfl, B14, IK, h1⟩ := hcut
      replace D1 : Hid _ := DocAt.on D1.out h1.out
      replace DP : Hid _ := DocAt.on DP.out h1.out
      replace IL : Hid _ := IntsAt.on IL.out h1.out
      replace c5 := cell_on h1.out c5
      replace p9 := cell_on h1.out p9
      replace hB := below_trans hB h1.out
      clear h1 S0 c14 f14 eK eU eP HC HSH HGO HLO hz hk0 hN hl1 hl64
      generalize underAns ns N = U at *
      go_wp2_with fail
      generalize partOf ns N = PL at *
      generalize Value.slice (some ⟨b, o, none⟩) ns.length cap = VA at *
  case' neg =>
    have hzb : (checkAtOf ns n == 0) = false := by simpa using hz
    have eU : underAns ns n = 0 := by unfold underAns; rw [if_neg hz]
    have B14 : Hid (BoxAt (w5.alloc (.cells #[.slice none 0 0] 24)) w5.heap.size (partOf ns n)) := by
      have : partOf ns n = [] := by unfold partOf; rw [if_neg hz]
      rw [this]
      exact BoxAt.new (ns := []) (DocAt.nil w5)
    have IK : Hid (IntsAt (w5.alloc (.cells #[.slice none 0 0] 24)) (.slice none 0 0) ((kidsAns ns n).map fun (k : Nat) => (k : Int))) := by
      have : kidsAns ns n = [] := by unfold kidsAns; rw [if_neg hz]
      rw [this]
      exact ⟨none, 0, rfl, Or.inl rfl⟩
    have h1 := on_alloc w5 (.cells #[.slice none 0 0] 24)
    replace D1 : Hid _ := DocAt.on D1.out h1
    replace DP : Hid _ := DocAt.on DP.out h1
    replace IL : Hid _ := IntsAt.on IL.out h1
    replace c5 := cell_on h1 c5
    replace p9 := cell_on h1 p9
    replace hB := below_trans hB h1
    rw [eU]
    clear h1 hz eU
    generalize checkAtOf ns n = E at *
    go_wp2_with fail
    generalize w5.alloc (.cells #[.slice none 0 0] 24) = wc at *
    generalize partOf ns n = PL at *
    generalize Value.slice a ns.length cap = VA at *
  all_goals
    obtain ⟨y1, z1, q14, E14⟩ := B14.out
    have HE : Hid _ := E14
    have S0 := And.intro (show wc.drew.cell? _ = some _ from c5) (And.intro (show wc.drew.cell? _ = some _ from p9) (And.intro (show wc.drew.cell? _ = some _ from q14) (Below.refl wc.heap.size wc).drew))
    clear c5 p9 q14 E14 B14
    go_region_held3 (fun w' => w'.cell? ⟨w.heap.size, 0, none⟩ = some VA ∧ w'.cell? ⟨w3.heap.size, 0, none⟩ = some (.slice ap PL.length cp) ∧ w'.cell? ⟨w5.heap.size, 0, none⟩ = some (.slice y1 PL.length z1) ∧ Below wc.heap.size wc w')
      (first | with_reducible assumption | exact tri_on (by with_reducible assumption) (by with_reducible assumption))
      (first | (go_at_call 16; refine (docBegun_any _).mono ?_; rintro e x1 ⟨rfl, hx1⟩) | (go_at_call 17; refine (check_any _ ns _ D1.out.2.2 (NdsAt.on D1.out.1 (tri_last (by with_reducible assumption)))).mono ?_; rintro e x2 ⟨rfl, hx2⟩) | (go_at_call 18; refine (refCheck_any _ ns _ D1.out.2.2 (NdsAt.on D1.out.1 (tri_last (by with_reducible assumption)))).mono ?_; rintro e x3 ⟨rfl, hx3⟩) | (go_at_call 19; refine (sameInts_eq _ _ _ _ hkl (IntsAt.on IL.out (tri_last (by with_reducible assumption))) (IntsAt.on IK.out (tri_last (by with_reducible assumption)))).mono ?_; rintro e x4 ⟨rfl, hx4⟩) | (go_at_call 20; refine (sameDocs_eq _ _ PL _ (DocAt.on DP.out (tri_last (by with_reducible assumption))) (DocAt.on HE.out (tri_last (by with_reducible assumption)))).mono ?_; rintro e x5 ⟨rfl, hx5⟩))
    all_goals
      have hwx := tri_last (by with_reducible assumption)
      go_wp2
      go_ret
      exact ⟨rfl, below_trans hB hwx⟩
end Go.Proofs.Ythlpcmgeelkncaa
