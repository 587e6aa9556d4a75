/-
  OwnDoc: a document of its own.
-/
import Derived.Test.YtbpgcfabepioiaaGreatTreW
namespace Go.Proofs.YtbpgcfabepioiaaGreat
open Go.RowKit

/-- a document's box -/
def Blk1 (w : World) (N : Nat) (c : Value) : Prop := w.heap[N]? = some (.cells #[c] 24)
theorem Blk1.facts {w : World} {N : Nat} {c : Value} (h : Blk1 w N c) : w.cell? ⟨N, 0, none⟩ = some c ∧ ∀ i, w.frozen? ⟨N, i, none⟩ = false := by
  unfold Blk1 at h
  refine ⟨?_, fun i => ?_⟩
  all_goals simp [World.cell?, World.frozen?, h]
theorem Blk1.lt {w : World} {N : Nat} {c : Value} (h : Blk1 w N c) : N < w.heap.size := (Array.getElem?_eq_some_iff.1 h).1
theorem Blk1.on {w w' : World} {N : Nat} {c : Value} (h : Blk1 w N c) (hb : Below w.heap.size w w') : Blk1 w' N c := by
  unfold Blk1; rw [hb.block N h.lt]; exact h
theorem Blk1.grown {w w' : World} {N : Nat} {g : Option Nat} {c : Value} (h : Blk1 w N c) (hb : w.grownBy w' g) (hne : some N ≠ g) : Blk1 w' N c := by
  unfold Blk1; rw [hb.block N h.lt hne]; exact h
theorem Blk1.new (w : World) (c : Value) : Blk1 (w.alloc (.cells #[c] 24)) w.heap.size c := by
  unfold Blk1
  show (w.heap.push _)[w.heap.size]? = _
  simp
theorem Blk1.set {w : World} {N : Nat} {c : Value} (h : Blk1 w N c) (v : Value) : Blk1 (w.setCell ⟨N, 0, none⟩ v) N v := by
  unfold Blk1 at *
  simp [World.setCell, Array.getElem?_modify, h]
theorem Row.mono {B B' : Nat} {w : World} {v : Value} {ns : List Pl.Nd} (h : Row B w v ns) (hB : B' ≤ B) : Row B' w v ns := by
  obtain ⟨xs, ho, hc⟩ := h
  refine ⟨xs, ⟨ho.1, ?_⟩, hc⟩
  rcases ho.2 with h0 | ⟨g, cap, cur, e, hb, rest⟩
  · exact Or.inl h0
  · exact Or.inr ⟨g, cap, cur, e, by omega, rest⟩
theorem Row.ownLt {B : Nat} {w : World} {v : Value} {ns : List Pl.Nd} (h : Row B w v ns) : ∀ k, v.ownBlock = some k → B ≤ k ∧ k < w.heap.size := by
  obtain ⟨xs, ho, _⟩ := h
  exact fun k hk => World.ownsRow.lt ho k hk
theorem take_snoc {α : Type} {l : List α} {k : Nat} (h : k < l.length) : l.take (k + 1) = l.take k ++ [l[k]] := by
  rw [List.take_add_one, List.getElem?_eq_getElem h]; rfl
set_option maxRecDepth 100000 in
set_option maxHeartbeats 4000000 in
theorem refOwn_some (b o cap : Nat) (ns : List Pl.Nd) (w : World) (h64 : ns.length ≤ 64) (hsh : ∀ x ∈ ns, x.cls.length ≤ 6 ∧ x.ats.length ≤ 4) (hc : ∀ i (h : i < ns.length), NdAt w b (o + i * 5) ns[i]) :
    Calls Tryz.prog 25 #[.agg #[.slice (some ⟨b, o, none⟩) ns.length cap]] w fun e w' => ∃ v', e = .returned (.agg #[v']) ∧ Row w.heap.size w' v' ns ∧ Below w.heap.size w w' := by
  have HC : Hid _ := hc
  have HSH : Hid _ := hsh
  clear hc hsh
  have hB0 : Below w.heap.size w (((w.alloc (.cells #[.slice (some ⟨b, o, none⟩) ns.length cap] 24)).alloc (.cells #[.slice none 0 0] 24)).alloc (.cells #[.slice none 0 0] 24)) := (((Below.refl w.heap.size w).alloc (Nat.le_refl _) _).alloc (by simp) _).alloc (by simp; omega) _
  have bS : Blk1 (((w.alloc (.cells #[.slice (some ⟨b, o, none⟩) ns.length cap] 24)).alloc (.cells #[.slice none 0 0] 24)).alloc (.cells #[.slice none 0 0] 24)) w.heap.size (.slice (some ⟨b, o, none⟩) ns.length cap) := ((Blk1.new w _).on (on_alloc _ _)).on (on_alloc _ _)
  have bR : Blk1 (((w.alloc (.cells #[.slice (some ⟨b, o, none⟩) ns.length cap] 24)).alloc (.cells #[.slice none 0 0] 24)).alloc (.cells #[.slice none 0 0] 24)) (w.heap.size + 1) (.slice none 0 0) := by
    have := (Blk1.new (w.alloc (.cells #[.slice (some ⟨b, o, none⟩) ns.length cap] 24)) (.slice none 0 0)).on (on_alloc _ (.cells #[.slice none 0 0] 24))
    simpa using this
  have bO : Blk1 (((w.alloc (.cells #[.slice (some ⟨b, o, none⟩) ns.length cap] 24)).alloc (.cells #[.slice none 0 0] 24)).alloc (.cells #[.slice none 0 0] 24)) (w.heap.size + 2) (.slice none 0 0) := by
    have := Blk1.new ((w.alloc (.cells #[.slice (some ⟨b, o, none⟩) ns.length cap] 24)).alloc (.cells #[.slice none 0 0] 24)) (.slice none 0 0)
    simpa using this
  have hz0 : (((w.alloc (.cells #[.slice (some ⟨b, o, none⟩) ns.length cap] 24)).alloc (.cells #[.slice none 0 0] 24)).alloc (.cells #[.slice none 0 0] 24)).heap.size = w.heap.size + 3 := by simp
  go_enter Tryz.func25, Tryz.ntmps25
  go_wp2_with fail
  generalize ((w.alloc (.cells #[.slice (some ⟨b, o, none⟩) ns.length cap] 24)).alloc (.cells #[.slice none 0 0] 24)).alloc (.cells #[.slice none 0 0] 24) = w0 at *
  have HBS : Hid _ := bS
  have HBR : Hid _ := bR
  have HBO : Hid _ := bO
  clear bS bR bO
  go_loopw [4] (fun i wr => ∃ k : Nat, k ≤ ns.length ∧ i = .int .i64 k ∧ ∃ v, Hid (Blk1 wr (w.heap.size + 2) v) ∧ Hid (Row w0.heap.size wr v (ns.take k)) ∧ w0.grownBy wr (some (w.heap.size + 2))) (fun i _ => ns.length - (intOf i).toNat)
  case atStart => exact ⟨0, Nat.zero_le _, rfl, _, HBO, Row.nil _ _, World.grownBy.refl _ _⟩
  case round =>
    obtain ⟨k, hk, rfl, v, hMb, hrow, hgb⟩ := hrel
    have hBr : Below w.heap.size w wr := hB0.grown hgb (by omega) (fun g hg => by injection hg with hg; omega)
    have bS := Blk1.grown HBS.out hgb (by simp)
    obtain ⟨ar, lr, cr, rfl, _, _⟩ := Row.cap hrow.out
    have hown := Row.ownLt hrow.out
    have s0 := bS.facts.1
    by_cases hlt : k < ns.length
    · obtain ⟨vc, va, n0, n1, n2, n3, n4, nc, na⟩ := (HC.out k hlt).on hBr
      obtain ⟨ac, cc, rfl, _⟩ := id nc
      obtain ⟨aa, ca, rfl, _⟩ := id na
      obtain ⟨L1, L2⟩ := HSH.out ns[k] (List.getElem_mem hlt)
      have NV : Hid (NdV wr.drew (.agg #[.int .i64 ns[k].up, .string ⟨ns[k].tag.toArray⟩, .string ⟨ns[k].id.toArray⟩, .slice ac ns[k].cls.length cc, .slice aa ns[k].ats.length ca]) ns[k]) := ⟨_, _, rfl, nc, na⟩
      have HT : Hid (ns.take (k + 1) = ns.take k ++ [ns[k]]) := take_snoc hlt
      obtain ⟨xs, hownR, hcs⟩ := hrow.out
      have hlen : (ns.take k).length + 1 ≤ 64 := by simp; omega
      have hlr : lr = (ns.take k).length := by
        obtain ⟨_, _, e, _⟩ := hrow.out.nds
        injection e
      subst hlr
      have hBw : w0.heap.size ≤ wr.heap.size := hgb.size
      have hW1 : Below wr.heap.size wr wr.drew := (Below.refl _ _).drew
      have hgd : w0.grownBy wr.drew (some (w.heap.size + 2)) := ⟨hgb.os, hgb.tape, hgb.output, hgb.size, hgb.block⟩
      have hMd : Blk1 wr.drew (w.heap.size + 2) (.slice ar (ns.take k).length cr) := hMb.out
      have m5 := hMd.facts.1
      have HMd : Hid _ := hMd
      have HOW : Hid _ := hownR
      have HCS : Hid _ := hcs
      clear nc na hMd hownR hcs
      generalize ns.take k = T at *
      generalize ns[k] = x at *
      obtain ⟨up, tag, idn, cls, ats⟩ := x
      dsimp only at *
      have i1 : (k : Int) < (ns.length : Int) := by omega
      go_wp2
      go_region_law (first | (go_simp; go_at_call 38; refine (own_any _ ⟨up, tag, idn, cls, ats⟩ _ L1 L2 NV.out).mono ?_; rintro e w4 ⟨nv, rfl, ⟨vc4, va4, rfl, hs4, ha4⟩, hb4⟩; obtain ⟨y1, y2, rfl, _⟩ := id hs4; obtain ⟨y3, y4, rfl, _⟩ := id ha4; have m5' := cell_on hb4 m5; have m5'' := fun ob => cell_on (on_alloc w4 ob) m5') | (refine step_add (B := w0.heap.size) (wr := wr) (w2 := w4) (v := .slice ar T.length cr) (ns := T) (xs := xs) rfl (.tmp 13) (.tmp 20) rfl rfl rfl HOW.out HCS.out hlen hBw (below_trans hW1 hb4) (x := ⟨up, tag, idn, cls, ats⟩) (StrsFrom.mono hs4 hW1.size) (AtsFrom.mono ha4 hW1.size) ?_; intro g cap' w5 hrow' hgr; have M5 := Blk1.grown (Blk1.on (Blk1.on HMd.out hb4) (on_alloc _ _)) hgr (fun e => by have := (hown _ e.symm).1; omega); obtain ⟨z5, fz⟩ := M5.facts))
      all_goals
        have hgF := gb_set (gb_grown (gb_below (gb_below hgd hb4) (on_alloc _ _)) hgr (fun k hk => Or.inr (hown k hk).1)) 0 (.slice (some ⟨g, 0, none⟩) (T.length + 1) cap')
        have hbF := M5.set (.slice (some ⟨g, 0, none⟩) (T.length + 1) cap')
        have hrF := Row.set hrow' (M := w.heap.size + 2) (j := 0) (by omega) z5 (by simp) (.slice (some ⟨g, 0, none⟩) (T.length + 1) cap')
        have HF1 : Hid _ := hgF
        have HF2 : Hid _ := hbF
        have HF3 : Hid _ := hrF
        clear hgF hbF hrF hrow' hgr hs4 ha4 hb4 z5 fz M5
        go_wp2
        exact ⟨⟨k + 1, hlt, by go_num, _, HF2, by unfold Hid; rw [HT.out]; exact HF3.out, HF1.out⟩, by simp [intOf]; omega⟩
    · have hkl : k = ns.length := by omega
      subst hkl
      rw [List.take_length] at hrow
      have bR := Blk1.grown HBR.out hgb (by simp)
      obtain ⟨r0, fR⟩ := bR.facts
      obtain ⟨m0, fM⟩ := hMb.out.facts
      have HRw : Hid (Row w0.heap.size wr (.slice ar lr cr) ns) := hrow
      clear hrow hMb bR bS
      go_wp2
      have q := World.cell?_setCell_same wr ⟨w.heap.size + 1, 0, none⟩ (.slice ar lr cr) r0
      exact bodyPost_ret (v := .agg #[.slice ar lr cr]) (by simp [results, Tryz.results25, go_sem, q]) rfl
        ⟨_, rfl, (Row.set HRw.out (M := w.heap.size + 1) (j := 0) (by omega) r0 (by simp) (.slice ar lr cr)).mono (by omega), hBr.setCell (p := ⟨w.heap.size + 1, 0, none⟩) (by simp) _⟩
end Go.Proofs.YtbpgcfabepioiaaGreat
