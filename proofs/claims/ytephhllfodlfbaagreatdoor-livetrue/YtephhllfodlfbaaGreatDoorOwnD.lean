/-
  index.gather, walked.
-/
import Derived.Test.YtephhllfodlfbaaGreatDoorMapY
import Derived.Test.YtephhllfodlfbaaGreatDoorMapK
namespace Go.Proofs.YtephhllfodlfbaaGreatDoor
open Go.RowKit

set_option maxRecDepth 100000 in
set_option maxHeartbeats 4000000 in
theorem gather_any (b o cap : Nat) (ns : List Pl.Nd) (w : World) (h64 : ns.length ≤ 64) (hsh : ∀ x ∈ ns, x.cls.length ≤ 6) (hgood : ∀ x ∈ ns, ∀ k ∈ Pl.keysOf x, Good k) (hc : ∀ i (h : i < ns.length), NdAt w b (o + i * 5) ns[i]) :
    Calls Tryz.prog 40 #[.slice (some ⟨b, o, none⟩) ns.length cap] w fun e w' => ∃ ps, e = .returned (.map (some w.heap.size)) ∧ MapAt w' w.heap.size ps ∧ Fam (w.heap.size + 1) w' ps ∧ ps.map (·.1) = Pl.gathTo ns ns.length ∧ Below w.heap.size w w' := by
  have HC : Hid _ := hc
  have HSH : Hid _ := hsh
  have HGO : Hid _ := hgood
  have HFIT : Hid (∀ n, Pl.GFit (8 * n) (Pl.gathTo ns n)) := Pl.gath_fit hsh
  have HGK : Hid (∀ n, ∀ e ∈ Pl.gathTo ns n, Good e.key) := Pl.gath_keys hgood
  have HND : Hid (∀ n, ((Pl.gathTo ns n).map (·.key)).Nodup) := Pl.gath_nodup ns
  clear hc hsh hgood
  have hmm := @run_makeMap Tryz.prog
  have H0 : Hid (MapAt (w.alloc (.map #[] 0)) w.heap.size []) := ⟨#[], 0, heap_alloc_new w _, rfl, by simp, by simp⟩
  have hB0 : Hid (Below w.heap.size w (w.alloc (.map #[] 0))) := on_alloc _ _
  go_enter Tryz.func40, Tryz.ntmps40
  go_wp2_with fail
  generalize w.alloc (.map #[] 0) = w0 at *
  go_loopw [11] (fun i wr => ∃ n : Nat, n ≤ ns.length ∧ i = .int .i64 n ∧ ∃ ps, Hid (MapAt wr w.heap.size ps) ∧ Hid (Fam (w.heap.size + 1) wr ps) ∧ Hid (ps.map (·.1) = Pl.gathTo ns n) ∧ Hid (Below w.heap.size w wr)) (fun i _ => ns.length - (intOf i).toNat)
  case atStart => exact ⟨0, Nat.zero_le _, rfl, [], H0, Fam.nil _ _, rfl, hB0⟩
  case round =>
    obtain ⟨n, hn, rfl, ps, hmp, hfam, hmap, hbe⟩ := hrel
    by_cases hlt : n < ns.length
    · have hBr : Below w.heap.size w wr := hbe.out
      obtain ⟨vc, va, n0, n1, n2, n3, n4, nc, na⟩ := (HC.out n hlt).on hBr
      obtain ⟨ac, cc, rfl, -⟩ := id nc
      obtain ⟨aa, ca, rfl, -⟩ := id na
      have L1 := HSH.out ns[n] (List.getElem_mem hlt)
      have HKG : Hid (∀ k ∈ Pl.keysOf ns[n], Good k) := HGO.out ns[n] (List.getElem_mem hlt)
      have HNX : Hid (Pl.gathTo ns (n + 1) = Pl.gputAll (Pl.keysOf ns[n]) n (Pl.gathTo ns n)) := by
        unfold Hid
        rw [show Pl.gathTo ns (n + 1) = (match ns[n]? with | none => Pl.gathTo ns n | some x => Pl.gputAll (Pl.keysOf x) n (Pl.gathTo ns n)) from rfl, List.getElem?_eq_getElem hlt]
      have HNC : Hid (StrsAt _ _ _) := nc
      have HNA : Hid (AtsAt _ _ _) := na
      clear nc na hBr
      generalize ns[n] = x at *
      have i1 : (0 : Int) ≤ (n : Int) := by omega
      have i2 : (n : Int) < (ns.length : Int) := by omega
      have hbox : Below wr.heap.size wr (wr.alloc (.cells #[.int .i64 x.up, .string ⟨x.tag.toArray⟩, .string ⟨x.id.toArray⟩, .slice ac x.cls.length cc, .slice aa x.ats.length ca] 28)) := on_alloc _ _
      have NV : Hid (NdV (wr.alloc (.cells #[.int .i64 x.up, .string ⟨x.tag.toArray⟩, .string ⟨x.id.toArray⟩, .slice ac x.cls.length cc, .slice aa x.ats.length ca] 28)) (.agg #[.int .i64 x.up, .string ⟨x.tag.toArray⟩, .string ⟨x.id.toArray⟩, .slice ac x.cls.length cc, .slice aa x.ats.length ca]) x) := ⟨_, _, rfl, StrsAt.on HNC.out hbox, AtsAt.on HNA.out hbox⟩
      have HBX : Hid (Below _ _ _) := hbox
      clear hbox
      go_wp2_with fail
      refine (keysOf_any _ x _ NV.out L1).mono ?_
      rintro e w1 ⟨u, rfl, hku, hb1⟩
      have hkl := Pl.keys8 x L1
      have hkp : 0 < (Pl.keysOf x).length := by simp [Pl.keysOf]
      obtain ⟨gk, ck, rfl, hgk, hgk2⟩ := hku.form hkp
      have hB2 : Below wr.heap.size wr w1 := below_trans HBX.out hb1
      have hms := hmp.out.lt
      simp only [World.size_alloc] at hgk hku
      have HG : Hid (Gath w w.heap.size (wr.heap.size + 1 + 1) gk ck (Pl.keysOf x) w1 ps) := ⟨hmp.out.on (hB2.block _ hms), hfam.out.on hB2, hfam.out.low (Or.inr (by omega)), hku, by omega, hbe.out.trans (hB2.mono (by omega))⟩
      have HMP : Hid (ps.map (·.1) = Pl.gputAll ((Pl.keysOf x).take 0) n (Pl.gathTo ns n)) := hmap
      have HF0 : Hid (Pl.GFit (8 * n) (Pl.gathTo ns n)) := HFIT.out n
      have HK0 : Hid (∀ e ∈ Pl.gathTo ns n, Good e.key) := HGK.out n
      have HD0 : Hid (((Pl.gathTo ns n).map (·.key)).Nodup) := HND.out n
      clear hmp hfam hku hbe hmap hb1 n0 n1 n2 n3 n4 NV L1 HFIT hgk hgk2 HBX HNC HNA hB2 hms HGK HND
      generalize Pl.gathTo ns n = L0 at *
      generalize Pl.keysOf x = K at *
      generalize wr.heap.size + 1 + 1 = BK at *
      go_wp2_with fail
      go_loopw [19] (fun i wr => ∃ k : Nat, k ≤ K.length ∧ i = .int .i64 k ∧ ∃ ps, Hid (Gath w w.heap.size BK gk ck K wr ps) ∧ Hid (ps.map (·.1) = Pl.gputAll (K.take k) n L0)) (fun i _ => K.length - (intOf i).toNat)
      case atStart => exact ⟨0, Nat.zero_le _, rfl, ps, HG, HMP⟩
      case round =>
        clear HG HMP
        obtain ⟨k, hk, rfl, ps, HG, HMP⟩ := hrel
        by_cases hlk : k < K.length
        · obtain ⟨q0, q1⟩ := own_two HG.out.keys hlk (keyCells_get K k hlk)
          have HNX2 : Hid (Pl.gputAll (K.take (k + 1)) n L0 = Pl.gput K[k] n (Pl.gputAll (K.take k) n L0)) := by
            unfold Hid
            rw [List.take_succ_eq_append_getElem hlk, Pl.gputAll_snoc]
          have hfit : Pl.GFit (8 * n + 8) (ps.map (·.1)) := by
            rw [HMP.out]
            have := Pl.gputAll_fit n (K.take k) HF0.out
            have hl : (K.take k).length ≤ 8 := by simp; omega
            exact ⟨by have := this.1; omega, fun e he => by have := this.2 e he; omega⟩
          have HPN : Hid (∀ p ∈ ps, p.1.nodes.length ≤ 8 * n + 8) := fun p hp => hfit.2 p.1 (List.mem_map_of_mem hp)
          have HPG : Hid (∀ p ∈ ps, Good p.1.key) := fun p hp => by
            have h1 := Pl.gputAll_keys n (K.take k) (l := L0) (P := Good) (fun q hq => HKG.out q (List.mem_of_mem_take hq)) HK0.out p.1
            rw [← HMP.out] at h1
            exact h1 (List.mem_map_of_mem hp)
          have HPD : Hid (((ps.map (·.1)).map (·.key)).Nodup) := by
            unfold Hid
            rw [HMP.out]
            exact Pl.gputAll_nodup n _ HD0.out
          have HKy : Hid (Good K[k]) := HKG.out K[k] (List.getElem_mem hlk)
          clear hfit
          generalize K[k] = key at *
          obtain ⟨kk, kn⟩ := key
          dsimp only at q0 q1
          have i3 : (0 : Int) ≤ (k : Int) := by omega
          have i4 : (k : Int) < (K.length : Int) := by omega
          obtain ⟨W, hW⟩ : ∃ W, W = wr := ⟨_, rfl⟩
          subst hW
          have HBb : Hid (Below W.heap.size W ((W.alloc (.cells #[.int .i64 kk, .string ⟨kn.toArray⟩] 128)).alloc (.cells #[.int .i64 (n : Int)] 3))) := boxes _ _ _
          have hNb : ((W.alloc (.cells #[.int .i64 kk, .string ⟨kn.toArray⟩] 128)).alloc (.cells #[.int .i64 (n : Int)] 3)).heap[W.heap.size + 1]? = some (.cells #[.int .i64 (n : Int)] 3) := by
            have := heap_alloc_new (W.alloc (.cells #[.int .i64 kk, .string ⟨kn.toArray⟩] 128)) (.cells #[.int .i64 (n : Int)] 3)
            simpa using this
          have hszb : ((W.alloc (.cells #[.int .i64 kk, .string ⟨kn.toArray⟩] 128)).alloc (.cells #[.int .i64 (n : Int)] 3)).heap.size = W.heap.size + 2 := by simp
          have HNb : Hid _ := hNb
          have HSb : Hid _ := hszb
          clear hNb hszb
          go_wp2_with (with_reducible refine at_me ?_)
          clear q0 q1
          generalize (W.alloc (.cells #[.int .i64 kk, .string ⟨kn.toArray⟩] 128)).alloc (.cells #[.int .i64 (n : Int)] 3) = Wb at *
          unfold Hid
          refine wpList_mapEntry (b := w.heap.size) (ps := ps) (k := (kk, kn)) ?_ (.tmp 23) (.tmp 24) ?_ ?_ ?_ (HG.out.on HBb.out).map HPG.out HKy.out Tryz.zero55 ?_
          · rfl
          · rfl
          · rfl
          · rfl
          intro ps1 j st hj w' hS hg' hs' hkey hor
          have hF := hor_fam (HG.out.on HBb.out).fam hg' hor
          have hnl : ps1[j].1.nodes.length ≤ 8 * n + 8 := by
            rcases hor with e | ⟨e, e2, _⟩
            · subst e; exact HPN.out _ (List.getElem_mem hj)
            · subst e e2; rw [List.getElem_append_right (by omega)]; simp
          have hint := hF.ints ps1[j] (List.getElem_mem hj)
          obtain ⟨ep, hep⟩ : ∃ e, ps1[j] = e := ⟨_, rfl⟩
          rw [hep] at hkey hnl hint
          obtain ⟨⟨pk, nds⟩, sv⟩ := ep
          dsimp only at hkey hnl hint
          subst hkey
          obtain ⟨as_, cs, rfl⟩ := own_form hint
          have HEP : Hid (ps1[j] = (⟨(kk, kn), nds⟩, .slice as_ nds.length cs)) := hep
          have e2 : ps1[j].2 = .slice as_ nds.length cs := by rw [hep]
          rw [e2]
          have HS : Hid (MapS _ _ _ _ _) := hS
          have HG' : Hid (World.grownBy _ _ _) := hg'
          have HS' : Hid (w'.heap.size = Wb.heap.size) := hs'
          have HOR : Hid _ := hor
          have HINT : Hid (World.ownsRow _ _ _ _ _ _ _) := hint
          have HNw : Hid (w'.heap[W.heap.size + 1]? = some (.cells #[.int .i64 (n : Int)] 3)) := by
            unfold Hid
            have h1 := HG.out.map.lt
            have h2 := HSb.out
            rw [hg'.block _ (by omega) (by intro e; injection e; omega)]
            exact HNb.out
          have hlo : w.heap.size + 1 ≤ w'.heap.size := by have := HG.out.map.lt; have := HSb.out; omega
          have HF' : Hid (Fam _ _ _) := hF
          clear hS hg' hs' hor hint hep e2 hF HNb
          go_wp2_with (at_builtin; refine Hid.out ?_)
          unfold Hid
          refine wpList_iadd2 (B := w.heap.size + 1) (v := .slice as_ nds.length cs) (l := nds) (n := n) (N := W.heap.size + 1) ?_ (.tmp 25) (.tmp 27) ?_ ?_ ?_ HNw.out HINT.out (by omega) hlo ?_
          · rfl
          · rfl
          · rfl
          · rfl
          intro g7 cap7 w7 ho7 hg7 hat7 hlt7
          have hsb : (Value.slice as_ nds.length cs).ownBlock ≠ some w.heap.size := by
            have := HF'.out.low (g := w.heap.size) (Or.inl (Nat.lt_succ_self _)) ps1[j] (List.getElem_mem hj)
            rw [HEP.out] at this
            exact this
          have HS7 : Hid (MapS w7 w.heap.size ps1 j st) := MapS.on HS.out (hg7.block _ (by omega) (fun e => hsb e.symm))
          have HO7 : Hid (World.ownsRow _ _ _ _ _ _ _) := ho7
          have HG7 : Hid (World.grownBy _ _ _) := hg7
          have HA7 : Hid _ := hat7
          clear ho7 hg7 hat7 hlt7 hsb
          go_wp2_with (with_reducible refine at_es ?_)
          unfold Hid
          refine wpList_entryStore (b := w.heap.size) (ps := ps1) (j := j) (st := st) ?_ (.tmp 23) (.tmp 30) (.tmp 29) ?_ ?_ ?_ (⟨(kk, kn), nds ++ [n]⟩, .slice (some ⟨g7, 0, none⟩) (nds.length + 1) cap7) ?_ HS7.out hj (by rw [HEP.out]) ?_
          · rfl
          · rfl
          · rfl
          · rfl
          · rfl
          intro w8 hM8 hg8 hs8
          have HG8 : Hid (Gath w w.heap.size BK gk ck K w8 _) := Gath.put HG.out HBb.out HG'.out HS'.out hj HEP.out HOR.out HO7.out HG7.out HA7.out hM8 hg8
          clear hM8 hg8 hs8
          go_wp2
          exact ⟨⟨k + 1, by omega, by go_num, _, HG8, by unfold Hid; rw [HNX2.out, ← HMP.out]; exact hor_put hj HEP.out HPD.out HOR.out⟩, by simp [intOf]; omega⟩
        · have hkl : k = K.length := by omega
          subst hkl
          go_wp2
          exact ⟨⟨n + 1, hlt, by go_num, ps, HG.out.map, HG.out.fam, by unfold Hid; rw [HNX.out, HMP.out, List.take_length], HG.out.old⟩, by simp [intOf]; omega⟩
    · have hnl : n = ns.length := by omega
      subst hnl
      go_wp2
      go_ret
      exact ⟨ps, rfl, hmp.out, hfam.out, hmap.out, hbe.out⟩
end Go.Proofs.YtephhllfodlfbaaGreatDoor
/-
  OwnDoc: a document of its own.
-/
namespace Go.Proofs.YtephhllfodlfbaaGreatDoor
open Go.RowKit

/-- a document's box -/
def Blk1 (w : World) (N : Nat) (c : Value) : Prop := w.heap[N]? = some (.cells #[c] 24)
theorem Blk1.facts {w : World} {N : Nat} {c : Value} (h : Blk1 w N c) : w.cell? ⟨N, 0, none⟩ = some c ∧ ∀ i, w.frozen? ⟨N, i, none⟩ = false := by
  unfold Blk1 at h
  refine ⟨?_, fun i => ?_⟩
  all_goals simp [World.cell?, World.frozen?, h]
theorem Blk1.lt {w : World} {N : Nat} {c : Value} (h : Blk1 w N c) : N < w.heap.size := (Array.getElem?_eq_some_iff.1 h).1
theorem Blk1.on {w w' : World} {N : Nat} {c : Value} (h : Blk1 w N c) (hb : Below w.heap.size w w') : Blk1 w' N c := by
  unfold Blk1; rw [hb.block N h.lt]; exact h
theorem Blk1.grown {w w' : World} {N : Nat} {g : Option Nat} {c : Value} (h : Blk1 w N c) (hb : w.grownBy w' g) (hne : some N ≠ g) : Blk1 w' N c := by
  unfold Blk1; rw [hb.block N h.lt hne]; exact h
theorem Blk1.new (w : World) (c : Value) : Blk1 (w.alloc (.cells #[c] 24)) w.heap.size c := by
  unfold Blk1
  show (w.heap.push _)[w.heap.size]? = _
  simp
theorem Blk1.set {w : World} {N : Nat} {c : Value} (h : Blk1 w N c) (v : Value) : Blk1 (w.setCell ⟨N, 0, none⟩ v) N v := by
  unfold Blk1 at *
  simp [World.setCell, Array.getElem?_modify, h]
theorem Row.mono {B B' : Nat} {w : World} {v : Value} {ns : List Pl.Nd} (h : Row B w v ns) (hB : B' ≤ B) : Row B' w v ns := by
  obtain ⟨xs, ho, hc⟩ := h
  refine ⟨xs, ⟨ho.1, ?_⟩, hc⟩
  rcases ho.2 with h0 | ⟨g, cap, cur, e, hb, rest⟩
  · exact Or.inl h0
  · exact Or.inr ⟨g, cap, cur, e, by omega, rest⟩
end Go.Proofs.YtephhllfodlfbaaGreatDoor
