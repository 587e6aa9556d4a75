/-
  Copies of elements appended, with Up where it went.
-/
import Derived.Test.YtagobgjlhdbhmaaGreatDoorRow
namespace Go.Proofs.YtagobgjlhdbhmaaGreatDoor
open Go.RowKit

/-- an element whose Up went elsewhere -/
def Pl.mvd (mv : Int → Int) (x : Pl.Nd) : Pl.Nd := { x with up := mv x.up }

theorem Tryz.info77 : (Tryz.prog.info? 77).map (fun i => (i.zero, i.size, i.bytes)) = some (some (.agg #[.int .i64 0, .string ⟨#[]⟩, .string ⟨#[]⟩, .slice none 0 0, .slice none 0 0]), 5, 88) := by kernel_rfl

/-- the five cells of an element's box -/
abbrev FiveAt (w' : World) (N : Nat) (c0 c1 c2 c3 c4 : Value) : Prop :=
  w'.cell? ⟨N, 0, none⟩ = some c0 ∧ w'.cell? ⟨N, 1, none⟩ = some c1 ∧ w'.cell? ⟨N, 2, none⟩ = some c2 ∧ w'.cell? ⟨N, 3, none⟩ = some c3 ∧ w'.cell? ⟨N, 4, none⟩ = some c4
/-- the row with one element more -/
theorem row_step {B : Nat} {wr W w' : World} {v : Value} {ns : List Pl.Nd} {xs : List Value} {x : Pl.Nd} {vc va : Value} {g cap : Nat} (hown : wr.ownsRow B 77 5 v ns.length xs) (hc : CellsOf v.ownBlock wr xs ns)
    (hW : Below wr.heap.size wr W) (hvc : StrsFrom wr.heap.size W vc x.cls) (hva : AtsFrom wr.heap.size W va x.ats)
    (h1 : w'.ownsRow B 77 5 (.slice (some ⟨g, 0, none⟩) (ns.length + 1) cap) (ns.length + 1) (xs ++ [.int .i64 x.up, .string ⟨x.tag.toArray⟩, .string ⟨x.id.toArray⟩, vc, va])) (hg : W.grownBy w' v.ownBlock) (hat : v.ownBlock = some g ∨ g = W.heap.size) :
    Row B w' (.slice (some ⟨g, 0, none⟩) (ns.length + 1) cap) (ns ++ [x]) := by
  refine ⟨_, by simpa using h1, ?_⟩
  have hg' : (Value.slice (some ⟨g, 0, none⟩) (ns.length + 1) cap).ownBlock = v.ownBlock ∨ ∃ H, (Value.slice (some ⟨g, 0, none⟩) (ns.length + 1) cap).ownBlock = some H ∧ W.heap.size ≤ H := by
    rcases hat with h | h
    · exact Or.inl (by rw [h]; rfl)
    · exact Or.inr ⟨g, rfl, by omega⟩
  refine CellsOf.append _ _ _ _ (CellsOf.grown hg hg' _ _ (CellsOf.on hW _ _ hc)) ⟨⟨rfl, rfl, rfl, ?_, ?_⟩, trivial⟩
  · exact (hvc.ne (fun k hk => (World.ownsRow.lt hown k hk).2)).grown hg hg'
  · exact (hva.ne (fun k hk => (World.ownsRow.lt hown k hk).2)).grown hg hg'


/-- the box's cells, and what lies below B -/
theorem six_below {B N : Nat} {w w' : World} {c0 c1 c2 c3 c4 : Value} (h : w'.cell? ⟨N, 0, none⟩ = some c0 ∧ w'.cell? ⟨N, 1, none⟩ = some c1 ∧ w'.cell? ⟨N, 2, none⟩ = some c2 ∧ w'.cell? ⟨N, 3, none⟩ = some c3 ∧ w'.cell? ⟨N, 4, none⟩ = some c4 ∧ Below B w w') : Below B w w' := h.2.2.2.2.2
theorem six_on {B N : Nat} {w W w' : World} {c0 c1 c2 c3 c4 : Value} (hB : B ≤ w.heap.size) (h : W.cell? ⟨N, 0, none⟩ = some c0 ∧ W.cell? ⟨N, 1, none⟩ = some c1 ∧ W.cell? ⟨N, 2, none⟩ = some c2 ∧ W.cell? ⟨N, 3, none⟩ = some c3 ∧ W.cell? ⟨N, 4, none⟩ = some c4 ∧ Below B w W)
    (hb : Below W.heap.size W w') : w'.cell? ⟨N, 0, none⟩ = some c0 ∧ w'.cell? ⟨N, 1, none⟩ = some c1 ∧ w'.cell? ⟨N, 2, none⟩ = some c2 ∧ w'.cell? ⟨N, 3, none⟩ = some c3 ∧ w'.cell? ⟨N, 4, none⟩ = some c4 ∧ Below B w w' :=
  ⟨cell_on hb h.1, cell_on hb h.2.1, cell_on hb h.2.2.1, cell_on hb h.2.2.2.1, cell_on hb h.2.2.2.2.1, h.2.2.2.2.2.trans (hb.mono (Nat.le_trans hB h.2.2.2.2.2.size))⟩
theorem six_alloc {B N : Nat} {w W : World} {c0 c1 c2 c3 c4 : Value} (hB : B ≤ w.heap.size) (h : W.cell? ⟨N, 0, none⟩ = some c0 ∧ W.cell? ⟨N, 1, none⟩ = some c1 ∧ W.cell? ⟨N, 2, none⟩ = some c2 ∧ W.cell? ⟨N, 3, none⟩ = some c3 ∧ W.cell? ⟨N, 4, none⟩ = some c4 ∧ Below B w W)
    (o : Obj) : (W.alloc o).cell? ⟨N, 0, none⟩ = some c0 ∧ (W.alloc o).cell? ⟨N, 1, none⟩ = some c1 ∧ (W.alloc o).cell? ⟨N, 2, none⟩ = some c2 ∧ (W.alloc o).cell? ⟨N, 3, none⟩ = some c3 ∧ (W.alloc o).cell? ⟨N, 4, none⟩ = some c4 ∧ Below B w (W.alloc o) := six_on hB h (on_alloc _ _)
theorem six_grown {B N : Nat} {w W w' : World} {g : Option Nat} {c0 c1 c2 c3 c4 : Value} (hB : B ≤ w.heap.size) (hne : some N ≠ g) (hg : ∀ k, g = some k → B ≤ k) (h : W.cell? ⟨N, 0, none⟩ = some c0 ∧ W.cell? ⟨N, 1, none⟩ = some c1 ∧ W.cell? ⟨N, 2, none⟩ = some c2 ∧ W.cell? ⟨N, 3, none⟩ = some c3 ∧ W.cell? ⟨N, 4, none⟩ = some c4 ∧ Below B w W)
    (hb : W.grownBy w' g) : w'.cell? ⟨N, 0, none⟩ = some c0 ∧ w'.cell? ⟨N, 1, none⟩ = some c1 ∧ w'.cell? ⟨N, 2, none⟩ = some c2 ∧ w'.cell? ⟨N, 3, none⟩ = some c3 ∧ w'.cell? ⟨N, 4, none⟩ = some c4 ∧ Below B w w' :=
  ⟨grown_cell hb hne h.1, grown_cell hb hne h.2.1, grown_cell hb hne h.2.2.1, grown_cell hb hne h.2.2.2.1, grown_cell hb hne h.2.2.2.2.1, h.2.2.2.2.2.grown hb (Nat.le_trans hB h.2.2.2.2.2.size) hg⟩

/-- one element more, at the step that appends it -/
theorem step_add {ops : Array Oper} {o : Oper} {a : Act} {K : Act → World → Prop} {Q : Exit → Act → World → Prop} {E : Prop} {B : Nat} {wr w2 : World} {v : Value} {ns : List Pl.Nd} {xs : List Value} {x : Pl.Nd} {a1 a2 : Option Addr} {l1 c1 l2 c2 : Nat} (hgd : o.guard = none) (s t : Operand)
    (ho : o.op = .call { callee := .builtin .append, args := #[s, t], argTypes := #[22, 22] }) (hs : a.eval s = v) (hx : a.eval t = .slice (some ⟨w2.heap.size, 0, none⟩) 1 1)
    (hown : wr.ownsRow B 77 5 v ns.length xs) (hcs : CellsOf v.ownBlock wr xs ns) (hlen : ns.length + 1 ≤ 64) (hB : B ≤ wr.heap.size) (hW : Below wr.heap.size wr w2) (hvc : StrsFrom wr.heap.size w2 (.slice a1 l1 c1) x.cls) (hva : AtsFrom wr.heap.size w2 (.slice a2 l2 c2) x.ats)
    (h : ∀ g cap w', Row B w' (.slice (some ⟨g, 0, none⟩) (ns.length + 1) cap) (ns ++ [x]) → (w2.alloc (.cells #[.int .i64 x.up, .string ⟨x.tag.toArray⟩, .string ⟨x.id.toArray⟩, .slice a1 l1 c1, .slice a2 l2 c2] 77)).grownBy w' v.ownBlock → K (a.put o.dst (.slice (some ⟨g, 0, none⟩) (ns.length + 1) cap)) w') :
    if Region.wanted o (yielded ops a.tmps) = true then Oper.wp Tryz.prog o a (w2.alloc (.cells #[.int .i64 x.up, .string ⟨x.tag.toArray⟩, .string ⟨x.id.toArray⟩, .slice a1 l1 c1, .slice a2 l2 c2] 77)) K Q else E := by
  obtain ⟨i0, hi, hz0, hz1, hz2⟩ := info_parts Tryz.info77
  have hW2 : Below wr.heap.size wr (w2.alloc (.cells #[.int .i64 x.up, .string ⟨x.tag.toArray⟩, .string ⟨x.id.toArray⟩, .slice a1 l1 c1, .slice a2 l2 c2] 77)) := hW.alloc hW.size _
  refine step_append_lies _ hgd s t 22 ho B 77 i0 _ 5 88 Tryz.underlying22 hi hz0 hz1 hz2 rfl (by decide) v ns.length xs hs (own_on hown hW2) ⟨w2.heap.size, 0, none⟩ 1 1 [.int .i64 x.up, .string ⟨x.tag.toArray⟩, .string ⟨x.id.toArray⟩, .slice a1 l1 c1, .slice a2 l2 c2] hx rfl ?_ ?_ (by decide) (by unfold maxLen; omega) (by omega) (Nat.le_trans hB hW2.size) _ rfl ?_
  · exact World.news_of_block (heap_alloc_new w2 _)
  · intro u hu
    simp only [List.mem_cons, List.not_mem_nil, or_false] at hu
    rcases hu with rfl | rfl | rfl | rfl | rfl <;> rfl
  · intro g cap w' h1 h2 h3 _
    exact h g cap w' (row_step hown hcs hW2 (hvc.on (on_alloc _ _)) (hva.on (on_alloc _ _)) h1 h2 h3) h2
set_option maxRecDepth 100000 in
set_option maxHeartbeats 4000000 in
theorem add_some (F : Nat) (caps : Array Value) (mv : Int → Int) (B b o cap : Nat) (v0 : Value) (ns ms : List Pl.Nd) (w : World) (hB : B ≤ w.heap.size) (hr : Row B w v0 ns) (h64 : ns.length + ms.length ≤ 64)
    (hen : ∀ args W, (callFunc F args).run Tryz.prog W = .ok (.enter F args) W) (hl : ∀ x ∈ ms, x.cls.length ≤ 6 ∧ x.ats.length ≤ 4) (hm : ∀ W, Below B w W → ∀ i (h : i < ms.length), NdAt W b (o + i * 5) ms[i])
    (hf : ∀ W (u : Int), Below B w W → Calls Tryz.prog F (#[.int .i64 u] ++ caps) W fun e w' => e = .returned (.int .i64 (mv u)) ∧ w' = W) :
    Calls Tryz.prog 125 #[v0, .slice (some ⟨b, o, none⟩) ms.length cap, .func (.func F) #[] caps] w fun e w' => ∃ v', e = .returned v' ∧ Row B w' v' (ns ++ ms.map (Pl.mvd mv)) ∧ Below B w w' := by
  obtain ⟨i0, hi, hz0, hz1, hz2⟩ := info_parts Tryz.info77
  have HM : Hid _ := hm
  have HF : Hid _ := hf
  have HL : Hid _ := hl
  clear hm hf hl
  go_enter Tryz.func125, Tryz.ntmps125
  go_wp2
  go_loopw [0, 11] (fun v i wr => ∃ k : Nat, k ≤ ms.length ∧ i = .int .i64 k ∧ Hid (Row B wr v (ns ++ (ms.take k).map (Pl.mvd mv))) ∧ Below B w wr) (fun _ i _ => ms.length - (intOf i).toNat)
  case atStart => exact ⟨0, Nat.zero_le _, rfl, by simpa [Hid] using hr, Below.refl _ _⟩
  case round =>
    obtain ⟨k, hk, rfl, hrow, hBw⟩ := hrel
    by_cases hlt : k < ms.length
    · obtain ⟨vc, va, n0, n1, n2, n3, n4, nc, na⟩ := HM.out _ hBw k hlt
      obtain ⟨ac, cc, rfl, _⟩ := id nc
      obtain ⟨aa, ca, rfl, _⟩ := id na
      have NC : Hid _ := nc
      have NA : Hid _ := na
      clear nc na
      obtain ⟨xs, hown, hcs⟩ := hrow.out
      obtain ⟨L1, L2⟩ := HL.out ms[k] (List.getElem_mem hlt)
      have HN : Hid (ns ++ (ms.take (k + 1)).map (Pl.mvd mv) = (ns ++ (ms.take k).map (Pl.mvd mv)) ++ [Pl.mvd mv ms[k]]) := by
        unfold Hid
        rw [List.take_add_one, List.getElem?_eq_getElem hlt]
        simp only [Option.toList_some, List.map_append, List.map_cons, List.map_nil, List.append_assoc]
      have hlen : (ns ++ (ms.take k).map (Pl.mvd mv)).length + 1 ≤ 64 := by simp; omega
      generalize hNs : ns ++ (ms.take k).map (Pl.mvd mv) = Ns at *
      have HNs : Hid _ := hNs
      clear hNs
      generalize hX : ms[k] = X at *
      have HX : Hid _ := hX
      clear hX
      have hBr : B ≤ wr.heap.size := Nat.le_trans hB hBw.size
      have hne : some wr.heap.size ≠ u0.ownBlock := fun e => by have := (World.ownsRow.lt hown _ e.symm).2; omega
      have hge : ∀ k, u0.ownBlock = some k → B ≤ k := fun k hk => (World.ownsRow.lt hown k hk).1
      obtain ⟨up, tag, idn, cls, ats⟩ := X
      dsimp only at n0 n1 n2 n3 n4 NC NA L1 L2 HN
      go_wp2
      clear n0 n1 n2 n3 n4
      have hW1 : Below wr.heap.size wr (wr.alloc (.cells #[.int .i64 up, .string ⟨tag.toArray⟩, .string ⟨idn.toArray⟩, .slice ac cls.length cc, .slice aa ats.length ca] 77)).drew := (on_alloc wr _).drew
      have S0 : FiveAt (wr.alloc (.cells #[.int .i64 up, .string ⟨tag.toArray⟩, .string ⟨idn.toArray⟩, .slice ac cls.length cc, .slice aa ats.length ca] 77)).drew wr.heap.size (.int .i64 up) (.string ⟨tag.toArray⟩) (.string ⟨idn.toArray⟩) (.slice ac cls.length cc) (.slice aa ats.length ca) :=
        (Blk.facts (w := wr.alloc (.cells #[.int .i64 up, .string ⟨tag.toArray⟩, .string ⟨idn.toArray⟩, .slice ac cls.length cc, .slice aa ats.length ca] 77)) (heap_alloc_new wr _)).1
      have hB1 : Below B w (wr.alloc (.cells #[.int .i64 up, .string ⟨tag.toArray⟩, .string ⟨idn.toArray⟩, .slice ac cls.length cc, .slice aa ats.length ca] 77)).drew := hBw.trans (hW1.mono hBr)
      have S1 := And.intro S0.1 (And.intro S0.2.1 (And.intro S0.2.2.1 (And.intro S0.2.2.2.1 (And.intro S0.2.2.2.2 hB1))))
      have NV : Hid (NdV (wr.alloc (.cells #[.int .i64 up, .string ⟨tag.toArray⟩, .string ⟨idn.toArray⟩, .slice ac cls.length cc, .slice aa ats.length ca] 77)).drew (.agg #[.int .i64 up, .string ⟨tag.toArray⟩, .string ⟨idn.toArray⟩, .slice ac cls.length cc, .slice aa ats.length ca]) ⟨up, tag, idn, cls, ats⟩) := ⟨_, _, rfl, StrsAt.on NC.out hW1, AtsAt.on NA.out hW1⟩
      clear S0
      go_region_held3 (fun w' => w'.cell? ⟨wr.heap.size, 0, none⟩ = some (.int .i64 up) ∧ w'.cell? ⟨wr.heap.size, 1, none⟩ = some (.string ⟨tag.toArray⟩) ∧ w'.cell? ⟨wr.heap.size, 2, none⟩ = some (.string ⟨idn.toArray⟩) ∧ w'.cell? ⟨wr.heap.size, 3, none⟩ = some (.slice ac cls.length cc) ∧ w'.cell? ⟨wr.heap.size, 4, none⟩ = some (.slice aa ats.length ca) ∧ Below B w w')
        (first | assumption | exact six_on hB (by assumption) (by assumption) | exact six_alloc hB (by assumption) _ | exact six_grown hB hne hge (by assumption) (by assumption))
        (first | (go_at_call 156; refine (fresh_any _ ⟨up, tag, idn, cls, ats⟩ _ _ L1 L2 NV.out).mono ?_; rintro e w2 ⟨nv, rfl, ⟨vc, va, rfl, hs, ha⟩, hb⟩; obtain ⟨a1, c1, rfl, _⟩ := id hs; obtain ⟨a2, c2, rfl, _⟩ := id ha) | (refine (HF.out _ _ hB1).mono ?_; rintro e w' ⟨rfl, rfl⟩) | (refine step_add rfl (.tmp 15) (.tmp 22) rfl rfl rfl hown hcs hlen hBr (below_trans hW1 hb) (x := ⟨mv up, tag, idn, cls, ats⟩) (StrsFrom.mono hs hW1.size) (AtsFrom.mono ha hW1.size) ?_; intro g cap' w3 hrow' hgr))
      clear S1 NV hs ha hb hgr
      go_wp2
      exact ⟨⟨k + 1, hlt, by go_num, by unfold Hid; rw [HN.out]; exact hrow', six_below (by assumption)⟩, by simp [intOf]; omega⟩
    · have hkl : k = ms.length := by omega
      subst hkl
      go_wp2
      go_ret
      have := hrow.out
      rw [List.take_length] at this
      exact ⟨_, rfl, this, hBw⟩
end Go.Proofs.YtagobgjlhdbhmaaGreatDoor
