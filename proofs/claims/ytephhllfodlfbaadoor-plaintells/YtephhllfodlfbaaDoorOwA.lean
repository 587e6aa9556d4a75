/-
  'append([]int{}, xs...)': a copy in new memory.
-/
import Derived.Test.YtephhllfodlfbaaDoorPnQ
namespace Go.Proofs.YtephhllfodlfbaaDoor
open Go.RowKit

theorem append_noneI {i : TypeInfo} (hi : Tryd.prog.info? 3 = some i) (q : Addr) (n c : Nat) (hn : n ≤ c) (a : Option Addr) (c' : Nat) (ty : TypeId) (w : World) :
    (Builtin.append_ #[36, 36] ty #[.slice (some q) n c, .slice a 0 c']).run Tryd.prog w = .ok (.slice (some q) n c) w := by
  cases a with
  | none => simp [Builtin.append_, run_underlying Tryd.underlying36, sizeOf, typeInfo, hi, Builtin.lenOf, Builtin.firstCells, storeCells, hn]
  | some p =>
    have h0 := run_loadCells_list (P := Tryd.prog) w p [] (fun j v hj => by simp at hj)
    simp only [List.length_nil] at h0
    simp [Builtin.append_, run_underlying Tryd.underlying36, sizeOf, typeInfo, hi, Builtin.lenOf, Builtin.firstCells, h0, storeCells, hn]
/-- the empty row lies in block g, made since B blocks were there -/
theorem wpList_copyE {w : World} {B g : Nat} {ops : Array Oper} {rest : List Oper} {o : Oper} {a : Act} {Q : Exit → Act → World → Prop} (hgd : o.guard = none) (s x : Operand)
    (ho : o.op = .call { callee := .builtin .append, args := #[s, x], argTypes := #[36, 36] }) (hs : a.eval s = .slice (some ⟨g, 0, none⟩) 0 0) (hg : w.heap[g]? = some (.cells #[] 3)) (hBg : B ≤ g) (xv : Value) (ss : List Int) (hx : a.eval x = xv) (hS : RowAt IntAt 1 w xv ss) (hl : ss.length ≤ 64)
    (h : ∀ a' c' w', RowAt IntAt 1 (mask (frm B) w') (.slice a' ss.length c') ss → Below B w w' → wpList Tryd.prog ops Q rest (a.put o.dst (.slice a' ss.length c')) w') : wpList Tryd.prog ops Q (o :: rest) a w := by
  obtain ⟨i3, hi3, hz0, hz1, hz2⟩ := info_parts infI
  obtain ⟨ad, cap, rfl, -, hc⟩ := hS
  have hgl := (Array.getElem?_eq_some_iff.1 hg).1
  rcases hc with rfl | ⟨b, of, rfl, hc⟩
  · refine wpList_plain hgd fun K hK => ?_
    have hr := append_noneI hi3 ⟨g, 0, none⟩ 0 0 (Nat.le_refl _) ad cap o.type w
    unfold Oper.wp execOp
    simp only [ho, resolve, invoke, builtin, Sem.run_bind, Sem.run_pure, Result.andThen_ok, List.map_toArray, List.map_cons, List.map_nil, hs, hx, List.length_nil, hr]
    exact hK _ _ (h (some ⟨g, 0, none⟩) 0 w ⟨_, 0, rfl, by simp, Or.inl rfl⟩ (Below.refl _ _))
  · refine wpList_append_own w hgd s x 36 ho B 3 i3 (.int .i64 0) 1 8 Tryd.underlying36 hi3 hz0 hz1 hz2 rfl (by decide) (.slice (some ⟨g, 0, none⟩) 0 0) 0 [] hs ⟨by simp, Or.inr ⟨g, 0, #[], rfl, hBg, hg, Nat.le_refl _, by unfold maxLen; omega, by simp, by simp⟩⟩ ⟨b, of, none⟩ ss.length cap (ss.map (Value.int .i64 ·)) hx (by simp) ?_ ?_ (by unfold maxLen; omega) (by omega) (by omega) ?_
    · intro j u hj
      have hlt : j < ss.length := by
        have := (List.getElem?_eq_some_iff.1 hj).1
        simpa using this
      have h0 := hc j hlt
      unfold IntAt at h0
      rw [Nat.mul_one] at h0
      rw [Addr.add_lit, h0]
      simp [List.getElem?_eq_getElem hlt] at hj
      rw [hj]
    · intro u hu
      simp only [List.mem_map] at hu
      obtain ⟨_, _, rfl⟩ := hu
      rfl
    · intro v' w' hown hgr _
      rw [Nat.zero_add, List.nil_append] at hown
      have hS' := ints_of_own hown
      obtain ⟨a', c', rfl, _⟩ := id hS'
      exact h a' c' w' hS' ((Below.refl B w).grown hgr (by omega) (fun k hk => by simp [Value.ownBlock] at hk; omega))
end Go.Proofs.YtephhllfodlfbaaDoor
