/-
  The strict reader as a whole: what its rule refuses is recovered, and told as an error.
-/
import Derived.Test.YthlpcmgeelkncaaDoorNt2
import Derived.Defers
import Derived.Recover
namespace Go.Proofs.YthlpcmgeelkncaaDoor
open Go.RowKit

theorem caught (g r : Nat) (x y z : Int) (older : List PanicEntry) (w : World) (hg : g < w.heap.size) (hr : r < w.heap.size) (hgr : g ≠ r)
    (c0 : w.cell? ⟨g, 0, none⟩ = some (.int .i64 x)) (c1 : w.cell? ⟨g, 1, none⟩ = some (.int .i64 y)) (c2 : w.cell? ⟨r, 0, none⟩ = some (.int .i64 z))
    (f0 : w.frozen? ⟨g, 0, none⟩ = false) (f1 : w.frozen? ⟨g, 1, none⟩ = false) (f2 : w.frozen? ⟨r, 0, none⟩ = false) :
    CallsD Tryd.prog 23 #[.pointer (some ⟨g, 0, none⟩), .pointer (some ⟨r, 0, none⟩)] (.panicking ({ v := .iface 24 (.int .i64 1), recovered := false } :: older)) w fun e u' w' =>
      e = .returned (.tuple #[]) ∧ u' = .panicking ({ v := .iface 24 (.int .i64 1), recovered := true } :: older) ∧ w' = (((w.setCell ⟨g, 0, none⟩ (.int .i64 0)).setCell ⟨g, 1, none⟩ (.int .i64 0)).setCell ⟨r, 0, none⟩ (.int .i64 1)).alloc (.cells #[.int .i64 0, .int .i64 0] 23) := by
  refine callsD_of_wpS Tryd.func23 rfl fun c₀ cs hu => ?_
  apply wpS_seq
  apply wpS_region
  simp [wpOpsS, go_sem, recoverD, hu, Tryd.ntmps23, Exit.thenS]
  refine wpS_cond (t := true) (by simp [Act.eval, Array.replicate]) ?_
  simp only [if_true]
  refine wpS_of_wp ?_
  have ht : (#[Value.pointer (some { block := g, off := 0 }), Value.pointer (some { block := r, off := 0 })] ++
          ((Array.replicate 4 undef).setIfInBounds 1 (Value.iface 24 (Value.int IntKind.i64 1))).setIfInBounds 2 (Value.bool true)) =
      #[Value.pointer (some { block := g, off := 0 }), Value.pointer (some { block := r, off := 0 }), undef, Value.iface 24 (Value.int IntKind.i64 1), Value.bool true, undef] := rfl
  rw [ht]
  clear ht
  go_wp2
  exact ⟨rfl, _, rfl, _, by simp [results, Tryd.results23], rfl, rfl, rfl⟩

theorem idle (g r : Nat) (w : World) :
    CallsD Tryd.prog 23 #[.pointer (some ⟨g, 0, none⟩), .pointer (some ⟨r, 0, none⟩)] .returning w fun e u' w' => e = .returned (.tuple #[]) ∧ u' = .returning ∧ w' = w := by
  refine callsD_of_wpS Tryd.func23 rfl fun c₀ cs hu => ?_
  apply wpS_seq
  apply wpS_region
  simp [wpOpsS, go_sem, recoverD, hu, Tryd.ntmps23, Exit.thenS]
  refine wpS_cond (t := false) (by simp [Act.eval, Array.replicate]) ?_
  simp only [Bool.false_eq_true, if_false]
  refine wpS_of_wp (wp_skip ?_)
  cases c₀
  simp_all [bodyPostS, results, Tryd.results23]

theorem still_some {w : World} {a : Addr} (b : Addr) (v : Value) (h : ∃ u, w.cell? a = some u) : ∃ u, (w.setCell b v).cell? a = some u := by
  obtain ⟨u, hu⟩ := h
  by_cases e : b = a
  · subst e; exact ⟨v, World.cell?_setCell_same _ _ _ hu⟩
  · exact ⟨u, by rw [World.cell?_setCell_other _ _ _ _ e]; exact hu⟩
theorem set_same {w : World} {a : Addr} (v : Value) (h : ∃ u, w.cell? a = some u) : (w.setCell a v).cell? a = some v := by
  obtain ⟨u, hu⟩ := h
  exact World.cell?_setCell_same _ _ _ hu
theorem caught_cells (g r : Nat) (x y z : Int) (older : List PanicEntry) (w : World) (hg : g < w.heap.size) (hr : r < w.heap.size) (hgr : g < r)
    (c0 : w.cell? ⟨g, 0, none⟩ = some (.int .i64 x)) (c1 : w.cell? ⟨g, 1, none⟩ = some (.int .i64 y)) (c2 : w.cell? ⟨r, 0, none⟩ = some (.int .i64 z))
    (f0 : w.frozen? ⟨g, 0, none⟩ = false) (f1 : w.frozen? ⟨g, 1, none⟩ = false) (f2 : w.frozen? ⟨r, 0, none⟩ = false) :
    CallsD Tryd.prog 23 #[.pointer (some ⟨g, 0, none⟩), .pointer (some ⟨r, 0, none⟩)] (.panicking ({ v := .iface 24 (.int .i64 1), recovered := false } :: older)) w fun e u' w' =>
      e = .returned (.tuple #[]) ∧ u' = .panicking ({ v := .iface 24 (.int .i64 1), recovered := true } :: older) ∧
      w'.cell? ⟨g, 0, none⟩ = some (.int .i64 0) ∧ w'.cell? ⟨g, 1, none⟩ = some (.int .i64 0) ∧ w'.cell? ⟨r, 0, none⟩ = some (.int .i64 1) ∧ Below g w w' := by
  refine (caught g r x y z older w hg hr (by omega) c0 c1 c2 f0 f1 f2).mono ?_
  rintro e u' w' ⟨rfl, rfl, rfl⟩
  have n1 : (⟨r, 0, none⟩ : Addr) ≠ ⟨g, 0, none⟩ := by intro e; injection e; omega
  have n2 : (⟨r, 0, none⟩ : Addr) ≠ ⟨g, 1, none⟩ := by simp
  have n3 : (⟨g, 1, none⟩ : Addr) ≠ ⟨g, 0, none⟩ := by simp
  refine ⟨rfl, rfl, ?_, ?_, ?_, ?_⟩
  · rw [World.cell?_alloc_past _ _ _ (by simpa [World.setCell] using hg), World.cell?_setCell_other _ _ _ _ n1, World.cell?_setCell_other _ _ _ _ n3]
    exact set_same _ ⟨_, c0⟩
  · rw [World.cell?_alloc_past _ _ _ (by simpa [World.setCell] using hg), World.cell?_setCell_other _ _ _ _ n2]
    exact set_same _ (still_some _ _ ⟨_, c1⟩)
  · rw [World.cell?_alloc_past _ _ _ (by simpa [World.setCell] using hr)]
    exact set_same _ (still_some _ _ (still_some _ _ ⟨_, c2⟩))
  · refine Below.alloc ((((Below.refl _ _).setCell (p := ⟨g, 0, none⟩) (Nat.le_refl _) _).setCell (p := ⟨g, 1, none⟩) (Nat.le_refl _) _).setCell (p := ⟨r, 0, none⟩) (Nat.le_of_lt hgr) _) ?_ _
    simp [World.setCell]; omega
theorem two_boxes (w w1 : World) (o : Obj)
    (hb : Below (w.heap.size + 1 + 1) (((w.alloc (.cells #[.int .i64 0, .int .i64 0] 23)).alloc (.cells #[.int .i64 0] 24)).alloc o) w1) :
    (w1.cell? ⟨w.heap.size, 0, none⟩ = some (.int .i64 0) ∧ w1.cell? ⟨w.heap.size, 1, none⟩ = some (.int .i64 0) ∧ w1.cell? ⟨w.heap.size + 1, 0, none⟩ = some (.int .i64 0)) ∧
    (w1.frozen? ⟨w.heap.size, 0, none⟩ = false ∧ w1.frozen? ⟨w.heap.size, 1, none⟩ = false ∧ w1.frozen? ⟨w.heap.size + 1, 0, none⟩ = false) ∧
    w.heap.size + 1 < w1.heap.size ∧ Below w.heap.size w w1 := by
  have hs := hb.size
  simp at hs
  refine ⟨⟨?_, ?_, ?_⟩, ⟨?_, ?_, ?_⟩, by omega, ?_⟩
  · rw [hb.cell (p := ⟨w.heap.size, 0, none⟩) (by simp; omega)]; simp [go_sem]
  · rw [hb.cell (p := ⟨w.heap.size, 1, none⟩) (by simp; omega)]; simp [go_sem]
  · rw [hb.cell (p := ⟨w.heap.size + 1, 0, none⟩) (by simp)]; simp [go_sem]
  · rw [hb.frozen (p := ⟨w.heap.size, 0, none⟩) (by simp; omega)]; simp [go_sem]
  · rw [hb.frozen (p := ⟨w.heap.size, 1, none⟩) (by simp; omega)]; simp [go_sem]
  · rw [hb.frozen (p := ⟨w.heap.size + 1, 0, none⟩) (by simp)]; simp [go_sem]
  · exact ((((Below.refl _ _).alloc (Nat.le_refl _) _).alloc (by simp) _).alloc (by simp; omega) _).trans (hb.mono (by omega))

set_option maxHeartbeats 400000 in
theorem whole_some (l : List UInt8) (x y : Int) (w : World) (hl : l.length ≤ maxLen) (h : Pl.read l = some (x, y)) :
    Calls Tryd.prog 18 #[.string ⟨l.toArray⟩, .func (.func 19) #[] #[]] w fun e w' => e = .returned (.tuple #[.agg #[.int .i64 x, .int .i64 y], .int .i64 0]) ∧ Below w.heap.size w w' := by
  have hmf : ∀ (fn : Fn) (first cap : Array Value) (w : World), (Instr.makeFunc fn first cap).run Tryd.prog w = .ok (.func fn first cap) w := fun _ _ _ _ => rfl
  have hr : Pl.readNth l = some (x, y, []) := by
    unfold Pl.read at h
    split at h
    · rename_i a b hr
      simp only [Option.some.injEq, Prod.mk.injEq] at h
      rw [hr, h.1, h.2]
    · cases h
  clear h
  go_enter_defers Tryd.func18, Tryd.ntmps18
  go_wp2_with fail
  refine (readNth_any _ l _ (by simp) (by simp [go_sem]) (by simp [go_sem]) hl).mono ?_
  rintro e w1 (⟨h, rfl, hb⟩ | ⟨x', y', r', h, rfl, hc, hb⟩)
  · rw [hr] at h; cases h
  rw [hr] at h
  simp only [Option.some.injEq, Prod.mk.injEq] at h
  obtain ⟨rfl, rfl, rfl⟩ := h
  obtain ⟨⟨c0, c1, c2⟩, ⟨f0, f1, f2⟩, hsz, hB⟩ := two_boxes w w1 _ hb
  clear hb hr
  go_wp2
  refine leaves_cons (f := 23) (args := #[.pointer (some ⟨w.heap.size, 0, none⟩), .pointer (some ⟨w.heap.size + 1, 0, none⟩)]) (by simp) (by simp [go_sem]) ?_
  refine (idle _ _ _).mono ?_
  rintro e u' w'' ⟨rfl, rfl, rfl⟩
  have e1 := set_same (a := ⟨w.heap.size, 1, none⟩) (.int .i64 y) (still_some ⟨w.heap.size, 0, none⟩ (.int .i64 x) (still_some ⟨w.heap.size, 1, none⟩ (.int .i64 y) (still_some ⟨w.heap.size, 0, none⟩ (.int .i64 x) ⟨_, c1⟩)))
  have e2 := set_same (a := ⟨w.heap.size + 1, 0, none⟩) (.int .i64 0) (still_some ⟨w.heap.size, 1, none⟩ (.int .i64 y) (still_some ⟨w.heap.size, 0, none⟩ (.int .i64 x) (still_some ⟨w.heap.size, 1, none⟩ (.int .i64 y) (still_some ⟨w.heap.size, 0, none⟩ (.int .i64 x) ⟨_, c2⟩))))
  simp [Leaves, settle, results, Tryd.results18, go_sem, c0, e1, e2]
  exact ((((hB.setCell (p := ⟨w.heap.size, 0, none⟩) (Nat.le_refl _) _).setCell (p := ⟨w.heap.size, 1, none⟩) (Nat.le_refl _) _).setCell (p := ⟨w.heap.size, 0, none⟩) (Nat.le_refl _) _).setCell (p := ⟨w.heap.size, 1, none⟩) (Nat.le_refl _) _).setCell (p := ⟨w.heap.size + 1, 0, none⟩) (Nat.le_succ _) _

set_option maxHeartbeats 400000 in
theorem whole_none (l : List UInt8) (w : World) (hl : l.length ≤ maxLen) (h : Pl.read l = none) :
    Calls Tryd.prog 18 #[.string ⟨l.toArray⟩, .func (.func 19) #[] #[]] w fun e w' => e = .returned (.tuple #[.agg #[.int .i64 0, .int .i64 0], .int .i64 1]) ∧ Below w.heap.size w w' := by
  have hmf : ∀ (fn : Fn) (first cap : Array Value) (w : World), (Instr.makeFunc fn first cap).run Tryd.prog w = .ok (.func fn first cap) w := fun _ _ _ _ => rfl
  go_enter_defers Tryd.func18, Tryd.ntmps18
  go_wp2_with fail
  refine (readNth_any _ l _ (by simp) (by simp [go_sem]) (by simp [go_sem]) hl).mono ?_
  rintro e w1 (⟨hn, rfl, hb⟩ | ⟨x, y, r, hn, rfl, hc, hb⟩)
  · obtain ⟨⟨c0, c1, c2⟩, ⟨f0, f1, f2⟩, hsz, hB⟩ := two_boxes w w1 _ hb
    clear hb hn h
    go_wp2
    refine leaves_cons (f := 23) (args := #[.pointer (some ⟨w.heap.size, 0, none⟩), .pointer (some ⟨w.heap.size + 1, 0, none⟩)]) (by simp) (by simp [go_sem]) ?_
    refine (caught_cells _ _ 0 0 0 [] _ (by omega) (by omega) (by omega) c0 c1 c2 f0 f1 f2).mono ?_
    rintro e u' w'' ⟨rfl, rfl, d0, d1, d2, hb2⟩
    simp [Leaves, settle, results, Tryd.results18, go_sem, d0, d1, d2]
    exact hB.trans hb2
  · have hne : ∃ c t, r = c :: t := by
      cases r with
      | nil => simp [Pl.read, hn] at h
      | cons c t => exact ⟨c, t, rfl⟩
    obtain ⟨c, t, rfl⟩ := hne
    obtain ⟨⟨c0, c1, c2⟩, ⟨f0, f1, f2⟩, hsz, hB⟩ := two_boxes w w1 _ hb
    clear hb hn h
    go_wp2_with (go_at_call 24; refine (refuse_any _).mono ?_; rintro e w' ⟨rfl, rfl⟩)
    refine leaves_cons (f := 23) (args := #[.pointer (some ⟨w.heap.size, 0, none⟩), .pointer (some ⟨w.heap.size + 1, 0, none⟩)]) (by simp) (by simp [go_sem]) ?_
    have n1 : (⟨w.heap.size, 1, none⟩ : Addr) ≠ ⟨w.heap.size, 0, none⟩ := by simp
    have n2 : (⟨w.heap.size, 1, none⟩ : Addr) ≠ ⟨w.heap.size + 1, 0, none⟩ := by simp
    have n3 : (⟨w.heap.size, 0, none⟩ : Addr) ≠ ⟨w.heap.size + 1, 0, none⟩ := by simp
    have g0 : ((w1.setCell ⟨w.heap.size, 0, none⟩ (.int .i64 x)).setCell ⟨w.heap.size, 1, none⟩ (.int .i64 y)).cell? ⟨w.heap.size, 0, none⟩ = some (.int .i64 x) := by
      rw [World.cell?_setCell_other _ _ _ _ n1]; exact set_same _ ⟨_, c0⟩
    have g1 : ((w1.setCell ⟨w.heap.size, 0, none⟩ (.int .i64 x)).setCell ⟨w.heap.size, 1, none⟩ (.int .i64 y)).cell? ⟨w.heap.size, 1, none⟩ = some (.int .i64 y) := set_same _ (still_some _ _ ⟨_, c1⟩)
    have g2 : ((w1.setCell ⟨w.heap.size, 0, none⟩ (.int .i64 x)).setCell ⟨w.heap.size, 1, none⟩ (.int .i64 y)).cell? ⟨w.heap.size + 1, 0, none⟩ = some (.int .i64 0) := by
      rw [World.cell?_setCell_other _ _ _ _ n2, World.cell?_setCell_other _ _ _ _ n3]; exact c2
    refine (caught_cells _ _ x y 0 [] _ (by simp [World.setCell]; omega) (by simp [World.setCell]; omega) (by omega) g0 g1 g2 (by simp [f0]) (by simp [f1]) (by simp [f2])).mono ?_
    rintro e u' w'' ⟨rfl, rfl, d0, d1, d2, hb2⟩
    simp [Leaves, settle, results, Tryd.results18, go_sem, d0, d1, d2]
    exact ((hB.setCell (p := ⟨w.heap.size, 0, none⟩) (Nat.le_refl _) _).setCell (p := ⟨w.heap.size, 1, none⟩) (Nat.le_refl _) _).trans hb2

theorem one_box (w w1 : World) (hb : Below (w.heap.size + 1) (w.alloc (.cells #[.int .i64 0, .int .i64 0] 23)) w1) :
    (w1.cell? ⟨w.heap.size, 0, none⟩ = some (.int .i64 0) ∧ w1.cell? ⟨w.heap.size, 1, none⟩ = some (.int .i64 0)) ∧
    (w1.frozen? ⟨w.heap.size, 0, none⟩ = false ∧ w1.frozen? ⟨w.heap.size, 1, none⟩ = false) ∧ Below w.heap.size w w1 := by
  refine ⟨⟨?_, ?_⟩, ⟨?_, ?_⟩, ?_⟩
  · rw [hb.cell (p := ⟨w.heap.size, 0, none⟩) (by simp)]; simp [go_sem]
  · rw [hb.cell (p := ⟨w.heap.size, 1, none⟩) (by simp)]; simp [go_sem]
  · rw [hb.frozen (p := ⟨w.heap.size, 0, none⟩) (by simp)]; simp [go_sem]
  · rw [hb.frozen (p := ⟨w.heap.size, 1, none⟩) (by simp)]; simp [go_sem]
  · exact ((Below.refl _ _).alloc (Nat.le_refl _) _).trans (hb.mono (by omega))

/-- nth.Read, out of what is read as a whole. -/
theorem read_of (l : List UInt8) (x y ev : Int) (w : World)
    (hw : Hid (∀ W, Calls Tryd.prog 18 #[.string ⟨l.toArray⟩, .func (.func 19) #[] #[]] W fun e w' => e = .returned (.tuple #[.agg #[.int .i64 x, .int .i64 y], .int .i64 ev]) ∧ Below W.heap.size W w')) :
    Calls Tryd.prog 8 #[.string ⟨l.toArray⟩] w fun e w' => e = .returned (.tuple #[.agg #[.int .i64 x, .int .i64 y], .int .i64 ev]) ∧ Below w.heap.size w w' := by
  go_enter Tryd.func8, Tryd.ntmps8
  go_wp2_with fail
  refine (hw.out _).mono ?_
  rintro e w1 ⟨rfl, hb⟩
  obtain ⟨⟨c0, c1⟩, ⟨f0, f1⟩, hB⟩ := one_box w w1 (by simpa using hb)
  clear hb
  go_wp2
  have e1 := set_same (a := ⟨w.heap.size, 1, none⟩) (.int .i64 y) (still_some ⟨w.heap.size, 0, none⟩ (.int .i64 x) ⟨_, c1⟩)
  exact bodyPost_ret (v := .tuple #[.agg #[.int .i64 x, .int .i64 y], .int .i64 ev]) (by simp [results, Tryd.results8, go_sem, c0, e1]) rfl
    ⟨rfl, (hB.setCell (p := ⟨w.heap.size, 0, none⟩) (Nat.le_refl _) _).setCell (p := ⟨w.heap.size, 1, none⟩) (Nat.le_refl _) _⟩
theorem read_some (l : List UInt8) (x y : Int) (w : World) (hl : l.length ≤ maxLen) (h : Pl.read l = some (x, y)) :
    Calls Tryd.prog 8 #[.string ⟨l.toArray⟩] w fun e w' => e = .returned (.tuple #[.agg #[.int .i64 x, .int .i64 y], .int .i64 0]) ∧ Below w.heap.size w w' :=
  read_of l x y 0 w fun W => whole_some l x y W hl h
theorem read_none (l : List UInt8) (w : World) (hl : l.length ≤ maxLen) (h : Pl.read l = none) :
    Calls Tryd.prog 8 #[.string ⟨l.toArray⟩] w fun e w' => e = .returned (.tuple #[.agg #[.int .i64 0, .int .i64 0], .int .i64 1]) ∧ Below w.heap.size w w' :=
  read_of l 0 0 1 w fun W => whole_none l W hl h
end Go.Proofs.YthlpcmgeelkncaaDoor
