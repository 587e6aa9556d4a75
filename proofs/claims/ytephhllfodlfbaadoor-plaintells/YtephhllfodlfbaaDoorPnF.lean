/-
  Of those that are the same the first one: same.Firsts, of tests and of paths.
-/
import Derived.Test.YtephhllfodlfbaaDoorPnG
namespace Go.Proofs.YtephhllfodlfbaaDoor
open Go.RowKit

theorem hblk {W W' : World} {M : Nat} {ob : Obj} (h : W.heap[M]? = some ob) (hb : Below W.heap.size W W') : W'.heap[M]? = some ob := (hb.block M (Array.getElem?_eq_some_iff.1 h).1).trans h
theorem f1 {W : World} {M T : Nat} {v : Value} (h : W.heap[M]? = some (.cells #[v] T)) : W.cell? ⟨M, 0, none⟩ = some v := by simp [World.cell?, h]
theorem f2 {W : World} {M T : Nat} {v0 v1 : Value} (h : W.heap[M]? = some (.cells #[v0, v1] T)) : W.cell? ⟨M, 0, none⟩ = some v0 ∧ W.cell? ⟨M, 1, none⟩ = some v1 := by
  refine ⟨?_, ?_⟩ <;> simp [World.cell?, h]
theorem f6 {W : World} {M T : Nat} {v0 v1 v2 v3 v4 v5 : Value} (h : W.heap[M]? = some (.cells #[v0, v1, v2, v3, v4, v5] T)) : W.cell? ⟨M, 0, none⟩ = some v0 ∧ W.cell? ⟨M, 1, none⟩ = some v1 ∧ W.cell? ⟨M, 2, none⟩ = some v2 ∧ W.cell? ⟨M, 3, none⟩ = some v3 ∧ W.cell? ⟨M, 4, none⟩ = some v4 ∧ W.cell? ⟨M, 5, none⟩ = some v5 := by
  refine ⟨?_, ?_, ?_, ?_, ?_, ?_⟩ <;> simp [World.cell?, h]
section
variable {α : Type} [DecidableEq α] {A : MemL α} (hA : IsL A) (ok : Pl.Tst α → Prop)
  (hH : ∀ (W : World) (x y : Value) (t s : Pl.Tst α), TstV A W x t → TstV A W y s → ok t → ok s → Calls Tryd.prog 60 #[x, y] W fun e w' => e = .returned (.bool (sm t s)) ∧ Below W.heap.size W w')
include hA hH
set_option maxRecDepth 100000 in
set_option maxHeartbeats 2000000 in
theorem cloT_any (M3 M7 : Nat) (ax : Option Addr) (dx : Nat) (vy : Value) (x y : Pl.Tst α) (w : World) (h3 : w.heap[M3]? = some (.cells #[.func (.func 60) #[] #[]] 61)) (h7 : w.heap[M7]? = some (.cells #[.int .i64 x.kind, .string ⟨x.name.toArray⟩, .string ⟨x.value.toArray⟩, .int .i64 x.a, .int .i64 x.b, .slice ax x.list.length dx] 45)) (hx : A w (.slice ax x.list.length dx) x.list) (hy : TstV A w vy y) (ox : ok x) (oy : ok y) :
    Calls Tryd.prog 75 #[vy, .pointer (some ⟨M3, 0, none⟩), .pointer (some ⟨M7, 0, none⟩)] w fun e w' => e = .returned (.bool (sm y x)) ∧ Below w.heap.size w w' := by
  obtain ⟨vl, rfl, hm⟩ := hy
  obtain ⟨ay, dy, rfl, -⟩ := hA.form hm
  have hb := on_alloc w (.cells #[.int .i64 y.kind, .string ⟨y.name.toArray⟩, .string ⟨y.value.toArray⟩, .int .i64 y.a, .int .i64 y.b, .slice ay y.list.length dy] 45)
  have c3 := f1 (hblk h3 hb)
  obtain ⟨q0, q1, q2, q3, q4, q5⟩ := f6 (hblk h7 hb)
  have HB : Hid (Below w.heap.size w (w.alloc (.cells #[.int .i64 y.kind, .string ⟨y.name.toArray⟩, .string ⟨y.value.toArray⟩, .int .i64 y.a, .int .i64 y.b, .slice ay y.list.length dy] 45))) := hb
  have HC : Hid (Calls Tryd.prog 60 #[.agg #[.int .i64 y.kind, .string ⟨y.name.toArray⟩, .string ⟨y.value.toArray⟩, .int .i64 y.a, .int .i64 y.b, .slice ay y.list.length dy], .agg #[.int .i64 x.kind, .string ⟨x.name.toArray⟩, .string ⟨x.value.toArray⟩, .int .i64 x.a, .int .i64 x.b, .slice ax x.list.length dx]] (w.alloc (.cells #[.int .i64 y.kind, .string ⟨y.name.toArray⟩, .string ⟨y.value.toArray⟩, .int .i64 y.a, .int .i64 y.b, .slice ay y.list.length dy] 45)) fun e w' => e = .returned (.bool (sm y x)) ∧ Below (w.alloc (.cells #[.int .i64 y.kind, .string ⟨y.name.toArray⟩, .string ⟨y.value.toArray⟩, .int .i64 y.a, .int .i64 y.b, .slice ay y.list.length dy] 45)).heap.size (w.alloc (.cells #[.int .i64 y.kind, .string ⟨y.name.toArray⟩, .string ⟨y.value.toArray⟩, .int .i64 y.a, .int .i64 y.b, .slice ay y.list.length dy] 45)) w') := hH _ _ _ y x ⟨_, rfl, (hA.on hm hb : A (w.alloc (.cells #[.int .i64 y.kind, .string ⟨y.name.toArray⟩, .string ⟨y.value.toArray⟩, .int .i64 y.a, .int .i64 y.b, .slice ay y.list.length dy] 45)) (.slice ay y.list.length dy) y.list)⟩ ⟨_, rfl, (hA.on hx hb : A (w.alloc (.cells #[.int .i64 y.kind, .string ⟨y.name.toArray⟩, .string ⟨y.value.toArray⟩, .int .i64 y.a, .int .i64 y.b, .slice ay y.list.length dy] 45)) (.slice ax x.list.length dx) x.list)⟩ oy ox
  clear hb h3 h7 hx hm ox oy
  generalize sm y x = r at *
  go_enter Tryd.func75, Tryd.ntmps75
  go_wp2_with fail
  refine HC.out.mono ?_
  rintro e w2 ⟨rfl, hb2⟩
  have HB2 : Hid (Below w.heap.size w w2) := below_trans HB.out hb2
  clear hb2
  go_wp2
  go_ret
  exact ⟨rfl, HB2.out⟩
set_option maxRecDepth 100000 in
set_option maxHeartbeats 4000000 in
theorem indexT_any (M3 M7 : Nat) (ax : Option Addr) (dx : Nat) (x : Pl.Tst α) (v : Value) (l : List (Pl.Tst α)) (w : World) (h3 : w.heap[M3]? = some (.cells #[.func (.func 60) #[] #[]] 61)) (h7 : w.heap[M7]? = some (.cells #[.int .i64 x.kind, .string ⟨x.name.toArray⟩, .string ⟨x.value.toArray⟩, .int .i64 x.a, .int .i64 x.b, .slice ax x.list.length dx] 45)) (hx : A w (.slice ax x.list.length dx) x.list) (ox : ok x) (hl : RowAt (TstAt A) 6 w v l) (ol : ∀ y ∈ l, ok y) :
    Calls Tryd.prog 76 #[v, .func (.func 75) #[] #[.pointer (some ⟨M3, 0, none⟩), .pointer (some ⟨M7, 0, none⟩)]] w fun e w' => ((∃ k : Nat, e = .returned (.int .i64 k) ∧ x ∈ l) ∨ (e = .returned (.int .i64 (-1)) ∧ x ∉ l)) ∧ Below w.heap.size w w' := by
  have hlen := hl.fit
  unfold maxLen at hlen
  obtain ⟨a, c, rfl, -, hcs⟩ := hl
  have HR : Hid _ := hcs
  have OL : Hid _ := ol
  have HCL : Hid (∀ (W : World) (vy : Value) (y : Pl.Tst α), Below w.heap.size w W → TstV A W vy y → ok y → Calls Tryd.prog 75 #[vy, .pointer (some ⟨M3, 0, none⟩), .pointer (some ⟨M7, 0, none⟩)] W fun e w' => e = .returned (.bool (sm y x)) ∧ Below W.heap.size W w') := fun W vy y hW hy oy => cloT_any hA ok hH M3 M7 ax dx vy x y W (hblk h3 hW) (hblk h7 hW) (hA.on hx hW) hy ox oy
  clear hcs ol h3 h7 hx
  go_enter Tryd.func76, Tryd.ntmps76
  go_wp2
  go_loopw [8] (fun i wr => ∃ k : Nat, k ≤ l.length ∧ i = .int .i64 k ∧ Hid (x ∉ l.take k) ∧ Hid (Below w.heap.size w wr)) (fun i _ => l.length - (intOf i).toNat)
  case atStart => exact ⟨0, Nat.zero_le _, rfl, by simp [Hid], Below.refl _ _⟩
  case round =>
    obtain ⟨k, hk, rfl, HT, HB⟩ := hrel
    by_cases hlt : k < l.length
    · rcases HR.out with h0 | ⟨b, o, rfl, hc⟩
      · subst h0; simp at hlt
      have hat := (hc k hlt).on hA HB.out
      have oy := OL.out l[k] (List.getElem_mem hlt)
      have HY : Hid (l[k] = x → x ∈ l) := fun e => by rw [← e]; exact List.getElem_mem hlt
      have HN : Hid (l[k] ≠ x → x ∉ l.take (k + 1)) := fun e h => by
        rw [List.take_succ_eq_append_getElem hlt] at h
        rcases List.mem_append.1 h with h | h
        · exact HT.out h
        · exact e (List.mem_singleton.1 h).symm
      have i1 : (0 : Int) ≤ (k : Int) := by omega
      have i2 : (k : Int) < (l.length : Int) := by omega
      clear hc
      generalize l[k] = y at *
      obtain ⟨vy, n0, n1, n2, n3, n4, n5, hm⟩ := hat
      obtain ⟨ay, dy, rfl, -⟩ := hA.form hm
      have HC := HCL.out wr (.agg #[.int .i64 y.kind, .string ⟨y.name.toArray⟩, .string ⟨y.value.toArray⟩, .int .i64 y.a, .int .i64 y.b, .slice ay y.list.length dy]) y HB.out ⟨_, rfl, hm⟩ oy
      have HCC : Hid (Calls Tryd.prog 75 _ _ _) := HC
      clear HC hm oy
      cases hq : sm y x with
      | true =>
        rw [hq] at HCC
        have HM : Hid (x ∈ l) := HY.out (sm_true hq)
        clear hq
        go_wp2_with fail
        refine HCC.out.mono ?_
        rintro e w2 ⟨rfl, hb2⟩
        have HB2 : Hid (Below w.heap.size w w2) := below_trans HB.out hb2
        clear hb2
        go_wp2
        go_ret
        exact ⟨Or.inl ⟨k, rfl, HM.out⟩, HB2.out⟩
      | false =>
        rw [hq] at HCC
        have HN2 : Hid (x ∉ l.take (k + 1)) := HN.out (sm_false hq)
        clear hq
        go_wp2_with fail
        refine HCC.out.mono ?_
        rintro e w2 ⟨rfl, hb2⟩
        have HB2 : Hid (Below w.heap.size w w2) := below_trans HB.out hb2
        clear hb2
        go_wp2
        exact ⟨⟨k + 1, hlt, by go_num, HN2, HB2⟩, by simp [intOf]; omega⟩
    · have HM : Hid (x ∉ l) := by
        have := HT.out
        rw [List.take_of_length_le (by omega)] at this
        exact this
      go_wp2
      go_ret
      exact ⟨Or.inr ⟨rfl, HM.out⟩, HB.out⟩
set_option maxRecDepth 100000 in
set_option maxHeartbeats 2000000 in
theorem containsT_any (M3 M7 : Nat) (ax : Option Addr) (dx : Nat) (x : Pl.Tst α) (v : Value) (l : List (Pl.Tst α)) (w : World) (h3 : w.heap[M3]? = some (.cells #[.func (.func 60) #[] #[]] 61)) (h7 : w.heap[M7]? = some (.cells #[.int .i64 x.kind, .string ⟨x.name.toArray⟩, .string ⟨x.value.toArray⟩, .int .i64 x.a, .int .i64 x.b, .slice ax x.list.length dx] 45)) (hx : A w (.slice ax x.list.length dx) x.list) (ox : ok x) (hl : RowAt (TstAt A) 6 w v l) (ol : ∀ y ∈ l, ok y) :
    Calls Tryd.prog 74 #[v, .func (.func 75) #[] #[.pointer (some ⟨M3, 0, none⟩), .pointer (some ⟨M7, 0, none⟩)]] w fun e w' => ((e = .returned (.bool true) ∧ x ∈ l) ∨ (e = .returned (.bool false) ∧ x ∉ l)) ∧ Below w.heap.size w w' := by
  have HC : Hid (Calls Tryd.prog 76 _ _ _) := indexT_any hA ok hH M3 M7 ax dx x v l w h3 h7 hx ox hl ol
  obtain ⟨a, c, rfl⟩ := hl.form
  clear h3 h7 hx hl ol
  go_enter Tryd.func74, Tryd.ntmps74
  go_wp2_with fail
  refine HC.out.mono ?_
  rintro e w2 ⟨⟨k, rfl, hm⟩ | ⟨rfl, hm⟩, hb2⟩
  · have HM : Hid (x ∈ l) := hm
    have HB2 : Hid (Below w.heap.size w w2) := hb2
    have i1 : (0 : Int) ≤ (k : Int) := by omega
    clear hb2 hm HC
    go_wp2
    go_ret
    exact ⟨Or.inl ⟨rfl, HM.out⟩, HB2.out⟩
  · have HM : Hid (x ∉ l) := hm
    have HB2 : Hid (Below w.heap.size w w2) := hb2
    clear hb2 hm HC
    go_wp2
    go_ret
    exact ⟨Or.inr ⟨rfl, HM.out⟩, HB2.out⟩
set_option maxRecDepth 100000 in
set_option maxHeartbeats 4000000 in
theorem firstsT_any (hS : IsSub A) (B : Nat) (v : Value) (l : List (Pl.Tst α)) (w : World) (hB : B ≤ w.heap.size) (hl : RowAt (TstAt A) 6 (mask (frm B) w) v l) (h60 : l.length ≤ 60) (ol : ∀ y ∈ l, ok y) :
    Calls Tryd.prog 68 #[v, .func (.func 60) #[] #[]] w fun e w' => ∃ v', e = .returned v' ∧ RowAt (TstAt A) 6 (mask (frm B) w') v' (Pl.firsts l) ∧ Below w.heap.size w w' := by
  obtain ⟨a, c, rfl, -, hcs⟩ := hl
  have HR : Hid _ := hcs
  have OL : Hid _ := ol
  have HB0 : Hid (Below w.heap.size w (w.alloc (.cells #[.func (.func 60) #[] #[]] 61))) := on_alloc _ _
  have HZW : Hid ((w.alloc (.cells #[.func (.func 60) #[] #[]] 61)).heap.size = w.heap.size + 1) := by unfold Hid; simp
  have H30 : Hid ((w.alloc (.cells #[.func (.func 60) #[] #[]] 61)).heap[w.heap.size]? = some (.cells #[.func (.func 60) #[] #[]] 61)) := heap_alloc_new w _
  have HCT : Hid (∀ (M7 : Nat) (ax : Option Addr) (dx : Nat) (x : Pl.Tst α) (v : Value) (l : List (Pl.Tst α)) (W : World), W.heap[w.heap.size]? = some (.cells #[.func (.func 60) #[] #[]] 61) → W.heap[M7]? = some (.cells #[.int .i64 x.kind, .string ⟨x.name.toArray⟩, .string ⟨x.value.toArray⟩, .int .i64 x.a, .int .i64 x.b, .slice ax x.list.length dx] 45) → A W (.slice ax x.list.length dx) x.list → ok x → RowAt (TstAt A) 6 W v l → (∀ y ∈ l, ok y) → Calls Tryd.prog 74 #[v, .func (.func 75) #[] #[.pointer (some ⟨w.heap.size, 0, none⟩), .pointer (some ⟨M7, 0, none⟩)]] W fun e w' => ((e = .returned (.bool true) ∧ x ∈ l) ∨ (e = .returned (.bool false) ∧ x ∉ l)) ∧ Below W.heap.size W w') := fun M7 ax dx x v l W p q r s t u => containsT_any hA ok hH w.heap.size M7 ax dx x v l W p q r s t u
  have HKO : Hid (∀ j, j ≤ l.length → ∀ y ∈ Pl.firstsTo l j, ok y) := fun j hj y hy => by
    refine ol y ?_
    unfold Pl.firstsTo at hy
    rw [Pl.foldl_mem] at hy
    rcases hy with hy | hy
    · cases hy
    · exact List.mem_of_mem_take hy
  clear hcs ol
  go_enter Tryd.func68, Tryd.ntmps68
  go_wp2
  generalize w.alloc (.cells #[.func (.func 60) #[] #[]] 61) = w0 at *
  go_loopw [5, 10] (fun u i wr => ∃ k : Nat, k ≤ l.length ∧ i = .int .i64 k ∧ Hid (Grow (frm B) (w.heap.size + 1) 45 6 (VT A) wr u (Pl.firstsTo l k)) ∧ Hid (Below w0.heap.size w0 wr)) (fun _ i _ => l.length - (intOf i).toNat)
  case atStart => exact ⟨0, Nat.zero_le _, rfl, Grow.nil _ _ _ _ _ _, Below.refl _ _⟩
  case round =>
    obtain ⟨k, hk, rfl, HG, HBr⟩ := hrel
    have HBw : Hid (Below w.heap.size w wr) := below_trans HB0.out HBr.out
    obtain ⟨au, cu, rfl⟩ := HG.out.form
    by_cases hlt : k < l.length
    · rcases HR.out with h0 | ⟨b, o, rfl, hc⟩
      · subst h0; simp at hlt
      have hat0 := hc k hlt
      have ox := OL.out l[k] (List.getElem_mem hlt)
      have hko := HKO.out k (by omega)
      have HY : Hid (l[k] ∈ Pl.firstsTo l k → Pl.firstsTo l (k + 1) = Pl.firstsTo l k) := fun e => by rw [Pl.firstsTo_next hlt]; unfold Pl.keepIn; rw [if_pos e]
      have HN : Hid (l[k] ∉ Pl.firstsTo l k → Pl.firstsTo l (k + 1) = Pl.firstsTo l k ++ [l[k]]) := fun e => by rw [Pl.firstsTo_next hlt]; unfold Pl.keepIn; rw [if_neg e]
      have HLN : Hid ((Pl.firstsTo l k).length + 1 ≤ 64) := by unfold Hid; have := Pl.firstsTo_len l k (by omega); omega
      have i1 : (0 : Int) ≤ (k : Int) := by omega
      have i2 : (k : Int) < (l.length : Int) := by omega
      clear hc
      generalize l[k] = y at *
      have HROW : Hid (RowAt (TstAt A) 6 wr (.slice au (Pl.firstsTo l k).length cu) (Pl.firstsTo l k)) := (Grow.row (isV_t hS) HG.out).map fun _ _ _ hq => hq.sub hS (incl_real _ _)
      generalize Pl.firstsTo l k = kept at *
      obtain ⟨vy, n0, n1, n2, n3, n4, n5, hm⟩ := hat0
      obtain ⟨ay, dy, rfl, -⟩ := hA.form hm
      have HMM : Hid (A (mask (frm B) w) (.slice ay y.list.length dy) y.list) := hm
      have HMR : Hid (∀ W, Below w.heap.size w W → A W (.slice ay y.list.length dy) y.list) := fun W hW => by
        have h1 : A w (.slice ay y.list.length dy) y.list := hS.sub hm (incl_real _ _)
        exact hA.on h1 hW
      replace n0 := cell_on HBw.out (mask_cell.1 n0).2
      replace n1 := cell_on HBw.out (mask_cell.1 n1).2
      replace n2 := cell_on HBw.out (mask_cell.1 n2).2
      replace n3 := cell_on HBw.out (mask_cell.1 n3).2
      replace n4 := cell_on HBw.out (mask_cell.1 n4).2
      replace n5 := cell_on HBw.out (mask_cell.1 n5).2
      have hba := on_alloc wr (.cells #[.int .i64 y.kind, .string ⟨y.name.toArray⟩, .string ⟨y.value.toArray⟩, .int .i64 y.a, .int .i64 y.b, .slice ay y.list.length dy] 45)
      have HBa : Hid (Below wr.heap.size wr (wr.alloc (.cells #[.int .i64 y.kind, .string ⟨y.name.toArray⟩, .string ⟨y.value.toArray⟩, .int .i64 y.a, .int .i64 y.b, .slice ay y.list.length dy] 45))) := hba
      have H7 : Hid ((wr.alloc (.cells #[.int .i64 y.kind, .string ⟨y.name.toArray⟩, .string ⟨y.value.toArray⟩, .int .i64 y.a, .int .i64 y.b, .slice ay y.list.length dy] 45)).heap[wr.heap.size]? = some (.cells #[.int .i64 y.kind, .string ⟨y.name.toArray⟩, .string ⟨y.value.toArray⟩, .int .i64 y.a, .int .i64 y.b, .slice ay y.list.length dy] 45)) := heap_alloc_new wr _
      have HC : Hid (Calls Tryd.prog 74 _ _ _) := HCT.out wr.heap.size ay dy y (.slice au kept.length cu) kept (wr.alloc (.cells #[.int .i64 y.kind, .string ⟨y.name.toArray⟩, .string ⟨y.value.toArray⟩, .int .i64 y.a, .int .i64 y.b, .slice ay y.list.length dy] 45)) (hblk (hblk H30.out HBr.out) hba) (heap_alloc_new wr _) (HMR.out _ (below_trans HBw.out hba)) ox (HROW.out.map fun _ _ _ hq => hq.on hA hba) hko
      clear hm hba ox hko HROW
      obtain ⟨wq, hwq⟩ : ∃ q, q = wr := ⟨_, rfl⟩
      subst hwq
      go_wp2_with fail
      clear n0 n1 n2 n3 n4 n5
      generalize wq.alloc (.cells #[.int .i64 y.kind, .string ⟨y.name.toArray⟩, .string ⟨y.value.toArray⟩, .int .i64 y.a, .int .i64 y.b, .slice ay y.list.length dy] 45) = wa at *
      refine HC.out.mono ?_
      rintro e w2 ⟨⟨rfl, hm⟩ | ⟨rfl, hm⟩, hb2⟩
      · have HF : Hid (Pl.firstsTo l (k + 1) = kept) := HY.out hm
        have hb3 : Below wq.heap.size wq w2 := below_trans HBa.out hb2
        have HG2 : Hid (Grow (frm B) (w.heap.size + 1) 45 6 (VT A) w2 (.slice au kept.length cu) (Pl.firstsTo l (k + 1))) := by
          unfold Hid
          rw [HF.out]
          exact HG.out.move (isV_t hS) fun j hj hjw => ⟨hj, hb3.block j hjw⟩
        have HB2 : Hid (Below w0.heap.size w0 w2) := below_trans HBr.out hb3
        clear hb2 hb3 hm HY HN HC
        go_wp2
        exact ⟨⟨k + 1, hlt, by go_num, HG2, HB2⟩, by simp [intOf]; omega⟩
      · have HF : Hid (Pl.firstsTo l (k + 1) = kept ++ [y]) := HN.out hm
        have hb3 : Below wq.heap.size wq w2 := below_trans HBa.out hb2
        have HG2 : Hid (Grow (frm B) (w.heap.size + 1) 45 6 (VT A) w2 (.slice au kept.length cu) kept) := HG.out.move (isV_t hS) fun j hj hjw => ⟨hj, hb3.block j hjw⟩
        have HB2 : Hid (Below w0.heap.size w0 w2) := below_trans HBr.out hb3
        have HBW2 : Hid (Below w.heap.size w w2) := below_trans HBw.out hb3
        obtain ⟨q0, q1, q2, q3, q4, q5⟩ := f6 (hblk H7.out hb2)
        have hz0 : w.heap.size + 1 ≤ w2.heap.size := by
          have h1 : w.heap.size < w0.heap.size := (Array.getElem?_eq_some_iff.1 H30.out).1
          have := HB2.out.size
          omega
        have HZ0 : Hid _ := hz0
        have HNEW : Hid (VT A (mask (Off (frm B) (.slice au kept.length cu)) w2) [.int .i64 y.kind, .string ⟨y.name.toArray⟩, .string ⟨y.value.toArray⟩, .int .i64 y.a, .int .i64 y.b, .slice ay y.list.length dy] y) := by
          have hi : Incl (mask (frm B) w) (mask (Off (frm B) (.slice au kept.length cu)) w2) := incl_mask fun j o x hj hx => by
            have hjw : j < w.heap.size := cell_lt hx
            refine ⟨?_, cell_on HBW2.out hx⟩
            unfold Off
            rw [hj]
            have : (Value.slice au kept.length cu).ownBlock ≠ some j := fun h => by have := (HG2.out.own j h).2; omega
            simpa using this
          have hmm := HMM.out
          exact ⟨_, rfl, (hS.sub hmm (hi) : A (mask (Off (frm B) (.slice au kept.length cu)) w2) (.slice ay y.list.length dy) y.list)⟩
        clear hb2 hb3 hm HY HN HC hz0
        go_wp2_with (at_builtin; refine Hid.out ?_)
        unfold Hid
        refine wpList_grow (isV_t hS) Tryd.underlying39 infT rfl (by decide) (by decide) (w2 := w2) (v := .slice au kept.length cu) (l := kept) (x := y) (news := [.int .i64 y.kind, .string ⟨y.name.toArray⟩, .string ⟨y.value.toArray⟩, .int .i64 y.a, .int .i64 y.b, .slice ay y.list.length dy]) ?_ (.tmp 18) (.tmp 20) ?_ ?_ ?_ HG2.out HNEW.out ?_ HLN.out HZ0.out ?_ ?_
        · rfl
        · rfl
        · rfl
        · first | rfl | (simp [Act.eval]; done)
        · intro u hu
          simp only [List.mem_cons, List.not_mem_nil, or_false] at hu
          rcases hu with rfl | rfl | rfl | rfl | rfl | rfl <;> rfl
        · have := HZ0.out
          simp only [frm, decide_eq_true_eq]
          omega
        intro g cap w3 hg3 hb3 _
        have HG3 : Hid (Grow (frm B) (w.heap.size + 1) 45 6 (VT A) w3 (.slice (some ⟨g, 0, none⟩) (kept.length + 1) cap) (Pl.firstsTo l (k + 1))) := by unfold Hid; rw [HF.out]; exact hg3
        have HB3 : Hid (Below w0.heap.size w0 w3) := by
          refine (below_trans HB2.out (on_alloc _ _)).grown hb3 (by have := HB2.out.size; simp; omega) (fun j hj => ?_)
          have h1 := (HG2.out.own j hj).2
          have h2 := HZW.out
          omega
        clear hg3 hb3
        go_wp2
        exact ⟨⟨k + 1, hlt, by go_num, HG3, HB3⟩, by simp [intOf]; omega⟩
    · have HF : Hid (RowAt (TstAt A) 6 (mask (frm B) wr) (.slice au (Pl.firstsTo l k).length cu) (Pl.firsts l)) := by
        unfold Hid
        have := Grow.row (isV_t hS) HG.out
        rw [show k = l.length by omega, Pl.firstsTo_all] at this
        rw [show k = l.length by omega, Pl.firstsTo_all]
        exact this
      go_wp2
      go_ret
      exact ⟨_, rfl, HF.out, HBw.out⟩
end
section
variable {α : Type} [DecidableEq α] {A : MemL α} (hA : IsL A) (ok : Pl.Pth α → Prop)
  (hH : ∀ (W : World) (x y : Value) (t s : Pl.Pth α), PthV A W x t → PthV A W y s → ok t → ok s → Calls Tryd.prog 32 #[x, y] W fun e w' => e = .returned (.bool (sm t s)) ∧ Below W.heap.size W w')
include hA hH
set_option maxRecDepth 100000 in
set_option maxHeartbeats 2000000 in
theorem cloP_any (M3 M7 : Nat) (ax bx : Option Addr) (dx fx : Nat) (vy : Value) (x y : Pl.Pth α) (w : World) (h3 : w.heap[M3]? = some (.cells #[.func (.func 32) #[] #[]] 47)) (h7 : w.heap[M7]? = some (.cells #[.slice ax x.steps.length dx, .slice bx x.links.length fx] 38)) (hx : (RowAt (StpAt A) 2 w (.slice ax x.steps.length dx) x.steps ∧ RowAt IntAt 1 w (.slice bx x.links.length fx) x.links)) (hy : PthV A w vy y) (ox : ok x) (oy : ok y) :
    Calls Tryd.prog 54 #[vy, .pointer (some ⟨M3, 0, none⟩), .pointer (some ⟨M7, 0, none⟩)] w fun e w' => e = .returned (.bool (sm y x)) ∧ Below w.heap.size w w' := by
  obtain ⟨v1, v2, rfl, hm1, hm2⟩ := hy
  obtain ⟨ay, dy, rfl⟩ := hm1.form
  obtain ⟨by_, fy, rfl⟩ := hm2.form
  have hm := And.intro hm1 hm2
  have hb := on_alloc w (.cells #[.slice ay y.steps.length dy, .slice by_ y.links.length fy] 38)
  have c3 := f1 (hblk h3 hb)
  obtain ⟨q0, q1⟩ := f2 (hblk h7 hb)
  have HB : Hid (Below w.heap.size w (w.alloc (.cells #[.slice ay y.steps.length dy, .slice by_ y.links.length fy] 38))) := hb
  have HC : Hid (Calls Tryd.prog 32 #[.agg #[.slice ay y.steps.length dy, .slice by_ y.links.length fy], .agg #[.slice ax x.steps.length dx, .slice bx x.links.length fx]] (w.alloc (.cells #[.slice ay y.steps.length dy, .slice by_ y.links.length fy] 38)) fun e w' => e = .returned (.bool (sm y x)) ∧ Below (w.alloc (.cells #[.slice ay y.steps.length dy, .slice by_ y.links.length fy] 38)).heap.size (w.alloc (.cells #[.slice ay y.steps.length dy, .slice by_ y.links.length fy] 38)) w') := hH _ _ _ y x ⟨_, _, rfl, (⟨hm.1.map fun _ _ _ hq => hq.on hA hb, hm.2.map fun _ _ _ hq => cell_on hb hq⟩ : (RowAt (StpAt A) 2 (w.alloc (.cells #[.slice ay y.steps.length dy, .slice by_ y.links.length fy] 38)) (.slice ay y.steps.length dy) y.steps ∧ RowAt IntAt 1 (w.alloc (.cells #[.slice ay y.steps.length dy, .slice by_ y.links.length fy] 38)) (.slice by_ y.links.length fy) y.links)).1, (⟨hm.1.map fun _ _ _ hq => hq.on hA hb, hm.2.map fun _ _ _ hq => cell_on hb hq⟩ : (RowAt (StpAt A) 2 (w.alloc (.cells #[.slice ay y.steps.length dy, .slice by_ y.links.length fy] 38)) (.slice ay y.steps.length dy) y.steps ∧ RowAt IntAt 1 (w.alloc (.cells #[.slice ay y.steps.length dy, .slice by_ y.links.length fy] 38)) (.slice by_ y.links.length fy) y.links)).2⟩ ⟨_, _, rfl, (⟨hx.1.map fun _ _ _ hq => hq.on hA hb, hx.2.map fun _ _ _ hq => cell_on hb hq⟩ : (RowAt (StpAt A) 2 (w.alloc (.cells #[.slice ay y.steps.length dy, .slice by_ y.links.length fy] 38)) (.slice ax x.steps.length dx) x.steps ∧ RowAt IntAt 1 (w.alloc (.cells #[.slice ay y.steps.length dy, .slice by_ y.links.length fy] 38)) (.slice bx x.links.length fx) x.links)).1, (⟨hx.1.map fun _ _ _ hq => hq.on hA hb, hx.2.map fun _ _ _ hq => cell_on hb hq⟩ : (RowAt (StpAt A) 2 (w.alloc (.cells #[.slice ay y.steps.length dy, .slice by_ y.links.length fy] 38)) (.slice ax x.steps.length dx) x.steps ∧ RowAt IntAt 1 (w.alloc (.cells #[.slice ay y.steps.length dy, .slice by_ y.links.length fy] 38)) (.slice bx x.links.length fx) x.links)).2⟩ oy ox
  clear hb h3 h7 hx hm ox oy hm1 hm2
  generalize sm y x = r at *
  go_enter Tryd.func54, Tryd.ntmps54
  go_wp2_with fail
  refine HC.out.mono ?_
  rintro e w2 ⟨rfl, hb2⟩
  have HB2 : Hid (Below w.heap.size w w2) := below_trans HB.out hb2
  clear hb2
  go_wp2
  go_ret
  exact ⟨rfl, HB2.out⟩
set_option maxRecDepth 100000 in
set_option maxHeartbeats 4000000 in
theorem indexP_any (M3 M7 : Nat) (ax bx : Option Addr) (dx fx : Nat) (x : Pl.Pth α) (v : Value) (l : List (Pl.Pth α)) (w : World) (h3 : w.heap[M3]? = some (.cells #[.func (.func 32) #[] #[]] 47)) (h7 : w.heap[M7]? = some (.cells #[.slice ax x.steps.length dx, .slice bx x.links.length fx] 38)) (hx : (RowAt (StpAt A) 2 w (.slice ax x.steps.length dx) x.steps ∧ RowAt IntAt 1 w (.slice bx x.links.length fx) x.links)) (ox : ok x) (hl : RowAt (PthAt A) 2 w v l) (ol : ∀ y ∈ l, ok y) :
    Calls Tryd.prog 69 #[v, .func (.func 54) #[] #[.pointer (some ⟨M3, 0, none⟩), .pointer (some ⟨M7, 0, none⟩)]] w fun e w' => ((∃ k : Nat, e = .returned (.int .i64 k) ∧ x ∈ l) ∨ (e = .returned (.int .i64 (-1)) ∧ x ∉ l)) ∧ Below w.heap.size w w' := by
  have hlen := hl.fit
  unfold maxLen at hlen
  obtain ⟨a, c, rfl, -, hcs⟩ := hl
  have HR : Hid _ := hcs
  have OL : Hid _ := ol
  have HCL : Hid (∀ (W : World) (vy : Value) (y : Pl.Pth α), Below w.heap.size w W → PthV A W vy y → ok y → Calls Tryd.prog 54 #[vy, .pointer (some ⟨M3, 0, none⟩), .pointer (some ⟨M7, 0, none⟩)] W fun e w' => e = .returned (.bool (sm y x)) ∧ Below W.heap.size W w') := fun W vy y hW hy oy => cloP_any hA ok hH M3 M7 ax bx dx fx vy x y W (hblk h3 hW) (hblk h7 hW) (⟨hx.1.map fun _ _ _ hq => hq.on hA hW, hx.2.map fun _ _ _ hq => cell_on hW hq⟩) hy ox oy
  clear hcs ol h3 h7 hx
  go_enter Tryd.func69, Tryd.ntmps69
  go_wp2
  go_loopw [8] (fun i wr => ∃ k : Nat, k ≤ l.length ∧ i = .int .i64 k ∧ Hid (x ∉ l.take k) ∧ Hid (Below w.heap.size w wr)) (fun i _ => l.length - (intOf i).toNat)
  case atStart => exact ⟨0, Nat.zero_le _, rfl, by simp [Hid], Below.refl _ _⟩
  case round =>
    obtain ⟨k, hk, rfl, HT, HB⟩ := hrel
    by_cases hlt : k < l.length
    · rcases HR.out with h0 | ⟨b, o, rfl, hc⟩
      · subst h0; simp at hlt
      have hat := (hc k hlt).on hA HB.out
      have oy := OL.out l[k] (List.getElem_mem hlt)
      have HY : Hid (l[k] = x → x ∈ l) := fun e => by rw [← e]; exact List.getElem_mem hlt
      have HN : Hid (l[k] ≠ x → x ∉ l.take (k + 1)) := fun e h => by
        rw [List.take_succ_eq_append_getElem hlt] at h
        rcases List.mem_append.1 h with h | h
        · exact HT.out h
        · exact e (List.mem_singleton.1 h).symm
      have i1 : (0 : Int) ≤ (k : Int) := by omega
      have i2 : (k : Int) < (l.length : Int) := by omega
      clear hc
      generalize l[k] = y at *
      obtain ⟨vy, uy, n0, n1, hm1, hm2⟩ := hat
      obtain ⟨ay, dy, rfl⟩ := hm1.form
      obtain ⟨by_, fy, rfl⟩ := hm2.form
      have hm := And.intro hm1 hm2
      have HC := HCL.out wr (.agg #[.slice ay y.steps.length dy, .slice by_ y.links.length fy]) y HB.out ⟨_, _, rfl, hm.1, hm.2⟩ oy
      have HCC : Hid (Calls Tryd.prog 54 _ _ _) := HC
      clear HC hm oy hm1 hm2
      cases hq : sm y x with
      | true =>
        rw [hq] at HCC
        have HM : Hid (x ∈ l) := HY.out (sm_true hq)
        clear hq
        go_wp2_with fail
        refine HCC.out.mono ?_
        rintro e w2 ⟨rfl, hb2⟩
        have HB2 : Hid (Below w.heap.size w w2) := below_trans HB.out hb2
        clear hb2
        go_wp2
        go_ret
        exact ⟨Or.inl ⟨k, rfl, HM.out⟩, HB2.out⟩
      | false =>
        rw [hq] at HCC
        have HN2 : Hid (x ∉ l.take (k + 1)) := HN.out (sm_false hq)
        clear hq
        go_wp2_with fail
        refine HCC.out.mono ?_
        rintro e w2 ⟨rfl, hb2⟩
        have HB2 : Hid (Below w.heap.size w w2) := below_trans HB.out hb2
        clear hb2
        go_wp2
        exact ⟨⟨k + 1, hlt, by go_num, HN2, HB2⟩, by simp [intOf]; omega⟩
    · have HM : Hid (x ∉ l) := by
        have := HT.out
        rw [List.take_of_length_le (by omega)] at this
        exact this
      go_wp2
      go_ret
      exact ⟨Or.inr ⟨rfl, HM.out⟩, HB.out⟩
set_option maxRecDepth 100000 in
set_option maxHeartbeats 2000000 in
theorem containsP_any (M3 M7 : Nat) (ax bx : Option Addr) (dx fx : Nat) (x : Pl.Pth α) (v : Value) (l : List (Pl.Pth α)) (w : World) (h3 : w.heap[M3]? = some (.cells #[.func (.func 32) #[] #[]] 47)) (h7 : w.heap[M7]? = some (.cells #[.slice ax x.steps.length dx, .slice bx x.links.length fx] 38)) (hx : (RowAt (StpAt A) 2 w (.slice ax x.steps.length dx) x.steps ∧ RowAt IntAt 1 w (.slice bx x.links.length fx) x.links)) (ox : ok x) (hl : RowAt (PthAt A) 2 w v l) (ol : ∀ y ∈ l, ok y) :
    Calls Tryd.prog 53 #[v, .func (.func 54) #[] #[.pointer (some ⟨M3, 0, none⟩), .pointer (some ⟨M7, 0, none⟩)]] w fun e w' => ((e = .returned (.bool true) ∧ x ∈ l) ∨ (e = .returned (.bool false) ∧ x ∉ l)) ∧ Below w.heap.size w w' := by
  have HC : Hid (Calls Tryd.prog 69 _ _ _) := indexP_any hA ok hH M3 M7 ax bx dx fx x v l w h3 h7 hx ox hl ol
  obtain ⟨a, c, rfl⟩ := hl.form
  clear h3 h7 hx hl ol
  go_enter Tryd.func53, Tryd.ntmps53
  go_wp2_with fail
  refine HC.out.mono ?_
  rintro e w2 ⟨⟨k, rfl, hm⟩ | ⟨rfl, hm⟩, hb2⟩
  · have HM : Hid (x ∈ l) := hm
    have HB2 : Hid (Below w.heap.size w w2) := hb2
    have i1 : (0 : Int) ≤ (k : Int) := by omega
    clear hb2 hm HC
    go_wp2
    go_ret
    exact ⟨Or.inl ⟨rfl, HM.out⟩, HB2.out⟩
  · have HM : Hid (x ∉ l) := hm
    have HB2 : Hid (Below w.heap.size w w2) := hb2
    clear hb2 hm HC
    go_wp2
    go_ret
    exact ⟨Or.inr ⟨rfl, HM.out⟩, HB2.out⟩
set_option maxRecDepth 100000 in
set_option maxHeartbeats 4000000 in
theorem firstsP_any (hS : IsSub A) (B : Nat) (v : Value) (l : List (Pl.Pth α)) (w : World) (hB : B ≤ w.heap.size) (hl : RowAt (PthAt A) 2 (mask (frm B) w) v l) (h60 : l.length ≤ 60) (ol : ∀ y ∈ l, ok y) :
    Calls Tryd.prog 31 #[v, .func (.func 32) #[] #[]] w fun e w' => ∃ v', e = .returned v' ∧ RowAt (PthAt A) 2 (mask (frm B) w') v' (Pl.firsts l) ∧ Below w.heap.size w w' := by
  obtain ⟨a, c, rfl, -, hcs⟩ := hl
  have HR : Hid _ := hcs
  have OL : Hid _ := ol
  have HB0 : Hid (Below w.heap.size w (w.alloc (.cells #[.func (.func 32) #[] #[]] 47))) := on_alloc _ _
  have HZW : Hid ((w.alloc (.cells #[.func (.func 32) #[] #[]] 47)).heap.size = w.heap.size + 1) := by unfold Hid; simp
  have H30 : Hid ((w.alloc (.cells #[.func (.func 32) #[] #[]] 47)).heap[w.heap.size]? = some (.cells #[.func (.func 32) #[] #[]] 47)) := heap_alloc_new w _
  have HCT : Hid (∀ (M7 : Nat) (ax bx : Option Addr) (dx fx : Nat) (x : Pl.Pth α) (v : Value) (l : List (Pl.Pth α)) (W : World), W.heap[w.heap.size]? = some (.cells #[.func (.func 32) #[] #[]] 47) → W.heap[M7]? = some (.cells #[.slice ax x.steps.length dx, .slice bx x.links.length fx] 38) → (RowAt (StpAt A) 2 W (.slice ax x.steps.length dx) x.steps ∧ RowAt IntAt 1 W (.slice bx x.links.length fx) x.links) → ok x → RowAt (PthAt A) 2 W v l → (∀ y ∈ l, ok y) → Calls Tryd.prog 53 #[v, .func (.func 54) #[] #[.pointer (some ⟨w.heap.size, 0, none⟩), .pointer (some ⟨M7, 0, none⟩)]] W fun e w' => ((e = .returned (.bool true) ∧ x ∈ l) ∨ (e = .returned (.bool false) ∧ x ∉ l)) ∧ Below W.heap.size W w') := fun M7 ax bx dx fx x v l W p q r s t u => containsP_any hA ok hH w.heap.size M7 ax bx dx fx x v l W p q r s t u
  have HKO : Hid (∀ j, j ≤ l.length → ∀ y ∈ Pl.firstsTo l j, ok y) := fun j hj y hy => by
    refine ol y ?_
    unfold Pl.firstsTo at hy
    rw [Pl.foldl_mem] at hy
    rcases hy with hy | hy
    · cases hy
    · exact List.mem_of_mem_take hy
  clear hcs ol
  go_enter Tryd.func31, Tryd.ntmps31
  go_wp2
  generalize w.alloc (.cells #[.func (.func 32) #[] #[]] 47) = w0 at *
  go_loopw [5, 10] (fun u i wr => ∃ k : Nat, k ≤ l.length ∧ i = .int .i64 k ∧ Hid (Grow (frm B) (w.heap.size + 1) 38 2 (VP A) wr u (Pl.firstsTo l k)) ∧ Hid (Below w0.heap.size w0 wr)) (fun _ i _ => l.length - (intOf i).toNat)
  case atStart => exact ⟨0, Nat.zero_le _, rfl, Grow.nil _ _ _ _ _ _, Below.refl _ _⟩
  case round =>
    obtain ⟨k, hk, rfl, HG, HBr⟩ := hrel
    have HBw : Hid (Below w.heap.size w wr) := below_trans HB0.out HBr.out
    obtain ⟨au, cu, rfl⟩ := HG.out.form
    by_cases hlt : k < l.length
    · rcases HR.out with h0 | ⟨b, o, rfl, hc⟩
      · subst h0; simp at hlt
      have hat0 := hc k hlt
      have ox := OL.out l[k] (List.getElem_mem hlt)
      have hko := HKO.out k (by omega)
      have HY : Hid (l[k] ∈ Pl.firstsTo l k → Pl.firstsTo l (k + 1) = Pl.firstsTo l k) := fun e => by rw [Pl.firstsTo_next hlt]; unfold Pl.keepIn; rw [if_pos e]
      have HN : Hid (l[k] ∉ Pl.firstsTo l k → Pl.firstsTo l (k + 1) = Pl.firstsTo l k ++ [l[k]]) := fun e => by rw [Pl.firstsTo_next hlt]; unfold Pl.keepIn; rw [if_neg e]
      have HLN : Hid ((Pl.firstsTo l k).length + 1 ≤ 64) := by unfold Hid; have := Pl.firstsTo_len l k (by omega); omega
      have i1 : (0 : Int) ≤ (k : Int) := by omega
      have i2 : (k : Int) < (l.length : Int) := by omega
      clear hc
      generalize l[k] = y at *
      have HROW : Hid (RowAt (PthAt A) 2 wr (.slice au (Pl.firstsTo l k).length cu) (Pl.firstsTo l k)) := (Grow.row (isV_p hS) HG.out).map fun _ _ _ hq => hq.sub hS (incl_real _ _)
      generalize Pl.firstsTo l k = kept at *
      obtain ⟨vy, uy, n0, n1, hm1, hm2⟩ := hat0
      obtain ⟨ay, dy, rfl⟩ := hm1.form
      obtain ⟨by_, fy, rfl⟩ := hm2.form
      have hm := And.intro hm1 hm2
      have HMM : Hid ((RowAt (StpAt A) 2 (mask (frm B) w) (.slice ay y.steps.length dy) y.steps ∧ RowAt IntAt 1 (mask (frm B) w) (.slice by_ y.links.length fy) y.links)) := hm
      have HMR : Hid (∀ W, Below w.heap.size w W → (RowAt (StpAt A) 2 W (.slice ay y.steps.length dy) y.steps ∧ RowAt IntAt 1 W (.slice by_ y.links.length fy) y.links)) := fun W hW => by
        have h1 : (RowAt (StpAt A) 2 w (.slice ay y.steps.length dy) y.steps ∧ RowAt IntAt 1 w (.slice by_ y.links.length fy) y.links) := ⟨hm.1.map fun _ _ _ hq => hq.sub hS (incl_real _ _), ints_sub hm.2 (incl_real _ _)⟩
        exact ⟨h1.1.map fun _ _ _ hq => hq.on hA hW, h1.2.map fun _ _ _ hq => cell_on hW hq⟩
      replace n0 := cell_on HBw.out (mask_cell.1 n0).2
      replace n1 := cell_on HBw.out (mask_cell.1 n1).2
      have hba := on_alloc wr (.cells #[.slice ay y.steps.length dy, .slice by_ y.links.length fy] 38)
      have HBa : Hid (Below wr.heap.size wr (wr.alloc (.cells #[.slice ay y.steps.length dy, .slice by_ y.links.length fy] 38))) := hba
      have H7 : Hid ((wr.alloc (.cells #[.slice ay y.steps.length dy, .slice by_ y.links.length fy] 38)).heap[wr.heap.size]? = some (.cells #[.slice ay y.steps.length dy, .slice by_ y.links.length fy] 38)) := heap_alloc_new wr _
      have HC : Hid (Calls Tryd.prog 53 _ _ _) := HCT.out wr.heap.size ay by_ dy fy y (.slice au kept.length cu) kept (wr.alloc (.cells #[.slice ay y.steps.length dy, .slice by_ y.links.length fy] 38)) (hblk (hblk H30.out HBr.out) hba) (heap_alloc_new wr _) (HMR.out _ (below_trans HBw.out hba)) ox (HROW.out.map fun _ _ _ hq => hq.on hA hba) hko
      clear hm hba ox hko HROW hm1 hm2
      obtain ⟨wq, hwq⟩ : ∃ q, q = wr := ⟨_, rfl⟩
      subst hwq
      go_wp2_with fail
      clear n0 n1
      generalize wq.alloc (.cells #[.slice ay y.steps.length dy, .slice by_ y.links.length fy] 38) = wa at *
      refine HC.out.mono ?_
      rintro e w2 ⟨⟨rfl, hm⟩ | ⟨rfl, hm⟩, hb2⟩
      · have HF : Hid (Pl.firstsTo l (k + 1) = kept) := HY.out hm
        have hb3 : Below wq.heap.size wq w2 := below_trans HBa.out hb2
        have HG2 : Hid (Grow (frm B) (w.heap.size + 1) 38 2 (VP A) w2 (.slice au kept.length cu) (Pl.firstsTo l (k + 1))) := by
          unfold Hid
          rw [HF.out]
          exact HG.out.move (isV_p hS) fun j hj hjw => ⟨hj, hb3.block j hjw⟩
        have HB2 : Hid (Below w0.heap.size w0 w2) := below_trans HBr.out hb3
        clear hb2 hb3 hm HY HN HC
        go_wp2
        exact ⟨⟨k + 1, hlt, by go_num, HG2, HB2⟩, by simp [intOf]; omega⟩
      · have HF : Hid (Pl.firstsTo l (k + 1) = kept ++ [y]) := HN.out hm
        have hb3 : Below wq.heap.size wq w2 := below_trans HBa.out hb2
        have HG2 : Hid (Grow (frm B) (w.heap.size + 1) 38 2 (VP A) w2 (.slice au kept.length cu) kept) := HG.out.move (isV_p hS) fun j hj hjw => ⟨hj, hb3.block j hjw⟩
        have HB2 : Hid (Below w0.heap.size w0 w2) := below_trans HBr.out hb3
        have HBW2 : Hid (Below w.heap.size w w2) := below_trans HBw.out hb3
        obtain ⟨q0, q1⟩ := f2 (hblk H7.out hb2)
        have hz0 : w.heap.size + 1 ≤ w2.heap.size := by
          have h1 : w.heap.size < w0.heap.size := (Array.getElem?_eq_some_iff.1 H30.out).1
          have := HB2.out.size
          omega
        have HZ0 : Hid _ := hz0
        have HNEW : Hid (VP A (mask (Off (frm B) (.slice au kept.length cu)) w2) [.slice ay y.steps.length dy, .slice by_ y.links.length fy] y) := by
          have hi : Incl (mask (frm B) w) (mask (Off (frm B) (.slice au kept.length cu)) w2) := incl_mask fun j o x hj hx => by
            have hjw : j < w.heap.size := cell_lt hx
            refine ⟨?_, cell_on HBW2.out hx⟩
            unfold Off
            rw [hj]
            have : (Value.slice au kept.length cu).ownBlock ≠ some j := fun h => by have := (HG2.out.own j h).2; omega
            simpa using this
          have hmm := HMM.out
          exact ⟨_, _, rfl, (⟨hmm.1.map fun _ _ _ hq => hq.sub hS (hi), ints_sub hmm.2 (hi)⟩ : (RowAt (StpAt A) 2 (mask (Off (frm B) (.slice au kept.length cu)) w2) (.slice ay y.steps.length dy) y.steps ∧ RowAt IntAt 1 (mask (Off (frm B) (.slice au kept.length cu)) w2) (.slice by_ y.links.length fy) y.links)).1, (⟨hmm.1.map fun _ _ _ hq => hq.sub hS (hi), ints_sub hmm.2 (hi)⟩ : (RowAt (StpAt A) 2 (mask (Off (frm B) (.slice au kept.length cu)) w2) (.slice ay y.steps.length dy) y.steps ∧ RowAt IntAt 1 (mask (Off (frm B) (.slice au kept.length cu)) w2) (.slice by_ y.links.length fy) y.links)).2⟩
        clear hb2 hb3 hm HY HN HC hz0
        go_wp2_with (at_builtin; refine Hid.out ?_)
        unfold Hid
        refine wpList_grow (isV_p hS) Tryd.underlying22 infP rfl (by decide) (by decide) (w2 := w2) (v := .slice au kept.length cu) (l := kept) (x := y) (news := [.slice ay y.steps.length dy, .slice by_ y.links.length fy]) ?_ (.tmp 18) (.tmp 20) ?_ ?_ ?_ HG2.out HNEW.out ?_ HLN.out HZ0.out ?_ ?_
        · rfl
        · rfl
        · rfl
        · first | rfl | (simp [Act.eval]; done)
        · intro u hu
          simp only [List.mem_cons, List.not_mem_nil, or_false] at hu
          rcases hu with rfl | rfl <;> rfl
        · have := HZ0.out
          simp only [frm, decide_eq_true_eq]
          omega
        intro g cap w3 hg3 hb3 _
        have HG3 : Hid (Grow (frm B) (w.heap.size + 1) 38 2 (VP A) w3 (.slice (some ⟨g, 0, none⟩) (kept.length + 1) cap) (Pl.firstsTo l (k + 1))) := by unfold Hid; rw [HF.out]; exact hg3
        have HB3 : Hid (Below w0.heap.size w0 w3) := by
          refine (below_trans HB2.out (on_alloc _ _)).grown hb3 (by have := HB2.out.size; simp; omega) (fun j hj => ?_)
          have h1 := (HG2.out.own j hj).2
          have h2 := HZW.out
          omega
        clear hg3 hb3
        go_wp2
        exact ⟨⟨k + 1, hlt, by go_num, HG3, HB3⟩, by simp [intOf]; omega⟩
    · have HF : Hid (RowAt (PthAt A) 2 (mask (frm B) wr) (.slice au (Pl.firstsTo l k).length cu) (Pl.firsts l)) := by
        unfold Hid
        have := Grow.row (isV_p hS) HG.out
        rw [show k = l.length by omega, Pl.firstsTo_all] at this
        rw [show k = l.length by omega, Pl.firstsTo_all]
        exact this
      go_wp2
      go_ret
      exact ⟨_, rfl, HF.out, HBw.out⟩
end
end Go.Proofs.YtephhllfodlfbaaDoor
