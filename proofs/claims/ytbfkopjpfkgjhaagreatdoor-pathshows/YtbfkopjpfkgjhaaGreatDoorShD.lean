/-
  strings.Builder, as this program has it: what is written is laid behind what was.
-/
import Derived.Test.YtbfkopjpfkgjhaaGreatDoorShelf
import Derived.Test.YtbfkopjpfkgjhaaGreatDoorMem
import Derived.Test.YtbfkopjpfkgjhaaGreatDoorShA
import Derived.Test.YtbfkopjpfkgjhaaGreatDoorRcE
namespace Go.Proofs.YtbfkopjpfkgjhaaGreatDoor
open Go.RowKit

set_option maxHeartbeats 1000000 in
set_option maxRecDepth 100000 in
theorem copyCheck_used (b : Nat) (w : World) (h0 : w.cell? ⟨b, 0, none⟩ = some (.pointer (some ⟨b, 0, none⟩))) :
    Calls Tryz.prog 62 #[.pointer (some ⟨b, 0, none⟩)] w fun e w' => e = .returned (.tuple #[]) ∧ w' = w := by
  obtain ⟨j, hj, _⟩ := Option.map_eq_some_iff.1 Tryz.Builder_Extra_169.sizeBuilder
  go_enter Tryz.func62, Tryz.ntmps62
  go_wp2
  rw [Lib.run_neq_ptr_same w _ Tryz.underlying45 hj]
  go_wp2
  go_end0
  exact ⟨rfl, rfl⟩
set_option maxHeartbeats 1000000 in
set_option maxRecDepth 100000 in
theorem copyCheck_fresh (b : Nat) (w : World) (h0 : w.cell? ⟨b, 0, none⟩ = some (.pointer none)) (hsh : w.shape? b = some (48, 2)) (hfz : w.frozen? ⟨b, 0, none⟩ = false) :
    Calls Tryz.prog 62 #[.pointer (some ⟨b, 0, none⟩)] w fun e w' => e = .returned (.tuple #[]) ∧ w' = w.setCell ⟨b, 0, none⟩ (.pointer (some ⟨b, 0, none⟩)) := by
  obtain ⟨j, hj, hjs⟩ := Option.map_eq_some_iff.1 Tryz.Builder_Extra_169.sizeBuilder
  go_enter Tryz.func62, Tryz.ntmps62
  go_wp2
  rw [Lib.run_to_unsafe w ⟨b, 0, none⟩ Tryz.underlying45 Tryz.underlying117 hj (by rw [hjs]; decide) hsh (Nat.zero_lt_succ 1)]
  simp only [Result.andThen]
  rw [Oper.upon_value]
  go_wp2
  rw [run_callFunc_extern Tryz.func79 (by kernel_rfl) (by kernel_rfl) (by kernel_rfl) (e := Extern.AbiNoEscape.same) (by kernel_rfl)]
  rw [Lib.run_noEscape]
  simp only [Result.andThen]
  rw [Oper.upon_value]
  go_wp2
  rw [Lib.run_from_unsafe w ⟨b, 0, none⟩ Tryz.underlying117 Tryz.underlying45 hj hsh Tryz.Builder_Extra_169.liesBuilder]
  simp only [Result.andThen]
  rw [Oper.upon_value]
  go_wp2
  go_end0
  exact ⟨rfl, rfl⟩
theorem copyCheck_any (B b : Nat) (bs : List Value) (w : World) (h : Lib.IsBuilderF 48 5 B b bs w) :
    Calls Tryz.prog 62 #[.pointer (some ⟨b, 0, none⟩)] w fun e w' => e = .returned (.tuple #[]) ∧ (Lib.BuilderAtF 48 5 B b (.pointer (some ⟨b, 0, none⟩)) bs w' ∧ Below B w w' ∧ Lib.OthersKept 5 (some b) w w') := by
  rcases h with h | h
  · refine (copyCheck_fresh b w h.cell0 h.shape h.frozen0).mono ?_
    rintro e w' ⟨rfl, rfl⟩
    exact ⟨rfl, h.used _, (Below.refl B w).setCell (p := ⟨b, 0, none⟩) h.1 _, (Lib.OthersKept.refl _ _ w).setCell ⟨b, 0, none⟩ rfl _⟩
  · refine (copyCheck_used b w h.cell0).mono ?_
    rintro e w' ⟨rfl, rfl⟩
    exact ⟨rfl, h, Below.refl B _, Lib.OthersKept.refl _ _ _⟩
set_option maxHeartbeats 2000000 in
set_option maxRecDepth 100000 in
theorem writeString_any (B b : Nat) (bs : List Value) (s : ByteArray) (w : World) (h : Lib.IsBuilderF 48 5 B b bs w) (hlen : bs.length + s.size ≤ 140737488355328) (hBw : B ≤ w.heap.size) :
    Calls Tryz.prog 36 #[.pointer (some ⟨b, 0, none⟩), .string s] w fun e w' => e = .returned (.tuple #[.int .i64 s.size, .nilIface]) ∧ (Lib.IsBuilderF 48 5 B b (bs ++ Lib.strCells s) w' ∧ Below B w w' ∧ Lib.OthersKept 5 (some b) w w') := by
  obtain ⟨i0, hi, hz0, hz1, hz2⟩ := info_parts Tryz.Builder_Extra_169.infoByte
  go_enter Tryz.func36, Tryz.ntmps36
  go_wp2_with fail
  refine (copyCheck_any B b bs _ h).mono ?_
  rintro e w1 ⟨rfl, h1, hb1, hk1⟩
  obtain ⟨hB, v, hbk, hown, hne⟩ := h1
  have c0 : w1.cell? ⟨b, 0, none⟩ = some (.pointer (some ⟨b, 0, none⟩)) := by rw [Lib.cell_of_heap hbk]; rfl
  have c1 : w1.cell? ⟨b, 1, none⟩ = some v := by rw [Lib.cell_of_heap hbk]; rfl
  go_wp2_with (at_builtin; refine Lib.wpList_append_own_stringF _ rfl _ _ 46 9 rfl B 5 i0 Tryz.underlying46 Tryz.underlying9 hi hz0 hz1 hz2 _ _ _ rfl hown s rfl ?c3 ?c4 ?c5 ?_)
  case c3 => unfold maxLen; omega
  case c4 => omega
  case c5 => have := hb1.size; omega
  intro v' w2 hown' hgrow _
  have hlt : b < w1.heap.size := by
    rcases Nat.lt_or_ge b w1.heap.size with h' | h'
    · exact h'
    · simp [Array.getElem?_eq_none h'] at hbk
  have hb2 : w2.heap[b]? = some (.cells #[.pointer (some ⟨b, 0, none⟩), v] 48 (0, 0)) := by
    rw [hgrow.block b hlt (fun e => hne e.symm)]
    exact hbk
  have d0 : w2.cell? ⟨b, 0, none⟩ = some (.pointer (some ⟨b, 0, none⟩)) := by rw [Lib.cell_of_heap hb2]; rfl
  have d1 : w2.cell? ⟨b, 1, none⟩ = some v := by rw [Lib.cell_of_heap hb2]; rfl
  have f1 : w2.frozen? ⟨b, 1, none⟩ = false := Lib.frozen_of_heap hb2 1
  obtain ⟨ao, n', cap, rfl⟩ : ∃ ao n' cap, v' = .slice ao n' cap := by
    rcases hown'.2 with ⟨hv, _⟩ | ⟨g, cap, cur, fz, hv, _⟩
    · exact ⟨_, _, _, hv⟩
    · exact ⟨_, _, _, hv⟩
  go_wp2
  go_ret2
  refine ⟨rfl, Or.inr ?_, ?_, (hk1.grown hgrow (Lib.ownsRowF_kind hown)).setCell ⟨b, 1, none⟩ rfl _⟩
  · exact Lib.BuilderAtF.put (T := 48) (e := 5) hB hb2 (bs' := bs ++ Lib.strCells s) (by simpa [Lib.strCells_length] using hown') Tryz.Builder_Extra_169.neB5
  · exact (hb1.grown hgrow (by have := hb1.size; omega) (fun k hk => (hown.lt k hk).1)).setCell (p := ⟨b, 1, none⟩) hB _
end Go.Proofs.YtbfkopjpfkgjhaaGreatDoor
/-
  Show's pieces: what is written, a tag, a test.
-/
namespace Go.Proofs.YtbfkopjpfkgjhaaGreatDoor
open Go.RowKit

/-- a builder that holds a text -/
def BB (B b : Nat) (l : List UInt8) (w : World) : Prop := Lib.IsBuilderF 48 5 B b (Lib.byteCells l) w
/-- what a builder's call leaves as it was -/
structure Keep (B b : Nat) (w w' : World) : Prop where
  below : Below B w w'
  kept : Lib.OthersKept 5 (some b) w w'
theorem Keep.refl (B b : Nat) (w : World) : Keep B b w w := ⟨Below.refl _ _, Lib.OthersKept.refl _ _ _⟩
theorem Keep.trans {B b : Nat} {w1 w2 w3 : World} (h : Keep B b w1 w2) (k : Keep B b w2 w3) : Keep B b w1 w3 := ⟨h.below.trans k.below, h.kept.trans k.kept⟩
theorem Keep.drew {B b : Nat} {w1 w2 : World} (h : Keep B b w1 w2) : Keep B b w1 w2.drew := ⟨h.below.drew, h.kept.drew⟩
theorem Keep.alloc {B b : Nat} {w1 w2 : World} (h : Keep B b w1 w2) (hB : B ≤ w2.heap.size) (o : Obj) : Keep B b w1 (w2.alloc o) := ⟨h.below.alloc hB o, h.kept.alloc o⟩
theorem Keep.blk {B b : Nat} {w w' : World} (h : Keep B b w w') {N : Nat} {c : Array Value} {T : TypeId} (hN : N ≠ b) (hT : T ≠ 5) (hb : w.heap[N]? = some (.cells c T)) : w'.heap[N]? = some (.cells c T) :=
  h.kept N _ hb (by simpa using hN) (fun c' fz e => by injection e with _ e2; exact hT e2)
theorem BB.drew {B b : Nat} {l : List UInt8} {w : World} (h : BB B b l w) : BB B b l w.drew := by
  rcases h with h | h
  · exact Or.inl h.drew
  · exact Or.inr h.drew
theorem BB.alloc {B b : Nat} {l : List UInt8} {w : World} (h : BB B b l w) (o : Obj) : BB B b l (w.alloc o) := Lib.IsBuilderF.alloc h o
theorem BB.lt {B b : Nat} {l : List UInt8} {w : World} (h : BB B b l w) : b < w.heap.size := by
  rcases h with ⟨_, v, h, _⟩ | ⟨_, v, h, _⟩ <;> exact (Array.getElem?_eq_some_iff.1 h).1
theorem BB.ge {B b : Nat} {l : List UInt8} {w : World} (h : BB B b l w) : B ≤ b := by
  rcases h with ⟨h, _⟩ | ⟨h, _⟩ <;> exact h
/-- whatever turns only new memory leaves it -/
theorem BB.on {B b : Nat} {l : List UInt8} {w w' : World} (h : BB B b l w) (hb : Below w.heap.size w w') : BB B b l w' := by
  have key : ∀ p, Lib.BuilderAtF 48 5 B b p (Lib.byteCells l) w → Lib.BuilderAtF 48 5 B b p (Lib.byteCells l) w' := by
    rintro p ⟨hB, v, h, hown, hne⟩
    refine ⟨hB, v, (hb.block b (Array.getElem?_eq_some_iff.1 h).1).trans h, ?_, hne⟩
    obtain ⟨h1, h2⟩ := hown
    refine ⟨h1, ?_⟩
    rcases h2 with h2 | ⟨g, cap, cur, fz, e1, e2, e3, e4⟩
    · exact Or.inl h2
    · exact Or.inr ⟨g, cap, cur, fz, e1, e2, (hb.block g (Array.getElem?_eq_some_iff.1 e3).1).trans e3, e4⟩
  rcases h with h | h
  · exact Or.inl (key _ h)
  · exact Or.inr (key _ h)
theorem Keep.on {B b : Nat} {w w1 w2 : World} (h : Keep B b w w1) (hb : Below w1.heap.size w1 w2) (hB : B ≤ w1.heap.size) : Keep B b w w2 :=
  ⟨h.below.trans (hb.mono hB), fun N o hN h1 h2 => by
    have h3 := h.kept N o hN h1 h2
    exact (hb.block N (Array.getElem?_eq_some_iff.1 h3).1).trans h3⟩
theorem write_any (B b : Nat) (l : List UInt8) (s : ByteArray) (w : World) (h : BB B b l w) (hl : l.length + s.size ≤ 140737488355328) (hBw : B ≤ w.heap.size) :
    Calls Tryz.prog 36 #[.pointer (some ⟨b, 0, none⟩), .string s] w fun e w' => e = .returned (.tuple #[.int .i64 s.size, .nilIface]) ∧ BB B b (l ++ s.data.toList) w' ∧ Keep B b w w' := by
  refine (writeString_any B b (Lib.byteCells l) s w h (by rw [Lib.byteCells_length]; exact hl) hBw).mono ?_
  rintro e w' ⟨rfl, h1, h2, h3⟩
  refine ⟨rfl, ?_, h2, h3⟩
  unfold BB
  have e : Lib.byteCells (l ++ s.data.toList) = Lib.byteCells l ++ Lib.strCells s := by rw [Lib.strCells_eq]; unfold Lib.byteCells; rw [List.map_append]
  rw [e]; exact h1
/-- the same, of a text as a list -/
theorem write_l (B b : Nat) (l t : List UInt8) (w : World) (h : BB B b l w) (hl : l.length + t.length ≤ 140737488355328) (hBw : B ≤ w.heap.size) :
    Calls Tryz.prog 36 #[.pointer (some ⟨b, 0, none⟩), .string ⟨t.toArray⟩] w fun e w' => e = .returned (.tuple #[.int .i64 t.length, .nilIface]) ∧ BB B b (l ++ t) w' ∧ Keep B b w w' := by
  have := write_any B b l ⟨t.toArray⟩ w h (by simpa [ByteArray.size] using hl) hBw
  simpa [ByteArray.size] using this
/-- the variable path.links holds what it was laid with -/
def LinksAt (w : World) : Prop := ∀ k : Nat, k ≤ 4 → w.cell? ⟨1, k, none⟩ = some (.string ⟨(Pl.lnk k).toArray⟩)
theorem LinksAt.on {w w' : World} (h : LinksAt w) (hb : Below w.heap.size w w') : LinksAt w' := fun k hk => cell_on hb (h k hk)
/-- all that is laid -/
structure Laid (w : World) : Prop where
  forms : FormsAt w
  links : LinksAt w
  pow : Lib.TabIs Tryz.prog w "internal/strconv.uint64pow10" .u64 Lib.pow10Tab
theorem Laid.on {w w' : World} (h : Laid w) (hb : Below w.heap.size w w') : Laid w' := ⟨h.forms.on hb, h.links.on hb, Nt.tab_later h.pow w' hb⟩
set_option maxHeartbeats 1000000 in
theorem showTag_any (B b : Nat) (l t : List UInt8) (w : World) (h : BB B b l w) (hl : l.length + (Pl.showTag t).length ≤ 140737488355328) (hBw : B ≤ w.heap.size) :
    Calls Tryz.prog 63 #[.pointer (some ⟨b, 0, none⟩), .string ⟨t.toArray⟩] w fun e w' => e = .returned (.tuple #[]) ∧ BB B b (l ++ Pl.showTag t) w' ∧ Keep B b w w' := by
  have HB : Hid (BB B b l w) := h
  clear h
  cases ht : t.isEmpty with
  | true =>
    have e : Pl.showTag t = [42] := by unfold Pl.showTag; rw [if_pos ht]
    rw [e] at hl ⊢
    go_enter Tryz.func63, Tryz.ntmps63
    go_wp2_with fail
    refine (write_l B b l [42] _ HB.out hl hBw).mono ?_
    rintro e w2 ⟨rfl, hb2, hk2⟩
    have HB2 : Hid (BB B b (l ++ [42]) w2) := hb2
    have HK2 : Hid (Keep B b w w2) := hk2
    clear hb2 hk2
    go_wp2
    go_end0
    exact ⟨rfl, HB2.out, HK2.out⟩
  | false =>
    have e : Pl.showTag t = t := by unfold Pl.showTag; rw [if_neg (by rw [ht]; simp)]
    rw [e] at hl ⊢
    go_enter Tryz.func63, Tryz.ntmps63
    go_wp2_with fail
    refine (write_l B b l t _ HB.out hl hBw).mono ?_
    rintro e w2 ⟨rfl, hb2, hk2⟩
    have HB2 : Hid (BB B b (l ++ t) w2) := hb2
    have HK2 : Hid (Keep B b w w2) := hk2
    clear hb2 hk2
    go_wp2
    go_end0
    exact ⟨rfl, HB2.out, HK2.out⟩
end Go.Proofs.YtbfkopjpfkgjhaaGreatDoor
/-
  Show's pieces: a test, at any level.
-/
namespace Go.Proofs.YtbfkopjpfkgjhaaGreatDoor
open Go.RowKit

theorem ba_app (l r : List UInt8) : (⟨l.toArray⟩ : ByteArray) ++ (⟨r.toArray⟩ : ByteArray) = ⟨(l ++ r).toArray⟩ := by apply ByteArray.ext; simp
theorem ba_lit (l : List UInt8) : (⟨#[34]⟩ : ByteArray) ++ (⟨l.toArray⟩ : ByteArray) = ⟨([34] ++ l).toArray⟩ := ba_app [34] l
theorem ba_lit2 (l : List UInt8) : (⟨l.toArray⟩ : ByteArray) ++ (⟨#[34]⟩ : ByteArray) = ⟨(l ++ [34]).toArray⟩ := ba_app l [34]
theorem blk6_cells {W : World} {N : Nat} {u0 u1 u2 u3 u4 u5 : Value} (h : W.heap[N]? = some (.cells #[u0, u1, u2, u3, u4, u5] 61)) : W.cell? ⟨N, 0, none⟩ = some u0 ∧ W.cell? ⟨N, 1, none⟩ = some u1 ∧ W.cell? ⟨N, 2, none⟩ = some u2 ∧ W.cell? ⟨N, 3, none⟩ = some u3 ∧ W.cell? ⟨N, 4, none⟩ = some u4 ∧ W.cell? ⟨N, 5, none⟩ = some u5 := by
  refine ⟨?_, ?_, ?_, ?_, ?_, ?_⟩ <;> simp [World.cell?, h]
theorem blk7_cells {W : World} {N : Nat} {u0 u1 u2 u3 u4 u5 u6 : Value} (h : W.heap[N]? = some (.cells #[u0, u1, u2, u3, u4, u5, u6] 96)) : W.cell? ⟨N, 0, none⟩ = some u0 ∧ W.cell? ⟨N, 1, none⟩ = some u1 ∧ W.cell? ⟨N, 2, none⟩ = some u2 ∧ W.cell? ⟨N, 3, none⟩ = some u3 ∧ W.cell? ⟨N, 4, none⟩ = some u4 ∧ W.cell? ⟨N, 5, none⟩ = some u5 ∧ W.cell? ⟨N, 6, none⟩ = some u6 := by
  refine ⟨?_, ?_, ?_, ?_, ?_, ?_, ?_⟩ <;> simp [World.cell?, h]
/-- what showList tells of a level's lists -/
def Shows {α : Type} (A : MemL α) (g : List α → List UInt8) (ok : List α → Prop) : Prop := ∀ w0 W b text v l, A w0 v l → Laid w0 → ok l → Below w0.heap.size w0 W → BB w0.heap.size b text W → text.length + (g l).length ≤ 140737488355328 →
  Calls Tryz.prog 16 #[.pointer (some ⟨b, 0, none⟩), v] W fun e W' => e = .returned (.tuple #[]) ∧ BB w0.heap.size b (text ++ g l) W' ∧ Keep w0.heap.size b W W'
set_option maxRecDepth 100000 in
set_option maxHeartbeats 4000000 in
theorem showTest_any {α : Type} {A : MemL α} {g : List α → List UInt8} {ok : List α → Prop} (hs : Shows A g ok) (w0 W : World) (b : Nat) (text : List UInt8) (t : Pl.Tst α) (au : Option Addr) (cu : Nat) (hl : A w0 (.slice au t.list.length cu) t.list) (hL : Laid w0) (hk : Pl.isKind t.kind = true) (hok : ok t.list) (hn : Pl.kNth t.kind = true → nB t.a t.b = true)
    (hW : Below w0.heap.size w0 W) (hB : BB w0.heap.size b text W) (hlen : text.length + (Pl.showT g t).length ≤ 140737488355328) :
    Calls Tryz.prog 64 #[.pointer (some ⟨b, 0, none⟩), .agg #[.int .i64 t.kind, .string ⟨t.name.toArray⟩, .string ⟨t.value.toArray⟩, .int .i64 t.a, .int .i64 t.b, .slice au t.list.length cu]] W fun e W' => e = .returned (.tuple #[]) ∧ BB w0.heap.size b (text ++ Pl.showT g t) W' ∧ Keep w0.heap.size b W W' := by
  obtain ⟨kd, name, value, ta, tb, list⟩ := t
  obtain ⟨m, hm, h15, h1⟩ := kind_nat hk
  dsimp only at hm hl hk hok hn hlen ⊢
  subst hm
  have i1 : (0 : Int) ≤ (m : Int) := by omega
  have i2 : (m : Int) < 16 := by omega
  have hbN := hB.lt
  obtain ⟨p0, p1, p2, p3, p4, p5, p6⟩ := ((hL.forms.on hW).on (on_alloc W (.cells #[.int .i64 m, .string ⟨name.toArray⟩, .string ⟨value.toArray⟩, .int .i64 ta, .int .i64 tb, .slice au list.length cu] 61))) m h15
  have HE : Hid (Pl.showT g (⟨m, name, value, ta, tb, list⟩ : Pl.Tst α) = (fBegin m ++ name ++ fSign m) ++ Pl.tValue (⟨m, name, value, ta, tb, list⟩ : Pl.Tst α) ++ Pl.tNth (⟨m, name, value, ta, tb, list⟩ : Pl.Tst α) ++ g list ++ fEnd m) := by
    unfold Hid Pl.showT Pl.tHead
    simp
  have hlen2 := hlen
  rw [HE.out] at hlen2
  simp only [List.length_append] at hlen2
  have hbs := below_trans (on_alloc W (.cells #[.int .i64 m, .string ⟨name.toArray⟩, .string ⟨value.toArray⟩, .int .i64 ta, .int .i64 tb, .slice au list.length cu] 61)) (on_alloc _ (.cells #[.bool (Pl.kName m), .bool (Pl.kValue m), .bool (Pl.kNth m), .bool (Pl.kList m), .string ⟨(fBegin m).toArray⟩, .string ⟨(fSign m).toArray⟩, .string ⟨(fEnd m).toArray⟩] 96))
  have X6 : (((W.alloc (.cells #[.int .i64 m, .string ⟨name.toArray⟩, .string ⟨value.toArray⟩, .int .i64 ta, .int .i64 tb, .slice au list.length cu] 61)).alloc (.cells #[.bool (Pl.kName m), .bool (Pl.kValue m), .bool (Pl.kNth m), .bool (Pl.kList m), .string ⟨(fBegin m).toArray⟩, .string ⟨(fSign m).toArray⟩, .string ⟨(fEnd m).toArray⟩] 96)).heap[W.heap.size]?) = some (.cells #[.int .i64 m, .string ⟨name.toArray⟩, .string ⟨value.toArray⟩, .int .i64 ta, .int .i64 tb, .slice au list.length cu] 61) :=
    ((on_alloc (W.alloc (.cells #[.int .i64 m, .string ⟨name.toArray⟩, .string ⟨value.toArray⟩, .int .i64 ta, .int .i64 tb, .slice au list.length cu] 61)) _).block W.heap.size (by simp)).trans (World.alloc_heap_new W _)
  have X7 := World.alloc_heap_new (W.alloc (.cells #[.int .i64 m, .string ⟨name.toArray⟩, .string ⟨value.toArray⟩, .int .i64 ta, .int .i64 tb, .slice au list.length cu] 61)) (.cells #[.bool (Pl.kName m), .bool (Pl.kValue m), .bool (Pl.kNth m), .bool (Pl.kList m), .string ⟨(fBegin m).toArray⟩, .string ⟨(fSign m).toArray⟩, .string ⟨(fEnd m).toArray⟩] 96)
  simp only [World.size_alloc] at X7
  have HX6 : Hid (_ = _) := X6
  have HX7 : Hid (_ = _) := X7
  have HBB : Hid (BB w0.heap.size b text _) := hB.on hbs
  have HKK : Hid (Keep w0.heap.size b W _) := (Keep.refl _ _ W).on hbs hW.size
  have HWW : Hid (Below w0.heap.size w0 _) := below_trans hW hbs
  have HL : Hid (A w0 (.slice au list.length cu) list) := hl
  have HLD : Hid (Laid w0) := hL
  have HS : Hid (Shows A g ok) := hs
  have HOK : Hid (ok list) := hok
  have HN : Hid (Pl.kNth (m : Int) = true → nB ta tb = true) := hn
  have hle0 := hW.size
  clear hs hl hL hk hok hn hW hB hlen hbs X6 X7
  obtain ⟨bv, hbv⟩ : ∃ y, Pl.kValue (m : Int) = y := ⟨_, rfl⟩
  obtain ⟨bn, hbn⟩ : ∃ y, Pl.kNth (m : Int) = y := ⟨_, rfl⟩
  simp only [hbv, hbn] at HX6 HX7 HBB HKK HWW p1 p2 HN
  go_enter Tryz.func64, Tryz.ntmps64
  go_wp2_with fail
  clear p0 p1 p2 p3 p4 p5 p6
  generalize (W.alloc (.cells #[.int .i64 m, .string ⟨name.toArray⟩, .string ⟨value.toArray⟩, .int .i64 ta, .int .i64 tb, .slice au list.length cu] 61)).alloc (.cells #[.bool (Pl.kName m), .bool bv, .bool bn, .bool (Pl.kList m), .string ⟨(fBegin m).toArray⟩, .string ⟨(fSign m).toArray⟩, .string ⟨(fEnd m).toArray⟩] 96) = W2 at *
  rw [ba_app, ba_app]
  have hs2 := HWW.out.size
  refine (write_l w0.heap.size b text _ _ HBB.out (by simp only [List.length_append]; omega) hs2).mono ?_
  rintro e w3 ⟨rfl, hb3, hk3⟩
  have HB3 : Hid (BB w0.heap.size b (text ++ (fBegin m ++ name ++ fSign m)) w3) := hb3
  have HK3 : Hid (Keep w0.heap.size b W w3) := HKK.out.trans hk3
  have HW3 : Hid (Below w0.heap.size w0 w3) := HWW.out.trans hk3.below
  have HX63 : Hid (w3.heap[W.heap.size]? = _) := hk3.blk (by omega) (by decide) HX6.out
  have HX73 : Hid (w3.heap[W.heap.size + 1]? = _) := hk3.blk (by omega) (by decide) HX7.out
  clear hb3 hk3 HBB HKK HWW HX6 HX7
  obtain ⟨c0, c1, c2, c3, c4, c5⟩ := blk6_cells HX63.out
  obtain ⟨d0, d1, d2, d3, d4, d5, d6⟩ := blk7_cells HX73.out
  cases bv
  case' false =>
    have HV : Hid (Pl.tValue (⟨m, name, value, ta, tb, list⟩ : Pl.Tst α) = []) := by
      unfold Hid Pl.tValue
      dsimp only
      rw [hbv]
      rfl
    have HB4 : Hid (BB w0.heap.size b (text ++ (fBegin m ++ name ++ fSign m) ++ Pl.tValue (⟨m, name, value, ta, tb, list⟩ : Pl.Tst α)) w3) := by
      rw [HV.out, List.append_nil]
      exact HB3
    obtain ⟨w4, hw4⟩ : ∃ q, q = w3 := ⟨_, rfl⟩
    subst hw4
    have HK4 := HK3
    have HW4 := HW3
    have HX64 := HX63
    have HX74 := HX73
    clear HB3 HK3 HW3 HX63 HX73
  case' true =>
    have HV : Hid (Pl.tValue (⟨m, name, value, ta, tb, list⟩ : Pl.Tst α) = [34] ++ value ++ [34]) := by
      unfold Hid Pl.tValue
      dsimp only
      rw [hbv]
      rfl
    have hlen3 := hlen2
    rw [HV.out] at hlen3
    simp only [List.length_append, List.length_cons, List.length_nil] at hlen3
    have hvl : value.length + 2 ≤ 140737488355328 := by omega
    go_wp2_with fail
    rw [ba_lit, ba_lit2]
    have hs3 := HW3.out.size
    refine (write_l w0.heap.size b _ _ _ HB3.out (by simp only [List.length_append, List.length_cons, List.length_nil]; omega) hs3).mono ?_
    rintro e w4 ⟨rfl, hb4, hk4⟩
    have HB4 : Hid (BB w0.heap.size b (text ++ (fBegin m ++ name ++ fSign m) ++ Pl.tValue (⟨m, name, value, ta, tb, list⟩ : Pl.Tst α)) w4) := by
      rw [HV.out]
      exact hb4
    have HK4 : Hid (Keep w0.heap.size b W w4) := HK3.out.trans hk4
    have HW4 : Hid (Below w0.heap.size w0 w4) := HW3.out.trans hk4.below
    have HX64 : Hid (w4.heap[W.heap.size]? = _) := hk4.blk (by omega) (by decide) HX63.out
    have HX74 : Hid (w4.heap[W.heap.size + 1]? = _) := hk4.blk (by omega) (by decide) HX73.out
    clear hlen3 hvl hb4 hk4 HB3 HK3 HW3 HX63 HX73 c0 c1 c2 c3 c4 c5 d0 d1 d2 d3 d4 d5 d6
    obtain ⟨c0, c1, c2, c3, c4, c5⟩ := blk6_cells HX64.out
    obtain ⟨d0, d1, d2, d3, d4, d5, d6⟩ := blk7_cells HX74.out
  all_goals
    generalize Pl.tValue (⟨m, name, value, ta, tb, list⟩ : Pl.Tst α) = TV at *
    clear HV
    have hs4 := HW4.out.size
    cases bn
    case' false =>
      have HVN : Hid (Pl.tNth (⟨m, name, value, ta, tb, list⟩ : Pl.Tst α) = []) := by
        unfold Hid Pl.tNth
        dsimp only
        rw [hbn]
        rfl
      have HB5 : Hid (BB w0.heap.size b (text ++ (fBegin m ++ name ++ fSign m) ++ TV ++ Pl.tNth (⟨m, name, value, ta, tb, list⟩ : Pl.Tst α)) w4) := by
        rw [HVN.out, List.append_nil]
        exact HB4
      have HCON : Hid (Calls Tryz.prog 16 _ _ _) := HS.out w0 w4 b _ _ _ HL.out HLD.out HOK.out HW4.out HB5.out (by simp only [List.length_append]; omega)
      clear HB4
      go_wp2_with fail
      obtain ⟨w5, hw5⟩ : ∃ q, q = w4 := ⟨_, rfl⟩
      subst hw5
      have HK5 := HK4
      have HX65 := HX64
      have HX75 := HX74
      clear HK4 HX64 HX74
    case' true =>
      have HVN : Hid (Pl.tNth (⟨m, name, value, ta, tb, list⟩ : Pl.Tst α) = Nt.Pl.shown ta tb) := by
        unfold Hid Pl.tNth
        dsimp only
        rw [hbn]
        rfl
      have hnb := HN.out rfl
      unfold nB at hnb
      rw [Bool.and_eq_true] at hnb
      have HSH : Hid (Calls Tryz.prog 80 _ _ _) := Nt.show_ok ta tb w4 (by simpa [Nt.Pl.inBB, within] using hnb.1) (by simpa [Nt.Pl.inBB, within] using hnb.2) (HLD.out.on HW4.out).pow
      clear hnb
      rw [HVN.out] at hlen2
      go_wp2_with fail
      refine HSH.out.mono ?_
      rintro e w6 ⟨rfl, hb6⟩
      have HW6 : Hid (Below w0.heap.size w0 w6) := below_trans HW4.out hb6
      have HB6 : Hid (BB w0.heap.size b _ w6) := HB4.out.on hb6
      have HK6 : Hid (Keep w0.heap.size b W w6) := HK4.out.on hb6 hs4
      have HX66 : Hid (w6.heap[W.heap.size]? = _) := (hb6.block _ (Array.getElem?_eq_some_iff.1 HX64.out).1).trans HX64.out
      have HX76 : Hid (w6.heap[W.heap.size + 1]? = _) := (hb6.block _ (Array.getElem?_eq_some_iff.1 HX74.out).1).trans HX74.out
      have hs6 := HW6.out.size
      clear hb6 HB4 HK4 HX64 HX74 HSH c0 c1 c2 c3 c4 c5 d0 d1 d2 d3 d4 d5 d6
      go_wp2_with fail
      refine (write_l w0.heap.size b _ (Nt.Pl.shown ta tb) _ HB6.out (by simp only [List.length_append] at hlen2 ⊢; omega) hs6).mono ?_
      rintro e w5 ⟨rfl, hb5, hk5⟩
      have HB5 : Hid (BB w0.heap.size b (text ++ (fBegin m ++ name ++ fSign m) ++ TV ++ Pl.tNth (⟨m, name, value, ta, tb, list⟩ : Pl.Tst α)) w5) := by
        rw [HVN.out]
        exact hb5
      have HK5 : Hid (Keep w0.heap.size b W w5) := HK6.out.trans hk5
      have HW5 : Hid (Below w0.heap.size w0 w5) := HW6.out.trans hk5.below
      have HX65 : Hid (w5.heap[W.heap.size]? = _) := hk5.blk (by omega) (by decide) HX66.out
      have HX75 : Hid (w5.heap[W.heap.size + 1]? = _) := hk5.blk (by omega) (by decide) HX76.out
      rw [← HVN.out] at hlen2
      have HCON : Hid (Calls Tryz.prog 16 _ _ _) := HS.out w0 w5 b _ _ _ HL.out HLD.out HOK.out HW5.out HB5.out (by simp only [List.length_append]; omega)
      clear hb5 hk5 HB6 HK6 HW6 HX66 HX76
      obtain ⟨c0, c1, c2, c3, c4, c5⟩ := blk6_cells HX65.out
      obtain ⟨d0, d1, d2, d3, d4, d5, d6⟩ := blk7_cells HX75.out
      go_wp2_with fail
    all_goals
      refine HCON.out.mono ?_
      rintro e w7 ⟨rfl, hb7, hk7⟩
      generalize Pl.tNth (⟨m, name, value, ta, tb, list⟩ : Pl.Tst α) = TN at *
      have HB7 : Hid (BB w0.heap.size b (text ++ (fBegin m ++ name ++ fSign m) ++ TV ++ TN ++ g list) w7) := hb7
      have HK7 : Hid (Keep w0.heap.size b W w7) := HK5.out.trans hk7
      have HX77 : Hid (w7.heap[W.heap.size + 1]? = _) := hk7.blk (by omega) (by decide) HX75.out
      have hs7 : w0.heap.size ≤ w7.heap.size := by
        have := HK7.out.below.size
        omega
      clear hb7 hk7 HB5 HK5 HX65 HX75 HCON HVN c0 c1 c2 c3 c4 c5 d0 d1 d2 d3 d4 d5 d6
      obtain ⟨-, -, -, -, -, -, d6⟩ := blk7_cells HX77.out
      go_wp2_with fail
      refine (write_l w0.heap.size b _ (fEnd m) _ HB7.out (by simp only [List.length_append]; omega) hs7).mono ?_
      rintro e w8 ⟨rfl, hb8, hk8⟩
      have HB8 : Hid (BB w0.heap.size b (text ++ Pl.showT g (⟨m, name, value, ta, tb, list⟩ : Pl.Tst α)) w8) := by
        unfold Hid
        rw [HE.out]
        simpa only [List.append_assoc] using hb8
      have HK8 : Hid (Keep w0.heap.size b W w8) := HK7.out.trans hk8
      clear hb8 hk8 HB7 HK7 HX77 d6
      go_wp2
      go_end0
      exact ⟨rfl, HB8.out, HK8.out⟩
end Go.Proofs.YtbfkopjpfkgjhaaGreatDoor
/-
  Show's pieces: a path, a list, at any level.
-/
namespace Go.Proofs.YtbfkopjpfkgjhaaGreatDoor
open Go.RowKit

/-- tests that may be shown -/
def okT {α : Type} (ok : List α → Prop) (t : Pl.Tst α) : Prop := Pl.isKind t.kind = true ∧ ok t.list ∧ (Pl.kNth t.kind = true → nB t.a t.b = true)
/-- paths that may be shown -/
def okS {α : Type} (ok : List α → Prop) (p : Pl.Pth α) : Prop := p.links.length + 1 = p.steps.length ∧ (∀ k ∈ p.links, Pl.isLink k = true) ∧ ∀ s ∈ p.steps, ∀ t ∈ s.tests, okT ok t
theorem blk2_cells {W : World} {N : Nat} {T : TypeId} {u0 u1 : Value} (h : W.heap[N]? = some (.cells #[u0, u1] T)) : W.cell? ⟨N, 0, none⟩ = some u0 ∧ W.cell? ⟨N, 1, none⟩ = some u1 := by
  refine ⟨?_, ?_⟩ <;> simp [World.cell?, h]
theorem link_nat {k : Int} (h : Pl.isLink k = true) : ∃ n : Nat, k = n ∧ n ≤ 4 ∧ 1 ≤ n := by
  simp [Pl.isLink] at h
  exact ⟨k.toNat, by omega, by omega, by omega⟩
set_option maxRecDepth 100000 in
set_option maxHeartbeats 4000000 in
theorem showPath_any {α : Type} {A : MemL α} (hA : IsL A) {g : List α → List UInt8} {ok : List α → Prop} (hs : Shows A g ok) (w0 W : World) (b : Nat) (text : List UInt8) (p : Pl.Pth α) (ax al : Option Addr) (cx cl : Nat) (hr : RowAt (StpAt A) 2 w0 (.slice ax p.steps.length cx) p.steps) (hu : RowAt IntAt 1 w0 (.slice al p.links.length cl) p.links) (hL : Laid w0) (hok : okS ok p)
    (hW : Below w0.heap.size w0 W) (hB : BB w0.heap.size b text W) (hlen : text.length + (Pl.showP g p).length ≤ 140737488355328) :
    Calls Tryz.prog 37 #[.pointer (some ⟨b, 0, none⟩), .agg #[.slice ax p.steps.length cx, .slice al p.links.length cl]] W fun e W' => e = .returned (.tuple #[]) ∧ BB w0.heap.size b (text ++ Pl.showP g p) W' ∧ Keep w0.heap.size b W W' := by
  have hbN := hB.lt
  have hsW := hW.size
  have ff := hr.fit
  unfold maxLen at ff
  have hba := on_alloc W (.cells #[.slice ax p.steps.length cx, .slice al p.links.length cl] 38)
  have X0 := World.alloc_heap_new W (.cells #[.slice ax p.steps.length cx, .slice al p.links.length cl] 38)
  have HX : Hid ((W.alloc (.cells #[.slice ax p.steps.length cx, .slice al p.links.length cl] 38)).heap[W.heap.size]? = _) := X0
  have HB0 : Hid (BB w0.heap.size b text _) := hB.on hba
  have HK0 : Hid (Keep w0.heap.size b W _) := (Keep.refl _ _ W).on hba hsW
  have HR : Hid (RowAt (StpAt A) 2 w0 (.slice ax p.steps.length cx) p.steps) := hr
  have HU : Hid (RowAt IntAt 1 w0 (.slice al p.links.length cl) p.links) := hu
  have HLD : Hid (Laid w0) := hL
  have HOK : Hid (okS ok p) := hok
  have HS : Hid (Shows A g ok) := hs
  have HA : Hid (IsL A) := hA
  have HW : Hid (Below w0.heap.size w0 W) := hW
  have hll := hok.1
  have hW1 : W.heap.size + 1 = (W.alloc (.cells #[.slice ax p.steps.length cx, .slice al p.links.length cl] 38)).heap.size := by simp
  obtain ⟨x0, x1⟩ := blk2_cells X0
  clear hr hu hL hok hs hA hW hB hba X0
  go_enter Tryz.func37, Tryz.ntmps37
  go_wp2_with fail
  generalize W.alloc (.cells #[.slice ax p.steps.length cx, .slice al p.links.length cl] 38) = W1 at *
  clear x0 x1
  go_loopw [11] (fun i wr => ∃ k : Nat, k ≤ p.steps.length ∧ i = .int .i64 k ∧ Hid (BB w0.heap.size b (text ++ Pl.pTo g p k) wr) ∧ Hid (Keep w0.heap.size b W wr) ∧ Hid (wr.heap[W.heap.size]? = some (.cells #[.slice ax p.steps.length cx, .slice al p.links.length cl] 38))) (fun i _ => p.steps.length - (intOf i).toNat)
  case atStart => exact ⟨0, Nat.zero_le _, rfl, by rw [show Pl.pTo g p 0 = [] from rfl, List.append_nil]; exact HB0, HK0, HX⟩
  case round =>
    obtain ⟨k, hk, rfl, HBk, HKk, HXk⟩ := hrel
    clear HX HB0 HK0
    by_cases hlt : k < p.steps.length
    · obtain ⟨-, b2, o2, rfl, hc2⟩ := RowAt.at HR.out (by omega)
      have hWr : Below w0.heap.size w0 wr := HW.out.trans HKk.out.below
      obtain ⟨vt, m0, m1, rt⟩ := hc2 k hlt
      obtain ⟨at_, ct, rfl⟩ := rt.form
      have n0 := cell_on hWr m0
      have n1 := cell_on hWr m1
      have k1 : (0 : Int) ≤ (k : Int) := by omega
      have k2 : (k : Int) < (p.steps.length : Int) := by omega
      have HN : Hid (Pl.pTo g p (k + 1) = Pl.pTo g p k ++ (if k = 0 then [] else Pl.lnk (p.links.getD (k - 1) 0).toNat) ++ Pl.showS g p.steps[k]) := Pl.pTo_next g p hlt
      have hLe : (Pl.pTo g p (k + 1)).length ≤ (Pl.showP g p).length := Pl.pTo_le g p (by omega)
      have HRT : Hid (RowAt (TstAt A) 6 w0 (.slice at_ p.steps[k].tests.length ct) p.steps[k].tests) := rt
      have HOKS : Hid (∀ t ∈ p.steps[k].tests, okT ok t) := HOK.out.2.2 _ (List.getElem_mem hlt)
      have hbN2 := HBk.out.lt
      have hsr : W.heap.size < wr.heap.size := (Array.getElem?_eq_some_iff.1 HXk.out).1
      clear hc2 m0 m1 rt
      generalize p.steps[k] = st at *
      have hba := on_alloc wr (.cells #[.string ⟨st.tag.toArray⟩, .slice at_ st.tests.length ct] 56)
      have Y0 := World.alloc_heap_new wr (.cells #[.string ⟨st.tag.toArray⟩, .slice at_ st.tests.length ct] 56)
      have HY : Hid ((wr.alloc (.cells #[.string ⟨st.tag.toArray⟩, .slice at_ st.tests.length ct] 56)).heap[wr.heap.size]? = _) := Y0
      have HBa : Hid (BB w0.heap.size b (text ++ Pl.pTo g p k) _) := HBk.out.on hba
      have HKa : Hid (Keep w0.heap.size b W _) := HKk.out.on hba (by omega)
      have HXa : Hid ((wr.alloc (.cells #[.string ⟨st.tag.toArray⟩, .slice at_ st.tests.length ct] 56)).heap[W.heap.size]? = _) := (hba.block _ hsr).trans HXk.out
      have HWa : Hid (Below w0.heap.size w0 (wr.alloc (.cells #[.string ⟨st.tag.toArray⟩, .slice at_ st.tests.length ct] 56))) := below_trans hWr hba
      have hsa : w0.heap.size ≤ (wr.alloc (.cells #[.string ⟨st.tag.toArray⟩, .slice at_ st.tests.length ct] 56)).heap.size := HWa.out.size
      have hSl : text.length + (Pl.pTo g p k).length + (if k = 0 then ([] : List UInt8) else Pl.lnk (p.links.getD (k - 1) 0).toNat).length + (Pl.showS g st).length ≤ 140737488355328 := by
        rw [HN.out] at hLe
        simp only [List.length_append] at hLe
        omega
      clear hba Y0 HBk HKk HXk hWr hLe
      rcases Nat.eq_zero_or_pos k with hk0 | hk0
      case' inl =>
        subst hk0
        obtain ⟨y0, y1⟩ := blk2_cells HY.out
        simp only [Nat.zero_mul, Nat.add_zero] at n0 n1
        have HE : Hid (Pl.pTo g p (0 + 1) = Pl.pTo g p 0 ++ Pl.showS g st) := by
          unfold Hid
          rw [HN.out, if_pos rfl, List.append_nil]
        rw [if_pos rfl] at hSl
        go_wp2_with fail
        generalize wr.alloc (.cells #[.string ⟨st.tag.toArray⟩, .slice at_ st.tests.length ct] 56) = w4 at *
        have HT4 : Hid (text ++ Pl.pTo g p (0 + 1) = text ++ Pl.pTo g p 0 ++ Pl.showS g st) := by
          unfold Hid
          rw [HE.out, List.append_assoc]
        have HB4 := HBa
        have HK4 := HKa
        have HX4 := HXa
        have HY4 := HY
        have HW4 := HWa
        clear HBa HKa HXa HY HWa HE
        obtain ⟨T, hT⟩ : ∃ T, T = text ++ Pl.pTo g p 0 := ⟨_, rfl⟩
        have hlT : T.length + (Pl.showS g st).length ≤ 140737488355328 := by
          rw [hT, List.length_append]
          simp only [List.length_nil] at hSl
          omega
        rw [← hT] at HB4 HT4
        clear hT hSl
      case' inr =>
        obtain ⟨j, rfl⟩ : ∃ j, k = j + 1 := ⟨k - 1, by omega⟩
        have hjl : j < p.links.length := by omega
        obtain ⟨-, bl, ol, rfl, hcl⟩ := RowAt.at HU.out (by omega)
        have q0 : (wr.alloc (.cells #[.string ⟨st.tag.toArray⟩, .slice at_ st.tests.length ct] 56)).cell? ⟨bl, ol + j, none⟩ = some (.int .i64 p.links[j]) := by simpa [IntAt] using cell_on HWa.out (hcl j hjl)
        have hlk := HOK.out.2.1 _ (List.getElem_mem hjl)
        have hgd : p.links.getD (j + 1 - 1) 0 = p.links[j] := by
          rw [List.getD_eq_getElem?_getD, Nat.add_sub_cancel, List.getElem?_eq_getElem hjl]
          rfl
        rw [if_neg (by omega), hgd] at hSl
        have HN2 : Hid (Pl.pTo g p (j + 1 + 1) = Pl.pTo g p (j + 1) ++ Pl.lnk p.links[j].toNat ++ Pl.showS g st) := by
          unfold Hid
          rw [HN.out, if_neg (by omega), hgd]
        clear hcl HN hgd
        generalize p.links[j] = lk at *
        obtain ⟨n, rfl, hn4, hn1⟩ := link_nat hlk
        have q1 := (HLD.out.on HWa.out).links n hn4
        have hnt : ((n : Int)).toNat = n := by simp
        rw [hnt] at hSl HN2
        have l1 : (0 : Int) ≤ (j : Int) := by omega
        have l2 : (j : Int) < (p.links.length : Int) := by omega
        have l3 : (0 : Int) ≤ (n : Int) := by omega
        have l4 : (n : Int) < 5 := by omega
        have l5 : (0 : Int) < (j : Int) + 1 := by omega
        obtain ⟨y0, y1⟩ := blk2_cells HY.out
        obtain ⟨x0, x1⟩ := blk2_cells HXa.out
        clear hlk hnt
        go_wp2_with fail
        generalize (wr.alloc (.cells #[.string ⟨st.tag.toArray⟩, .slice at_ st.tests.length ct] 56)) = w3 at *
        refine (write_l w0.heap.size b _ (Pl.lnk n) _ HBa.out (by simp only [List.length_append]; omega) hsa).mono ?_
        rintro e w4 ⟨rfl, hb4, hk4⟩
        have HB4 : Hid (BB w0.heap.size b (text ++ Pl.pTo g p (j + 1) ++ Pl.lnk n) w4) := hb4
        have HK4 : Hid (Keep w0.heap.size b W w4) := HKa.out.trans hk4
        have HX4 : Hid (w4.heap[W.heap.size]? = _) := hk4.blk (by omega) (by decide) HXa.out
        have HY4 : Hid (w4.heap[wr.heap.size]? = _) := hk4.blk (by omega) (by decide) HY.out
        have HW4 : Hid (Below w0.heap.size w0 w4) := HWa.out.trans hk4.below
        have HT4 : Hid (text ++ Pl.pTo g p (j + 1 + 1) = text ++ Pl.pTo g p (j + 1) ++ Pl.lnk n ++ Pl.showS g st) := by
          unfold Hid
          rw [HN2.out]
          simp only [List.append_assoc]
        clear hb4 hk4 HBa HKa HXa HY HWa HN2 q0 q1 x0 x1 y0 y1
        obtain ⟨y0, y1⟩ := blk2_cells HY4.out
        go_wp2_with fail
        obtain ⟨T, hT⟩ : ∃ T, T = text ++ Pl.pTo g p (j + 1) ++ Pl.lnk n := ⟨_, rfl⟩
        have hlT : T.length + (Pl.showS g st).length ≤ 140737488355328 := by
          rw [hT, List.length_append, List.length_append]
          omega
        rw [← hT] at HB4 HT4
        clear hT hSl
      all_goals
        have HES : Hid (Pl.showS g st = Pl.showTag st.tag ++ st.tests.flatMap (Pl.showT g)) := rfl
        have hs4 := HW4.out.size
        rw [HES.out, List.length_append] at hlT
        refine (showTag_any w0.heap.size b T st.tag _ HB4.out (by omega) hs4).mono ?_
        rintro e w5 ⟨rfl, hb5, hk5⟩
        have HB5 : Hid (BB w0.heap.size b (T ++ Pl.showTag st.tag) w5) := hb5
        have HK5 : Hid (Keep w0.heap.size b W w5) := HK4.out.trans hk5
        have HX5 : Hid (w5.heap[W.heap.size]? = _) := hk5.blk (by omega) (by decide) HX4.out
        have HY5 : Hid (w5.heap[wr.heap.size]? = _) := hk5.blk (by omega) (by decide) HY4.out
        clear hb5 hk5 HB4 HK4 HX4 HY4 HW4 y0 y1 n0 n1
        obtain ⟨y0, y1⟩ := blk2_cells HY5.out
        have ft := HRT.out.fit
        unfold maxLen at ft
        go_wp2_with fail
        clear y0 y1 HY5
        go_loopw [35] (fun i wr => ∃ q : Nat, q ≤ st.tests.length ∧ i = .int .i64 q ∧ Hid (BB w0.heap.size b (T ++ Pl.showTag st.tag ++ (st.tests.take q).flatMap (Pl.showT g)) wr) ∧ Hid (Keep w0.heap.size b W wr) ∧ Hid (wr.heap[W.heap.size]? = some (.cells #[.slice (some ⟨b2, o2, none⟩) p.steps.length cx, .slice _ p.links.length cl] 38))) (fun i _ => st.tests.length - (intOf i).toNat)
        case atStart => exact ⟨0, Nat.zero_le _, rfl, by rw [List.take_zero, List.flatMap_nil, List.append_nil]; exact HB5, HK5, HX5⟩
        case round =>
          obtain ⟨q, hq, rfl, HBq, HKq, HXq⟩ := hrel
          clear HB5 HK5 HX5
          by_cases hlt2 : q < st.tests.length
          · obtain ⟨-, b3, o3, rfl, hc3⟩ := RowAt.at HRT.out (by omega)
            have hWq : Below w0.heap.size w0 wr := HW.out.trans HKq.out.below
            obtain ⟨vu, q0, q1, q2, q3, q4, q5, rl⟩ := hc3 q hlt2
            obtain ⟨au, cu, rfl, -⟩ := HA.out.form rl
            replace q0 := cell_on hWq q0
            replace q1 := cell_on hWq q1
            replace q2 := cell_on hWq q2
            replace q3 := cell_on hWq q3
            replace q4 := cell_on hWq q4
            replace q5 := cell_on hWq q5
            have j1 : (0 : Int) ≤ (q : Int) := by omega
            have j2 : (q : Int) < (st.tests.length : Int) := by omega
            have HNQ : Hid ((st.tests.take (q + 1)).flatMap (Pl.showT g) = (st.tests.take q).flatMap (Pl.showT g) ++ Pl.showT g st.tests[q]) := Pl.flat_next _ hlt2
            have hfl := Pl.flat_le (Pl.showT g) st.tests (q + 1)
            rw [HNQ.out, List.length_append] at hfl
            obtain ⟨hokk, hokl, hokn⟩ := HOKS.out _ (List.getElem_mem hlt2)
            have hsq : W.heap.size < wr.heap.size := (Array.getElem?_eq_some_iff.1 HXq.out).1
            clear hc3
            generalize st.tests[q] = t at *
            have hba := on_alloc wr (.cells #[.int .i64 t.kind, .string ⟨t.name.toArray⟩, .string ⟨t.value.toArray⟩, .int .i64 t.a, .int .i64 t.b, .slice au t.list.length cu] 61)
            have HCON : Hid (Calls Tryz.prog 64 _ _ _) := showTest_any HS.out w0 _ b _ t au cu rl HLD.out hokk hokl hokn (below_trans hWq hba) (HBq.out.on hba) (by simp only [List.length_append]; omega)
            have HKa : Hid (Keep w0.heap.size b W _) := HKq.out.on hba (by omega)
            have HXa : Hid ((wr.alloc (.cells #[.int .i64 t.kind, .string ⟨t.name.toArray⟩, .string ⟨t.value.toArray⟩, .int .i64 t.a, .int .i64 t.b, .slice au t.list.length cu] 61)).heap[W.heap.size]? = _) := (hba.block _ hsq).trans HXq.out
            clear hba rl hokk hokl hokn HBq HKq HXq
            go_wp2_with fail
            refine HCON.out.mono ?_
            rintro e w6 ⟨rfl, hb6, hk6⟩
            have HB6 : Hid (BB w0.heap.size b (T ++ Pl.showTag st.tag ++ (st.tests.take (q + 1)).flatMap (Pl.showT g)) w6) := by
              unfold Hid
              rw [HNQ.out, ← List.append_assoc]
              exact hb6
            have HK6 : Hid (Keep w0.heap.size b W w6) := HKa.out.trans hk6
            have HX6 : Hid (w6.heap[W.heap.size]? = _) := hk6.blk (by omega) (by decide) HXa.out
            clear hb6 hk6 HKa HXa HCON q0 q1 q2 q3 q4 q5 hfl
            go_wp2
            exact ⟨⟨q + 1, hlt2, by go_num, HB6, HK6, HX6⟩, by simp [intOf]; omega⟩
          · have HBe : Hid (BB w0.heap.size b (T ++ Pl.showS g st) wr) := by
              unfold Hid
              rw [HES.out, ← List.append_assoc]
              have := HBq.out
              rw [List.take_of_length_le (by omega)] at this
              exact this
            go_wp2
            exact ⟨⟨_, hlt, by go_num, by rw [HT4.out]; exact HBe, HKq, HXq⟩, by simp [intOf]; omega⟩
    · have HBe : Hid (BB w0.heap.size b (text ++ Pl.showP g p) wr) := by
        have := HBk.out
        rw [show k = p.steps.length by omega] at this
        exact this
      go_wp2
      go_end0
      exact ⟨rfl, HBe.out, HKk.out⟩
set_option maxRecDepth 100000 in
set_option maxHeartbeats 4000000 in
theorem shows_up {α : Type} {A : MemL α} (hA : IsL A) {g : List α → List UInt8} {ok : List α → Prop} (hs : Shows A g ok) : Shows (LstAt A) (Pl.showL g) (fun l => ∀ p ∈ l, okS ok p) := by
  intro w0 W b text v l hl hL hok hW hB hlen
  obtain ⟨a, c, rfl⟩ := RowAt.form hl
  have ff := RowAt.fit hl
  unfold maxLen at ff
  have hsW := hW.size
  have HB0 : Hid (BB w0.heap.size b text W) := hB
  have HL : Hid (LstAt A w0 (.slice a l.length c) l) := hl
  have HLD : Hid (Laid w0) := hL
  have HOK : Hid (∀ p ∈ l, okS ok p) := hok
  have HS : Hid (Shows A g ok) := hs
  have HA : Hid (IsL A) := hA
  have HW : Hid (Below w0.heap.size w0 W) := hW
  clear hl hL hok hs hA hW hB
  go_enter Tryz.func16, Tryz.ntmps16
  go_wp2_with fail
  go_loopw [8] (fun i wr => ∃ k : Nat, k ≤ l.length ∧ i = .int .i64 k ∧ Hid (BB w0.heap.size b (text ++ Pl.lTo g l k) wr) ∧ Hid (Keep w0.heap.size b W wr)) (fun i _ => l.length - (intOf i).toNat)
  case atStart => exact ⟨0, Nat.zero_le _, rfl, by rw [show Pl.lTo g l 0 = [] from rfl, List.append_nil]; exact HB0, Keep.refl _ _ _⟩
  case round =>
    obtain ⟨k, hk, rfl, HBk, HKk⟩ := hrel
    clear HB0
    by_cases hlt : k < l.length
    · obtain ⟨-, b2, o2, rfl, hc2⟩ := RowAt.at HL.out (by omega)
      have hWr : Below w0.heap.size w0 wr := HW.out.trans HKk.out.below
      obtain ⟨vs, vl, m0, m1, rs, rl⟩ := hc2 k hlt
      obtain ⟨ax, cx, rfl⟩ := rs.form
      obtain ⟨al, cl, rfl⟩ := rl.form
      have n0 := cell_on hWr m0
      have n1 := cell_on hWr m1
      have k1 : (0 : Int) ≤ (k : Int) := by omega
      have k2 : (k : Int) < (l.length : Int) := by omega
      have HN : Hid (Pl.lTo g l (k + 1) = Pl.lTo g l k ++ (if k = 0 then [] else [44, 32]) ++ Pl.showP g l[k]) := Pl.lTo_next g l hlt
      have hLe : (Pl.lTo g l (k + 1)).length ≤ (Pl.showL g l).length := Pl.lTo_le g l (by omega)
      have HRS : Hid (RowAt (StpAt A) 2 w0 (.slice ax l[k].steps.length cx) l[k].steps) := rs
      have HRL : Hid (RowAt IntAt 1 w0 (.slice al l[k].links.length cl) l[k].links) := rl
      have HOKP : Hid (okS ok l[k]) := HOK.out _ (List.getElem_mem hlt)
      have hbN2 := HBk.out.lt
      clear hc2 m0 m1 rs rl
      generalize l[k] = p at *
      have hba := on_alloc wr (.cells #[.slice ax p.steps.length cx, .slice al p.links.length cl] 38)
      have Y0 := World.alloc_heap_new wr (.cells #[.slice ax p.steps.length cx, .slice al p.links.length cl] 38)
      have HY : Hid ((wr.alloc (.cells #[.slice ax p.steps.length cx, .slice al p.links.length cl] 38)).heap[wr.heap.size]? = _) := Y0
      have HBa : Hid (BB w0.heap.size b (text ++ Pl.lTo g l k) _) := HBk.out.on hba
      have hsr : w0.heap.size ≤ wr.heap.size := hWr.size
      have HKa : Hid (Keep w0.heap.size b W _) := HKk.out.on hba hsr
      have HWa : Hid (Below w0.heap.size w0 (wr.alloc (.cells #[.slice ax p.steps.length cx, .slice al p.links.length cl] 38))) := below_trans hWr hba
      have hsa : w0.heap.size ≤ (wr.alloc (.cells #[.slice ax p.steps.length cx, .slice al p.links.length cl] 38)).heap.size := HWa.out.size
      have hSl : text.length + (Pl.lTo g l k).length + (if k = 0 then ([] : List UInt8) else [44, 32]).length + (Pl.showP g p).length ≤ 140737488355328 := by
        rw [HN.out] at hLe
        simp only [List.length_append] at hLe
        omega
      clear hba Y0 HBk HKk hWr hLe
      rcases Nat.eq_zero_or_pos k with hk0 | hk0
      case' inl =>
        subst hk0
        obtain ⟨y0, y1⟩ := blk2_cells HY.out
        simp only [Nat.zero_mul, Nat.add_zero] at n0 n1
        have HT4 : Hid (text ++ Pl.lTo g l (0 + 1) = text ++ Pl.lTo g l 0 ++ Pl.showP g p) := by
          unfold Hid
          rw [HN.out, if_pos rfl, List.append_nil, List.append_assoc]
        rw [if_pos rfl] at hSl
        go_wp2_with fail
        generalize wr.alloc (.cells #[.slice ax p.steps.length cx, .slice al p.links.length cl] 38) = w4 at *
        have HB4 := HBa
        have HK4 := HKa
        have HW4 := HWa
        clear HBa HKa HY HWa
        obtain ⟨T, hT⟩ : ∃ T, T = text ++ Pl.lTo g l 0 := ⟨_, rfl⟩
        have hlT : T.length + (Pl.showP g p).length ≤ 140737488355328 := by
          rw [hT, List.length_append]
          simp only [List.length_nil] at hSl
          omega
        rw [← hT] at HB4 HT4
        clear hT hSl
      case' inr =>
        have hkp : (0 : Int) < (k : Int) := by omega
        have HT4 : Hid (text ++ Pl.lTo g l (k + 1) = text ++ Pl.lTo g l k ++ [44, 32] ++ Pl.showP g p) := by
          unfold Hid
          rw [HN.out, if_neg (by omega)]
          simp only [List.append_assoc]
        rw [if_neg (by omega)] at hSl
        simp only [List.length_cons, List.length_nil] at hSl
        go_wp2_with fail
        generalize wr.alloc (.cells #[.slice ax p.steps.length cx, .slice al p.links.length cl] 38) = w3 at *
        refine (write_l w0.heap.size b _ [44, 32] _ HBa.out (by simp only [List.length_append, List.length_cons, List.length_nil]; omega) hsa).mono ?_
        rintro e w4 ⟨rfl, hb4, hk4⟩
        have HB4 : Hid (BB w0.heap.size b (text ++ Pl.lTo g l k ++ [44, 32]) w4) := hb4
        have HK4 : Hid (Keep w0.heap.size b W w4) := HKa.out.trans hk4
        have HW4 : Hid (Below w0.heap.size w0 w4) := HWa.out.trans hk4.below
        obtain ⟨y0, y1⟩ := blk2_cells (hk4.blk (by omega) (by decide) HY.out)
        clear hb4 hk4 HBa HKa HY HWa
        go_wp2_with fail
        obtain ⟨T, hT⟩ : ∃ T, T = text ++ Pl.lTo g l k ++ [44, 32] := ⟨_, rfl⟩
        have hlT : T.length + (Pl.showP g p).length ≤ 140737488355328 := by
          rw [hT, List.length_append, List.length_append]
          simp only [List.length_cons, List.length_nil]
          omega
        rw [← hT] at HB4 HT4
        clear hT hSl
      all_goals
        refine (showPath_any HA.out HS.out w0 w4 b T p ax al cx cl HRS.out HRL.out HLD.out HOKP.out HW4.out HB4.out hlT).mono ?_
        rintro e w5 ⟨rfl, hb5, hk5⟩
        have HB5 : Hid (BB w0.heap.size b (T ++ Pl.showP g p) w5) := hb5
        have HK5 : Hid (Keep w0.heap.size b W w5) := HK4.out.trans hk5
        clear hb5 hk5 HB4 HK4 HW4 y0 y1 n0 n1
        go_wp2
        exact ⟨⟨_, hlt, by go_num, by rw [HT4.out]; exact HB5, HK5⟩, by simp [intOf]; omega⟩
    · have HBe : Hid (BB w0.heap.size b (text ++ Pl.showL g l) wr) := by
        have := HBk.out
        rw [show k = l.length by omega] at this
        exact this
      go_wp2
      go_end0
      exact ⟨rfl, HBe.out, HKk.out⟩
end Go.Proofs.YtbfkopjpfkgjhaaGreatDoor
