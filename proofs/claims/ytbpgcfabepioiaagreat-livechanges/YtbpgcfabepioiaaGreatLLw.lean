/-
  The law LiveChanges, walked: what the program answers against what the document asks.
-/
import Derived.Test.YtbpgcfabepioiaaGreatLBb
namespace Go.Proofs.YtbpgcfabepioiaaGreat
open Go.RowKit

/-- a page or an error -/
def Ans (E : Int) (D : List Pl.Nd) (I : List Pl.Er) (W : World) (e : Ending) (w' : World) : Prop := ∃ v, e = .returned (.tuple #[v, .int .i64 E]) ∧ PgAt w' v D I ∧ Below W.heap.size W w'
def AnsD (E : Int) (M : List Pl.Nd) (W : World) (e : Ending) (w' : World) : Prop := ∃ v, e = .returned (.tuple #[.agg #[v], .int .i64 E]) ∧ DocAt w' v M ∧ Below W.heap.size W w'
theorem PgAt.sm {W : World} {v u : Value} {ns : List Pl.Nd} {l : List Pl.Er} {N j : Nat} (h : PgAt W v ns l) (hS : Sm W N) : PgAt (W.setCell ⟨N, j, none⟩ u) v ns l := by
  obtain ⟨a, c, a2, c2, e, h1, h2⟩ := h
  exact ⟨a, c, a2, c2, e, h1.sm hS, h2.sm hS⟩
theorem Blk2.other {w : World} {N M j : Nat} {c0 c1 u : Value} (h : Blk2 w N c0 c1) (hne : M ≠ N) : Blk2 (w.setCell ⟨M, j, none⟩ u) N c0 c1 := by
  unfold Blk2 at *
  rw [Below.heap_setCell _ _ _ _ (by intro e; exact hne e.symm)]
  exact h
theorem duo1_on {w W w' : World} {p0 : Addr} {v0 : Value} (h : W.cell? p0 = some v0 ∧ Below w.heap.size w W) (hb : Below W.heap.size W w') : w'.cell? p0 = some v0 ∧ Below w.heap.size w w' := ⟨cell_on hb h.1, below_trans h.2 hb⟩
theorem duo1_last {w W : World} {p0 : Addr} {v0 : Value} (h : W.cell? p0 = some v0 ∧ Below w.heap.size w W) : Below w.heap.size w W := h.2
theorem duo1_set {w W : World} {b0 o0 B j : Nat} {v0 u : Value} (h0 : b0 < w.heap.size) (hB : w.heap.size ≤ B) (h : W.cell? ⟨b0, o0, none⟩ = some v0 ∧ Below w.heap.size w W) : (W.setCell ⟨B, j, none⟩ u).cell? ⟨b0, o0, none⟩ = some v0 ∧ Below w.heap.size w (W.setCell ⟨B, j, none⟩ u) :=
  ⟨cell_set h.1 (by omega), h.2.setCell (p := ⟨B, j, none⟩) hB u⟩
theorem duo1_set2 {w W : World} {b0 o0 B j k : Nat} {v0 u u2 : Value} (h0 : b0 < w.heap.size) (hB : w.heap.size ≤ B) (h : W.cell? ⟨b0, o0, none⟩ = some v0 ∧ Below w.heap.size w W) : ((W.setCell ⟨B, j, none⟩ u).setCell ⟨B, k, none⟩ u2).cell? ⟨b0, o0, none⟩ = some v0 ∧ Below w.heap.size w ((W.setCell ⟨B, j, none⟩ u).setCell ⟨B, k, none⟩ u2) := duo1_set h0 hB (duo1_set h0 hB h)
theorem duo1_re {w W : World} {o o' : Obj} {b0 o0 : Nat} {v0 : Value} (h0 : b0 < w.heap.size) (hs : w.heap.size ≤ W.heap.size) (h : (W.alloc o).cell? ⟨b0, o0, none⟩ = some v0 ∧ Below w.heap.size w (W.alloc o)) : (W.alloc o').cell? ⟨b0, o0, none⟩ = some v0 ∧ Below w.heap.size w (W.alloc o') := by
  have hb : ∀ k, k < w.heap.size → (W.alloc o').heap[k]? = (W.alloc o).heap[k]? := fun k hk => by rw [Below.heap_alloc _ _ _ (by omega), Below.heap_alloc _ _ _ (by omega)]
  refine ⟨?_, ?_⟩
  · rw [World.cell?_of_block (w := W.alloc o) (hb b0 h0)]; exact h.1
  · obtain ⟨e1, e2, e3, e4, e5⟩ := h.2
    exact ⟨e1, e2, e3, by simp; omega, fun k hk => (hb k hk).trans (e5 k hk)⟩
theorem bcell {W w1 : World} (hb : Below W.heap.size W w1) : (∀ b o, b < W.heap.size → w1.cell? ⟨b, o, none⟩ = W.cell? ⟨b, o, none⟩) ∧ (∀ b o, b < W.heap.size → w1.frozen? ⟨b, o, none⟩ = W.frozen? ⟨b, o, none⟩) :=
  ⟨fun b o h => hb.cell (p := ⟨b, o, none⟩) h, fun b o h => hb.frozen (p := ⟨b, o, none⟩) h⟩
/-- a page in its box -/
def BoxPg (W : World) (M : Nat) (D : List Pl.Nd) (I : List Pl.Er) : Prop := ∃ a c i k, Blk2 W M (.slice a D.length c) (.slice i I.length k) ∧ PgAt W (.agg #[.slice a D.length c, .slice i I.length k]) D I
theorem BoxPg.on {W W' : World} {M : Nat} {D : List Pl.Nd} {I : List Pl.Er} (h : BoxPg W M D I) (hb : Below W.heap.size W W') : BoxPg W' M D I := by
  obtain ⟨a, c, i, k, h1, h2⟩ := h
  exact ⟨a, c, i, k, h1.on hb, h2.on hb⟩
structure Laws (ns es : List Pl.Nd) (l : List Pl.Er) (up at_ n : Int) (x : Pl.Nd) (EO EI ER EP P : Int) (DO DI DR DP : List Pl.Nd) (IZ II IR IP : List Pl.Er) : Prop where
  open_ : ∀ W v, DocAt W v ns → Calls Tryz.prog 4 #[.agg #[v]] W fun e w' => Ans EO DO IZ W e w'
  ins : ∀ W v v2, PgAt W v ns l → DocAt W v2 es → Calls Tryz.prog 5 #[v, .int .i64 up, .int .i64 at_, .agg #[v2]] W fun e w' => Ans EI DI II W e w'
  rem : ∀ W v, PgAt W v ns l → Calls Tryz.prog 6 #[v, .int .i64 n] W fun e w' => Ans ER DR IR W e w'
  put : ∀ W v xv, PgAt W v ns l → NdV W xv x → Calls Tryz.prog 7 #[v, .int .i64 n, xv] W fun e w' => Ans EP DP IP W e w'
  chk : ∀ W v, DocAt W v ns → Calls Tryz.prog 9 #[.agg #[v]] W fun e w' => e = .returned (.int .i64 EO) ∧ Below W.heap.size W w'
  po : ∀ W v, DocAt W v ns → Calls Tryz.prog 8 #[.agg #[v], .int .i64 EO] W fun e w' => Ans EO DO IZ W e w'
  pe : ∀ W v, PgAt W v ns l → Calls Tryz.prog 10 #[v] W fun e w' => e = .returned (.int .i64 P) ∧ Below W.heap.size W w'
  fit : IxFit IZ ∧ IxFit II ∧ IxFit IR ∧ IxFit IP
structure Refs (ns es : List Pl.Nd) (up at_ n : Int) (x : Pl.Nd) (EI ER EP : Int) (MI MR MP DI DR DP : List Pl.Nd) (II IR IP : List Pl.Er) : Prop where
  ins : ∀ W v v2, DocAt W v ns → DocAt W v2 es → Calls Tryz.prog 11 #[.agg #[v], .int .i64 up, .int .i64 at_, .agg #[v2]] W fun e w' => AnsD EI MI W e w'
  insP : ∀ W v, DocAt W v MI → Calls Tryz.prog 8 #[.agg #[v], .int .i64 EI] W fun e w' => Ans EI DI II W e w'
  rem : ∀ W v, DocAt W v ns → Calls Tryz.prog 12 #[.agg #[v], .int .i64 n] W fun e w' => AnsD ER MR W e w'
  remP : ∀ W v, DocAt W v MR → Calls Tryz.prog 8 #[.agg #[v], .int .i64 ER] W fun e w' => Ans ER DR IR W e w'
  put : ∀ W v xv, DocAt W v ns → NdV W xv x → Calls Tryz.prog 13 #[.agg #[v], .int .i64 n, xv] W fun e w' => AnsD EP MP W e w'
  putP : ∀ W v, DocAt W v MP → Calls Tryz.prog 8 #[.agg #[v], .int .i64 EP] W fun e w' => Ans EP DP IP W e w'
def Pk (W : World) (yo yi yr yp M5 : Nat) (DO DI DR DP : List Pl.Nd) (IZ II IR IP : List Pl.Er) : Prop := BoxPg W yo DO IZ ∧ BoxPg W yi DI II ∧ BoxPg W yr DR IR ∧ BoxPg W yp DP IP ∧ BoxPg W M5 DO IZ
theorem Pk.on {W W' : World} {yo yi yr yp M5 : Nat} {DO DI DR DP : List Pl.Nd} {IZ II IR IP : List Pl.Er} (h : Pk W yo yi yr yp M5 DO DI DR DP IZ II IR IP) (hb : Below W.heap.size W W') : Pk W' yo yi yr yp M5 DO DI DR DP IZ II IR IP := ⟨h.1.on hb, h.2.1.on hb, h.2.2.1.on hb, h.2.2.2.1.on hb, h.2.2.2.2.on hb⟩
theorem BoxPg.lt {W : World} {M : Nat} {D : List Pl.Nd} {I : List Pl.Er} (h : BoxPg W M D I) : M < W.heap.size := by
  obtain ⟨_, _, _, _, h, _⟩ := h
  exact h.lt
def Plt (N yo yi yr yp M5 : Nat) : Prop := yo < N ∧ yi < N ∧ yr < N ∧ yp < N ∧ M5 < N
theorem Plt.up {N yo yi yr yp M5 : Nat} (h : Plt N yo yi yr yp M5) (k : Nat) : Plt (N + k) yo yi yr yp M5 := by unfold Plt at *; omega
theorem Pk.lt {W : World} {yo yi yr yp M5 : Nat} {DO DI DR DP : List Pl.Nd} {IZ II IR IP : List Pl.Er} (h : Pk W yo yi yr yp M5 DO DI DR DP IZ II IR IP) : Plt W.heap.size yo yi yr yp M5 := ⟨h.1.lt, h.2.1.lt, h.2.2.1.lt, h.2.2.2.1.lt, h.2.2.2.2.lt⟩
theorem BoxPg.put {W : World} {N M : Nat} {D : List Pl.Nd} {I : List Pl.Er} {a0 a1 a a2 : Option Addr} {l0 l1 k0 k1 k c m c2 : Nat} (h : BoxPg W M D I) (hb : Blk2 W N (.slice a0 l0 k0) (.slice a1 l1 k1)) (hne : N ≠ M) :
    BoxPg ((W.setCell ⟨N, 0, none⟩ (.slice a k c)).setCell ⟨N, 1, none⟩ (.slice a2 m c2)) M D I := by
  obtain ⟨b, d, i, j, h1, h2⟩ := h
  exact ⟨b, d, i, j, (h1.other hne).other hne, (h2.sm hb.sm).sm (hb.set0 _).sm⟩
theorem Pk.put {W : World} {N yo yi yr yp M5 : Nat} {DO DI DR DP : List Pl.Nd} {IZ II IR IP : List Pl.Er} {a0 a1 a a2 : Option Addr} {l0 l1 k0 k1 k c m c2 : Nat} (h : Pk W yo yi yr yp M5 DO DI DR DP IZ II IR IP) (hb : Blk2 W N (.slice a0 l0 k0) (.slice a1 l1 k1)) (hl : Plt N yo yi yr yp M5) :
    Pk ((W.setCell ⟨N, 0, none⟩ (.slice a k c)).setCell ⟨N, 1, none⟩ (.slice a2 m c2)) yo yi yr yp M5 DO DI DR DP IZ II IR IP := by
  unfold Plt at hl
  exact ⟨h.1.put hb (by omega), h.2.1.put hb (by omega), h.2.2.1.put hb (by omega), h.2.2.2.1.put hb (by omega), h.2.2.2.2.put hb (by omega)⟩
theorem BoxPg.zero {W : World} {N : Nat} {D : List Pl.Nd} {I : List Pl.Er} (h : Blk2 W N (.slice none 0 0) (.slice none 0 0)) (hD : D = []) (hI : I = []) : BoxPg W N D I := by
  subst hD hI
  exact ⟨none, 0, none, 0, h, PgAt.nil W⟩
theorem BoxPg.fill {W : World} {N : Nat} {D : List Pl.Nd} {I : List Pl.Er} {a0 a1 a a2 : Option Addr} {l0 l1 k0 k1 c c2 : Nat} (h : PgAt W (.agg #[.slice a D.length c, .slice a2 I.length c2]) D I) (hb : Blk2 W N (.slice a0 l0 k0) (.slice a1 l1 k1)) :
    BoxPg ((W.setCell ⟨N, 0, none⟩ (.slice a D.length c)).setCell ⟨N, 1, none⟩ (.slice a2 I.length c2)) N D I := by
  obtain ⟨ap, cp, ip, kp, e, h1, h2⟩ := h
  injection e with e
  simp only [Array.mk.injEq, List.cons.injEq, Value.slice.injEq, and_true, true_and] at e
  obtain ⟨⟨rfl, rfl⟩, rfl, rfl⟩ := e
  exact ⟨_, _, _, _, (PgAt.box h1 h2 hb).2, (PgAt.box h1 h2 hb).1⟩
theorem below_put {w W : World} {N : Nat} {u v : Value} (h : Below w.heap.size w W) (hN : w.heap.size ≤ N) : Below w.heap.size w ((W.setCell ⟨N, 0, none⟩ u).setCell ⟨N, 1, none⟩ v) := (h.setCell (p := ⟨N, 0, none⟩) hN _).setCell (p := ⟨N, 1, none⟩) hN _
theorem three (w : World) : Below w.heap.size w (((w.alloc (.cells #[.slice none 0 0, .slice none 0 0] 27)).alloc (.cells #[.slice none 0 0, .slice none 0 0] 27)).alloc (.cells #[.slice none 0 0, .slice none 0 0] 27)) := (((Below.refl w.heap.size w).alloc (Nat.le_refl _) _).alloc (by simp) _).alloc (by simp; omega) _
theorem zero1 (w : World) : Blk2 (((w.alloc (.cells #[.slice none 0 0, .slice none 0 0] 27)).alloc (.cells #[.slice none 0 0, .slice none 0 0] 27)).alloc (.cells #[.slice none 0 0, .slice none 0 0] 27)) w.heap.size (.slice none 0 0) (.slice none 0 0) := ((Blk2.new w _ _).on (on_alloc _ _)).on (on_alloc _ _)
theorem zero2 (w : World) : Blk2 (((w.alloc (.cells #[.slice none 0 0, .slice none 0 0] 27)).alloc (.cells #[.slice none 0 0, .slice none 0 0] 27)).alloc (.cells #[.slice none 0 0, .slice none 0 0] 27)) (w.heap.size + 1) (.slice none 0 0) (.slice none 0 0) := by
  have := (Blk2.new (w.alloc (.cells #[.slice none 0 0, .slice none 0 0] 27)) (.slice none 0 0) (.slice none 0 0)).on (on_alloc _ (.cells #[.slice none 0 0, .slice none 0 0] 27))
  simpa using this
theorem zero3 (w : World) : Blk2 (((w.alloc (.cells #[.slice none 0 0, .slice none 0 0] 27)).alloc (.cells #[.slice none 0 0, .slice none 0 0] 27)).alloc (.cells #[.slice none 0 0, .slice none 0 0] 27)) (w.heap.size + 1 + 1) (.slice none 0 0) (.slice none 0 0) := by
  have := Blk2.new ((w.alloc (.cells #[.slice none 0 0, .slice none 0 0] 27)).alloc (.cells #[.slice none 0 0, .slice none 0 0] 27)) (.slice none 0 0) (.slice none 0 0)
  simpa using this
set_option maxRecDepth 100000 in
set_option maxHeartbeats 8000000 in
theorem law_try (ns es : List Pl.Nd) (l : List Pl.Er) (up at_ n : Int) (x : Pl.Nd) (EO EI ER EP P : Int) (DO DI DR DP : List Pl.Nd) (IZ II IR IP : List Pl.Er) (pv ev xv : Value) (w : World) (hpg : PgAt w pv ns l) (hd2 : DocAt w ev es) (hx : NdV w xv x)
    (hL : Laws ns es l up at_ n x EO EI ER EP P DO DI DR DP IZ II IR IP)
    (hE : (P ≠ 0 ∧ P = EI ∧ EI = ER ∧ ER = EP ∧ DI = [] ∧ DR = [] ∧ DP = [] ∧ II = [] ∧ IR = [] ∧ IP = []) ∨ (P = 0 ∧ ∃ MI MR MP, Refs ns es up at_ n x EI ER EP MI MR MP DI DR DP II IR IP)) :
    Calls Tryz.prog 3 #[pv, .int .i64 up, .int .i64 at_, .agg #[ev], .int .i64 n, xv] w fun e w' => e = .returned (.bool true) ∧ Below w.heap.size w w' := by
  obtain ⟨a, c, a2, c2, rfl, hd, he⟩ := hpg
  obtain ⟨a3, c3, rfl⟩ := hd2.form
  obtain ⟨vc, va, rfl, hs, ha⟩ := hx
  obtain ⟨ac, cc, rfl, -⟩ := id hs
  obtain ⟨aa, ca, rfl, -⟩ := id ha
  have hb0 : Below w.heap.size w (((w.alloc (.cells #[.slice a ns.length c, .slice a2 l.length c2] 27)).alloc (.cells #[.slice a3 es.length c3] 24)).alloc (.cells #[.int .i64 x.up, .string ⟨x.tag.toArray⟩, .string ⟨x.id.toArray⟩, .slice ac x.cls.length cc, .slice aa x.ats.length ca] 31)) := (((Below.refl w.heap.size w).alloc (Nat.le_refl _) _).alloc (by simp) _).alloc (by simp; omega) _
  have HL : Hid (Laws _ _ _ _ _ _ _ _ _ _ _ _ _ _ _ _ _ _ _ _) := hL
  have HPG : Hid (∀ W, Below w.heap.size w W → PgAt W (.agg #[.slice a ns.length c, .slice a2 l.length c2]) ns l) := fun W hW => ⟨a, c, a2, c2, rfl, hd.on hW, he.on hW⟩
  have HD : Hid (∀ W, Below w.heap.size w W → DocAt W (.slice a ns.length c) ns) := fun W hW => hd.on hW
  have HD2 : Hid (∀ W, Below w.heap.size w W → DocAt W (.slice a3 es.length c3) es) := fun W hW => hd2.on hW
  have HX : Hid (∀ W, Below w.heap.size w W → NdV W (.agg #[.int .i64 x.up, .string ⟨x.tag.toArray⟩, .string ⟨x.id.toArray⟩, .slice ac x.cls.length cc, .slice aa x.ats.length ca]) x) := fun W hW => ⟨_, _, rfl, hs.on hW, ha.on hW⟩
  have bP : Blk2 (((w.alloc (.cells #[.slice a ns.length c, .slice a2 l.length c2] 27)).alloc (.cells #[.slice a3 es.length c3] 24)).alloc (.cells #[.int .i64 x.up, .string ⟨x.tag.toArray⟩, .string ⟨x.id.toArray⟩, .slice ac x.cls.length cc, .slice aa x.ats.length ca] 31)) w.heap.size (.slice a ns.length c) (.slice a2 l.length c2) := ((Blk2.new w _ _).on (on_alloc _ _)).on (on_alloc _ _)
  have bE : Blk1 (((w.alloc (.cells #[.slice a ns.length c, .slice a2 l.length c2] 27)).alloc (.cells #[.slice a3 es.length c3] 24)).alloc (.cells #[.int .i64 x.up, .string ⟨x.tag.toArray⟩, .string ⟨x.id.toArray⟩, .slice ac x.cls.length cc, .slice aa x.ats.length ca] 31)) (w.heap.size + 1) (.slice a3 es.length c3) := by
    have := (Blk1.new (w.alloc (.cells #[.slice a ns.length c, .slice a2 l.length c2] 27)) (.slice a3 es.length c3)).on (on_alloc _ (.cells #[.int .i64 x.up, .string ⟨x.tag.toArray⟩, .string ⟨x.id.toArray⟩, .slice ac x.cls.length cc, .slice aa x.ats.length ca] 31))
    simpa using this
  have bX : Blk (((w.alloc (.cells #[.slice a ns.length c, .slice a2 l.length c2] 27)).alloc (.cells #[.slice a3 es.length c3] 24)).alloc (.cells #[.int .i64 x.up, .string ⟨x.tag.toArray⟩, .string ⟨x.id.toArray⟩, .slice ac x.cls.length cc, .slice aa x.ats.length ca] 31)) (w.heap.size + 1 + 1) (.int .i64 x.up) (.string ⟨x.tag.toArray⟩) (.string ⟨x.id.toArray⟩) (.slice ac x.cls.length cc) (.slice aa x.ats.length ca) := by
    have := heap_alloc_new ((w.alloc (.cells #[.slice a ns.length c, .slice a2 l.length c2] 27)).alloc (.cells #[.slice a3 es.length c3] 24)) (.cells #[.int .i64 x.up, .string ⟨x.tag.toArray⟩, .string ⟨x.id.toArray⟩, .slice ac x.cls.length cc, .slice aa x.ats.length ca] 31)
    simpa [Blk] using this
  have HB : Hid (Below w.heap.size w (((w.alloc (.cells #[.slice a ns.length c, .slice a2 l.length c2] 27)).alloc (.cells #[.slice a3 es.length c3] 24)).alloc (.cells #[.int .i64 x.up, .string ⟨x.tag.toArray⟩, .string ⟨x.id.toArray⟩, .slice ac x.cls.length cc, .slice aa x.ats.length ca] 31))) := hb0
  have HBP : Hid (∀ W, Below (((w.alloc (.cells #[.slice a ns.length c, .slice a2 l.length c2] 27)).alloc (.cells #[.slice a3 es.length c3] 24)).alloc (.cells #[.int .i64 x.up, .string ⟨x.tag.toArray⟩, .string ⟨x.id.toArray⟩, .slice ac x.cls.length cc, .slice aa x.ats.length ca] 31)).heap.size (((w.alloc (.cells #[.slice a ns.length c, .slice a2 l.length c2] 27)).alloc (.cells #[.slice a3 es.length c3] 24)).alloc (.cells #[.int .i64 x.up, .string ⟨x.tag.toArray⟩, .string ⟨x.id.toArray⟩, .slice ac x.cls.length cc, .slice aa x.ats.length ca] 31)) W → Blk2 W w.heap.size (.slice a ns.length c) (.slice a2 l.length c2)) := fun W hW => bP.on hW
  have HBE : Hid (∀ W, Below (((w.alloc (.cells #[.slice a ns.length c, .slice a2 l.length c2] 27)).alloc (.cells #[.slice a3 es.length c3] 24)).alloc (.cells #[.int .i64 x.up, .string ⟨x.tag.toArray⟩, .string ⟨x.id.toArray⟩, .slice ac x.cls.length cc, .slice aa x.ats.length ca] 31)).heap.size (((w.alloc (.cells #[.slice a ns.length c, .slice a2 l.length c2] 27)).alloc (.cells #[.slice a3 es.length c3] 24)).alloc (.cells #[.int .i64 x.up, .string ⟨x.tag.toArray⟩, .string ⟨x.id.toArray⟩, .slice ac x.cls.length cc, .slice aa x.ats.length ca] 31)) W → Blk1 W (w.heap.size + 1) (.slice a3 es.length c3)) := fun W hW => bE.on hW
  have HBX : Hid (∀ W, Below (((w.alloc (.cells #[.slice a ns.length c, .slice a2 l.length c2] 27)).alloc (.cells #[.slice a3 es.length c3] 24)).alloc (.cells #[.int .i64 x.up, .string ⟨x.tag.toArray⟩, .string ⟨x.id.toArray⟩, .slice ac x.cls.length cc, .slice aa x.ats.length ca] 31)).heap.size (((w.alloc (.cells #[.slice a ns.length c, .slice a2 l.length c2] 27)).alloc (.cells #[.slice a3 es.length c3] 24)).alloc (.cells #[.int .i64 x.up, .string ⟨x.tag.toArray⟩, .string ⟨x.id.toArray⟩, .slice ac x.cls.length cc, .slice aa x.ats.length ca] 31)) W → Blk W (w.heap.size + 1 + 1) (.int .i64 x.up) (.string ⟨x.tag.toArray⟩) (.string ⟨x.id.toArray⟩) (.slice ac x.cls.length cc) (.slice aa x.ats.length ca)) := fun W hW => bX.on hW
  have B0 : Hid (Below (((w.alloc (.cells #[.slice a ns.length c, .slice a2 l.length c2] 27)).alloc (.cells #[.slice a3 es.length c3] 24)).alloc (.cells #[.int .i64 x.up, .string ⟨x.tag.toArray⟩, .string ⟨x.id.toArray⟩, .slice ac x.cls.length cc, .slice aa x.ats.length ca] 31)).heap.size (((w.alloc (.cells #[.slice a ns.length c, .slice a2 l.length c2] 27)).alloc (.cells #[.slice a3 es.length c3] 24)).alloc (.cells #[.int .i64 x.up, .string ⟨x.tag.toArray⟩, .string ⟨x.id.toArray⟩, .slice ac x.cls.length cc, .slice aa x.ats.length ca] 31)) (((w.alloc (.cells #[.slice a ns.length c, .slice a2 l.length c2] 27)).alloc (.cells #[.slice a3 es.length c3] 24)).alloc (.cells #[.int .i64 x.up, .string ⟨x.tag.toArray⟩, .string ⟨x.id.toArray⟩, .slice ac x.cls.length cc, .slice aa x.ats.length ca] 31))) := Below.refl _ _
  obtain ⟨⟨f0, f1⟩, -⟩ := bP.facts
  clear hd he hd2 hs ha hb0 bP bE bX hL
  go_enter Tryz.func3, Tryz.ntmps3
  go_wp2_with fail
  generalize ((w.alloc (.cells #[.slice a ns.length c, .slice a2 l.length c2] 27)).alloc (.cells #[.slice a3 es.length c3] 24)).alloc (.cells #[.int .i64 x.up, .string ⟨x.tag.toArray⟩, .string ⟨x.id.toArray⟩, .slice ac x.cls.length cc, .slice aa x.ats.length ca] 31) = w0 at *
  refine (HL.out.open_ _ _ (HD.out _ HB.out)).mono ?_
  rintro e yo ⟨vo, rfl, hpo, hbo⟩
  obtain ⟨ao, co, io, ko, rfl⟩ := hpo.form
  have hbxo := on_alloc yo (.cells #[.slice ao DO.length co, .slice io IZ.length ko] 27)
  have hsto := below_trans hbo hbxo
  have HPo : Hid (PgAt _ _ _ _) := hpo.on hbxo
  have HKo : Hid (Blk2 _ _ _ _) := Blk2.new yo (.slice ao DO.length co) (.slice io IZ.length ko)
  replace B0 : Hid (Below w0.heap.size w0 (yo.alloc (.cells #[.slice ao DO.length co, .slice io IZ.length ko] 27))) := below_trans B0.out hsto
  replace HB : Hid (Below w.heap.size w (yo.alloc (.cells #[.slice ao DO.length co, .slice io IZ.length ko] 27))) := below_trans HB.out hsto
  clear hpo hbo hbxo hsto f0 f1
  obtain ⟨⟨f0, f1⟩, -⟩ := (HBP.out _ B0.out).facts
  have g0 := (HBE.out _ B0.out).facts.1
  go_wp2_with fail
  generalize yo.alloc (.cells #[.slice ao DO.length co, .slice io IZ.length ko] 27) = w1 at *
  refine (HL.out.ins _ _ _ (HPG.out _ HB.out) (HD2.out _ HB.out)).mono ?_
  rintro e yi ⟨vi, rfl, hpi, hbi⟩
  obtain ⟨ai, ci, ii, ki, rfl⟩ := hpi.form
  have hbxi := on_alloc yi (.cells #[.slice ai DI.length ci, .slice ii II.length ki] 27)
  have hsti := below_trans hbi hbxi
  have HPi : Hid (PgAt _ _ _ _) := hpi.on hbxi
  have HKi : Hid (Blk2 _ _ _ _) := Blk2.new yi (.slice ai DI.length ci) (.slice ii II.length ki)
  replace B0 : Hid (Below w0.heap.size w0 (yi.alloc (.cells #[.slice ai DI.length ci, .slice ii II.length ki] 27))) := below_trans B0.out hsti
  replace HB : Hid (Below w.heap.size w (yi.alloc (.cells #[.slice ai DI.length ci, .slice ii II.length ki] 27))) := below_trans HB.out hsti
  replace HPo : Hid (PgAt _ _ _ _) := PgAt.on HPo.out hsti
  replace HKo : Hid (Blk2 _ _ _ _) := Blk2.on HKo.out hsti
  clear hpi hbi hbxi hsti f0 f1 g0
  obtain ⟨⟨f0, f1⟩, -⟩ := (HBP.out _ B0.out).facts
  go_wp2_with fail
  generalize yi.alloc (.cells #[.slice ai DI.length ci, .slice ii II.length ki] 27) = w2 at *
  refine (HL.out.rem _ _ (HPG.out _ HB.out)).mono ?_
  rintro e yr ⟨vr, rfl, hpr, hbr⟩
  obtain ⟨ar, cr, ir, kr, rfl⟩ := hpr.form
  have hbxr := on_alloc yr (.cells #[.slice ar DR.length cr, .slice ir IR.length kr] 27)
  have hstr := below_trans hbr hbxr
  have HPr : Hid (PgAt _ _ _ _) := hpr.on hbxr
  have HKr : Hid (Blk2 _ _ _ _) := Blk2.new yr (.slice ar DR.length cr) (.slice ir IR.length kr)
  replace B0 : Hid (Below w0.heap.size w0 (yr.alloc (.cells #[.slice ar DR.length cr, .slice ir IR.length kr] 27))) := below_trans B0.out hstr
  replace HB : Hid (Below w.heap.size w (yr.alloc (.cells #[.slice ar DR.length cr, .slice ir IR.length kr] 27))) := below_trans HB.out hstr
  replace HPo : Hid (PgAt _ _ _ _) := PgAt.on HPo.out hstr
  replace HKo : Hid (Blk2 _ _ _ _) := Blk2.on HKo.out hstr
  replace HPi : Hid (PgAt _ _ _ _) := PgAt.on HPi.out hstr
  replace HKi : Hid (Blk2 _ _ _ _) := Blk2.on HKi.out hstr
  clear hpr hbr hbxr hstr f0 f1
  obtain ⟨⟨f0, f1⟩, -⟩ := (HBP.out _ B0.out).facts
  obtain ⟨⟨h0, h1, h2, h3, h4⟩, -⟩ := (HBX.out _ B0.out).facts
  go_wp2_with fail
  generalize yr.alloc (.cells #[.slice ar DR.length cr, .slice ir IR.length kr] 27) = w3 at *
  refine (HL.out.put _ _ _ (HPG.out _ HB.out) (HX.out _ HB.out)).mono ?_
  rintro e yp ⟨vp, rfl, hpp, hbp⟩
  obtain ⟨ap, cp, ip, kp, rfl⟩ := hpp.form
  have hbxp := on_alloc yp (.cells #[.slice ap DP.length cp, .slice ip IP.length kp] 27)
  have hstp := below_trans hbp hbxp
  have HPp : Hid (PgAt _ _ _ _) := hpp.on hbxp
  have HKp : Hid (Blk2 _ _ _ _) := Blk2.new yp (.slice ap DP.length cp) (.slice ip IP.length kp)
  replace B0 : Hid (Below w0.heap.size w0 (yp.alloc (.cells #[.slice ap DP.length cp, .slice ip IP.length kp] 27))) := below_trans B0.out hstp
  replace HB : Hid (Below w.heap.size w (yp.alloc (.cells #[.slice ap DP.length cp, .slice ip IP.length kp] 27))) := below_trans HB.out hstp
  replace HPo : Hid (PgAt _ _ _ _) := PgAt.on HPo.out hstp
  replace HKo : Hid (Blk2 _ _ _ _) := Blk2.on HKo.out hstp
  replace HPi : Hid (PgAt _ _ _ _) := PgAt.on HPi.out hstp
  replace HKi : Hid (Blk2 _ _ _ _) := Blk2.on HKi.out hstp
  replace HPr : Hid (PgAt _ _ _ _) := PgAt.on HPr.out hstp
  replace HKr : Hid (Blk2 _ _ _ _) := Blk2.on HKr.out hstp
  clear hpp hbp hbxp hstp f0 f1 h0 h1 h2 h3 h4
  obtain ⟨⟨f0, f1⟩, -⟩ := (HBP.out _ B0.out).facts
  go_wp2
  generalize yp.alloc (.cells #[.slice ap DP.length cp, .slice ip IP.length kp] 27) = w4 at *
  have HA4 : Hid (Below w.heap.size w w4) := HB.out
  have S0 : w4.drew.cell? ⟨w.heap.size, 0, none⟩ = some (.slice a ns.length c) ∧ Below w4.heap.size w4 w4.drew := ⟨f0, (Below.refl _ _).drew⟩
  have hN4 : w.heap.size < w4.heap.size := cell_lt f0
  go_cut [21, 22] (fun s21 s22 wx => ∃ M, s21 = .pointer (some ⟨M, 0, none⟩) ∧ s22 = .int .i64 EO ∧ Hid (BoxPg wx M DO IZ) ∧ Hid (Below w4.heap.size w4 wx))
  case first =>
    clear f0 f1
    go_region_held3 (fun w' => w'.cell? ⟨w.heap.size, 0, none⟩ = some (.slice a ns.length c) ∧ Below w4.heap.size w4 w')
      (first | with_reducible assumption | exact duo1_on (by with_reducible assumption) (by with_reducible assumption) | exact duo1_on (by with_reducible assumption) (on_alloc _ _) | exact duo1_set hN4 (by first | exact Nat.le_refl _ | omega) (by with_reducible assumption) | exact duo1_set2 hN4 (by first | exact Nat.le_refl _ | omega) (by with_reducible assumption) | exact duo1_re hN4 (by omega) (by with_reducible assumption))
      (first | (go_at_call 9; refine (HL.out.chk _ _ (HD.out _ (below_trans HA4.out (duo1_last (by with_reducible assumption))))).mono ?_; rintro e w5 ⟨rfl, hb5⟩; have hs5 := hb5.size; (try simp only [World.size_alloc, World.size_drew] at hs5); have e50 := cell_all hb5 ⟨w4.heap.size, 0, none⟩; have e51 := cell_all hb5 ⟨w4.heap.size, 1, none⟩; have g50 := hb5.frozen (p := ⟨w4.heap.size, 0, none⟩); have g51 := hb5.frozen (p := ⟨w4.heap.size, 1, none⟩); (try simp [go_sem] at e50); (try simp [go_sem] at e51); (try simp [go_sem] at g50); (try simp [go_sem] at g51)) | (go_at_call 8; refine (HL.out.po _ _ (HD.out _ (below_trans HA4.out (duo1_last (by with_reducible assumption))))).mono ?_; rintro e w6 ⟨v6, rfl, hp6, hb6⟩; obtain ⟨aq, cq, iq, kq, rfl⟩ := hp6.form; have hs6 := hb6.size; (try simp only [World.size_alloc] at hs6); (try (have k60 := (hb6.frozen (p := ⟨w4.heap.size, 0, none⟩) (cell_lt e50)).trans g50)); (try (have k61 := (hb6.frozen (p := ⟨w4.heap.size, 1, none⟩) (cell_lt e51)).trans g51)); (try (have e60 := cell_all hb6 ⟨w4.heap.size, 0, none⟩ _ e50)); (try (have e61 := cell_all hb6 ⟨w4.heap.size, 1, none⟩ _ e51)); have m60 := cell_all hb6 ⟨w5.heap.size, 0, none⟩; have m61 := cell_all hb6 ⟨w5.heap.size, 1, none⟩; have h60 := hb6.frozen (p := ⟨w5.heap.size, 0, none⟩); have h61 := hb6.frozen (p := ⟨w5.heap.size, 1, none⟩); (try simp [go_sem] at m60); (try simp [go_sem] at m61); (try simp [go_sem] at h60); (try simp [go_sem] at h61)))
    all_goals
      obtain ⟨ap6, cp6, ip6, kp6, ep6, hd6, he6⟩ := hp6
      injection ep6 with ep6
      simp only [Array.mk.injEq, List.cons.injEq, Value.slice.injEq, and_true, true_and] at ep6
      obtain ⟨⟨rfl, rfl⟩, rfl, rfl⟩ := ep6
      have hwx := duo1_last (by with_reducible assumption)
      go_wp2_with fail
      go_meet
      first
        | exact ⟨_, rfl, rfl, ⟨_, _, _, _, Blk2.new w6 _ _, ⟨_, _, _, _, rfl, hd6.on (on_alloc _ _), he6.on (on_alloc _ _)⟩⟩, hwx⟩
        | exact ⟨_, rfl, rfl, ⟨_, _, _, _, (PgAt.box hd6 he6 ((Blk2.new w5 _ _).on hb6)).2, (PgAt.box hd6 he6 ((Blk2.new w5 _ _).on hb6)).1⟩, hwx⟩
        | exact ⟨_, rfl, rfl, ⟨_, _, _, _, (PgAt.box hd6 he6 (((Blk2.new w4.drew _ _).on hb5).on hb6)).2, (PgAt.box hd6 he6 (((Blk2.new w4.drew _ _).on hb5).on hb6)).1⟩, hwx⟩
        | trace_state
  case' rest =>
    obtain ⟨M5, rfl, rfl, BO, h5⟩ := hcut
    have hB5 := h5.out
    have PK : Hid (Pk wc yo.heap.size yi.heap.size yr.heap.size yp.heap.size M5 DO DI DR DP IZ II IR IP) := ⟨⟨_, _, _, _, HKo.out.on hB5, HPo.out.on hB5⟩, ⟨_, _, _, _, HKi.out.on hB5, HPi.out.on hB5⟩, ⟨_, _, _, _, HKr.out.on hB5, HPr.out.on hB5⟩, ⟨_, _, _, _, HKp.out.on hB5, HPp.out.on hB5⟩, BO.out⟩
    replace HB : Hid (Below w.heap.size w wc) := below_trans HB.out hB5
    replace B0 : Hid (Below w0.heap.size w0 wc) := below_trans B0.out hB5
    clear f0 f1 hB5 h5 HA4 S0 hN4 HKo HPo HKi HPi HKr HPr HKp HPp BO
    obtain ⟨⟨f0, f1⟩, -⟩ := (HBP.out _ B0.out).facts
    go_wp2_with fail
    refine (HL.out.pe _ _ (HPG.out _ HB.out)).mono ?_
    rintro e wy ⟨rfl, hby⟩
    replace PK : Hid (Pk _ _ _ _ _ _ _ _ _ _ _ _ _ _) := PK.out.on hby
    replace HB : Hid (Below w.heap.size w wy) := below_trans HB.out hby
    replace B0 : Hid (Below w0.heap.size w0 wy) := below_trans B0.out hby
    have PLT : Hid _ := PK.out.lt
    clear f0 f1 hby
    have hbz := three wy
    have Z1 : Hid (Blk2 _ wy.heap.size _ _) := zero1 wy
    have Z2 : Hid (Blk2 _ (wy.heap.size + 1) _ _) := zero2 wy
    have Z3 : Hid (Blk2 _ (wy.heap.size + 1 + 1) _ _) := zero3 wy
    have HS : Hid (w.heap.size ≤ wy.heap.size ∧ w0.heap.size ≤ wy.heap.size) := ⟨HB.out.size, B0.out.size⟩
    replace PK : Hid (Pk _ _ _ _ _ _ _ _ _ _ _ _ _ _) := PK.out.on hbz
    replace HB : Hid (Below w.heap.size w _) := below_trans HB.out hbz
    replace B0 : Hid (Below w0.heap.size w0 _) := below_trans B0.out hbz
    clear hbz
    rcases hE with ⟨hne, hEI, hER, hEP, hDI, hDR, hDP, hII, hIR, hIP⟩ | ⟨hP0, MI, MR, MP, hR⟩
    · have hpe : (P == 0) = false := by simpa using hne
      have Y1 : Hid (BoxPg _ _ _ _) := BoxPg.zero Z1.out hDI hII
      have Y2 : Hid (BoxPg _ _ _ _) := BoxPg.zero Z2.out hDR hIR
      have Y3 : Hid (BoxPg _ _ _ _) := BoxPg.zero Z3.out hDP hIP
      subst hEI hER hEP
      clear Z1 Z2 Z3 hne hDI hDR hDP hII hIR hIP HS PLT
      go_wp2_with fail
      refine (liveBegun_any _).mono ?_
      rintro e x0 ⟨rfl, hx0⟩
      replace PK : Hid (Pk _ _ _ _ _ _ _ _ _ _ _ _ _ _) := PK.out.on hx0
      replace HB : Hid (Below w.heap.size w _) := below_trans HB.out hx0
      replace Y1 : Hid (BoxPg _ _ _ _) := Y1.out.on hx0
      replace Y2 : Hid (BoxPg _ _ _ _) := Y2.out.on hx0
      replace Y3 : Hid (BoxPg _ _ _ _) := Y3.out.on hx0
      clear hx0
      obtain ⟨a11, c11, i11, k11, b11, p11⟩ := PK.out.1
      obtain ⟨a12, c12, i12, k12, b12, p12⟩ := PK.out.2.2.2.2
      obtain ⟨⟨l11, m11⟩, -⟩ := b11.facts
      obtain ⟨⟨l12, m12⟩, -⟩ := b12.facts
      have q11 : Hid (PgAt _ _ _ _) := p11
      have q12 : Hid (PgAt _ _ _ _) := p12
      clear p11 p12 b11 b12
      go_wp2_with fail
      refine (samePages_eq _ _ DO IZ _ q11.out q12.out HL.out.fit.1).mono ?_
      rintro e x1 ⟨rfl, hx1⟩
      replace PK : Hid (Pk _ _ _ _ _ _ _ _ _ _ _ _ _ _) := PK.out.on hx1
      replace HB : Hid (Below w.heap.size w _) := below_trans HB.out hx1
      replace Y1 : Hid (BoxPg _ _ _ _) := Y1.out.on hx1
      replace Y2 : Hid (BoxPg _ _ _ _) := Y2.out.on hx1
      replace Y3 : Hid (BoxPg _ _ _ _) := Y3.out.on hx1
      clear hx1 l11 m11 l12 m12 q11 q12
      obtain ⟨a21, c21, i21, k21, b21, p21⟩ := PK.out.2.1
      obtain ⟨a22, c22, i22, k22, b22, p22⟩ := Y1.out
      obtain ⟨⟨l21, m21⟩, -⟩ := b21.facts
      obtain ⟨⟨l22, m22⟩, -⟩ := b22.facts
      have q21 : Hid (PgAt _ _ _ _) := p21
      have q22 : Hid (PgAt _ _ _ _) := p22
      clear p21 p22 b21 b22
      go_wp2_with fail
      refine (samePages_eq _ _ DI II _ q21.out q22.out HL.out.fit.2.1).mono ?_
      rintro e x2 ⟨rfl, hx2⟩
      replace PK : Hid (Pk _ _ _ _ _ _ _ _ _ _ _ _ _ _) := PK.out.on hx2
      replace HB : Hid (Below w.heap.size w _) := below_trans HB.out hx2
      replace Y1 : Hid (BoxPg _ _ _ _) := Y1.out.on hx2
      replace Y2 : Hid (BoxPg _ _ _ _) := Y2.out.on hx2
      replace Y3 : Hid (BoxPg _ _ _ _) := Y3.out.on hx2
      clear hx2 l21 m21 l22 m22 q21 q22
      obtain ⟨a31, c31, i31, k31, b31, p31⟩ := PK.out.2.2.1
      obtain ⟨a32, c32, i32, k32, b32, p32⟩ := Y2.out
      obtain ⟨⟨l31, m31⟩, -⟩ := b31.facts
      obtain ⟨⟨l32, m32⟩, -⟩ := b32.facts
      have q31 : Hid (PgAt _ _ _ _) := p31
      have q32 : Hid (PgAt _ _ _ _) := p32
      clear p31 p32 b31 b32
      go_wp2_with fail
      refine (samePages_eq _ _ DR IR _ q31.out q32.out HL.out.fit.2.2.1).mono ?_
      rintro e x3 ⟨rfl, hx3⟩
      replace PK : Hid (Pk _ _ _ _ _ _ _ _ _ _ _ _ _ _) := PK.out.on hx3
      replace HB : Hid (Below w.heap.size w _) := below_trans HB.out hx3
      replace Y1 : Hid (BoxPg _ _ _ _) := Y1.out.on hx3
      replace Y2 : Hid (BoxPg _ _ _ _) := Y2.out.on hx3
      replace Y3 : Hid (BoxPg _ _ _ _) := Y3.out.on hx3
      clear hx3 l31 m31 l32 m32 q31 q32
      obtain ⟨a41, c41, i41, k41, b41, p41⟩ := PK.out.2.2.2.1
      obtain ⟨a42, c42, i42, k42, b42, p42⟩ := Y3.out
      obtain ⟨⟨l41, m41⟩, -⟩ := b41.facts
      obtain ⟨⟨l42, m42⟩, -⟩ := b42.facts
      have q41 : Hid (PgAt _ _ _ _) := p41
      have q42 : Hid (PgAt _ _ _ _) := p42
      clear p41 p42 b41 b42
      go_wp2_with fail
      refine (samePages_eq _ _ DP IP _ q41.out q42.out HL.out.fit.2.2.2).mono ?_
      rintro e x4 ⟨rfl, hx4⟩
      replace PK : Hid (Pk _ _ _ _ _ _ _ _ _ _ _ _ _ _) := PK.out.on hx4
      replace HB : Hid (Below w.heap.size w _) := below_trans HB.out hx4
      replace Y1 : Hid (BoxPg _ _ _ _) := Y1.out.on hx4
      replace Y2 : Hid (BoxPg _ _ _ _) := Y2.out.on hx4
      replace Y3 : Hid (BoxPg _ _ _ _) := Y3.out.on hx4
      clear hx4 l41 m41 l42 m42 q41 q42
      go_wp2
      go_ret
      exact ⟨rfl, HB.out⟩
    · subst hP0
      have HR : Hid (Refs _ _ _ _ _ _ _ _ _ _ _ _ _ _ _ _ _ _) := hR
      clear hR
      obtain ⟨⟨f0, f1⟩, -⟩ := (HBP.out _ B0.out).facts
      have g0 := (HBE.out _ B0.out).facts.1
      go_wp2_with fail
      generalize ((wy.alloc (.cells #[.slice none 0 0, .slice none 0 0] 27)).alloc (.cells #[.slice none 0 0, .slice none 0 0] 27)).alloc (.cells #[.slice none 0 0, .slice none 0 0] 27) = z0 at *
      refine (HR.out.ins _ _ _ (HD.out _ HB.out) (HD2.out _ HB.out)).mono ?_
      rintro e ga1 ⟨va1, rfl, hd1, hg1⟩
      obtain ⟨am1, cm1, rfl⟩ := hd1.form
      have HDa : Hid (DocAt _ _ _) := hd1
      replace PK : Hid (Pk _ _ _ _ _ _ _ _ _ _ _ _ _ _) := PK.out.on hg1
      replace HB : Hid (Below w.heap.size w _) := below_trans HB.out hg1
      replace B0 : Hid (Below w0.heap.size w0 _) := below_trans B0.out hg1
      replace Z1 : Hid (Blk2 _ _ _ _) := Z1.out.on hg1
      replace Z2 : Hid (Blk2 _ _ _ _) := Z2.out.on hg1
      replace Z3 : Hid (Blk2 _ _ _ _) := Z3.out.on hg1
      clear hd1 hg1 f0 f1 g0
      go_wp2_with fail
      refine (HR.out.insP _ _ HDa.out).mono ?_
      rintro e gb1 ⟨vb1, rfl, hp1, hg1⟩
      obtain ⟨aq1, cq1, iq1, kq1, rfl⟩ := hp1.form
      replace PK : Hid (Pk _ _ _ _ _ _ _ _ _ _ _ _ _ _) := PK.out.on hg1
      replace HB : Hid (Below w.heap.size w _) := below_trans HB.out hg1
      replace B0 : Hid (Below w0.heap.size w0 _) := below_trans B0.out hg1
      replace Z1 : Hid (Blk2 _ _ _ _) := Z1.out.on hg1
      replace Z2 : Hid (Blk2 _ _ _ _) := Z2.out.on hg1
      replace Z3 : Hid (Blk2 _ _ _ _) := Z3.out.on hg1
      clear hg1 HDa
      obtain ⟨⟨t0, t1⟩, ft⟩ := Z1.out.facts
      have Y1 : Hid (BoxPg _ _ _ _) := BoxPg.fill hp1 Z1.out
      replace PK : Hid (Pk ((gb1.setCell ⟨wy.heap.size, 0, none⟩ (.slice aq1 DI.length cq1)).setCell ⟨wy.heap.size, 1, none⟩ (.slice iq1 II.length kq1)) _ _ _ _ _ _ _ _ _ _ _ _ _) := PK.out.put Z1.out (Plt.up PLT.out 0)
      replace HB : Hid (Below w.heap.size w ((gb1.setCell ⟨wy.heap.size, 0, none⟩ (.slice aq1 DI.length cq1)).setCell ⟨wy.heap.size, 1, none⟩ (.slice iq1 II.length kq1))) := below_put HB.out (by have := HS.out.1; omega)
      replace B0 : Hid (Below w0.heap.size w0 ((gb1.setCell ⟨wy.heap.size, 0, none⟩ (.slice aq1 DI.length cq1)).setCell ⟨wy.heap.size, 1, none⟩ (.slice iq1 II.length kq1))) := below_put B0.out (by have := HS.out.2; omega)
      replace Z2 : Hid (Blk2 ((gb1.setCell ⟨wy.heap.size, 0, none⟩ (.slice aq1 DI.length cq1)).setCell ⟨wy.heap.size, 1, none⟩ (.slice iq1 II.length kq1)) _ _ _) := (Z2.out.other (by omega)).other (by omega)
      replace Z3 : Hid (Blk2 ((gb1.setCell ⟨wy.heap.size, 0, none⟩ (.slice aq1 DI.length cq1)).setCell ⟨wy.heap.size, 1, none⟩ (.slice iq1 II.length kq1)) _ _ _) := (Z3.out.other (by omega)).other (by omega)
      clear hp1 Z1
      obtain ⟨⟨f0, f1⟩, -⟩ := (HBP.out _ B0.out).facts
      go_wp2_with fail
      generalize (gb1.setCell ⟨wy.heap.size, 0, none⟩ (.slice aq1 DI.length cq1)).setCell ⟨wy.heap.size, 1, none⟩ (.slice iq1 II.length kq1) = z1 at *
      refine (HR.out.rem _ _ (HD.out _ HB.out)).mono ?_
      rintro e ga2 ⟨va2, rfl, hd2, hg2⟩
      obtain ⟨am2, cm2, rfl⟩ := hd2.form
      have HDa : Hid (DocAt _ _ _) := hd2
      replace PK : Hid (Pk _ _ _ _ _ _ _ _ _ _ _ _ _ _) := PK.out.on hg2
      replace HB : Hid (Below w.heap.size w _) := below_trans HB.out hg2
      replace B0 : Hid (Below w0.heap.size w0 _) := below_trans B0.out hg2
      replace Z2 : Hid (Blk2 _ _ _ _) := Z2.out.on hg2
      replace Z3 : Hid (Blk2 _ _ _ _) := Z3.out.on hg2
      replace Y1 : Hid (BoxPg _ _ _ _) := Y1.out.on hg2
      clear hd2 hg2 f0 f1 t0 t1 ft
      go_wp2_with fail
      refine (HR.out.remP _ _ HDa.out).mono ?_
      rintro e gb2 ⟨vb2, rfl, hp2, hg2⟩
      obtain ⟨aq2, cq2, iq2, kq2, rfl⟩ := hp2.form
      replace PK : Hid (Pk _ _ _ _ _ _ _ _ _ _ _ _ _ _) := PK.out.on hg2
      replace HB : Hid (Below w.heap.size w _) := below_trans HB.out hg2
      replace B0 : Hid (Below w0.heap.size w0 _) := below_trans B0.out hg2
      replace Z2 : Hid (Blk2 _ _ _ _) := Z2.out.on hg2
      replace Z3 : Hid (Blk2 _ _ _ _) := Z3.out.on hg2
      replace Y1 : Hid (BoxPg _ _ _ _) := Y1.out.on hg2
      clear hg2 HDa
      obtain ⟨⟨t0, t1⟩, ft⟩ := Z2.out.facts
      have Y2 : Hid (BoxPg _ _ _ _) := BoxPg.fill hp2 Z2.out
      replace PK : Hid (Pk ((gb2.setCell ⟨(wy.heap.size + 1), 0, none⟩ (.slice aq2 DR.length cq2)).setCell ⟨(wy.heap.size + 1), 1, none⟩ (.slice iq2 IR.length kq2)) _ _ _ _ _ _ _ _ _ _ _ _ _) := PK.out.put Z2.out (Plt.up PLT.out 1)
      replace HB : Hid (Below w.heap.size w ((gb2.setCell ⟨(wy.heap.size + 1), 0, none⟩ (.slice aq2 DR.length cq2)).setCell ⟨(wy.heap.size + 1), 1, none⟩ (.slice iq2 IR.length kq2))) := below_put HB.out (by have := HS.out.1; omega)
      replace B0 : Hid (Below w0.heap.size w0 ((gb2.setCell ⟨(wy.heap.size + 1), 0, none⟩ (.slice aq2 DR.length cq2)).setCell ⟨(wy.heap.size + 1), 1, none⟩ (.slice iq2 IR.length kq2))) := below_put B0.out (by have := HS.out.2; omega)
      replace Z3 : Hid (Blk2 ((gb2.setCell ⟨(wy.heap.size + 1), 0, none⟩ (.slice aq2 DR.length cq2)).setCell ⟨(wy.heap.size + 1), 1, none⟩ (.slice iq2 IR.length kq2)) _ _ _) := (Z3.out.other (by omega)).other (by omega)
      replace Y1 : Hid (BoxPg ((gb2.setCell ⟨(wy.heap.size + 1), 0, none⟩ (.slice aq2 DR.length cq2)).setCell ⟨(wy.heap.size + 1), 1, none⟩ (.slice iq2 IR.length kq2)) _ _ _) := Y1.out.put Z2.out (by omega)
      clear hp2 Z2
      obtain ⟨⟨f0, f1⟩, -⟩ := (HBP.out _ B0.out).facts
      obtain ⟨⟨h0, h1, h2, h3, h4⟩, -⟩ := (HBX.out _ B0.out).facts
      go_wp2_with fail
      generalize (gb2.setCell ⟨(wy.heap.size + 1), 0, none⟩ (.slice aq2 DR.length cq2)).setCell ⟨(wy.heap.size + 1), 1, none⟩ (.slice iq2 IR.length kq2) = z2 at *
      refine (HR.out.put _ _ _ (HD.out _ HB.out) (HX.out _ HB.out)).mono ?_
      rintro e ga3 ⟨va3, rfl, hd3, hg3⟩
      obtain ⟨am3, cm3, rfl⟩ := hd3.form
      have HDa : Hid (DocAt _ _ _) := hd3
      replace PK : Hid (Pk _ _ _ _ _ _ _ _ _ _ _ _ _ _) := PK.out.on hg3
      replace HB : Hid (Below w.heap.size w _) := below_trans HB.out hg3
      replace B0 : Hid (Below w0.heap.size w0 _) := below_trans B0.out hg3
      replace Z3 : Hid (Blk2 _ _ _ _) := Z3.out.on hg3
      replace Y1 : Hid (BoxPg _ _ _ _) := Y1.out.on hg3
      replace Y2 : Hid (BoxPg _ _ _ _) := Y2.out.on hg3
      clear hd3 hg3 f0 f1 t0 t1 ft h0 h1 h2 h3 h4
      go_wp2_with fail
      refine (HR.out.putP _ _ HDa.out).mono ?_
      rintro e gb3 ⟨vb3, rfl, hp3, hg3⟩
      obtain ⟨aq3, cq3, iq3, kq3, rfl⟩ := hp3.form
      replace PK : Hid (Pk _ _ _ _ _ _ _ _ _ _ _ _ _ _) := PK.out.on hg3
      replace HB : Hid (Below w.heap.size w _) := below_trans HB.out hg3
      replace B0 : Hid (Below w0.heap.size w0 _) := below_trans B0.out hg3
      replace Z3 : Hid (Blk2 _ _ _ _) := Z3.out.on hg3
      replace Y1 : Hid (BoxPg _ _ _ _) := Y1.out.on hg3
      replace Y2 : Hid (BoxPg _ _ _ _) := Y2.out.on hg3
      clear hg3 HDa
      obtain ⟨⟨t0, t1⟩, ft⟩ := Z3.out.facts
      have Y3 : Hid (BoxPg _ _ _ _) := BoxPg.fill hp3 Z3.out
      replace PK : Hid (Pk ((gb3.setCell ⟨(wy.heap.size + 1 + 1), 0, none⟩ (.slice aq3 DP.length cq3)).setCell ⟨(wy.heap.size + 1 + 1), 1, none⟩ (.slice iq3 IP.length kq3)) _ _ _ _ _ _ _ _ _ _ _ _ _) := PK.out.put Z3.out (Plt.up PLT.out 2)
      replace HB : Hid (Below w.heap.size w ((gb3.setCell ⟨(wy.heap.size + 1 + 1), 0, none⟩ (.slice aq3 DP.length cq3)).setCell ⟨(wy.heap.size + 1 + 1), 1, none⟩ (.slice iq3 IP.length kq3))) := below_put HB.out (by have := HS.out.1; omega)
      replace B0 : Hid (Below w0.heap.size w0 ((gb3.setCell ⟨(wy.heap.size + 1 + 1), 0, none⟩ (.slice aq3 DP.length cq3)).setCell ⟨(wy.heap.size + 1 + 1), 1, none⟩ (.slice iq3 IP.length kq3))) := below_put B0.out (by have := HS.out.2; omega)
      replace Y1 : Hid (BoxPg ((gb3.setCell ⟨(wy.heap.size + 1 + 1), 0, none⟩ (.slice aq3 DP.length cq3)).setCell ⟨(wy.heap.size + 1 + 1), 1, none⟩ (.slice iq3 IP.length kq3)) _ _ _) := Y1.out.put Z3.out (by omega)
      replace Y2 : Hid (BoxPg ((gb3.setCell ⟨(wy.heap.size + 1 + 1), 0, none⟩ (.slice aq3 DP.length cq3)).setCell ⟨(wy.heap.size + 1 + 1), 1, none⟩ (.slice iq3 IP.length kq3)) _ _ _) := Y2.out.put Z3.out (by omega)
      clear hp3 Z3
      go_wp2_with fail
      generalize (gb3.setCell ⟨(wy.heap.size + 1 + 1), 0, none⟩ (.slice aq3 DP.length cq3)).setCell ⟨(wy.heap.size + 1 + 1), 1, none⟩ (.slice iq3 IP.length kq3) = z3 at *
      clear t0 t1 ft B0
      refine (liveBegun_any _).mono ?_
      rintro e x0 ⟨rfl, hx0⟩
      replace PK : Hid (Pk _ _ _ _ _ _ _ _ _ _ _ _ _ _) := PK.out.on hx0
      replace HB : Hid (Below w.heap.size w _) := below_trans HB.out hx0
      replace Y1 : Hid (BoxPg _ _ _ _) := Y1.out.on hx0
      replace Y2 : Hid (BoxPg _ _ _ _) := Y2.out.on hx0
      replace Y3 : Hid (BoxPg _ _ _ _) := Y3.out.on hx0
      clear hx0
      obtain ⟨a11, c11, i11, k11, b11, p11⟩ := PK.out.1
      obtain ⟨a12, c12, i12, k12, b12, p12⟩ := PK.out.2.2.2.2
      obtain ⟨⟨l11, m11⟩, -⟩ := b11.facts
      obtain ⟨⟨l12, m12⟩, -⟩ := b12.facts
      have q11 : Hid (PgAt _ _ _ _) := p11
      have q12 : Hid (PgAt _ _ _ _) := p12
      clear p11 p12 b11 b12
      go_wp2_with fail
      refine (samePages_eq _ _ DO IZ _ q11.out q12.out HL.out.fit.1).mono ?_
      rintro e x1 ⟨rfl, hx1⟩
      replace PK : Hid (Pk _ _ _ _ _ _ _ _ _ _ _ _ _ _) := PK.out.on hx1
      replace HB : Hid (Below w.heap.size w _) := below_trans HB.out hx1
      replace Y1 : Hid (BoxPg _ _ _ _) := Y1.out.on hx1
      replace Y2 : Hid (BoxPg _ _ _ _) := Y2.out.on hx1
      replace Y3 : Hid (BoxPg _ _ _ _) := Y3.out.on hx1
      clear hx1 l11 m11 l12 m12 q11 q12
      obtain ⟨a21, c21, i21, k21, b21, p21⟩ := PK.out.2.1
      obtain ⟨a22, c22, i22, k22, b22, p22⟩ := Y1.out
      obtain ⟨⟨l21, m21⟩, -⟩ := b21.facts
      obtain ⟨⟨l22, m22⟩, -⟩ := b22.facts
      have q21 : Hid (PgAt _ _ _ _) := p21
      have q22 : Hid (PgAt _ _ _ _) := p22
      clear p21 p22 b21 b22
      go_wp2_with fail
      refine (samePages_eq _ _ DI II _ q21.out q22.out HL.out.fit.2.1).mono ?_
      rintro e x2 ⟨rfl, hx2⟩
      replace PK : Hid (Pk _ _ _ _ _ _ _ _ _ _ _ _ _ _) := PK.out.on hx2
      replace HB : Hid (Below w.heap.size w _) := below_trans HB.out hx2
      replace Y1 : Hid (BoxPg _ _ _ _) := Y1.out.on hx2
      replace Y2 : Hid (BoxPg _ _ _ _) := Y2.out.on hx2
      replace Y3 : Hid (BoxPg _ _ _ _) := Y3.out.on hx2
      clear hx2 l21 m21 l22 m22 q21 q22
      obtain ⟨a31, c31, i31, k31, b31, p31⟩ := PK.out.2.2.1
      obtain ⟨a32, c32, i32, k32, b32, p32⟩ := Y2.out
      obtain ⟨⟨l31, m31⟩, -⟩ := b31.facts
      obtain ⟨⟨l32, m32⟩, -⟩ := b32.facts
      have q31 : Hid (PgAt _ _ _ _) := p31
      have q32 : Hid (PgAt _ _ _ _) := p32
      clear p31 p32 b31 b32
      go_wp2_with fail
      refine (samePages_eq _ _ DR IR _ q31.out q32.out HL.out.fit.2.2.1).mono ?_
      rintro e x3 ⟨rfl, hx3⟩
      replace PK : Hid (Pk _ _ _ _ _ _ _ _ _ _ _ _ _ _) := PK.out.on hx3
      replace HB : Hid (Below w.heap.size w _) := below_trans HB.out hx3
      replace Y1 : Hid (BoxPg _ _ _ _) := Y1.out.on hx3
      replace Y2 : Hid (BoxPg _ _ _ _) := Y2.out.on hx3
      replace Y3 : Hid (BoxPg _ _ _ _) := Y3.out.on hx3
      clear hx3 l31 m31 l32 m32 q31 q32
      obtain ⟨a41, c41, i41, k41, b41, p41⟩ := PK.out.2.2.2.1
      obtain ⟨a42, c42, i42, k42, b42, p42⟩ := Y3.out
      obtain ⟨⟨l41, m41⟩, -⟩ := b41.facts
      obtain ⟨⟨l42, m42⟩, -⟩ := b42.facts
      have q41 : Hid (PgAt _ _ _ _) := p41
      have q42 : Hid (PgAt _ _ _ _) := p42
      clear p41 p42 b41 b42
      go_wp2_with fail
      refine (samePages_eq _ _ DP IP _ q41.out q42.out HL.out.fit.2.2.2).mono ?_
      rintro e x4 ⟨rfl, hx4⟩
      replace PK : Hid (Pk _ _ _ _ _ _ _ _ _ _ _ _ _ _) := PK.out.on hx4
      replace HB : Hid (Below w.heap.size w _) := below_trans HB.out hx4
      replace Y1 : Hid (BoxPg _ _ _ _) := Y1.out.on hx4
      replace Y2 : Hid (BoxPg _ _ _ _) := Y2.out.on hx4
      replace Y3 : Hid (BoxPg _ _ _ _) := Y3.out.on hx4
      clear hx4 l41 m41 l42 m42 q41 q42
      go_wp2
      go_ret
      exact ⟨rfl, HB.out⟩
end Go.Proofs.YtbpgcfabepioiaaGreat
