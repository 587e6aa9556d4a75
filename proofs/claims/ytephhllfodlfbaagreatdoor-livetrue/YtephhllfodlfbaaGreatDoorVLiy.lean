/-
  live's four calls.
-/
import Derived.Test.YtephhllfodlfbaaGreatDoorLiy
import Derived.Test.YtephhllfodlfbaaGreatDoorVLix
import Derived.Test.YtephhllfodlfbaaGreatDoorMem
import Derived.Test.YtephhllfodlfbaaGreatDoorFresh
import Derived.Test.YtephhllfodlfbaaGreatDoorRem
import Derived.Test.YtephhllfodlfbaaGreatDoorIsR
import Derived.Test.YtephhllfodlfbaaGreatDoorIdxM
import Derived.Test.YtephhllfodlfbaaGreatDoorAsk
import Derived.Test.YtephhllfodlfbaaGreatDoorPut
import Derived.Test.YtephhllfodlfbaaGreatDoorVRem
import Derived.Test.YtephhllfodlfbaaGreatDoorVAsk
import Derived.Test.YtephhllfodlfbaaGreatDoorVIdxU
import Derived.Test.YtephhllfodlfbaaGreatDoorMbD
import Derived.Test.YtephhllfodlfbaaGreatDoorRcB
import Derived.Test.YtephhllfodlfbaaGreatDoorVPut
import Derived.Test.YtephhllfodlfbaaGreatDoorOwnD
import Derived.Test.YtephhllfodlfbaaGreatDoorMapK
import Derived.Test.YtephhllfodlfbaaGreatDoorFor
import Derived.Test.YtephhllfodlfbaaGreatDoorRmD
import Derived.Deep.RegionHeld3
import Derived.Test.YtephhllfodlfbaaGreatDoorAdd
import Derived.Deep.RegionLaw
import Derived.Test.YtephhllfodlfbaaGreatDoorKids
import Derived.Test.YtephhllfodlfbaaGreatDoorMtQ
namespace Go.Proofs.YtephhllfodlfbaaGreatDoor
open Go.RowKit

set_option maxRecDepth 100000 in
set_option maxHeartbeats 4000000 in
theorem linsert_any (v : Value) (ns : List Pl.Nd) (l : List Pl.Er) (up at_ : Int) (v2 : Value) (es : List Pl.Nd) (w : World) (hp : PgAt w v ns l) (hl : IxFit l) (hd2 : DocAt w v2 es) :
    Calls Tryz.prog 8 #[v, .int .i64 up, .int .i64 at_, .agg #[v2]] w fun e w' => ChSays (pageErr ns l) (insErr ns up at_ es) (insOf ns up at_ es) w e w' := by
  obtain ⟨a, c, a2, c2, rfl⟩ := hp.form
  obtain ⟨a3, c3, rfl⟩ := hd2.form
  have hb0 : Below w.heap.size w (((((w.alloc (.cells #[.slice a ns.length c, .slice a2 l.length c2] 32)).alloc (.cells #[.int .i64 up] 3)).alloc (.cells #[.int .i64 at_] 3)).alloc (.cells #[.slice a3 es.length c3] 24)).alloc (.cells #[.slice none 0 0, .slice none 0 0] 32)) := ((((((Below.refl w.heap.size w).alloc (Nat.le_refl _) _).alloc (by simp) _).alloc (by simp; omega) _).alloc (by simp; omega) _).alloc (by simp; omega) _)
  have bR : Blk2 (((((w.alloc (.cells #[.slice a ns.length c, .slice a2 l.length c2] 32)).alloc (.cells #[.int .i64 up] 3)).alloc (.cells #[.int .i64 at_] 3)).alloc (.cells #[.slice a3 es.length c3] 24)).alloc (.cells #[.slice none 0 0, .slice none 0 0] 32)) (w.heap.size + 1 + 1 + 1 + 1) (.slice none 0 0) (.slice none 0 0) := by
    have := Blk2.new ((((w.alloc (.cells #[.slice a ns.length c, .slice a2 l.length c2] 32)).alloc (.cells #[.int .i64 up] 3)).alloc (.cells #[.int .i64 at_] 3)).alloc (.cells #[.slice a3 es.length c3] 24)) (.slice none 0 0) (.slice none 0 0)
    simpa using this
  have bS : Blk2 (((((w.alloc (.cells #[.slice a ns.length c, .slice a2 l.length c2] 32)).alloc (.cells #[.int .i64 up] 3)).alloc (.cells #[.int .i64 at_] 3)).alloc (.cells #[.slice a3 es.length c3] 24)).alloc (.cells #[.slice none 0 0, .slice none 0 0] 32)) w.heap.size (.slice a ns.length c) (.slice a2 l.length c2) := ((((Blk2.new w _ _).on (on_alloc _ _)).on (on_alloc _ _)).on (on_alloc _ _)).on (on_alloc _ _)
  have z1 : (((((w.alloc (.cells #[.slice a ns.length c, .slice a2 l.length c2] 32)).alloc (.cells #[.int .i64 up] 3)).alloc (.cells #[.int .i64 at_] 3)).alloc (.cells #[.slice a3 es.length c3] 24)).alloc (.cells #[.slice none 0 0, .slice none 0 0] 32)).cell? ⟨w.heap.size + 1, 0, none⟩ = some (.int .i64 up) := by simp [go_sem]
  have z2 : (((((w.alloc (.cells #[.slice a ns.length c, .slice a2 l.length c2] 32)).alloc (.cells #[.int .i64 up] 3)).alloc (.cells #[.int .i64 at_] 3)).alloc (.cells #[.slice a3 es.length c3] 24)).alloc (.cells #[.slice none 0 0, .slice none 0 0] 32)).cell? ⟨w.heap.size + 1 + 1, 0, none⟩ = some (.int .i64 at_) := by simp [go_sem]
  have z3 : (((((w.alloc (.cells #[.slice a ns.length c, .slice a2 l.length c2] 32)).alloc (.cells #[.int .i64 up] 3)).alloc (.cells #[.int .i64 at_] 3)).alloc (.cells #[.slice a3 es.length c3] 24)).alloc (.cells #[.slice none 0 0, .slice none 0 0] 32)).cell? ⟨w.heap.size + 1 + 1 + 1, 0, none⟩ = some (.slice a3 es.length c3) := by simp [go_sem]
  have HZ1 : Hid _ := z1
  have HZ2 : Hid _ := z2
  have HZ3 : Hid _ := z3
  have HD2 : Hid (DocAt _ _ _) := hd2.on hb0
  clear z1 z2 z3 hd2
  have HPG : Hid (PgAt _ _ _ _) := hp.on hb0
  have HB0 : Hid (Below _ _ _) := hb0
  have HBR : Hid (Blk2 _ _ _ _) := bR
  have HBA : Hid (Below _ _ _) := hb0
  have HL : Hid (IxFit _) := hl
  obtain ⟨⟨x0, x1⟩, _⟩ := bS.facts
  clear hp hb0 bR bS hl
  go_enter Tryz.func8, Tryz.ntmps8
  go_wp2_with fail
  generalize ((((w.alloc (.cells #[.slice a ns.length c, .slice a2 l.length c2] 32)).alloc (.cells #[.int .i64 up] 3)).alloc (.cells #[.int .i64 at_] 3)).alloc (.cells #[.slice a3 es.length c3] 24)).alloc (.cells #[.slice none 0 0, .slice none 0 0] 32) = w0 at *
  refine (change_any _ ns l 34 #[.pointer (some ⟨w.heap.size + 1, 0, none⟩), .pointer (some ⟨w.heap.size + 1 + 1, 0, none⟩), .pointer (some ⟨w.heap.size + 1 + 1 + 1, 0, none⟩)] (insErr ns up at_ es) (insOf ns up at_ es) _ HPG.out HL.out enter19 ?_).mono ?_
  · intro W dv hW hdv
    exact insCl dv ns up at_ _ _ _ a3 c3 es W hdv (cell_on hW HZ1.out) (cell_on hW HZ2.out) (cell_on hW HZ3.out) (DocAt.on HD2.out hW)
  rintro e wz ⟨vz, rfl, hpz, hbz⟩
  obtain ⟨a8, c8, a9, c9, rfl, hd8, he9⟩ := hpz
  have HBz : Hid (Below w.heap.size w wz) := below_trans HBA.out hbz
  have bRz := Blk2.on HBR.out hbz
  obtain ⟨⟨r0, r1⟩, fR⟩ := bRz.facts
  obtain ⟨p1, p2⟩ := PgAt.box hd8 he9 bRz
  obtain ⟨⟨q0, q1⟩, _⟩ := p2.facts
  have HP1 : Hid (PgAt _ _ _ _) := p1
  have HQ0 : Hid _ := q0
  have HQ1 : Hid _ := q1
  clear p1 p2 q0 q1 hd8 he9 bRz hbz
  generalize hD : chDoc (pageErr ns l) (insErr ns up at_ es) (insOf ns up at_ es) = D at HP1 HQ0 HQ1 ⊢
  generalize hI : chIdx (pageErr ns l) (insErr ns up at_ es) (insOf ns up at_ es) = I at HP1 HQ0 HQ1 ⊢
  generalize hE : chErr (pageErr ns l) (insErr ns up at_ es) (insOf ns up at_ es) = EE at *
  have HDe : Hid _ := hD
  have HIe : Hid _ := hI
  have HEe : Hid _ := hE
  clear hD hI hE
  go_wp2
  have q0 := HQ0.out
  have q1 := HQ1.out
  exact bodyPost_ret (v := .tuple #[.agg #[.slice a8 D.length c8, .slice a9 I.length c9], .int .i64 EE]) (by simp [results, Tryz.results8, go_sem, q0, q1]) rfl
    ⟨_, by rw [HEe.out], by rw [HDe.out, HIe.out]; exact HP1.out, (HBz.out.setCell (p := ⟨w.heap.size + 1 + 1 + 1 + 1, 0, none⟩) (by first | (simp; done) | (simp; omega)) _).setCell (p := ⟨w.heap.size + 1 + 1 + 1 + 1, 1, none⟩) (by first | (simp; done) | (simp; omega)) _⟩
set_option maxRecDepth 100000 in
set_option maxHeartbeats 4000000 in
theorem lremove_any (v : Value) (ns : List Pl.Nd) (l : List Pl.Er) (n : Int) (w : World) (hp : PgAt w v ns l) (hl : IxFit l)  :
    Calls Tryz.prog 9 #[v, .int .i64 n] w fun e w' => ChSays (pageErr ns l) (remErr ns n) (remOf ns n) w e w' := by
  obtain ⟨a, c, a2, c2, rfl⟩ := hp.form
  have hb0 : Below w.heap.size w (((w.alloc (.cells #[.slice a ns.length c, .slice a2 l.length c2] 32)).alloc (.cells #[.int .i64 n] 3)).alloc (.cells #[.slice none 0 0, .slice none 0 0] 32)) := ((((Below.refl w.heap.size w).alloc (Nat.le_refl _) _).alloc (by simp) _).alloc (by simp; omega) _)
  have bR : Blk2 (((w.alloc (.cells #[.slice a ns.length c, .slice a2 l.length c2] 32)).alloc (.cells #[.int .i64 n] 3)).alloc (.cells #[.slice none 0 0, .slice none 0 0] 32)) (w.heap.size + 1 + 1) (.slice none 0 0) (.slice none 0 0) := by
    have := Blk2.new ((w.alloc (.cells #[.slice a ns.length c, .slice a2 l.length c2] 32)).alloc (.cells #[.int .i64 n] 3)) (.slice none 0 0) (.slice none 0 0)
    simpa using this
  have bS : Blk2 (((w.alloc (.cells #[.slice a ns.length c, .slice a2 l.length c2] 32)).alloc (.cells #[.int .i64 n] 3)).alloc (.cells #[.slice none 0 0, .slice none 0 0] 32)) w.heap.size (.slice a ns.length c) (.slice a2 l.length c2) := ((Blk2.new w _ _).on (on_alloc _ _)).on (on_alloc _ _)
  have z1 : (((w.alloc (.cells #[.slice a ns.length c, .slice a2 l.length c2] 32)).alloc (.cells #[.int .i64 n] 3)).alloc (.cells #[.slice none 0 0, .slice none 0 0] 32)).cell? ⟨w.heap.size + 1, 0, none⟩ = some (.int .i64 n) := by simp [go_sem]
  have HZ1 : Hid _ := z1
  clear z1
  have HPG : Hid (PgAt _ _ _ _) := hp.on hb0
  have HB0 : Hid (Below _ _ _) := hb0
  have HBR : Hid (Blk2 _ _ _ _) := bR
  have HBA : Hid (Below _ _ _) := hb0
  have HL : Hid (IxFit _) := hl
  obtain ⟨⟨x0, x1⟩, _⟩ := bS.facts
  clear hp hb0 bR bS hl
  go_enter Tryz.func9, Tryz.ntmps9
  go_wp2_with fail
  generalize ((w.alloc (.cells #[.slice a ns.length c, .slice a2 l.length c2] 32)).alloc (.cells #[.int .i64 n] 3)).alloc (.cells #[.slice none 0 0, .slice none 0 0] 32) = w0 at *
  refine (change_any _ ns l 36 #[.pointer (some ⟨w.heap.size + 1, 0, none⟩)] (remErr ns n) (remOf ns n) _ HPG.out HL.out enter21 ?_).mono ?_
  · intro W dv hW hdv
    exact remCl dv ns n _ W hdv (cell_on hW HZ1.out)
  rintro e wz ⟨vz, rfl, hpz, hbz⟩
  obtain ⟨a8, c8, a9, c9, rfl, hd8, he9⟩ := hpz
  have HBz : Hid (Below w.heap.size w wz) := below_trans HBA.out hbz
  have bRz := Blk2.on HBR.out hbz
  obtain ⟨⟨r0, r1⟩, fR⟩ := bRz.facts
  obtain ⟨p1, p2⟩ := PgAt.box hd8 he9 bRz
  obtain ⟨⟨q0, q1⟩, _⟩ := p2.facts
  have HP1 : Hid (PgAt _ _ _ _) := p1
  have HQ0 : Hid _ := q0
  have HQ1 : Hid _ := q1
  clear p1 p2 q0 q1 hd8 he9 bRz hbz
  generalize hD : chDoc (pageErr ns l) (remErr ns n) (remOf ns n) = D at HP1 HQ0 HQ1 ⊢
  generalize hI : chIdx (pageErr ns l) (remErr ns n) (remOf ns n) = I at HP1 HQ0 HQ1 ⊢
  generalize hE : chErr (pageErr ns l) (remErr ns n) (remOf ns n) = EE at *
  have HDe : Hid _ := hD
  have HIe : Hid _ := hI
  have HEe : Hid _ := hE
  clear hD hI hE
  go_wp2
  have q0 := HQ0.out
  have q1 := HQ1.out
  exact bodyPost_ret (v := .tuple #[.agg #[.slice a8 D.length c8, .slice a9 I.length c9], .int .i64 EE]) (by simp [results, Tryz.results9, go_sem, q0, q1]) rfl
    ⟨_, by rw [HEe.out], by rw [HDe.out, HIe.out]; exact HP1.out, (HBz.out.setCell (p := ⟨w.heap.size + 1 + 1, 0, none⟩) (by first | (simp; done) | (simp; omega)) _).setCell (p := ⟨w.heap.size + 1 + 1, 1, none⟩) (by first | (simp; done) | (simp; omega)) _⟩
set_option maxRecDepth 100000 in
set_option maxHeartbeats 4000000 in
theorem lput_any (v : Value) (ns : List Pl.Nd) (l : List Pl.Er) (n : Int) (xv : Value) (x : Pl.Nd) (w : World) (hp : PgAt w v ns l) (hl : IxFit l) (hx : NdV w xv x) (hfx : Fits x) :
    Calls Tryz.prog 10 #[v, .int .i64 n, xv] w fun e w' => ChSays (pageErr ns l) (putErr ns n x) (putOf ns n x) w e w' := by
  obtain ⟨a, c, a2, c2, rfl⟩ := hp.form
  obtain ⟨vc, va, rfl, hs, ha⟩ := hx
  obtain ⟨ac, cc, rfl, _⟩ := id hs
  obtain ⟨aa, ca, rfl, _⟩ := id ha
  have hb0 : Below w.heap.size w ((((w.alloc (.cells #[.slice a ns.length c, .slice a2 l.length c2] 32)).alloc (.cells #[.int .i64 n] 3)).alloc (.cells #[.int .i64 x.up, .string ⟨x.tag.toArray⟩, .string ⟨x.id.toArray⟩, .slice ac x.cls.length cc, .slice aa x.ats.length ca] 28)).alloc (.cells #[.slice none 0 0, .slice none 0 0] 32)) := (((((Below.refl w.heap.size w).alloc (Nat.le_refl _) _).alloc (by simp) _).alloc (by simp; omega) _).alloc (by simp; omega) _)
  have bR : Blk2 ((((w.alloc (.cells #[.slice a ns.length c, .slice a2 l.length c2] 32)).alloc (.cells #[.int .i64 n] 3)).alloc (.cells #[.int .i64 x.up, .string ⟨x.tag.toArray⟩, .string ⟨x.id.toArray⟩, .slice ac x.cls.length cc, .slice aa x.ats.length ca] 28)).alloc (.cells #[.slice none 0 0, .slice none 0 0] 32)) (w.heap.size + 1 + 1 + 1) (.slice none 0 0) (.slice none 0 0) := by
    have := Blk2.new (((w.alloc (.cells #[.slice a ns.length c, .slice a2 l.length c2] 32)).alloc (.cells #[.int .i64 n] 3)).alloc (.cells #[.int .i64 x.up, .string ⟨x.tag.toArray⟩, .string ⟨x.id.toArray⟩, .slice ac x.cls.length cc, .slice aa x.ats.length ca] 28)) (.slice none 0 0) (.slice none 0 0)
    simpa using this
  have bS : Blk2 ((((w.alloc (.cells #[.slice a ns.length c, .slice a2 l.length c2] 32)).alloc (.cells #[.int .i64 n] 3)).alloc (.cells #[.int .i64 x.up, .string ⟨x.tag.toArray⟩, .string ⟨x.id.toArray⟩, .slice ac x.cls.length cc, .slice aa x.ats.length ca] 28)).alloc (.cells #[.slice none 0 0, .slice none 0 0] 32)) w.heap.size (.slice a ns.length c) (.slice a2 l.length c2) := (((Blk2.new w _ _).on (on_alloc _ _)).on (on_alloc _ _)).on (on_alloc _ _)
  have z1 : ((((w.alloc (.cells #[.slice a ns.length c, .slice a2 l.length c2] 32)).alloc (.cells #[.int .i64 n] 3)).alloc (.cells #[.int .i64 x.up, .string ⟨x.tag.toArray⟩, .string ⟨x.id.toArray⟩, .slice ac x.cls.length cc, .slice aa x.ats.length ca] 28)).alloc (.cells #[.slice none 0 0, .slice none 0 0] 32)).cell? ⟨w.heap.size + 1, 0, none⟩ = some (.int .i64 n) := by simp [go_sem]
  have z2 : Blk ((((w.alloc (.cells #[.slice a ns.length c, .slice a2 l.length c2] 32)).alloc (.cells #[.int .i64 n] 3)).alloc (.cells #[.int .i64 x.up, .string ⟨x.tag.toArray⟩, .string ⟨x.id.toArray⟩, .slice ac x.cls.length cc, .slice aa x.ats.length ca] 28)).alloc (.cells #[.slice none 0 0, .slice none 0 0] 32)) (w.heap.size + 1 + 1) (.int .i64 x.up) (.string ⟨x.tag.toArray⟩) (.string ⟨x.id.toArray⟩) (.slice ac x.cls.length cc) (.slice aa x.ats.length ca) := by
    have : Blk (((w.alloc (.cells #[.slice a ns.length c, .slice a2 l.length c2] 32)).alloc (.cells #[.int .i64 n] 3)).alloc (.cells #[.int .i64 x.up, .string ⟨x.tag.toArray⟩, .string ⟨x.id.toArray⟩, .slice ac x.cls.length cc, .slice aa x.ats.length ca] 28)) (w.heap.size + 1 + 1) (.int .i64 x.up) (.string ⟨x.tag.toArray⟩) (.string ⟨x.id.toArray⟩) (.slice ac x.cls.length cc) (.slice aa x.ats.length ca) := by
      have := heap_alloc_new ((w.alloc (.cells #[.slice a ns.length c, .slice a2 l.length c2] 32)).alloc (.cells #[.int .i64 n] 3)) (.cells #[.int .i64 x.up, .string ⟨x.tag.toArray⟩, .string ⟨x.id.toArray⟩, .slice ac x.cls.length cc, .slice aa x.ats.length ca] 28)
      simpa [Blk] using this
    exact this.on (on_alloc _ _)
  have HZ1 : Hid _ := z1
  have HZ2 : Hid (Blk _ _ _ _ _ _ _) := z2
  have HS : Hid (StrsAt _ _ _) := hs.on hb0
  have HA : Hid (AtsAt _ _ _) := ha.on hb0
  clear z1 z2 hs ha
  have HPG : Hid (PgAt _ _ _ _) := hp.on hb0
  have HB0 : Hid (Below _ _ _) := hb0
  have HBR : Hid (Blk2 _ _ _ _) := bR
  have HBA : Hid (Below _ _ _) := hb0
  have HL : Hid (IxFit _) := hl
  obtain ⟨⟨x0, x1⟩, _⟩ := bS.facts
  clear hp hb0 bR bS hl
  go_enter Tryz.func10, Tryz.ntmps10
  go_wp2_with fail
  generalize (((w.alloc (.cells #[.slice a ns.length c, .slice a2 l.length c2] 32)).alloc (.cells #[.int .i64 n] 3)).alloc (.cells #[.int .i64 x.up, .string ⟨x.tag.toArray⟩, .string ⟨x.id.toArray⟩, .slice ac x.cls.length cc, .slice aa x.ats.length ca] 28)).alloc (.cells #[.slice none 0 0, .slice none 0 0] 32) = w0 at *
  refine (change_any _ ns l 38 #[.pointer (some ⟨w.heap.size + 1, 0, none⟩), .pointer (some ⟨w.heap.size + 1 + 1, 0, none⟩)] (putErr ns n x) (putOf ns n x) _ HPG.out HL.out enter23 ?_).mono ?_
  · intro W dv hW hdv
    exact putCl dv ns n _ _ x ac aa cc ca W hdv (cell_on hW HZ1.out) (Blk.on HZ2.out hW) (StrsAt.on HS.out hW) (AtsAt.on HA.out hW) hfx
  rintro e wz ⟨vz, rfl, hpz, hbz⟩
  obtain ⟨a8, c8, a9, c9, rfl, hd8, he9⟩ := hpz
  have HBz : Hid (Below w.heap.size w wz) := below_trans HBA.out hbz
  have bRz := Blk2.on HBR.out hbz
  obtain ⟨⟨r0, r1⟩, fR⟩ := bRz.facts
  obtain ⟨p1, p2⟩ := PgAt.box hd8 he9 bRz
  obtain ⟨⟨q0, q1⟩, _⟩ := p2.facts
  have HP1 : Hid (PgAt _ _ _ _) := p1
  have HQ0 : Hid _ := q0
  have HQ1 : Hid _ := q1
  clear p1 p2 q0 q1 hd8 he9 bRz hbz
  generalize hD : chDoc (pageErr ns l) (putErr ns n x) (putOf ns n x) = D at HP1 HQ0 HQ1 ⊢
  generalize hI : chIdx (pageErr ns l) (putErr ns n x) (putOf ns n x) = I at HP1 HQ0 HQ1 ⊢
  generalize hE : chErr (pageErr ns l) (putErr ns n x) (putOf ns n x) = EE at *
  have HDe : Hid _ := hD
  have HIe : Hid _ := hI
  have HEe : Hid _ := hE
  clear hD hI hE
  go_wp2
  have q0 := HQ0.out
  have q1 := HQ1.out
  exact bodyPost_ret (v := .tuple #[.agg #[.slice a8 D.length c8, .slice a9 I.length c9], .int .i64 EE]) (by simp [results, Tryz.results10, go_sem, q0, q1]) rfl
    ⟨_, by rw [HEe.out], by rw [HDe.out, HIe.out]; exact HP1.out, (HBz.out.setCell (p := ⟨w.heap.size + 1 + 1 + 1, 0, none⟩) (by first | (simp; done) | (simp; omega)) _).setCell (p := ⟨w.heap.size + 1 + 1 + 1, 1, none⟩) (by first | (simp; done) | (simp; omega)) _⟩
end Go.Proofs.YtephhllfodlfbaaGreatDoor
