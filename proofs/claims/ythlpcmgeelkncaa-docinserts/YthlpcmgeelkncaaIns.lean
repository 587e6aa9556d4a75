/-
  insert: elements laid in among others.
-/
import Derived.Test.YthlpcmgeelkncaaRem
namespace Go.Proofs.Ythlpcmgeelkncaa
open Go.RowKit

/-- the elements with others laid in ahead of place, below up -/
def insRow (ns : List Pl.Nd) (up : Int) (place : Nat) (es : List Pl.Nd) : List Pl.Nd :=
  (ns.take place).map (Pl.mvd id) ++ es.map (Pl.mvd (Pl.mvIn up place)) ++ (ns.drop place).map (Pl.mvd (Pl.mvOut place es.length))
theorem two_cells (w : World) (o1 o2 o3 : Obj) : Below w.heap.size w (((w.alloc o1).alloc o2).alloc o3) := ((Below.refl w.heap.size w).alloc (Nat.le_refl _) o1).alloc (by simp) o2 |>.alloc (by simp; omega) o3

set_option maxRecDepth 100000 in
set_option maxHeartbeats 4000000 in
theorem insert_some (b o cap b2 o2 cap2 : Nat) (ns es : List Pl.Nd) (up : Int) (place : Nat) (w : World) (hp : place ≤ ns.length) (h64 : ns.length + es.length ≤ 64) (hcap : ns.length ≤ cap)
    (hc : ∀ i (h : i < ns.length), NdAt w b (o + i * 5) ns[i]) (hc2 : ∀ i (h : i < es.length), NdAt w b2 (o2 + i * 5) es[i]) (hs1 : ∀ x ∈ ns, x.cls.length ≤ 6 ∧ x.ats.length ≤ 4) (hs2 : ∀ x ∈ es, x.cls.length ≤ 6 ∧ x.ats.length ≤ 4) :
    Calls Try.prog 48 #[.slice (some ⟨b, o, none⟩) ns.length cap, .int .i64 up, .int .i64 place, .slice (some ⟨b2, o2, none⟩) es.length cap2] w fun e w' => ∃ v' B, e = .returned v' ∧ w.heap.size ≤ B ∧ Row B w' v' (insRow ns up place es) ∧ Below w.heap.size w w' := by
  have HC : Hid _ := hc
  have HC2 : Hid _ := hc2
  have HS : Hid _ := hs1
  have HS2 : Hid _ := hs2
  clear hc hc2 hs1 hs2
  have i1 : (0 : Int) ≤ (place : Int) := by omega
  have i3 : (place : Int) ≤ (ns.length : Int) := by omega
  have i5 : (ns.length : Int) ≤ (cap : Int) := by omega
  have i7 : (place : Int) ≤ (cap : Int) := by omega
  have hB0 := two_cells w (.cells #[.int .i64 up] 3) (.cells #[.int .i64 place] 3) (.cells #[.slice (some ⟨b2, o2, none⟩) es.length cap2] 22)
  have c0 : (((w.alloc (.cells #[.int .i64 up] 3)).alloc (.cells #[.int .i64 place] 3)).alloc (.cells #[.slice (some ⟨b2, o2, none⟩) es.length cap2] 22)).cell? ⟨w.heap.size, 0, none⟩ = some (.int .i64 up) := by simp [go_sem]
  have c1 : (((w.alloc (.cells #[.int .i64 up] 3)).alloc (.cells #[.int .i64 place] 3)).alloc (.cells #[.slice (some ⟨b2, o2, none⟩) es.length cap2] 22)).cell? ⟨w.heap.size + 1, 0, none⟩ = some (.int .i64 place) := by simp [go_sem]
  have c2 : (((w.alloc (.cells #[.int .i64 up] 3)).alloc (.cells #[.int .i64 place] 3)).alloc (.cells #[.slice (some ⟨b2, o2, none⟩) es.length cap2] 22)).cell? ⟨w.heap.size + 1 + 1, 0, none⟩ = some (.slice (some ⟨b2, o2, none⟩) es.length cap2) := by simp [go_sem]
  have hsz : (((w.alloc (.cells #[.int .i64 up] 3)).alloc (.cells #[.int .i64 place] 3)).alloc (.cells #[.slice (some ⟨b2, o2, none⟩) es.length cap2] 22)).heap.size = w.heap.size + 3 := by simp
  go_enter Try.func48, Try.ntmps48
  go_wp2_with fail
  generalize ((w.alloc (.cells #[.int .i64 up] 3)).alloc (.cells #[.int .i64 place] 3)).alloc (.cells #[.slice (some ⟨b2, o2, none⟩) es.length cap2] 22) = w2 at *
  have HD : Hid (∀ W, Below w2.heap.size w2 W → ∀ i (h : i < ns.length), NdAt W b (o + i * 5) ns[i]) := fun W hW i hi => ((HC.out i hi).on hB0).on hW
  have HD2 : Hid (∀ W, Below w2.heap.size w2 W → NdsAt W (.slice (some ⟨b2, o2, none⟩) es.length cap2) es) := fun W hW => ⟨_, _, rfl, Or.inr ⟨_, _, rfl, fun i hi => ((HC2.out i hi).on hB0).on hW⟩⟩
  refine (add_any 52 #[] id w2.heap.size _ _ [] (ns.take place) w2 (Nat.le_refl _) (Row.nil _ _) (by simp; omega) enter52 (fun x hx => HS.out x (List.mem_of_mem_take hx)) (NdsAt.head (HD.out _ (Below.refl _ _)) place cap (by omega)) (fun W hW => NdsAt.head (HD.out _ hW) place cap (by omega)) (fun W u _ => stay_any u W)).mono ?_
  rintro e w3 ⟨v3, rfl, hrow, hb3⟩
  rw [List.nil_append] at hrow
  replace c0 := cell_on hb3 c0
  replace c1 := cell_on hb3 c1
  replace c2 := cell_on hb3 c2
  obtain ⟨a3, l3, c3, rfl, _, _⟩ := Row.cap hrow
  have HR : Hid _ := hrow
  have HB3 : Hid _ := hb3
  have HB0 : Hid _ := hB0
  clear hrow hb3 hB0
  go_wp2_with fail
  refine (add_any 75 #[.pointer (some ⟨w.heap.size, 0, none⟩), .pointer (some ⟨w.heap.size + 1, 0, none⟩)] (Pl.mvIn up place) w2.heap.size _ _ _ es w3 HB3.out.size HR.out ?_ enter75 HS2.out (HD2.out _ HB3.out) (fun W hW => HD2.out _ (HB3.out.trans hW)) ?_).mono ?_
  · simp; omega
  · intro W u hW
    exact ins1_any _ _ _ _ _ _ (by rw [hW.cell (by simp; omega)]; exact c0) (by rw [hW.cell (by simp; omega)]; exact c1)
  rintro e w4 ⟨v4, rfl, hrow, hb4⟩
  replace c0 : w4.cell? ⟨w.heap.size, 0, none⟩ = some (.int .i64 up) := by rw [hb4.cell (by simp; omega)]; exact c0
  replace c1 : w4.cell? ⟨w.heap.size + 1, 0, none⟩ = some (.int .i64 place) := by rw [hb4.cell (by simp; omega)]; exact c1
  replace c2 : w4.cell? ⟨w.heap.size + 1 + 1, 0, none⟩ = some (.slice (some ⟨b2, o2, none⟩) es.length cap2) := by rw [hb4.cell (by simp; omega)]; exact c2
  obtain ⟨a4, l4, c4, rfl, _, _⟩ := Row.cap hrow
  have HR4 : Hid _ := hrow
  have HB4 : Hid _ := HB3.out.trans hb4
  clear hb4 hrow
  go_wp2_with fail
  all_goals
    refine (add_any 76 #[.pointer (some ⟨w.heap.size + 1, 0, none⟩), .pointer (some ⟨w.heap.size + 1 + 1, 0, none⟩)] (Pl.mvOut place es.length) w2.heap.size _ _ _ (ns.drop place) w4 HB4.out.size HR4.out ?_ enter76 (fun x hx => HS.out x (List.mem_of_mem_drop hx)) ?_ ?_ ?_).mono ?_
    · simp; omega
    · first | exact NdsAt.tail (HD.out _ HB4.out) place _ (by omega) | exact NdsAt.void _ _ _ (by omega)
    · intro W hW
      first | exact NdsAt.tail (HD.out _ (HB4.out.trans hW)) place _ (by omega) | exact NdsAt.void _ _ _ (by omega)
    · intro W u hW
      exact ins2_any _ _ _ _ _ _ _ _ (by rw [hW.cell (by simp; omega)]; exact c1) (by rw [hW.cell (by simp; omega)]; exact c2)
    rintro e w5 ⟨v5, rfl, hrow, hb5⟩
    obtain ⟨a5, l5, c5, rfl, _, _⟩ := Row.cap hrow
    have HR5 : Hid _ := hrow
    have HB5 : Hid _ := HB4.out.trans hb5
    clear hb5 hrow
    go_wp2
    go_ret
    exact ⟨_, _, rfl, by omega, HR5.out, below_trans HB0.out HB5.out⟩
end Go.Proofs.Ythlpcmgeelkncaa
