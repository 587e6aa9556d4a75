/-
  The text of an element with all below it, in plain lists: part by part, and how long it is. No program is walked in this text.
-/
import Derived.Test.YthlpcmgeelkncaaMkC
import Derived.Test.YthlpcmgeelkncaaShow
import Derived.BigQuiet
import Derived.Deep.QuietTactic
import Derived.Deep.RegionLaw
namespace Go.Proofs.Ythlpcmgeelkncaa.Pl

theorem textF_app (g : F) (x : Nd) (k : F) : textF (g.app (.cons x k .nil)) = if g.len = 0 then textF (.cons x k .nil) else textF g ++ 32 :: textF (.cons x k .nil) := by
  induction g with
  | nil => rw [if_pos (show F.nil.len = 0 from rfl)]; rfl
  | cons y m r _ ih =>
    have hne : (F.cons y m r).len ≠ 0 := by simp [F.len]
    have hap : (r.app (.cons x k .nil)).len ≠ 0 := by
      cases r with
      | nil => simp [F.app, F.len]
      | cons a b c => simp [F.app, F.len]
    rw [if_neg hne, F.app, textF, if_neg hap, ih]
    rw [show textF (.cons y m r) = showNd y ++ (if m.len = 0 then [] else 40 :: (textF m ++ [41])) ++ (if r.len = 0 then [] else 32 :: textF r) from rfl]
    by_cases hr : r.len = 0
    · rw [if_pos hr, if_pos hr]; simp
    · rw [if_neg hr, if_neg hr]; simp
/-- the kids' texts, the bracket still open -/
def kidsText (g : F) : List UInt8 := if g.len = 0 then [] else 40 :: textF g
theorem kidsText_first (x : Nd) (k : F) {g : F} (h : g.len = 0) : kidsText (g.app (.cons x k .nil)) = kidsText g ++ [40] ++ textF (.cons x k .nil) := by
  cases g with
  | cons a b c => simp [F.len] at h
  | nil => rfl
theorem kidsText_next (x : Nd) (k : F) {g : F} (h : g.len ≠ 0) : kidsText (g.app (.cons x k .nil)) = kidsText g ++ [32] ++ textF (.cons x k .nil) := by
  have hap : (g.app (.cons x k .nil)).len ≠ 0 := by
    cases g with
    | nil => simp [F.app, F.len]
    | cons a b c => simp [F.app, F.len]
  unfold kidsText
  rw [if_neg hap, if_neg h, textF_app, if_neg h]
  simp
def nodeT (ns : List Nd) (f n : Nat) : List UInt8 := textF (.cons (ndAt ns n) (forestOf ns f (kidsOf ns n)) .nil)
theorem nodeT_eq (ns : List Nd) (f n : Nat) : nodeT ns f n = showNd (ndAt ns n) ++ kidsText (forestOf ns f (kidsOf ns n)) ++ (if (forestOf ns f (kidsOf ns n)).len = 0 then [] else [41]) := by
  unfold nodeT kidsText
  rw [textF, if_pos (show F.nil.len = 0 from rfl), List.append_nil]
  by_cases h : (forestOf ns f (kidsOf ns n)).len = 0
  · rw [if_pos h, if_pos h, if_pos h]; simp
  · rw [if_neg h, if_neg h, if_neg h]; simp
def ShortF : F → Prop
  | .nil => True
  | .cons x k r => (showNd x).length ≤ 235 ∧ ShortF k ∧ ShortF r
theorem text_len (g : F) (h : ShortF g) : (textF g).length ≤ 240 * g.size := by
  induction g with
  | nil => simp [textF]
  | cons x k r ihk ihr =>
    obtain ⟨h1, h2, h3⟩ := h
    have a1 := ihk h2
    have a2 := ihr h3
    have b1 : (if k.len = 0 then ([] : List UInt8) else 40 :: (textF k ++ [41])).length ≤ 2 + 240 * k.size := by
      split
      · simp
      · simp only [List.length_cons, List.length_append, List.length_nil]; omega
    have b2 : (if r.len = 0 then ([] : List UInt8) else 32 :: textF r).length ≤ 1 + 240 * r.size := by
      split
      · simp
      · simp only [List.length_cons]; omega
    rw [textF, F.size]
    simp only [List.length_append]
    omega
theorem shortF_trees (sub : Nat → F) (ns : List Nd) (h : ∀ n, (showNd (ndAt ns n)).length ≤ 235) (hs : ∀ n, ShortF (sub n)) (l : List Nat) : ShortF (trees sub ns l) := by
  unfold trees
  induction l with
  | nil => trivial
  | cons a r ih => exact ⟨h a, hs a, ih⟩
theorem shortF_forest (ns : List Nd) (h : ∀ n, (showNd (ndAt ns n)).length ≤ 235) : ∀ (f : Nat) (l : List Nat), ShortF (forestOf ns f l)
  | 0, _ => trivial
  | f + 1, l => shortF_trees _ ns h (fun n => shortF_forest ns h f (kidsOf ns n)) l
theorem trees_take (sub : Nat → F) (ns : List Nd) : ∀ (l : List Nat) (j : Nat), (trees sub ns (l.take j)).size ≤ (trees sub ns l).size
  | [], j => by simp
  | a :: r, 0 => by simp [trees, F.size]
  | a :: r, j + 1 => by
    have := trees_take sub ns r j
    unfold trees at *
    simp only [List.take_succ_cons, List.foldr_cons, F.size]
    omega
theorem kidsText_len {g : F} (h : ShortF g) : (kidsText g).length ≤ 1 + 240 * g.size := by
  unfold kidsText
  have := text_len g h
  split
  · simp
  · simp only [List.length_cons]; omega
/-- of a right document -/
theorem right_short {ns : List Nd} (hz : checkDoc ns = 0) : ∀ n, (showNd (ndAt ns n)).length ≤ 235 := by
  obtain ⟨_, _, hr, _⟩ := (check_iff ns).1 hz
  intro n
  by_cases h : n < ns.length
  · rw [ndAt_eq ns n h]; exact showNd_len (short_of (hr _ (List.getElem_mem h)))
  · have : ndAt ns n = ⟨0, [], [], [], []⟩ := by unfold ndAt; rw [List.getElem?_eq_none (by omega)]
    rw [this]; simp [showNd]
theorem forest_size {ns : List Nd} (hz : checkDoc ns = 0) (f n : Nat) (hn : n < ns.length) (hf : ns.length ≤ n + f) : (forestOf ns f (kidsOf ns n)).size ≤ 64 := by
  obtain ⟨_, h64, _, hg⟩ := (check_iff ns).1 hz
  have h1 := congrArg List.length (lay_tree hg f n 0 0 hn hf)
  have hb := behind_le hn
  rw [layT_len, seg_len hb.2] at h1
  omega
theorem nodeT_len {ns : List Nd} (hz : checkDoc ns = 0) (f n : Nat) (hn : n < ns.length) (hf : ns.length ≤ n + f) : (nodeT ns f n).length ≤ 20000 := by
  have h1 := text_len (.cons (ndAt ns n) (forestOf ns f (kidsOf ns n)) .nil) ⟨right_short hz n, shortF_forest ns (right_short hz) _ _, trivial⟩
  have h2 := forest_size hz f n hn hf
  simp only [F.size] at h1
  unfold nodeT
  omega
theorem nodeT_doc {ns : List Nd} (hz : checkDoc ns = 0) : nodeT ns ns.length 0 = showDoc ns := by
  obtain ⟨h1, _, _, hg⟩ := (check_iff ns).1 hz
  have hw := whole_seg hg h1
  have := show_tree (ndAt ns 0) (forestOf ns ns.length (kidsOf ns (0 : Nat)))
  rw [hw] at this
  exact this.symm
/-- the parts of an element's own text -/
def headT (x : Nd) : List UInt8 := x.tag ++ (if x.id = [] then [] else 35 :: x.id)
def clsT (x : Nd) (j : Nat) : List UInt8 := headT x ++ (x.cls.take j).flatMap (fun c => 46 :: c)
def atsT (x : Nd) (j : Nat) : List UInt8 := clsT x x.cls.length ++ (x.ats.take j).flatMap (fun a => 91 :: (a.1 ++ [61, 34] ++ a.2 ++ [34, 93]))
theorem clsT_zero (x : Nd) : clsT x 0 = headT x := by simp [clsT]
theorem atsT_zero (x : Nd) : atsT x 0 = clsT x x.cls.length := by simp [atsT]
theorem atsT_all (x : Nd) : atsT x x.ats.length = showNd x := by simp [atsT, clsT, headT, showNd]
theorem clsT_succ (x : Nd) (j : Nat) (h : j < x.cls.length) : clsT x (j + 1) = clsT x j ++ [46] ++ x.cls[j] := by
  unfold clsT
  rw [List.take_succ_eq_append_getElem h, List.flatMap_append]
  simp
theorem atsT_succ (x : Nd) (j : Nat) (h : j < x.ats.length) : atsT x (j + 1) = atsT x j ++ [91] ++ x.ats[j].1 ++ [61, 34] ++ x.ats[j].2 ++ [34, 93] := by
  unfold atsT
  rw [List.take_succ_eq_append_getElem h, List.flatMap_append]
  simp
theorem atsT_len (x : Nd) (j : Nat) : (atsT x j).length ≤ (showNd x).length := by
  have : showNd x = atsT x j ++ (x.ats.drop j).flatMap (fun a => 91 :: (a.1 ++ [61, 34] ++ a.2 ++ [34, 93])) := by
    rw [← atsT_all]
    unfold atsT
    rw [List.append_assoc, ← List.flatMap_append, List.take_append_drop, List.take_of_length_le (Nat.le_refl _)]
  rw [this, List.length_append]; omega
theorem clsT_len (x : Nd) (j : Nat) : (clsT x j).length ≤ (showNd x).length := by
  have h1 : clsT x x.cls.length = clsT x j ++ (x.cls.drop j).flatMap (fun c => 46 :: c) := by
    unfold clsT
    rw [List.append_assoc, ← List.flatMap_append, List.take_append_drop, List.take_of_length_le (Nat.le_refl _)]
  have h2 := atsT_len x 0
  rw [atsT_zero, h1, List.length_append] at h2
  omega
end Go.Proofs.Ythlpcmgeelkncaa.Pl
/-
  The text of an element with all below it, as the document's own answer builds it.
-/
namespace Go.Proofs.Ythlpcmgeelkncaa
open Go.RowKit

theorem good_low {ns : List Pl.Nd} (hg : Pl.GoodTo ns ns.length) : Pl.Low ns ns.length := by
  intro k hk
  have h := hg k hk
  rcases Nat.eq_zero_or_pos k with h0 | h0
  · have := h.1 h0; omega
  · have := h.2 h0; omega
set_option maxRecDepth 100000 in
set_option maxHeartbeats 4000000 in
theorem ntext_any (b o cap : Nat) (ns : List Pl.Nd) (hz : Pl.checkDoc ns = 0) : ∀ (f n : Nat) (w : World), n < ns.length → ns.length ≤ n + f → (∀ i (h : i < ns.length), NdAt w b (o + i * 5) ns[i]) →
    Calls Try.prog 62 #[.agg #[.slice (some ⟨b, o, none⟩) ns.length cap], .int .i64 n] w fun e w' => e = .returned (.string ⟨(Pl.nodeT ns f n).toArray⟩) ∧ Below w.heap.size w w' := by
  intro f
  induction f with
  | zero => intro n w h1 h2; omega
  | succ f ih =>
    intro n w hn hf hc
    have HC : Hid _ := hc
    have HIH : Hid _ := ih
    have HZ : Hid (Pl.checkDoc ns = 0) := hz
    obtain ⟨_, h64, hrt, hgt⟩ := (Pl.check_iff ns).1 hz
    have hsx := short_of (hrt ns[n] (List.getElem_mem hn))
    have hsh := Pl.right_short hz n
    have hfs := Pl.forest_size hz (f + 1) n hn hf
    have HSF : Hid (∀ j, Pl.ShortF (Pl.trees (fun m => Pl.forestOf ns f (Pl.kidsOf ns m)) ns ((Pl.kidsOf ns n).take j))) := fun j => Pl.shortF_trees _ ns (Pl.right_short hz) (fun m => Pl.shortF_forest ns (Pl.right_short hz) _ _) _
    have HFS : Hid (∀ j, (Pl.trees (fun m => Pl.forestOf ns f (Pl.kidsOf ns m)) ns ((Pl.kidsOf ns n).take j)).size ≤ 64) := fun j => Nat.le_trans (Pl.trees_take _ _ _ _) hfs
    have HNT : Hid (Pl.nodeT ns (f + 1) n = Pl.showNd (Pl.ndAt ns n) ++ Pl.kidsText (Pl.trees (fun m => Pl.forestOf ns f (Pl.kidsOf ns m)) ns (Pl.kidsOf ns n)) ++ (if (Pl.trees (fun m => Pl.forestOf ns f (Pl.kidsOf ns m)) ns (Pl.kidsOf ns n)).len = 0 then [] else [41])) := Pl.nodeT_eq ns (f + 1) n
    have HMem : Hid (∀ k ∈ Pl.kidsOf ns n, k < ns.length ∧ n < k) := by
      intro k hk
      obtain ⟨h1, h2⟩ := Pl.kidsOf_mem hk
      have := good_low hgt k h1
      rw [h2] at this
      exact ⟨h1, by omega⟩
    have hkl : (Pl.kidsOf ns n).length ≤ 64 := Nat.le_trans (Pl.kidsTo_len _ _ _) h64
    obtain ⟨vc, va, n0, n1, n2, n3, n4, nc, na⟩ := hc n hn
    obtain ⟨ac, cc, rfl, _⟩ := id nc
    obtain ⟨aa, ca, rfl, _⟩ := id na
    clear hc ih hz hrt hgt hfs
    have hnd := Pl.ndAt_eq ns n hn
    rw [← hnd] at n0 n1 n2 n3 n4 nc na hsx
    clear hnd
    generalize Pl.ndAt ns n = x at *
    have hB0 := boxes w (.cells #[.slice (some ⟨b, o, none⟩) ns.length cap] 24) (.cells #[.int .i64 x.up, .string ⟨x.tag.toArray⟩, .string ⟨x.id.toArray⟩, .slice ac x.cls.length cc, .slice aa x.ats.length ca] 47)
    have hA0 := on_alloc w (.cells #[.slice (some ⟨b, o, none⟩) ns.length cap] 24)
    have HNC : Hid (StrsAt _ _ _) := StrsAt.on nc hB0
    have HNA : Hid (AtsAt _ _ _) := AtsAt.on na hB0
    replace n0 := cell_on hA0 n0
    replace n1 := cell_on hA0 n1
    replace n2 := cell_on hA0 n2
    replace n3 := cell_on hA0 n3
    replace n4 := cell_on hA0 n4
    have c0 : ((w.alloc (.cells #[.slice (some ⟨b, o, none⟩) ns.length cap] 24)).alloc (.cells #[.int .i64 x.up, .string ⟨x.tag.toArray⟩, .string ⟨x.id.toArray⟩, .slice ac x.cls.length cc, .slice aa x.ats.length ca] 47)).cell? ⟨w.heap.size, 0, none⟩ = some (.slice (some ⟨b, o, none⟩) ns.length cap) := by simp [go_sem]
    have bX : Blk ((w.alloc (.cells #[.slice (some ⟨b, o, none⟩) ns.length cap] 24)).alloc (.cells #[.int .i64 x.up, .string ⟨x.tag.toArray⟩, .string ⟨x.id.toArray⟩, .slice ac x.cls.length cc, .slice aa x.ats.length ca] 47)) (w.heap.size + 1) (.int .i64 x.up) (.string ⟨x.tag.toArray⟩) (.string ⟨x.id.toArray⟩) (.slice ac x.cls.length cc) (.slice aa x.ats.length ca) := by
      unfold Blk
      show ((w.heap.push _).push _)[w.heap.size + 1]? = _
      rw [Array.getElem?_push, if_pos (by simp)]
    obtain ⟨⟨x0, x1, x2, x3, x4⟩, _⟩ := bX.facts
    obtain ⟨s1, s2, s3, s4, s5, s6⟩ := hsx
    have i1 : (n : Int) < (ns.length : Int) := by omega
    clear nc na bX hA0
    have hcase : x.id.isEmpty = true ∨ x.id.isEmpty = false := by cases x.id.isEmpty <;> simp
    go_enter Try.func62, Try.ntmps62
    rcases hcase with hi | hi
    case' inl =>
      have HS0 : Hid ((⟨x.tag.toArray⟩ : ByteArray) = ⟨(Pl.clsT x 0).toArray⟩) := by
        unfold Hid; rw [Pl.clsT_zero]; unfold Pl.headT; rw [if_pos (List.isEmpty_iff.1 hi)]; simp
      go_wp2_with fail
    case' inr =>
      have HS0 : Hid ((⟨x.tag.toArray⟩ : ByteArray) ++ ⟨#[35]⟩ ++ ⟨x.id.toArray⟩ = ⟨(Pl.clsT x 0).toArray⟩) := by
        unfold Hid; rw [Pl.clsT_zero]; unfold Pl.headT; rw [if_neg (by intro e; rw [e] at hi; simp at hi)]; apply ByteArray.ext; simp
      go_wp2_with fail
    all_goals
      generalize (w.alloc (.cells #[.slice (some ⟨b, o, none⟩) ns.length cap] 24)).alloc (.cells #[.int .i64 x.up, .string ⟨x.tag.toArray⟩, .string ⟨x.id.toArray⟩, .slice ac x.cls.length cc, .slice aa x.ats.length ca] 47) = w2 at *
      clear n0 n1 n2 n3 n4
      go_loop [6, 7] (fun s i => ∃ j : Nat, j ≤ x.cls.length ∧ i = .int .i64 j ∧ s = .string ⟨(Pl.clsT x j).toArray⟩) (fun _ i => x.cls.length - (intOf i).toNat)
      case atStart => exact ⟨0, Nat.zero_le _, rfl, congrArg Value.string HS0.out⟩
      case round =>
        obtain ⟨j, hj, rfl, rfl⟩ := hrel
        by_cases hlt : j < x.cls.length
        · obtain ⟨a9, c9, e9, h9⟩ := HNC.out
          obtain ⟨rfl, _, rfl⟩ : a9 = ac ∧ x.cls.length = x.cls.length ∧ c9 = cc := by injection e9 with q1 q2 q3; exact ⟨q1.symm, rfl, q3.symm⟩
          obtain ⟨b9, o9, rfl, hc9⟩ := h9.resolve_left (by intro h; rw [h] at hlt; simp at hlt)
          have q9 := hc9 j hlt
          have l9 := s4 j hlt
          have l8 := Nat.le_trans (Pl.clsT_len x j) hsh
          have HS : Hid ((⟨(Pl.clsT x j).toArray⟩ : ByteArray) ++ ⟨#[46]⟩ ++ ⟨x.cls[j].toArray⟩ = ⟨(Pl.clsT x (j + 1)).toArray⟩) := by
            unfold Hid; rw [Pl.clsT_succ x j hlt]; apply ByteArray.ext; simp
          clear hc9 e9
          go_wp2
          go_round
          case rel => exact ⟨j + 1, hlt, by go_num, congrArg Value.string HS.out⟩
          case measure => simp [intOf]; omega
        · obtain rfl : j = x.cls.length := by omega
          go_wp2_with fail
          have HX4 : Hid _ := x4
          have HC0 : Hid _ := c0
          clear x0 x1 x2 x3 x4 c0
          go_loopw [6, 8] (fun s i wr => ∃ j : Nat, j ≤ x.ats.length ∧ i = .int .i64 j ∧ s = .string ⟨(Pl.atsT x j).toArray⟩ ∧ Hid (Below w2.heap.size w2 wr)) (fun _ i _ => x.ats.length - (intOf i).toNat)
          case atStart => exact ⟨0, Nat.zero_le _, rfl, by rw [Pl.atsT_zero], Below.refl _ _⟩
          case round =>
            obtain ⟨j, hj, rfl, rfl, hbr⟩ := hrel
            have x4 := cell_on hbr.out HX4.out
            by_cases hlt : j < x.ats.length
            · obtain ⟨a9, c9, e9, h9⟩ := HNA.out
              obtain ⟨rfl, rfl⟩ : a9 = aa ∧ c9 = ca := by injection e9 with q1 q2 q3; exact ⟨q1.symm, q3.symm⟩
              obtain ⟨b9, o9, rfl, hc9⟩ := h9.resolve_left (by intro h; rw [h] at hlt; simp at hlt)
              have q9 := cell_on hbr.out (hc9 j hlt).1
              have p9 := cell_on hbr.out (hc9 j hlt).2
              obtain ⟨l9, m9⟩ := s6 j hlt
              have l8 := Nat.le_trans (Pl.atsT_len x j) hsh
              have HS : Hid ((⟨(Pl.atsT x j).toArray⟩ : ByteArray) ++ ⟨#[91]⟩ ++ ⟨x.ats[j].1.toArray⟩ ++ ⟨#[61, 34]⟩ ++ ⟨x.ats[j].2.toArray⟩ ++ ⟨#[34, 93]⟩ = ⟨(Pl.atsT x (j + 1)).toArray⟩) := by
                unfold Hid; rw [Pl.atsT_succ x j hlt]; apply ByteArray.ext; simp
              clear hc9 e9
              go_wp2
              go_quiet (fail)
              go_wp2
              exact ⟨⟨j + 1, hlt, by go_num, congrArg Value.string HS.out, below_drewN hbr.out _⟩, by simp [intOf]; omega⟩
            · obtain rfl : j = x.ats.length := by omega
              have c0 := cell_on hbr.out HC0.out
              have hBr : Hid (Below w.heap.size w wr) := below_trans hB0 hbr.out
              rw [Pl.atsT_all]
              go_wp2_with fail
              refine (refKids_some b o cap ns _ _ h64 (fun i hi => (HC.out i hi).on hBr.out)).mono ?_
              rintro e w3 ⟨vl, rfl, hint, h3⟩
              have hB3 := below_trans hBr.out h3
              have s3c := cell_on h3 c0
              have HTl : Hid ((Pl.trees (fun m => Pl.forestOf ns f (Pl.kidsOf ns m)) ns (Pl.kidsOf ns n)).len = (Pl.kidsOf ns n).length) := Pl.trees_len _ _ _
              generalize hK : Pl.kidsOf ns n = l at *
              have HK : Hid _ := hK
              clear hK
              obtain ⟨al, cl, rfl, hcl⟩ := hint
              have HCL : Hid _ := hcl
              have HC3 : Hid _ := s3c
              have HB3 : Hid (Below w.heap.size w w3) := hB3
              clear hcl h3 c0 s3c hBr hbr hB3 x4
              go_wp2_with fail
              go_loopw [6, 10] (fun s i wr => ∃ j : Nat, j ≤ l.length ∧ i = .int .i64 j ∧ s = .string ⟨(Pl.showNd x ++ Pl.kidsText (Pl.trees (fun m => Pl.forestOf ns f (Pl.kidsOf ns m)) ns (l.take j))).toArray⟩ ∧ Hid (Below w3.heap.size w3 wr)) (fun _ i _ => l.length - (intOf i).toNat)
              case atStart => exact ⟨0, Nat.zero_le _, rfl, by simp [Pl.trees, Pl.kidsText, Pl.F.len], Below.refl _ _⟩
              case round =>
                obtain ⟨j, hj, rfl, rfl, hbr⟩ := hrel
                by_cases hlt : j < l.length
                · have hm := HMem.out l[j] (List.getElem_mem hlt)
                  obtain ⟨bl, ol, rfl, _, hcl⟩ := HCL.out.resolve_left (by intro h; rw [h] at hlt; simp at hlt)
                  have q3 := cell_on hbr.out (hcl j hlt)
                  have s3c := cell_on hbr.out HC3.out
                  have hTe : Pl.trees (fun m => Pl.forestOf ns f (Pl.kidsOf ns m)) ns (l.take (j + 1)) = (Pl.trees (fun m => Pl.forestOf ns f (Pl.kidsOf ns m)) ns (l.take j)).app (.cons (Pl.ndAt ns l[j]) (Pl.forestOf ns f (Pl.kidsOf ns l[j])) .nil) := by
                    rw [List.take_add_one, List.getElem?_eq_getElem hlt]
                    exact Pl.trees_snoc _ _ _ _
                  have hTl : (Pl.trees (fun m => Pl.forestOf ns f (Pl.kidsOf ns m)) ns (l.take j)).len = j := by rw [Pl.trees_len]; simp; omega
                  have hb1 := Pl.kidsText_len (HSF.out j)
                  have hb2 := HFS.out j
                  have hb3 := Pl.nodeT_len HZ.out f l[j] hm.1 (by omega)
                  have HCr : Hid (∀ i (h : i < ns.length), NdAt wr.drew b (o + i * 5) ns[i]) := fun i hi => (HC.out i hi).on (below_trans HB3.out hbr.out).drew
                  have hbd : Hid (Below w3.heap.size w3 wr.drew) := hbr.out.drew
                  have q3d : wr.drew.cell? ⟨bl, ol + j, none⟩ = some (.int .i64 (l[j] : Nat)) := q3
                  have s3d : wr.drew.cell? ⟨w.heap.size, 0, none⟩ = some (.slice (some ⟨b, o, none⟩) ns.length cap) := s3c
                  have hlS : (Pl.showNd x ++ Pl.kidsText (Pl.trees (fun m => Pl.forestOf ns f (Pl.kidsOf ns m)) ns (l.take j))).length ≤ 20000 := by rw [List.length_append]; omega
                  rcases Nat.eq_zero_or_pos j with hj0 | hj0
                  case' inl =>
                    have hji : ((j : Int) == 0) = true := by simp; omega
                    have HS : Hid ((⟨(Pl.showNd x ++ Pl.kidsText (Pl.trees (fun m => Pl.forestOf ns f (Pl.kidsOf ns m)) ns (l.take j))).toArray⟩ : ByteArray) ++ ⟨#[40]⟩ ++ ⟨(Pl.nodeT ns f l[j]).toArray⟩ = ⟨(Pl.showNd x ++ Pl.kidsText (Pl.trees (fun m => Pl.forestOf ns f (Pl.kidsOf ns m)) ns (l.take (j + 1)))).toArray⟩) := by
                      unfold Hid; rw [hTe, Pl.kidsText_first _ _ (by rw [hTl]; exact hj0)]; apply ByteArray.ext; simp [Pl.nodeT]
                  case' inr =>
                    have hji : ((j : Int) == 0) = false := by simp; omega
                    have HS : Hid ((⟨(Pl.showNd x ++ Pl.kidsText (Pl.trees (fun m => Pl.forestOf ns f (Pl.kidsOf ns m)) ns (l.take j))).toArray⟩ : ByteArray) ++ ⟨#[32]⟩ ++ ⟨(Pl.nodeT ns f l[j]).toArray⟩ = ⟨(Pl.showNd x ++ Pl.kidsText (Pl.trees (fun m => Pl.forestOf ns f (Pl.kidsOf ns m)) ns (l.take (j + 1)))).toArray⟩) := by
                      unfold Hid; rw [hTe, Pl.kidsText_next _ _ (by rw [hTl]; omega)]; apply ByteArray.ext; simp [Pl.nodeT]
                  all_goals
                    clear hTe hTl hb1 hb2 hcl q3 s3c hj0
                    generalize Pl.showNd x ++ Pl.kidsText (Pl.trees (fun m => Pl.forestOf ns f (Pl.kidsOf ns m)) ns (l.take j)) = S at *
                    generalize l[j] = m at *
                    have hbx : ¬ 9223372036854775807 < S.length + 1 + (Pl.nodeT ns f m).length := by omega
                    go_wp2
                    go_region_law (go_simp; go_at_call 62; refine (HIH.out m _ hm.1 (by omega) HCr.out).mono ?_; rintro e w4 ⟨rfl, hb4⟩)
                    all_goals
                      have HB4 : Hid (Below w3.heap.size w3 w4) := below_trans hbd.out hb4
                      go_wp2
                      exact ⟨⟨j + 1, hlt, by go_num, congrArg Value.string HS.out, HB4⟩, by simp [intOf]; omega⟩
                · obtain rfl : j = l.length := by omega
                  have hbw := below_trans HB3.out hbr.out
                  have HNT2 := HNT.out
                  rw [HTl.out] at HNT2
                  have hb1 := Pl.kidsText_len (HSF.out l.length)
                  have hb2 := HFS.out l.length
                  rw [List.take_of_length_le (Nat.le_refl _)] at *
                  have hlS : (Pl.showNd x ++ Pl.kidsText (Pl.trees (fun m => Pl.forestOf ns f (Pl.kidsOf ns m)) ns l)).length ≤ 20000 := by rw [List.length_append]; omega
                  have HNT3 : Hid _ := HNT2
                  clear HNT2 HNT hb1 hb2 HTl HSF HFS
                  generalize Pl.showNd x ++ Pl.kidsText (Pl.trees (fun m => Pl.forestOf ns f (Pl.kidsOf ns m)) ns l) = S at *
                  by_cases hl0 : l.length = 0
                  · have hl0i : ¬ 0 < (l.length : Int) := by omega
                    have HE : Hid (Pl.nodeT ns (f + 1) n = S) := by unfold Hid; rw [HNT3.out, if_pos hl0, List.append_nil]
                    clear hl0 HNT3
                    go_wp2
                    go_ret
                    exact ⟨by rw [HE.out]; rfl, hbw⟩
                  · have hl0i : 0 < (l.length : Int) := by omega
                    have HE : Hid ((⟨S.toArray⟩ : ByteArray) ++ ⟨#[41]⟩ = ⟨(Pl.nodeT ns (f + 1) n).toArray⟩) := by unfold Hid; rw [HNT3.out, if_neg hl0]; apply ByteArray.ext; simp
                    clear hl0 HNT3
                    go_wp2
                    go_ret
                    exact ⟨by rw [← HE.out]; rfl, hbw⟩
end Go.Proofs.Ythlpcmgeelkncaa
