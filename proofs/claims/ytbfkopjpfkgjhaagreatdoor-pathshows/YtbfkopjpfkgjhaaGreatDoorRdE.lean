/-
  The strict reader of paths: signs, links, how tests begin, counts.
-/
import Derived.Test.YtbfkopjpfkgjhaaGreatDoorRdB
import Derived.Test.YtbfkopjpfkgjhaaGreatDoorShD
import Derived.BigQuiet
import Derived.Deep.QuietTactic
import Derived.Deep.AppendLies
namespace Go.Proofs.YtbfkopjpfkgjhaaGreatDoor
open Go.RowKit

theorem hasPrefix_l (s l : List UInt8) : Lib.hasPrefix l s = (Pl.tk s l).isSome := by
  unfold Pl.tk Lib.hasPrefix
  cases h : s.isPrefixOf l <;> simp
theorem trimPrefix_l (s l : List UInt8) : Lib.trimPrefix l s = (Pl.tk s l).getD l := by
  rw [Lib.trimPrefix, hasPrefix_l]
  unfold Pl.tk
  cases h : s.isPrefixOf l <;> simp
set_option maxHeartbeats 400000 in
theorem takeS_any (b : Nat) (s l : List UInt8) (w : World) (h : RdAt b l w) :
    Calls Tryz.prog 47 #[.pointer (some ⟨b, 0, none⟩), .string ⟨s.toArray⟩] w fun e w' => e = .returned (.bool (Pl.tk s l).isSome) ∧ RdAt b ((Pl.tk s l).getD l) w' ∧ w.grownBy w' (some b) := by
  obtain ⟨hc, hf, _⟩ := h.facts
  have HR : Hid _ := rd_set h ((Pl.tk s l).getD l)
  clear h
  go_enter Tryz.func47, Tryz.ntmps47
  go_wp2_with (go_at_call 68; refine (Tryz.strings_CutPrefix _ _ _).mono ?_; rintro e w' ⟨rfl, rfl⟩)
  go_ret
  rw [hasPrefix_l, trimPrefix_l]
  exact ⟨rfl, HR.out⟩
theorem takeS_yes (b : Nat) (s l r : List UInt8) (w : World) (h : RdAt b l w) (hn : Pl.tk s l = some r) :
    Calls Tryz.prog 47 #[.pointer (some ⟨b, 0, none⟩), .string ⟨s.toArray⟩] w fun e w' => e = .returned (.bool true) ∧ RdAt b r w' ∧ w.grownBy w' (some b) := by
  have := takeS_any b s l w h
  rw [hn] at this
  exact this
theorem takeS_no (b : Nat) (s l : List UInt8) (w : World) (h : RdAt b l w) (hn : Pl.tk s l = none) :
    Calls Tryz.prog 47 #[.pointer (some ⟨b, 0, none⟩), .string ⟨s.toArray⟩] w fun e w' => e = .returned (.bool false) ∧ RdAt b l w' ∧ w.grownBy w' (some b) := by
  have := takeS_any b s l w h
  rw [hn] at this
  exact this
set_option maxHeartbeats 400000 in
theorem needS_yes (b : Nat) (s l r : List UInt8) (w : World) (h : RdAt b l w) (hn : Pl.tk s l = some r) :
    Calls Tryz.prog 94 #[.pointer (some ⟨b, 0, none⟩), .string ⟨s.toArray⟩] w fun e w' => e = .returned (.tuple #[]) ∧ RdAt b r w' ∧ w.grownBy w' (some b) := by
  go_enter Tryz.func94, Tryz.ntmps94
  go_wp2_with fail
  refine (takeS_yes b s l r _ h hn).mono ?_
  rintro e w1 ⟨rfl, h1, g1⟩
  go_wp2
  go_end0
  exact ⟨rfl, h1, g1⟩
set_option maxHeartbeats 400000 in
theorem needS_no (b : Nat) (s l : List UInt8) (w : World) (h : RdAt b l w) (hn : Pl.tk s l = none) :
    Calls Tryz.prog 94 #[.pointer (some ⟨b, 0, none⟩), .string ⟨s.toArray⟩] w fun e w' => e = .panicked Left ∧ w.grownBy w' (some b) := by
  go_enter Tryz.func94, Tryz.ntmps94
  go_wp2_with fail
  refine (takeS_no b s l _ h hn).mono ?_
  rintro e w1 ⟨rfl, h1, g1⟩
  go_wp2_with (go_at_call 45; refine (refuse_any _).mono ?_; rintro e w' ⟨rfl, rfl⟩)
  exact ⟨rfl, rfl, g1⟩
/-- the variables that reading asks -/
structure Lf (w : World) : Prop where
  forms : FormsAt w
  links : LinksAt w
theorem cell_gb {w w' : World} {b k o : Nat} {v : Value} (hg : w.grownBy w' (some b)) (h : w.cell? ⟨k, o, none⟩ = some v) (hne : k ≠ b) : w'.cell? ⟨k, o, none⟩ = some v := by
  have hk : k < w.heap.size := cell_lt h
  have := hg.block k hk (by intro e; injection e with e; exact hne e)
  unfold World.cell? at *
  rw [this]
  exact h
theorem Lf.gb {w w' : World} {b : Nat} (h : Lf w) (hg : w.grownBy w' (some b)) (hb : 2 ≤ b) : Lf w' :=
  ⟨fun k hk => by
    obtain ⟨h0, h1, h2, h3, h4, h5, h6⟩ := h.forms k hk
    exact ⟨cell_gb hg h0 (by omega), cell_gb hg h1 (by omega), cell_gb hg h2 (by omega), cell_gb hg h3 (by omega), cell_gb hg h4 (by omega), cell_gb hg h5 (by omega), cell_gb hg h6 (by omega)⟩,
   fun k hk => cell_gb hg (h.links k hk) (by omega)⟩
/-- a link, or none -/
def LinkSays (b : Nat) (l : List UInt8) (w : World) (e : Ending) (w' : World) : Prop :=
  (Pl.rdLink l = none ∧ e = .returned (.tuple #[.int .i64 0, .bool false]) ∧ RdAt b l w' ∧ w.grownBy w' (some b)) ∨
  (∃ k r, Pl.rdLink l = some (k, r) ∧ e = .returned (.tuple #[.int .i64 k, .bool true]) ∧ RdAt b r w' ∧ w.grownBy w' (some b))
set_option maxHeartbeats 1000000 in
theorem readLink_any (b : Nat) (l : List UInt8) (w : World) (h : RdAt b l w) (hL : Lf w) (hb : 2 ≤ b) : Calls Tryz.prog 67 #[.pointer (some ⟨b, 0, none⟩)] w (LinkSays b l w) := by
  have HR : Hid (RdAt b l w) := h
  have HL : Hid (Lf w) := hL
  clear h hL
  go_enter Tryz.func67, Tryz.ntmps67
  go_wp2_with fail
  go_loopw [4] (fun i wr => ∃ k : Nat, k ≤ 4 ∧ i = .int .i64 k ∧ Hid (Pl.rdLink l = Pl.rdLinkFrom k l) ∧ Hid (RdAt b l wr) ∧ Hid (w.grownBy wr (some b))) (fun i _ => (intOf i).toNat)
  case atStart => exact ⟨4, by omega, rfl, rfl, HR, World.grownBy.refl _ _⟩
  case round =>
    obtain ⟨k, hk, rfl, HK, HRk, HG⟩ := hrel
    cases k with
    | zero =>
      have HN : Hid (Pl.rdLink l = none) := HK.out
      go_wp2
      go_ret2
      exact Or.inl ⟨HN.out, rfl, HRk.out, HG.out⟩
    | succ k =>
      have q := (HL.out.gb HG.out hb).links (k + 1) hk
      have l1 : (0 : Int) ≤ ((k + 1 : Nat) : Int) := by omega
      have l2 : ((k + 1 : Nat) : Int) < 5 := by omega
      have l3 : (1 : Int) ≤ ((k + 1 : Nat) : Int) := by omega
      cases ht : Pl.tk (Pl.lnk (k + 1)) l with
      | none =>
        have HN : Hid (Pl.rdLink l = Pl.rdLinkFrom k l) := by
          unfold Hid
          rw [HK.out, Pl.rdLinkFrom, ht]
        go_wp2_with fail
        refine (takeS_no b _ l _ HRk.out ht).mono ?_
        rintro e w2 ⟨rfl, h2, g2⟩
        have HR2 : Hid (RdAt b l w2) := h2
        have HG2 : Hid (w.grownBy w2 (some b)) := gb_chain HG.out g2
        clear h2 g2 q
        go_wp2
        exact ⟨⟨k, by omega, by go_num, HN, HR2, HG2⟩, by simp [intOf]⟩
      | some r =>
        have HN : Hid (Pl.rdLink l = some (k + 1, r)) := by
          unfold Hid
          rw [HK.out, Pl.rdLinkFrom, ht]
        go_wp2_with fail
        refine (takeS_yes b _ l r _ HRk.out ht).mono ?_
        rintro e w2 ⟨rfl, h2, g2⟩
        have HR2 : Hid (RdAt b r w2) := h2
        have HG2 : Hid (w.grownBy w2 (some b)) := gb_chain HG.out g2
        clear h2 g2 q
        go_wp2
        go_ret2
        exact Or.inr ⟨k + 1, r, HN.out, rfl, HR2.out, HG2.out⟩
/-- how a test begins, or none does -/
def BeginSays (b : Nat) (l : List UInt8) (w : World) (e : Ending) (w' : World) : Prop :=
  (Pl.rdBegin l = none ∧ e = .returned (.tuple #[.int .i64 0, .bool false]) ∧ RdAt b l w' ∧ w.grownBy w' (some b)) ∨
  (∃ k r, Pl.rdBegin l = some (k, r) ∧ 1 ≤ k ∧ k ≤ 15 ∧ e = .returned (.tuple #[.int .i64 k, .bool true]) ∧ RdAt b r w' ∧ w.grownBy w' (some b))
set_option maxHeartbeats 1000000 in
theorem readBegin_any (b : Nat) (l : List UInt8) (w : World) (h : RdAt b l w) (hL : Lf w) (hb : 2 ≤ b) : Calls Tryz.prog 82 #[.pointer (some ⟨b, 0, none⟩)] w (BeginSays b l w) := by
  have HR : Hid (RdAt b l w) := h
  have HL : Hid (Lf w) := hL
  clear h hL
  go_enter Tryz.func82, Tryz.ntmps82
  go_wp2_with fail
  go_loopw [4] (fun i wr => ∃ k f : Nat, k + f = 16 ∧ 1 ≤ k ∧ i = .int .i64 k ∧ Hid (Pl.rdBegin l = Pl.rdBeginFrom f l) ∧ Hid (RdAt b l wr) ∧ Hid (w.grownBy wr (some b))) (fun i _ => 16 - (intOf i).toNat)
  case atStart => exact ⟨1, 15, by omega, by omega, rfl, rfl, HR, World.grownBy.refl _ _⟩
  case round =>
    obtain ⟨k, f, hkf, hk1, rfl, HK, HRk, HG⟩ := hrel
    cases f with
    | zero =>
      have hk : k = 16 := by omega
      subst hk
      have HN : Hid (Pl.rdBegin l = none) := HK.out
      go_wp2
      go_ret2
      exact Or.inl ⟨HN.out, rfl, HRk.out, HG.out⟩
    | succ f =>
      have hk15 : k ≤ 15 := by omega
      have hk : 15 - f = k := by omega
      obtain ⟨-, -, -, -, q, -⟩ := (HL.out.gb HG.out hb).forms k hk15
      have l1 : (0 : Int) ≤ (k : Int) := by omega
      have l2 : (k : Int) < 16 := by omega
      have l3 : (k : Int) ≤ 15 := by omega
      cases ht : Pl.tk (fBegin k) l with
      | none =>
        have HN : Hid (Pl.rdBegin l = Pl.rdBeginFrom f l) := by
          unfold Hid
          rw [HK.out, Pl.rdBeginFrom, hk, ht]
        go_wp2_with fail
        refine (takeS_no b _ l _ HRk.out ht).mono ?_
        rintro e w2 ⟨rfl, h2, g2⟩
        have HR2 : Hid (RdAt b l w2) := h2
        have HG2 : Hid (w.grownBy w2 (some b)) := gb_chain HG.out g2
        clear h2 g2 q hk
        go_wp2
        exact ⟨⟨k + 1, f, by omega, by omega, by go_num, HN, HR2, HG2⟩, by simp [intOf]; omega⟩
      | some r =>
        have HN : Hid (Pl.rdBegin l = some (k, r)) := by
          unfold Hid
          rw [HK.out, Pl.rdBeginFrom, hk, ht]
        go_wp2_with fail
        refine (takeS_yes b _ l r _ HRk.out ht).mono ?_
        rintro e w2 ⟨rfl, h2, g2⟩
        have HR2 : Hid (RdAt b r w2) := h2
        have HG2 : Hid (w.grownBy w2 (some b)) := gb_chain HG.out g2
        clear h2 g2 q hk
        go_wp2
        go_ret2
        exact Or.inr ⟨k, r, HN.out, hk1, hk15, rfl, HR2.out, HG2.out⟩
/-- which kind it is, told by what stands behind the name -/
def SignSays (b k0 : Nat) (l : List UInt8) (w : World) (e : Ending) (w' : World) : Prop :=
  (Pl.rdSign k0 l = none ∧ e = .panicked Left ∧ w.grownBy w' (some b)) ∨
  (∃ k r, Pl.rdSign k0 l = some (k, r) ∧ 1 ≤ k ∧ k ≤ 15 ∧ e = .returned (.int .i64 k) ∧ RdAt b r w' ∧ w.grownBy w' (some b))
set_option maxHeartbeats 2000000 in
theorem readSign_any (b k0 : Nat) (hk0 : 1 ≤ k0 ∧ k0 ≤ 15) (l : List UInt8) (w : World) (h : RdAt b l w) (hL : Lf w) (hb : 2 ≤ b) : Calls Tryz.prog 91 #[.pointer (some ⟨b, 0, none⟩), .int .i64 k0] w (SignSays b k0 l w) := by
  have HR : Hid (RdAt b l w) := h
  have HL : Hid (Lf w) := hL
  obtain ⟨-, -, -, -, q, -⟩ := hL.forms k0 hk0.2
  have l1 : (0 : Int) ≤ (k0 : Int) := by omega
  have l2 : (k0 : Int) < 16 := by omega
  clear h hL
  go_enter Tryz.func91, Tryz.ntmps91
  go_wp2_with fail
  clear q
  go_loopw [1] (fun i wr => ∃ k f : Nat, k + f = 16 ∧ 1 ≤ k ∧ i = .int .i64 k ∧ Hid (Pl.rdSign k0 l = Pl.rdSignFrom k0 f l) ∧ Hid (RdAt b l wr) ∧ Hid (w.grownBy wr (some b))) (fun i _ => 16 - (intOf i).toNat)
  case atStart => exact ⟨k0, 16 - k0, by omega, by omega, rfl, rfl, HR, World.grownBy.refl _ _⟩
  case round =>
    obtain ⟨k, f, hkf, hk1, rfl, HK, HRk, HG⟩ := hrel
    cases f with
    | zero =>
      have hk : k = 16 := by omega
      subst hk
      have HN : Hid (Pl.rdSign k0 l = none) := HK.out
      go_wp2_with (go_at_call 45; refine (refuse_any _).mono ?_; rintro e w' ⟨rfl, rfl⟩)
      exact ⟨rfl, Or.inl ⟨HN.out, rfl, HG.out⟩⟩
    | succ f =>
      have hk15 : k ≤ 15 := by omega
      have hk : 15 - f = k := by omega
      obtain ⟨-, -, -, -, q, q5, -⟩ := (HL.out.gb HG.out hb).forms k hk15
      have k1 : (0 : Int) ≤ (k : Int) := by omega
      have k2 : (k : Int) < 16 := by omega
      have k3 : (k : Int) ≤ 15 := by omega
      cases he : (fBegin k == fBegin k0) with
      | false =>
        have HN : Hid (Pl.rdSign k0 l = none) := by
          unfold Hid
          rw [HK.out, Pl.rdSignFrom, hk, if_neg (by simpa using he)]
        go_wp2_with (go_at_call 45; refine (refuse_any _).mono ?_; rintro e w' ⟨rfl, rfl⟩)
        exact ⟨rfl, Or.inl ⟨HN.out, rfl, HG.out⟩⟩
      | true =>
        have heq : fBegin k = fBegin k0 := by simpa using he
        cases ht : Pl.tk (fSign k) l with
        | none =>
          have HN : Hid (Pl.rdSign k0 l = Pl.rdSignFrom k0 f l) := by
            unfold Hid
            rw [HK.out, Pl.rdSignFrom, hk, if_pos heq, ht]
          rw [heq] at q
          clear heq he
          go_wp2_with fail
          refine (takeS_no b _ l _ HRk.out ht).mono ?_
          rintro e w2 ⟨rfl, h2, g2⟩
          have HR2 : Hid (RdAt b l w2) := h2
          have HG2 : Hid (w.grownBy w2 (some b)) := gb_chain HG.out g2
          clear h2 g2 q q5 hk
          go_wp2
          exact ⟨⟨k + 1, f, by omega, by omega, by go_num, HN, HR2, HG2⟩, by simp [intOf]; omega⟩
        | some r =>
          have HN : Hid (Pl.rdSign k0 l = some (k, r)) := by
            unfold Hid
            rw [HK.out, Pl.rdSignFrom, hk, if_pos heq, ht]
          rw [heq] at q
          clear heq he
          go_wp2_with fail
          refine (takeS_yes b _ l r _ HRk.out ht).mono ?_
          rintro e w2 ⟨rfl, h2, g2⟩
          have HR2 : Hid (RdAt b r w2) := h2
          have HG2 : Hid (w.grownBy w2 (some b)) := gb_chain HG.out g2
          clear h2 g2 q q5 hk
          go_wp2
          go_ret
          exact Or.inr ⟨k, r, HN.out, hk1, hk15, rfl, HR2.out, HG2.out⟩
end Go.Proofs.YtbfkopjpfkgjhaaGreatDoor
/-
  The strict reader of paths: a count, up to the bracket that shuts it.
-/
namespace Go.Proofs.YtbfkopjpfkgjhaaGreatDoor
open Go.RowKit

theorem idx_spec : ∀ l : List UInt8, (Lib.indexByte l 41 = -1 ∧ l.dropWhile Pl.notE = []) ∨ (∃ o : Nat, Lib.indexByte l 41 = o ∧ o < l.length ∧ l.takeWhile Pl.notE = l.take o ∧ l.dropWhile Pl.notE = l.drop o)
  | [] => Or.inl ⟨rfl, rfl⟩
  | c :: l => by
    by_cases hc : c = 41
    · subst hc
      exact Or.inr ⟨0, by simp [Lib.indexByte], by simp, by simp [Pl.notE], by simp [Pl.notE]⟩
    · have hb : (c == 41) = false := by simpa using hc
      have hn : Pl.notE c = true := by simpa [Pl.notE] using hc
      rcases idx_spec l with ⟨h1, h2⟩ | ⟨o, h1, h2, h3, h4⟩
      · refine Or.inl ⟨?_, ?_⟩
        · simp [Lib.indexByte, hb, h1]
        · simp [hn, h2]
      · refine Or.inr ⟨o + 1, ?_, ?_, ?_, ?_⟩
        · have : ¬ ((o : Int) = -1) := by omega
          simp [Lib.indexByte, hb, h1, this]
        · simpa using h2
        · simp [hn, h3]
        · simp [hn, h4]
set_option maxRecDepth 100000 in
set_option maxHeartbeats 1000000 in
theorem cutL_yes (l : List UInt8) (o : Nat) (w : World) (hl : l.length ≤ maxLen) (h : Lib.indexByte l 41 = o) (ho : o < l.length) :
    Calls Tryz.prog 115 #[.string ⟨l.toArray⟩, .string ⟨#[41]⟩] w fun e w' => e = .returned (.tuple #[.string ⟨(l.take o).toArray⟩, .string ⟨(l.drop (o + 1)).toArray⟩, .bool true]) ∧ Below w.heap.size w w' := by
  unfold maxLen at hl
  have o1 : (0 : Int) ≤ (o : Int) := by omega
  have o2 : (o : Int) ≤ (l.length : Int) := by omega
  have o3 : (o : Int) + 1 ≤ (l.length : Int) := by omega
  have o4 : (0 : Int) ≤ (o : Int) + 1 := by omega
  go_enter Tryz.func115, Tryz.ntmps115
  go_wp2_with (go_at_call 122; refine (Tryz.stringslite_Index_one _ _ _).mono ?_; rintro e w' ⟨rfl, rfl⟩; simp only [h])
  go_quiet (fail)
  go_wp2
  refine bodyPost_ret (results_tmp3 rfl _ _ _) rfl ⟨?_, below_drewN (Below.refl _ _) _⟩
  rw [← ex_take, ← ex_drop]
  rfl
set_option maxRecDepth 100000 in
set_option maxHeartbeats 1000000 in
theorem cutL_no (l : List UInt8) (w : World) (h : Lib.indexByte l 41 = -1) :
    Calls Tryz.prog 115 #[.string ⟨l.toArray⟩, .string ⟨#[41]⟩] w fun e w' => ∃ a b, e = .returned (.tuple #[.string a, .string b, .bool false]) ∧ Below w.heap.size w w' := by
  go_enter Tryz.func115, Tryz.ntmps115
  go_wp2_with (go_at_call 122; refine (Tryz.stringslite_Index_one _ _ _).mono ?_; rintro e w' ⟨rfl, rfl⟩; simp only [h])
  exact bodyPost_ret (results_tmp3 rfl _ _ _) rfl ⟨_, _, rfl, Below.refl _ _⟩
set_option maxHeartbeats 1000000 in
theorem cut_yes (l : List UInt8) (o : Nat) (w : World) (hl : l.length ≤ maxLen) (h : Lib.indexByte l 41 = o) (ho : o < l.length) :
    Calls Tryz.prog 108 #[.string ⟨l.toArray⟩, .string ⟨#[41]⟩] w fun e w' => e = .returned (.tuple #[.string ⟨(l.take o).toArray⟩, .string ⟨(l.drop (o + 1)).toArray⟩, .bool true]) ∧ Below w.heap.size w w' := by
  go_enter Tryz.func108, Tryz.ntmps108
  go_wp2_with (go_at_call 115; refine (cutL_yes l o _ hl h ho).mono ?_; rintro e w1 ⟨rfl, hb1⟩)
  exact bodyPost_ret (results_tmp3 rfl _ _ _) rfl ⟨rfl, hb1⟩
set_option maxHeartbeats 1000000 in
theorem cut_no (l : List UInt8) (w : World) (h : Lib.indexByte l 41 = -1) :
    Calls Tryz.prog 108 #[.string ⟨l.toArray⟩, .string ⟨#[41]⟩] w fun e w' => ∃ a b, e = .returned (.tuple #[.string a, .string b, .bool false]) ∧ Below w.heap.size w w' := by
  go_enter Tryz.func108, Tryz.ntmps108
  go_wp2_with (go_at_call 115; refine (cutL_no l _ h).mono ?_; rintro e w1 ⟨a, b, rfl, hb1⟩)
  exact bodyPost_ret (results_tmp3 rfl _ _ _) rfl ⟨a, b, rfl, hb1⟩
set_option maxHeartbeats 1000000 in
theorem until_yes (b : Nat) (l : List UInt8) (o : Nat) (w : World) (hr : RdAt b l w) (hl : l.length ≤ maxLen) (h : Lib.indexByte l 41 = o) (ho : o < l.length) :
    Calls Tryz.prog 103 #[.pointer (some ⟨b, 0, none⟩), .string ⟨#[41]⟩] w fun e w' => e = .returned (.string ⟨(l.take o).toArray⟩) ∧ RdAt b (l.drop o) w' ∧ w.grownBy w' (some b) := by
  obtain ⟨hc, hf, hlt⟩ := hr.facts
  have HR : Hid (RdAt b l w) := hr
  have hl2 := hl
  unfold maxLen at hl2
  have hto : (l.take o).length = o := by simp; omega
  have o1 : (0 : Int) ≤ (o : Int) := by omega
  have o2 : (o : Int) ≤ (l.length : Int) := by omega
  clear hr
  go_enter Tryz.func103, Tryz.ntmps103
  go_wp2_with fail
  refine (cut_yes l o _ hl h ho).mono ?_
  rintro e w1 ⟨rfl, hb1⟩
  have HR1 : Hid (RdAt b l w1) := HR.out.on hb1
  obtain ⟨hc1, hf1, -⟩ := HR1.out.facts
  have HG1 : Hid (w.grownBy w1 (some b)) := gb_on (World.grownBy.refl w _) hb1
  have HS : Hid _ := rd_set HR1.out (l.drop o)
  clear hb1 hc hf
  go_wp2
  go_ret
  refine ⟨rfl, ?_⟩
  rw [ex_drop]
  exact ⟨HS.out.1, gb_chain HG1.out HS.out.2⟩
set_option maxHeartbeats 1000000 in
theorem until_no (b : Nat) (l : List UInt8) (w : World) (hr : RdAt b l w) (h : Lib.indexByte l 41 = -1) :
    Calls Tryz.prog 103 #[.pointer (some ⟨b, 0, none⟩), .string ⟨#[41]⟩] w fun e w' => e = .panicked Left ∧ w.grownBy w' (some b) := by
  obtain ⟨hc, hf, hlt⟩ := hr.facts
  go_enter Tryz.func103, Tryz.ntmps103
  go_wp2_with fail
  refine (cut_no l _ h).mono ?_
  rintro e w1 ⟨x, y, rfl, hb1⟩
  have HG1 : Hid (w.grownBy w1 (some b)) := gb_on (World.grownBy.refl w _) hb1
  clear hb1 hc hf
  go_wp2_with (go_at_call 45; refine (refuse_any _).mono ?_; rintro e w' ⟨rfl, rfl⟩)
  exact ⟨rfl, rfl, HG1.out⟩
def NthSays (b : Nat) (l : List UInt8) (w : World) (e : Ending) (w' : World) : Prop :=
  (Pl.rdNth l = none ∧ e = .panicked Left ∧ w.grownBy w' (some b)) ∨
  (∃ x r, Pl.rdNth l = some (x, r) ∧ e = .returned (.agg #[.int .i64 x.1, .int .i64 x.2]) ∧ RdAt b r w' ∧ w.grownBy w' (some b))
theorem nth2_cells {W : World} {N : Nat} {u0 u1 : Value} (h : W.heap[N]? = some (.cells #[u0, u1] 59)) : (W.cell? ⟨N, 0, none⟩ = some u0 ∧ W.cell? ⟨N, 1, none⟩ = some u1) ∧ W.frozen? ⟨N, 0, none⟩ = false ∧ W.frozen? ⟨N, 1, none⟩ = false := by
  refine ⟨⟨?_, ?_⟩, ?_, ?_⟩ <;> simp [World.cell?, World.frozen?, h]
theorem nth2_set {W : World} {N : Nat} {u0 u1 : Value} (h : W.heap[N]? = some (.cells #[u0, u1] 59)) (v0 v1 : Value) : ((W.setCell ⟨N, 0, none⟩ v0).setCell ⟨N, 1, none⟩ v1).heap[N]? = some (.cells #[v0, v1] 59) := by
  simp [World.setCell, Array.getElem?_modify, h]
theorem gb_block {w w' : World} {b N : Nat} {o : Obj} (h : w.heap[N]? = some o) (hg : w.grownBy w' (some b)) (hne : N ≠ b) : w'.heap[N]? = some o :=
  (hg.block N (Array.getElem?_eq_some_iff.1 h).1 (by intro e; injection e with e; exact hne e)).trans h
/-- what is set in memory that the call made -/
theorem gb_set {w W : World} {b M : Nat} (h : w.grownBy W (some b)) (hM : w.heap.size ≤ M) (i : Nat) (v : Value) : w.grownBy (W.setCell ⟨M, i, none⟩ v) (some b) :=
  ⟨h.os, h.tape, h.output, by simpa [World.setCell] using h.size, fun k hk hne => (Below.heap_setCell _ _ _ _ (by show k ≠ M; omega)).trans (h.block k hk hne)⟩
theorem rd_apart {b M j : Nat} {l : List UInt8} {w : World} (h : RdAt b l w) (hne : M ≠ b) (u : Value) : RdAt b l (w.setCell ⟨M, j, none⟩ u) := by
  unfold RdAt; rw [Below.heap_setCell _ _ _ _ (by exact fun e => hne e.symm)]; exact h
set_option maxRecDepth 100000 in
set_option maxHeartbeats 2000000 in
theorem readNth_any (b : Nat) (l : List UInt8) (w : World) (hr : RdAt b l w) (hl : l.length ≤ maxLen) : Calls Tryz.prog 93 #[.pointer (some ⟨b, 0, none⟩), .string ⟨#[41]⟩] w (NthSays b l w) := by
  have hlt := hr.facts.2.2
  have hba := on_alloc w (.cells #[.int .i64 0, .int .i64 0] 59)
  have HR : Hid (RdAt b l _) := hr.on hba
  have X0 := World.alloc_heap_new w (.cells #[.int .i64 0, .int .i64 0] 59)
  have HX : Hid ((w.alloc (.cells #[.int .i64 0, .int .i64 0] 59)).heap[w.heap.size]? = _) := X0
  have HG : Hid (w.grownBy (w.alloc (.cells #[.int .i64 0, .int .i64 0] 59)) (some b)) := gb_on (World.grownBy.refl w _) hba
  clear hba X0 hr
  rcases idx_spec l with ⟨h1, h2⟩ | ⟨o, h1, h2, h3, h4⟩
  · have HN : Hid (Pl.rdNth l = none) := by
      unfold Hid Pl.rdNth
      rw [h2]
      rfl
    go_enter Tryz.func93, Tryz.ntmps93
    go_wp2_with fail
    refine (until_no b l _ HR.out h1).mono ?_
    rintro e w1 ⟨rfl, g1⟩
    have HG1 : Hid (w.grownBy w1 (some b)) := gb_chain HG.out g1
    go_wp2
    exact ⟨rfl, Or.inl ⟨HN.out, rfl, HG1.out⟩⟩
  · have hne : (l.dropWhile Pl.notE).isEmpty = false := by
      rw [h4]
      cases hd : l.drop o with
      | nil =>
        have := congrArg List.length hd
        simp at this
        omega
      | cons => rfl
    have HNE : Hid (Pl.rdNth l = match Nt.Pl.read (l.take o) with | some x => some (x, l.drop o) | none => none) := by
      unfold Hid Pl.rdNth
      rw [hne, h3, h4]
      rfl
    have htl : (l.take o).length ≤ maxLen := Nat.le_trans (by simp; omega) hl
    clear hne h3 h4
    go_enter Tryz.func93, Tryz.ntmps93
    go_wp2_with fail
    refine (until_yes b l o _ HR.out hl h1 h2).mono ?_
    rintro e w1 ⟨rfl, r1, g1⟩
    have HG1 : Hid (w.grownBy w1 (some b)) := gb_chain HG.out g1
    have HR1 : Hid (RdAt b (l.drop o) w1) := r1
    have HX1 : Hid (w1.heap[w.heap.size]? = _) := gb_block HX.out g1 (by omega)
    clear r1 g1 HG HR HX
    cases hx : Nt.Pl.read (l.take o) with
    | none =>
      have HN : Hid (Pl.rdNth l = none) := by
        unfold Hid
        rw [HNE.out, hx]
      go_wp2_with fail
      refine (Nt.read_none (l.take o) _ htl hx).mono ?_
      rintro e w2 ⟨rfl, hb2⟩
      have HG2 : Hid (w.grownBy w2 (some b)) := gb_on HG1.out hb2
      have HG3 : Hid (w.grownBy (w2.alloc (.cells #[.int .i64 0, .int .i64 0] 59)) (some b)) := gb_on HG2.out (on_alloc _ _)
      clear hb2 hx HNE
      go_wp2_with (go_at_call 45; refine (refuse_any _).mono ?_; rintro e w' ⟨rfl, rfl⟩)
      exact ⟨rfl, Or.inl ⟨HN.out, rfl, HG3.out⟩⟩
    | some x =>
      obtain ⟨x0, x1⟩ := x
      have HN : Hid (Pl.rdNth l = some ((x0, x1), l.drop o)) := by
        unfold Hid
        rw [HNE.out, hx]
      go_wp2_with fail
      refine (Nt.read_some (l.take o) x0 x1 _ htl hx).mono ?_
      rintro e w2 ⟨rfl, hb2⟩
      have HG2 : Hid (w.grownBy w2 (some b)) := gb_on HG1.out hb2
      have HR2 : Hid (RdAt b (l.drop o) w2) := HR1.out.on hb2
      have HX2 : Hid (w2.heap[w.heap.size]? = _) := (hb2.block _ (Array.getElem?_eq_some_iff.1 HX1.out).1).trans HX1.out
      obtain ⟨⟨c0, c1⟩, f0, f1⟩ := nth2_cells HX2.out
      have hlw : w.heap.size < w2.heap.size := (Array.getElem?_eq_some_iff.1 HX2.out).1
      have HS : Hid (_ = _) := nth2_set HX2.out (.int .i64 x0) (.int .i64 x1)
      have HRS : Hid (RdAt b (l.drop o) _) := rd_apart (M := w.heap.size) (j := 1) (rd_apart (M := w.heap.size) (j := 0) HR2.out (by omega) (.int .i64 x0)) (by omega) (.int .i64 x1)
      have HGS : Hid (w.grownBy _ (some b)) := gb_set (M := w.heap.size) (gb_set (M := w.heap.size) HG2.out (Nat.le_refl _) 0 (.int .i64 x0)) (Nat.le_refl _) 1 (.int .i64 x1)
      clear hb2 hx HNE
      go_wp2_with fail
      have hba := on_alloc ((w2.setCell ⟨w.heap.size, 0, none⟩ (.int .i64 x0)).setCell ⟨w.heap.size, 1, none⟩ (.int .i64 x1)) (.cells #[.int .i64 x0, .int .i64 x1] 59)
      obtain ⟨⟨e0, e1⟩, -, -⟩ := nth2_cells ((hba.block _ (Array.getElem?_eq_some_iff.1 HS.out).1).trans HS.out)
      generalize ((w2.setCell ⟨w.heap.size, 0, none⟩ (.int .i64 x0)).setCell ⟨w.heap.size, 1, none⟩ (.int .i64 x1)).alloc (.cells #[.int .i64 x0, .int .i64 x1] 59) = WF at *
      exact bodyPost_ret (v := .agg #[.int .i64 x0, .int .i64 x1]) (by simp [results, Tryz.results93, go_sem, e0, e1]) rfl (Or.inr ⟨(x0, x1), l.drop o, HN.out, rfl, HRS.out.on hba, gb_on HGS.out hba⟩)
end Go.Proofs.YtbfkopjpfkgjhaaGreatDoor
/-
  Memory that a reader makes: what lies in some blocks only, and rows that grow.
-/
namespace Go.Proofs.YtbfkopjpfkgjhaaGreatDoor
open Go.RowKit

/-- the same world, with some blocks alone -/
def mask (P : Nat → Bool) (w : World) : World := { w with heap := w.heap.mapIdx fun i o => if P i = true then o else .cells #[] 0 }
theorem mask_heap (P : Nat → Bool) (w : World) (k : Nat) : (mask P w).heap[k]? = (w.heap[k]?).map fun o => if P k = true then o else .cells #[] 0 := by
  simp [mask]
theorem mask_cell {P : Nat → Bool} {w : World} {k o : Nat} {x : Value} : (mask P w).cell? ⟨k, o, none⟩ = some x ↔ P k = true ∧ w.cell? ⟨k, o, none⟩ = some x := by
  unfold World.cell?
  dsimp only
  rw [mask_heap]
  cases h : w.heap[k]? with
  | none => simp
  | some ob =>
    cases hp : P k with
    | false => simp
    | true => simp
/-- what is said of cells alone -/
def Incl (w w' : World) : Prop := ∀ k o x, w.cell? ⟨k, o, none⟩ = some x → w'.cell? ⟨k, o, none⟩ = some x
theorem incl_mask {P P' : Nat → Bool} {w w' : World} (h : ∀ k o x, P k = true → w.cell? ⟨k, o, none⟩ = some x → P' k = true ∧ w'.cell? ⟨k, o, none⟩ = some x) : Incl (mask P w) (mask P' w') := fun k o x hx => by
  rw [mask_cell] at hx ⊢
  exact h k o x hx.1 hx.2
theorem incl_real (P : Nat → Bool) (w : World) : Incl (mask P w) w := fun _ _ _ hx => (mask_cell.1 hx).2
structure IsSub {α : Type} (A : MemL α) : Prop where
  sub : ∀ {w w' v l}, A w v l → Incl w w' → A w' v l
theorem TstAt.sub {α : Type} {A : MemL α} (hA : IsSub A) {w w' : World} {b o : Nat} {t : Pl.Tst α} (h : TstAt A w b o t) (hi : Incl w w') : TstAt A w' b o t := by
  obtain ⟨v, h0, h1, h2, h3, h4, h5, h6⟩ := h
  exact ⟨v, hi _ _ _ h0, hi _ _ _ h1, hi _ _ _ h2, hi _ _ _ h3, hi _ _ _ h4, hi _ _ _ h5, hA.sub h6 hi⟩
theorem StpAt.sub {α : Type} {A : MemL α} (hA : IsSub A) {w w' : World} {b o : Nat} {s : Pl.Stp α} (h : StpAt A w b o s) (hi : Incl w w') : StpAt A w' b o s := by
  obtain ⟨v, h0, h1, h2⟩ := h
  exact ⟨v, hi _ _ _ h0, hi _ _ _ h1, h2.map fun b o x hx => hx.sub hA hi⟩
theorem ints_sub {w w' : World} {v : Value} {l : List Int} (h : RowAt IntAt 1 w v l) (hi : Incl w w') : RowAt IntAt 1 w' v l := h.map fun _ _ _ hx => hi _ _ _ hx
theorem PthAt.sub {α : Type} {A : MemL α} (hA : IsSub A) {w w' : World} {b o : Nat} {p : Pl.Pth α} (h : PthAt A w b o p) (hi : Incl w w') : PthAt A w' b o p := by
  obtain ⟨v, u, h0, h1, h2, h3⟩ := h
  exact ⟨v, u, hi _ _ _ h0, hi _ _ _ h1, h2.map fun b o x hx => hx.sub hA hi, ints_sub h3 hi⟩
theorem isSub_z : IsSub ZAt := ⟨fun h _ => h⟩
theorem isSub_up {α : Type} {A : MemL α} (hA : IsSub A) : IsSub (LstAt A) := ⟨fun h hi => RowAt.map h fun _ _ _ hx => hx.sub hA hi⟩
/-- an element's cells, as values -/
def VT {α : Type} (A : MemL α) (w : World) (c : List Value) (t : Pl.Tst α) : Prop := ∃ v, c = [.int .i64 t.kind, .string ⟨t.name.toArray⟩, .string ⟨t.value.toArray⟩, .int .i64 t.a, .int .i64 t.b, v] ∧ A w v t.list
def VS {α : Type} (A : MemL α) (w : World) (c : List Value) (s : Pl.Stp α) : Prop := ∃ v, c = [.string ⟨s.tag.toArray⟩, v] ∧ RowAt (TstAt A) 6 w v s.tests
def VI (_ : World) (c : List Value) (k : Int) : Prop := c = [.int .i64 k]
def VP {α : Type} (A : MemL α) (w : World) (c : List Value) (p : Pl.Pth α) : Prop := ∃ v u, c = [v, u] ∧ RowAt (StpAt A) 2 w v p.steps ∧ RowAt IntAt 1 w u p.links
/-- what holds of all of them -/
structure IsV {β : Type} (k : Nat) (V : World → List Value → β → Prop) (E : World → Nat → Nat → β → Prop) : Prop where
  sub : ∀ {w w' c x}, V w c x → Incl w w' → V w' c x
  len : ∀ {w c x}, V w c x → c.length = k
  at_ : ∀ {w c x b o}, V w c x → (∀ j (h : j < c.length), w.cell? ⟨b, o + j, none⟩ = some c[j]) → E w b o x
theorem isV_t {α : Type} {A : MemL α} (hA : IsSub A) : IsV 6 (VT A) (TstAt A) where
  sub h hi := by
    obtain ⟨v, e, h⟩ := h
    exact ⟨v, e, hA.sub h hi⟩
  len h := by
    obtain ⟨v, rfl, h⟩ := h
    rfl
  at_ h hc := by
    obtain ⟨v, rfl, h⟩ := h
    exact ⟨v, hc 0 (by simp), hc 1 (by simp), hc 2 (by simp), hc 3 (by simp), hc 4 (by simp), hc 5 (by simp), h⟩
theorem isV_s {α : Type} {A : MemL α} (hA : IsSub A) : IsV 2 (VS A) (StpAt A) where
  sub h hi := by
    obtain ⟨v, e, h⟩ := h
    exact ⟨v, e, h.map fun b o x hx => hx.sub hA hi⟩
  len h := by
    obtain ⟨v, rfl, h⟩ := h
    rfl
  at_ h hc := by
    obtain ⟨v, rfl, h⟩ := h
    exact ⟨v, hc 0 (by simp), hc 1 (by simp), h⟩
theorem isV_i : IsV 1 VI IntAt where
  sub h _ := h
  len h := by
    unfold VI at h
    subst h
    rfl
  at_ h hc := by
    unfold VI at h
    subst h
    exact hc 0 (by simp)
theorem isV_p {α : Type} {A : MemL α} (hA : IsSub A) : IsV 2 (VP A) (PthAt A) where
  sub h hi := by
    obtain ⟨v, u, e, h, h2⟩ := h
    exact ⟨v, u, e, h.map fun b o x hx => hx.sub hA hi, ints_sub h2 hi⟩
  len h := by
    obtain ⟨v, u, rfl, h⟩ := h
    rfl
  at_ h hc := by
    obtain ⟨v, u, rfl, h, h2⟩ := h
    exact ⟨v, u, hc 0 (by simp), hc 1 (by simp), h, h2⟩
/-- not the row's own block -/
def Off (P : Nat → Bool) (v : Value) (j : Nat) : Bool := P j && !(v.ownBlock == some j)
/-- a row that is being built in some blocks -/
def Grow {β : Type} (P : Nat → Bool) (B : Nat) (e : TypeId) (k : Nat) (V : World → List Value → β → Prop) (w : World) (v : Value) (l : List β) : Prop :=
  ∃ xs : List Value, w.ownsRow B e k v l.length xs ∧ (∀ g, v.ownBlock = some g → P g = true) ∧ ∀ i (h : i < l.length), V (mask (Off P v) w) ((xs.drop (i * k)).take k) l[i]
theorem Grow.nil {β : Type} (P : Nat → Bool) (B : Nat) (e : TypeId) (k : Nat) (V : World → List Value → β → Prop) (w : World) : Grow P B e k V w (.slice none 0 0) [] :=
  ⟨[], ⟨by simp, Or.inl ⟨rfl, rfl⟩⟩, fun g h => by simp [Value.ownBlock] at h, fun i h => by simp at h⟩
theorem Grow.form {β : Type} {P : Nat → Bool} {B : Nat} {e : TypeId} {k : Nat} {V : World → List Value → β → Prop} {w : World} {v : Value} {l : List β} (h : Grow P B e k V w v l) : ∃ a c, v = .slice a l.length c := by
  obtain ⟨xs, h, _⟩ := h
  rcases h.2 with ⟨rfl, h0⟩ | ⟨g, cap, cur, rfl, _⟩
  · exact ⟨none, 0, by rw [h0]⟩
  · exact ⟨_, cap, rfl⟩
/-- it stands wherever its blocks lie as they lay -/
theorem Grow.move {β : Type} {P P' : Nat → Bool} {B : Nat} {e : TypeId} {k : Nat} {V : World → List Value → β → Prop} {E : World → Nat → Nat → β → Prop} (hV : IsV k V E) {w w' : World} {v : Value} {l : List β} (h : Grow P B e k V w v l) (hs : ∀ j, P j = true → j < w.heap.size → P' j = true ∧ w'.heap[j]? = w.heap[j]?) : Grow P' B e k V w' v l := by
  obtain ⟨xs, ⟨h1, h2⟩, hp, hv⟩ := h
  refine ⟨xs, ⟨h1, ?_⟩, ?_, fun i hi => hV.sub (hv i hi) (incl_mask fun j o x hj hx => ?_)⟩
  · rcases h2 with h2 | ⟨g, cap, cur, rfl, e2, e3, e4⟩
    · exact Or.inl h2
    · refine Or.inr ⟨g, cap, cur, rfl, e2, ?_, e4⟩
      rw [(hs g (hp g rfl) (Array.getElem?_eq_some_iff.1 e3).1).2]
      exact e3
  · intro g hg
    rcases h2 with ⟨rfl, _⟩ | ⟨g', cap, cur, rfl, e2, e3, e4⟩
    · simp [Value.ownBlock] at hg
    · simp [Value.ownBlock] at hg
      subst hg
      exact (hs _ (hp _ rfl) (Array.getElem?_eq_some_iff.1 e3).1).1
  · unfold Off at hj ⊢
    rw [Bool.and_eq_true] at hj
    obtain ⟨a, b⟩ := hs j hj.1 (cell_lt hx)
    refine ⟨by rw [a, hj.2]; rfl, ?_⟩
    unfold World.cell? at hx ⊢
    dsimp only at hx ⊢
    rw [b]
    exact hx
/-- the row, as it is read -/
theorem Grow.row {β : Type} {P : Nat → Bool} {B : Nat} {e : TypeId} {k : Nat} {V : World → List Value → β → Prop} {E : World → Nat → Nat → β → Prop} (hV : IsV k V E) {w : World} {v : Value} {l : List β} (h : Grow P B e k V w v l) (hl : l.length ≤ maxLen) : RowAt E k (mask P w) v l := by
  obtain ⟨xs, ⟨h1, h2⟩, hp, hv⟩ := h
  rcases h2 with ⟨rfl, h0⟩ | ⟨g, cap, cur, rfl, e2, e3, e4, e5, e6, e7⟩
  · have : l = [] := List.length_eq_zero_iff.1 h0
    subst this
    exact RowAt.nil _ _ _
  · refine ⟨_, _, rfl, hl, Or.inr ⟨g, 0, rfl, fun i hi => ?_⟩⟩
    have hc := hv i hi
    have hlen := hV.len hc
    refine hV.at_ (hV.sub hc (incl_mask fun j o x hj hx => ?_)) fun j hj => ?_
    · unfold Off at hj
      rw [Bool.and_eq_true] at hj
      exact ⟨hj.1, hx⟩
    · rw [mask_cell]
      refine ⟨hp g rfl, ?_⟩
      have hjk : j < k := by omega
      have hik : i * k + j < l.length * k := by
        have : (i + 1) * k ≤ l.length * k := Nat.mul_le_mul_right k hi
        rw [Nat.succ_mul] at this
        omega
      have hxl : i * k + j < xs.length := by omega
      have hcl : i * k + j < cur.size := by
        have : l.length * k ≤ cap * k := Nat.mul_le_mul_right k e4
        omega
      unfold World.cell?
      rw [e3]
      simp only [Option.isSome_none, Bool.false_eq_true, if_false, Nat.zero_add]
      have hx : xs[i * k + j]'hxl = cur[i * k + j]'hcl := by
        simp only [← e7]
        simp
      rw [Array.getElem?_eq_getElem hcl, ← hx]
      congr 1
      simp
/-- one more -/
theorem Grow.push {β : Type} {P : Nat → Bool} {B : Nat} {e : TypeId} {k : Nat} {V : World → List Value → β → Prop} {E : World → Nat → Nat → β → Prop} (hV : IsV k V E) {w w1 w' : World} {v : Value} {l : List β} {x : β} {xs news : List Value} {g cap H : Nat} (hPo : ∀ g, v.ownBlock = some g → P g = true) (hPH : P H = true)
    (hown : w.ownsRow B e k v l.length xs) (hold : ∀ i (h : i < l.length), V (mask (Off P v) w) ((xs.drop (i * k)).take k) l[i])
    (h1 : ∀ j, j < w.heap.size → w1.heap[j]? = w.heap[j]?) (hH : w.heap.size ≤ H)
    (hrow : w'.ownsRow B e k (.slice (some ⟨g, 0, none⟩) (l.length + 1) cap) (l.length + 1) (xs ++ news)) (hg : w1.grownBy w' v.ownBlock) (hat : v.ownBlock = some g ∨ g = H) (hfar : V (mask (fun j => Off P v j && j != H) w1) news x) : Grow P B e k V w' (.slice (some ⟨g, 0, none⟩) (l.length + 1) cap) (l ++ [x]) := by
  have hxl : xs.length = l.length * k := hown.1
  have hkeep : ∀ j o y, Off P v j = true → w1.cell? ⟨j, o, none⟩ = some y → w'.cell? ⟨j, o, none⟩ = some y := by
    intro j o y hj hy
    unfold Off at hj
    rw [Bool.and_eq_true] at hj
    have hb := hg.block j (cell_lt hy) (by
      intro h
      rw [← h] at hj
      simp at hj)
    unfold World.cell? at hy ⊢
    dsimp only at hy ⊢
    rw [hb]
    exact hy
  have hlen1 : (l ++ [x]).length = l.length + 1 := by simp
  refine ⟨xs ++ news, by rw [hlen1]; exact hrow, fun g' hg' => ?_, fun i hi => ?_⟩
  · simp [Value.ownBlock] at hg'
    subst hg'
    rcases hat with h | h
    · exact hPo _ h
    · rw [h]
      exact hPH
  · have hoff : ∀ j, Off P v j = true → j ≠ H → Off P (.slice (some ⟨g, 0, none⟩) (l.length + 1) cap) j = true := by
      intro j hj hne
      unfold Off at hj ⊢
      rw [Bool.and_eq_true] at hj ⊢
      refine ⟨hj.1, ?_⟩
      rcases hat with h | h
      · rw [h] at hj
        simpa [Value.ownBlock] using hj.2
      · subst h
        simp [Value.ownBlock]
        exact fun h => hne h.symm
    rcases Nat.lt_or_ge i l.length with hlt | hge
    · have e1 : (l ++ [x])[i] = l[i] := List.getElem_append_left hlt
      rw [e1]
      have e2 : ((xs ++ news).drop (i * k)).take k = (xs.drop (i * k)).take k := by
        have : (i + 1) * k ≤ l.length * k := Nat.mul_le_mul_right k hlt
        rw [Nat.succ_mul] at this
        rw [List.drop_append_of_le_length (by omega), List.take_append_of_le_length (by simp; omega)]
      rw [e2]
      refine hV.sub (hold i hlt) (incl_mask fun j o y hj hy => ?_)
      have hjw : j < w.heap.size := cell_lt hy
      refine ⟨hoff j hj (by omega), hkeep j o y hj ?_⟩
      unfold World.cell? at hy ⊢
      dsimp only at hy ⊢
      rw [h1 j hjw]
      exact hy
    · have hil : i = l.length := by simp at hi; omega
      subst hil
      have e1 : (l ++ [x])[l.length] = x := by simp
      rw [e1]
      have e2 : ((xs ++ news).drop (l.length * k)).take k = news := by
        rw [← hxl, List.drop_left]
        exact List.take_of_length_le (by rw [hV.len hfar]; exact Nat.le_refl _)
      rw [e2]
      refine hV.sub hfar (incl_mask fun j o y hj hy => ?_)
      rw [Bool.and_eq_true] at hj
      exact ⟨hoff j hj.1 (by simpa using hj.2), hkeep j o y hj.1 hy⟩
end Go.Proofs.YtbfkopjpfkgjhaaGreatDoor
