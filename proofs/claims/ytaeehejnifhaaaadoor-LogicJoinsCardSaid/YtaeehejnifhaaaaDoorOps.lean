/- The contracts of the operations on bits: what isBit, isUnknown, Op, Not and Edge, and the reference's Bit, of, table, Op, Not and Edge return, in any memory in which the five tables lie. -/
import Derived.Test.YtaeehejnifhaaaaDoorRows
import Derived.Test.YtaeehejnifhaaaaDoorBits
import Derived.WalkKit
import Derived.WalkSpells
import Derived.WalkLawsBesides
import Derived.Lib.Hide
namespace Go.Proofs.YtaeehejnifhaaaaDoor
open Go.RowKit

/-- The five tables lie in memory. -/
structure Tabs (w : World) : Prop where
  and_ : ∀ a b : Nat, a ≤ 3 → b ≤ 3 → w.cell? ⟨0, a * 4 + b, none⟩ = some (.int .u8 (andN a b : Nat))
  or_ : ∀ a b : Nat, a ≤ 3 → b ≤ 3 → w.cell? ⟨1, a * 4 + b, none⟩ = some (.int .u8 (orN a b : Nat))
  xor_ : ∀ a b : Nat, a ≤ 3 → b ≤ 3 → w.cell? ⟨2, a * 4 + b, none⟩ = some (.int .u8 (xorN a b : Nat))
  res_ : ∀ a b : Nat, a ≤ 3 → b ≤ 3 → w.cell? ⟨4, a * 4 + b, none⟩ = some (.int .u8 (resN a b : Nat))
  not_ : ∀ a : Nat, a ≤ 3 → w.cell? ⟨3, a, none⟩ = some (.int .u8 (notN a : Nat))

theorem Tabs.later {w w' : World} (h : Tabs w) (hb : Below w.heap.size w w') : Tabs w' where
  and_ a b ha hb' := (hb.cell (block_lt_of_cell (h.and_ a b ha hb'))).trans (h.and_ a b ha hb')
  or_ a b ha hb' := (hb.cell (block_lt_of_cell (h.or_ a b ha hb'))).trans (h.or_ a b ha hb')
  xor_ a b ha hb' := (hb.cell (block_lt_of_cell (h.xor_ a b ha hb'))).trans (h.xor_ a b ha hb')
  res_ a b ha hb' := (hb.cell (block_lt_of_cell (h.res_ a b ha hb'))).trans (h.res_ a b ha hb')
  not_ a ha := (hb.cell (block_lt_of_cell (h.not_ a ha))).trans (h.not_ a ha)

theorem beq_nat {a b : Nat} (h : a = b) : ((a : Int) == (b : Int)) = true := by rw [beq_iff_eq]; omega
theorem beq_nat_no {a b : Nat} (h : a ≠ b) : ((a : Int) == (b : Int)) = false := by rw [beq_eq_false_iff_ne]; omega

theorem isBit_yes (b : Nat) (w : World) (h : b ≤ 3) :
    Calls Tryd.prog 42 #[.int .u8 b] w fun e w' => e = .returned (.bool true) ∧ w = w' := by
  have hb : decide ((b : Int) ≤ 3) = true := by rw [decide_eq_true_eq]; omega
  go_enter Tryd.func42, Tryd.ntmps42
  go_wp2
  go_ret
  exact ⟨rfl, rfl⟩
theorem isBit_no (b : Nat) (w : World) (h : 3 < b) :
    Calls Tryd.prog 42 #[.int .u8 b] w fun e w' => e = .returned (.bool false) ∧ w = w' := by
  have hb : decide ((b : Int) ≤ 3) = false := by rw [decide_eq_false_iff_not]; omega
  go_enter Tryd.func42, Tryd.ntmps42
  go_wp2
  go_ret
  exact ⟨rfl, rfl⟩
theorem bit_yes (b : Nat) (w : World) (h : b ≤ 3) :
    Calls Tryd.prog 41 #[.int .u8 b] w fun e w' => e = .returned (.bool true) ∧ w = w' := by
  obtain rfl | rfl | rfl | rfl : b = 0 ∨ b = 1 ∨ b = 2 ∨ b = 3 := by omega
  all_goals
    go_enter Tryd.func41, Tryd.ntmps41
    go_wp2
    go_ret
    exact ⟨rfl, rfl⟩
theorem bit_no (b : Nat) (w : World) (h : 3 < b) :
    Calls Tryd.prog 41 #[.int .u8 b] w fun e w' => e = .returned (.bool false) ∧ w = w' := by
  have h0 : ((b : Int) == 0) = false := by rw [beq_eq_false_iff_ne]; omega
  have h1 : ((b : Int) == 1) = false := by rw [beq_eq_false_iff_ne]; omega
  have h2 : ((b : Int) == 2) = false := by rw [beq_eq_false_iff_ne]; omega
  have h3 : ((b : Int) == 3) = false := by rw [beq_eq_false_iff_ne]; omega
  go_enter Tryd.func41, Tryd.ntmps41
  go_wp2
  go_ret
  exact ⟨rfl, rfl⟩

theorem op_bad (s : ByteArray) (a b : Nat) (w : World) (h : 3 < a ∨ 3 < b) :
    Calls Tryd.prog 13 #[.string s, .int .u8 a, .int .u8 b] w fun e w' => e = .returned (.tuple #[.int .u8 0, .int .i64 2]) ∧ w = w' := by
  by_cases ha : 3 < a
  · go_enter Tryd.func13, Tryd.ntmps13
    go_wp2_with (go_at_call 42; refine (isBit_no _ _ (by omega)).mono ?_; rintro e w' ⟨rfl, rfl⟩)
    go_ret2
    exact ⟨rfl, rfl⟩
  · have hb : 3 < b := by omega
    go_enter Tryd.func13, Tryd.ntmps13
    go_wp2_with (go_at_call 42; first | ((refine (isBit_no _ _ (by omega)).mono ?_); rintro e w' ⟨rfl, rfl⟩) | ((refine (isBit_yes _ _ (by omega)).mono ?_); rintro e w' ⟨rfl, rfl⟩))
    go_ret2
    exact ⟨rfl, rfl⟩

set_option maxHeartbeats 1000000 in
theorem op_good (s : ByteArray) (a b : Nat) (w : World) (hT : Tabs w) (ha : a ≤ 3) (hb : b ≤ 3) :
    Calls Tryd.prog 13 #[.string s, .int .u8 a, .int .u8 b] w fun e w' => e = .returned (.tuple #[.int .u8 (if nameK s ≤ 5 then opN (nameK s) a b else 0 : Nat), .int .i64 (if nameK s ≤ 5 then 0 else 2 : Nat)]) ∧ w = w' := by
  have c0 := hT.and_ a b ha hb
  have c1 := hT.or_ a b ha hb
  have c2 := hT.xor_ a b ha hb
  have b0 := andN_le a b
  have b1 := orN_le a b
  have b2 := xorN_le a b
  have c3 := hT.not_ (andN a b) (by omega)
  have c4 := hT.not_ (orN a b) (by omega)
  have c5 := hT.not_ (xorN a b) (by omega)
  rcases nameK_cases s with h | h | h | h | h | h | h
  all_goals
    obtain ⟨⟨t0, t1, t2, t3, t4, t5⟩, hk⟩ := h
    rw [hk]
    clear hk
    go_enter Tryd.func13, Tryd.ntmps13
    go_wp2_with (go_at_call 42; refine (isBit_yes _ _ (by omega)).mono ?_; rintro e w' ⟨rfl, rfl⟩)
    go_ret2
    exact ⟨rfl, rfl⟩
theorem op_any (s : ByteArray) (a b : Nat) (w : World) (hT : Tabs w) :
    Calls Tryd.prog 13 #[.string s, .int .u8 a, .int .u8 b] w fun e w' => e = .returned (.tuple #[.int .u8 (opV s a b : Nat), .int .i64 (opE s a b : Nat)]) ∧ w = w' := by
  by_cases h : a ≤ 3 ∧ b ≤ 3
  · have h1 : opV s a b = if nameK s ≤ 5 then opN (nameK s) a b else 0 := by unfold opV; split <;> split <;> first | rfl | omega
    have h2 : opE s a b = if nameK s ≤ 5 then 0 else 2 := by unfold opE; split <;> split <;> first | rfl | omega
    rw [h1, h2]
    exact op_good s a b w hT h.1 h.2
  · have h1 : opV s a b = 0 := by unfold opV; rw [if_neg (by omega)]
    have h2 : opE s a b = 2 := by unfold opE; rw [if_neg (by omega)]
    rw [h1, h2]
    exact op_bad s a b w (by omega)

theorem not_bad (a : Nat) (w : World) (h : 3 < a) :
    Calls Tryd.prog 15 #[.int .u8 a] w fun e w' => e = .returned (.tuple #[.int .u8 0, .int .i64 2]) ∧ w = w' := by
  go_enter Tryd.func15, Tryd.ntmps15
  go_wp2_with (go_at_call 42; refine (isBit_no _ _ (by omega)).mono ?_; rintro e w' ⟨rfl, rfl⟩)
  go_ret2
  exact ⟨rfl, rfl⟩
theorem not_good (a : Nat) (w : World) (hT : Tabs w) (h : a ≤ 3) :
    Calls Tryd.prog 15 #[.int .u8 a] w fun e w' => e = .returned (.tuple #[.int .u8 (notN a : Nat), .int .i64 0]) ∧ w = w' := by
  have c := hT.not_ a h
  go_enter Tryd.func15, Tryd.ntmps15
  go_wp2_with (go_at_call 42; refine (isBit_yes _ _ (by omega)).mono ?_; rintro e w' ⟨rfl, rfl⟩)
  go_ret2
  exact ⟨rfl, rfl⟩
/-- What Not returns. -/
def notV (a : Nat) : Nat := if a ≤ 3 then notN a else 0
def notE (a : Nat) : Nat := if a ≤ 3 then 0 else 2
theorem not_any (a : Nat) (w : World) (hT : Tabs w) :
    Calls Tryd.prog 15 #[.int .u8 a] w fun e w' => e = .returned (.tuple #[.int .u8 (notV a : Nat), .int .i64 (notE a : Nat)]) ∧ w = w' := by
  unfold notV notE
  by_cases h : a ≤ 3
  · rw [if_pos h, if_pos h]; exact not_good a w hT h
  · rw [if_neg h, if_neg h]; exact not_bad a w (by omega)

/-- What Edge returns. -/
def edgeV (a b : Nat) : Int := if a = 0 ∧ b = 1 then 1 else if a = 1 ∧ b = 0 then -1 else 0
def edgeE (a b : Nat) : Nat := if a ≤ 3 ∧ b ≤ 3 then 0 else 2
theorem edge_any (a b : Nat) (w : World) :
    Calls Tryd.prog 17 #[.int .u8 a, .int .u8 b] w fun e w' => e = .returned (.tuple #[.int .i64 (edgeV a b), .int .i64 (edgeE a b : Nat)]) ∧ w = w' := by
  by_cases ha : 3 < a
  · have h1 : edgeV a b = 0 := by unfold edgeV; rw [if_neg (by omega), if_neg (by omega)]
    have h2 : edgeE a b = 2 := by unfold edgeE; rw [if_neg (by omega)]
    rw [h1, h2]; clear h1 h2
    go_enter Tryd.func17, Tryd.ntmps17
    go_wp2_with (go_at_call 42; refine (isBit_no _ _ (by omega)).mono ?_; rintro e w' ⟨rfl, rfl⟩)
    go_ret2
    exact ⟨rfl, rfl⟩
  by_cases hb : 3 < b
  · have h1 : edgeV a b = 0 := by unfold edgeV; rw [if_neg (by omega), if_neg (by omega)]
    have h2 : edgeE a b = 2 := by unfold edgeE; rw [if_neg (by omega)]
    rw [h1, h2]; clear h1 h2
    go_enter Tryd.func17, Tryd.ntmps17
    go_wp2_with (go_at_call 42; first | ((refine (isBit_no _ _ (by omega)).mono ?_); rintro e w' ⟨rfl, rfl⟩) | ((refine (isBit_yes _ _ (by omega)).mono ?_); rintro e w' ⟨rfl, rfl⟩))
    go_ret2
    exact ⟨rfl, rfl⟩
  obtain rfl | rfl | rfl | rfl : a = 0 ∨ a = 1 ∨ a = 2 ∨ a = 3 := by omega
  all_goals
    obtain rfl | rfl | rfl | rfl : b = 0 ∨ b = 1 ∨ b = 2 ∨ b = 3 := by omega
    all_goals
      go_enter Tryd.func17, Tryd.ntmps17
      go_wp2
      go_ret2
      exact ⟨rfl, rfl⟩
theorem refEdge_any (a b : Nat) (w : World) :
    Calls Tryd.prog 18 #[.int .u8 a, .int .u8 b] w fun e w' => e = .returned (.tuple #[.int .i64 (edgeV a b), .int .i64 (edgeE a b : Nat)]) ∧ w = w' := by
  by_cases ha : 3 < a
  · have h1 : edgeV a b = 0 := by unfold edgeV; rw [if_neg (by omega), if_neg (by omega)]
    have h2 : edgeE a b = 2 := by unfold edgeE; rw [if_neg (by omega)]
    rw [h1, h2]; clear h1 h2
    go_enter Tryd.func18, Tryd.ntmps18
    go_wp2_with (go_at_call 41; refine (bit_no _ _ (by omega)).mono ?_; rintro e w' ⟨rfl, rfl⟩)
    go_ret2
    exact ⟨rfl, rfl⟩
  by_cases hb : 3 < b
  · have h1 : edgeV a b = 0 := by unfold edgeV; rw [if_neg (by omega), if_neg (by omega)]
    have h2 : edgeE a b = 2 := by unfold edgeE; rw [if_neg (by omega)]
    rw [h1, h2]; clear h1 h2
    go_enter Tryd.func18, Tryd.ntmps18
    go_wp2_with (go_at_call 41; first | ((refine (bit_no _ _ (by omega)).mono ?_); rintro e w' ⟨rfl, rfl⟩) | ((refine (bit_yes _ _ (by omega)).mono ?_); rintro e w' ⟨rfl, rfl⟩))
    go_ret2
    exact ⟨rfl, rfl⟩
  obtain rfl | rfl | rfl | rfl : a = 0 ∨ a = 1 ∨ a = 2 ∨ a = 3 := by omega
  all_goals
    obtain rfl | rfl | rfl | rfl : b = 0 ∨ b = 1 ∨ b = 2 ∨ b = 3 := by omega
    all_goals
      go_enter Tryd.func18, Tryd.ntmps18
      go_wp2
      go_ret2
      exact ⟨rfl, rfl⟩

theorem refNot_any (a : Nat) (w : World) :
    Calls Tryd.prog 16 #[.int .u8 a] w fun e w' => e = .returned (.tuple #[.int .u8 (notV a : Nat), .int .i64 (notE a : Nat)]) ∧ w = w' := by
  unfold notV notE
  by_cases h : a ≤ 3
  · rw [if_pos h, if_pos h]
    obtain rfl | rfl | rfl | rfl : a = 0 ∨ a = 1 ∨ a = 2 ∨ a = 3 := by omega
    all_goals
      go_enter Tryd.func16, Tryd.ntmps16
      go_wp2
      go_ret2
      exact ⟨rfl, rfl⟩
  · rw [if_neg h, if_neg h]
    go_enter Tryd.func16, Tryd.ntmps16
    go_wp2_with (go_at_call 41; refine (bit_no _ _ (by omega)).mono ?_; rintro e w' ⟨rfl, rfl⟩)
    go_ret2
    exact ⟨rfl, rfl⟩

/-- The reference's table of a code. -/
def tabS (k : Nat) : ByteArray :=
  if k = 0 then ⟨#[48, 48, 48, 48, 48, 49, 120, 120, 48, 120, 120, 120, 48, 120, 120, 120]⟩ else
  if k = 1 then ⟨#[48, 49, 120, 120, 49, 49, 49, 49, 120, 49, 120, 120, 120, 49, 120, 120]⟩ else
  if k = 2 then ⟨#[48, 49, 120, 120, 49, 48, 120, 120, 120, 120, 120, 120, 120, 120, 120, 120]⟩ else
  if k = 3 then ⟨#[49, 49, 49, 49, 49, 48, 120, 120, 49, 120, 120, 120, 49, 120, 120, 120]⟩ else
  if k = 4 then ⟨#[49, 48, 120, 120, 48, 48, 48, 48, 120, 48, 120, 120, 120, 48, 120, 120]⟩ else
  if k = 5 then ⟨#[49, 48, 120, 120, 48, 49, 120, 120, 120, 120, 120, 120, 120, 120, 120, 120]⟩ else ⟨#[]⟩
theorem table_any (s : ByteArray) (w : World) :
    Calls Tryd.prog 43 #[.string s] w fun e w' => e = .returned (.tuple #[.string (tabS (nameK s)), .bool (decide (nameK s ≤ 5))]) ∧ w = w' := by
  rcases nameK_cases s with h | h | h | h | h | h | h
  all_goals
    obtain ⟨⟨t0, t1, t2, t3, t4, t5⟩, hk⟩ := h
    rw [hk]
    clear hk
    go_enter Tryd.func43, Tryd.ntmps43
    go_wp2
    go_ret2
    exact ⟨rfl, rfl⟩

theorem refOp_none (s : ByteArray) (a b : Nat) (w : World) (hk : 5 < nameK s) :
    Calls Tryd.prog 14 #[.string s, .int .u8 a, .int .u8 b] w fun e w' => e = .returned (.tuple #[.int .u8 0, .int .i64 2]) ∧ w = w' := by
  have hd : decide (nameK s ≤ 5) = false := by rw [decide_eq_false_iff_not]; omega
  have hc := fun w => table_any s w
  rw [hd] at hc
  have HC := Lib.hid hc
  clear hc hd hk
  go_enter Tryd.func14, Tryd.ntmps14
  go_wp2_with (go_at_call 43; refine (HC.out _).mono ?_; rintro e w' ⟨rfl, rfl⟩)
  go_ret2
  exact ⟨rfl, rfl⟩
theorem refOp_bad (s : ByteArray) (a b : Nat) (w : World) (hk : nameK s ≤ 5) (h : 3 < a ∨ 3 < b) :
    Calls Tryd.prog 14 #[.string s, .int .u8 a, .int .u8 b] w fun e w' => e = .returned (.tuple #[.int .u8 0, .int .i64 2]) ∧ w = w' := by
  have hd : decide (nameK s ≤ 5) = true := by rw [decide_eq_true_eq]; omega
  have hc := fun w => table_any s w
  rw [hd] at hc
  have HC := Lib.hid hc
  clear hc hd hk
  by_cases ha : 3 < a
  · go_enter Tryd.func14, Tryd.ntmps14
    go_wp2_with (first | (go_at_call 43; refine (HC.out _).mono ?_; rintro e w' ⟨rfl, rfl⟩) | (go_at_call 41; refine (bit_no _ _ (by omega)).mono ?_; rintro e w' ⟨rfl, rfl⟩))
    go_ret2
    exact ⟨rfl, rfl⟩
  · have hb : 3 < b := by omega
    go_enter Tryd.func14, Tryd.ntmps14
    go_wp2_with (first | (go_at_call 43; refine (HC.out _).mono ?_; rintro e w' ⟨rfl, rfl⟩) | (go_at_call 41; first | ((refine (bit_no _ _ (by omega)).mono ?_); rintro e w' ⟨rfl, rfl⟩) | ((refine (bit_yes _ _ (by omega)).mono ?_); rintro e w' ⟨rfl, rfl⟩)))
    go_ret2
    exact ⟨rfl, rfl⟩
end Go.Proofs.YtaeehejnifhaaaaDoor
