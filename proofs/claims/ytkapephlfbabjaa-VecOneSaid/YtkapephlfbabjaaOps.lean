/- The contracts of the smallest functions on bits: isBit, Bit, Not. -/
import Derived.Test.YtkapephlfbabjaaRows
import Derived.WalkKit
import Derived.WalkSpells
import Derived.WalkLawsBesides
import Derived.Lib.Hide
namespace Go.Proofs.Ytkapephlfbabjaa
open Go.RowKit

def notN (a : Nat) : Nat := if a = 0 then 1 else if a = 1 then 0 else 2
theorem notN_le (a : Nat) : notN a ≤ 2 := by unfold notN; (repeat' split) <;> omega
theorem beq_nat {a b : Nat} (h : a = b) : ((a : Int) == (b : Int)) = true := by rw [beq_iff_eq]; omega
theorem beq_nat_no {a b : Nat} (h : a ≠ b) : ((a : Int) == (b : Int)) = false := by rw [beq_eq_false_iff_ne]; omega
theorem isBit_yes (b : Nat) (w : World) (h : b ≤ 3) :
    Calls Try.prog 92 #[.int .u8 b] w fun e w' => e = .returned (.bool true) ∧ w = w' := by
  have hb : decide ((b : Int) ≤ 3) = true := by rw [decide_eq_true_eq]; omega
  go_enter Try.func92, Try.ntmps92
  go_wp2
  go_ret
  exact ⟨rfl, rfl⟩
theorem isBit_no (b : Nat) (w : World) (h : 3 < b) :
    Calls Try.prog 92 #[.int .u8 b] w fun e w' => e = .returned (.bool false) ∧ w = w' := by
  have hb : decide ((b : Int) ≤ 3) = false := by rw [decide_eq_false_iff_not]; omega
  go_enter Try.func92, Try.ntmps92
  go_wp2
  go_ret
  exact ⟨rfl, rfl⟩
theorem bit_yes (b : Nat) (w : World) (h : b ≤ 3) :
    Calls Try.prog 82 #[.int .u8 b] w fun e w' => e = .returned (.bool true) ∧ w = w' := by
  obtain rfl | rfl | rfl | rfl : b = 0 ∨ b = 1 ∨ b = 2 ∨ b = 3 := by omega
  all_goals
    go_enter Try.func82, Try.ntmps82
    go_wp2
    go_ret
    exact ⟨rfl, rfl⟩
theorem bit_no (b : Nat) (w : World) (h : 3 < b) :
    Calls Try.prog 82 #[.int .u8 b] w fun e w' => e = .returned (.bool false) ∧ w = w' := by
  have h0 : ((b : Int) == 0) = false := by rw [beq_eq_false_iff_ne]; omega
  have h1 : ((b : Int) == 1) = false := by rw [beq_eq_false_iff_ne]; omega
  have h2 : ((b : Int) == 2) = false := by rw [beq_eq_false_iff_ne]; omega
  have h3 : ((b : Int) == 3) = false := by rw [beq_eq_false_iff_ne]; omega
  go_enter Try.func82, Try.ntmps82
  go_wp2
  go_ret
  exact ⟨rfl, rfl⟩
/-- What Not returns. -/
def notV (a : Nat) : Nat := if a ≤ 3 then notN a else 0
def notE (a : Nat) : Nat := if a ≤ 3 then 0 else 2
theorem refNot_any (a : Nat) (w : World) :
    Calls Try.prog 90 #[.int .u8 a] w fun e w' => e = .returned (.tuple #[.int .u8 (notV a : Nat), .int .i64 (notE a : Nat)]) ∧ w = w' := by
  unfold notV notE
  by_cases h : a ≤ 3
  · rw [if_pos h, if_pos h]
    obtain rfl | rfl | rfl | rfl : a = 0 ∨ a = 1 ∨ a = 2 ∨ a = 3 := by omega
    all_goals
      go_enter Try.func90, Try.ntmps90
      go_wp2
      go_ret2
      exact ⟨rfl, rfl⟩
  · rw [if_neg h, if_neg h]
    go_enter Try.func90, Try.ntmps90
    go_wp2_with (go_at_call 82; refine (bit_no _ _ (by omega)).mono ?_; rintro e w' ⟨rfl, rfl⟩)
    go_ret2
    exact ⟨rfl, rfl⟩
end Go.Proofs.Ytkapephlfbabjaa
