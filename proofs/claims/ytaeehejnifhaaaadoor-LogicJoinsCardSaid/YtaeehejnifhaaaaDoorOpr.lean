/- The reference's Op returns what the tables say, for every name and numbers. -/
import Derived.Test.YtaeehejnifhaaaaDoorOps
namespace Go.Proofs.YtaeehejnifhaaaaDoor
open Go.RowKit

set_option maxHeartbeats 4000000 in
theorem refOp_good (s : ByteArray) (a b : Nat) (w : World) (hk : nameK s ≤ 5) (ha : a ≤ 3) (hb : b ≤ 3) :
    Calls Tryd.prog 14 #[.string s, .int .u8 a, .int .u8 b] w fun e w' => e = .returned (.tuple #[.int .u8 (opN (nameK s) a b : Nat), .int .i64 0]) ∧ w = w' := by
  have hc := fun w => table_any s w
  generalize nameK s = k at hc hk ⊢
  obtain rfl | rfl | rfl | rfl | rfl | rfl : k = 0 ∨ k = 1 ∨ k = 2 ∨ k = 3 ∨ k = 4 ∨ k = 5 := by omega
  all_goals
    simp only [tabS, ↓reduceIte, Nat.reduceEqDiff, Nat.reduceLeDiff, decide_true] at hc
    have HC := Lib.hid hc
    clear hc hk
    obtain rfl | rfl | rfl | rfl : a = 0 ∨ a = 1 ∨ a = 2 ∨ a = 3 := by omega
    all_goals
      obtain rfl | rfl | rfl | rfl : b = 0 ∨ b = 1 ∨ b = 2 ∨ b = 3 := by omega
      all_goals
        clear ha hb
        go_enter Tryd.func14, Tryd.ntmps14
        go_wp2_with (first | (go_at_call 43; refine (HC.out _).mono ?_; rintro e w' ⟨rfl, rfl⟩) | go_in)
        go_ret2
        exact ⟨rfl, rfl⟩
theorem refOp_any (s : ByteArray) (a b : Nat) (w : World) :
    Calls Tryd.prog 14 #[.string s, .int .u8 a, .int .u8 b] w fun e w' => e = .returned (.tuple #[.int .u8 (opV s a b : Nat), .int .i64 (opE s a b : Nat)]) ∧ w = w' := by
  by_cases hk : nameK s ≤ 5
  · by_cases h : a ≤ 3 ∧ b ≤ 3
    · have h1 : opV s a b = opN (nameK s) a b := by unfold opV; rw [if_pos ⟨hk, h⟩]
      have h2 : opE s a b = 0 := by unfold opE; rw [if_pos ⟨hk, h⟩]
      rw [h1, h2]
      exact refOp_good s a b w hk h.1 h.2
    · have h1 : opV s a b = 0 := by unfold opV; rw [if_neg (by omega)]
      have h2 : opE s a b = 2 := by unfold opE; rw [if_neg (by omega)]
      rw [h1, h2]
      exact refOp_bad s a b w hk (by omega)
  · have h1 : opV s a b = 0 := by unfold opV; rw [if_neg (by omega)]
    have h2 : opE s a b = 2 := by unfold opE; rw [if_neg (by omega)]
    rw [h1, h2]
    exact refOp_none s a b w (by omega)
end Go.Proofs.YtaeehejnifhaaaaDoor
