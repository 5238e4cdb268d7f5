/- The contract of the reference's token: its branches. -/
import Derived.Test.YtfjeljehodbbmaaDoorQu
import Derived.Handy
namespace Go.Proofs.YtfjeljehodbbmaaDoor
open Go.RowKit

set_option maxRecDepth 100000 in
set_option maxHeartbeats 2000000 in
theorem token_vec (s : ByteArray) (i : Nat) (w : World) (hs : s.size ≤ 140737488355328) (h0 : i < s.size) (j : Nat) (hij : (i : Int) + 1 = (j : Int)) (h1 : j < s.size) (hx : ((s[i]'h0).toNat : Int) = 98) (hy : (((s[j]'h1).toNat : Nat) : Int) = 34) (a b n n3 : Nat) (hia : (i : Int) + 2 = (a : Int)) (hab : (a : Int) + (n : Int) = (b : Int)) (h3 : (n : Int) + 3 = (n3 : Int)) (hble : b ≤ s.size) (hab' : a ≤ b) (hn64 : n ≤ 64) (HQ : Hid (∀ w, Calls Tryd.prog 67 #[.string s, .int .i64 (j : Nat), .int .i64 2, .int .i64 1, .int .i64 64] w fun e w' => e = .returned (.int .i64 (n : Nat)) ∧ w = w')) :
    Calls Tryd.prog 54 #[.string s, .int .i64 i] w fun e w' => e = .returned (.tuple #[.agg #[.int .i64 5, .string (s.extract a b), .int .i64 0, .int .i64 0, .int .i64 0], .int .i64 (n3 : Nat)]) ∧ Below w.heap.size w w' := by
  have d1 : decide ((j : Int) < (s.size : Int)) = true := by rw [decide_eq_true_eq]; omega
  have d1' : decide (j < s.size) = true := by rw [decide_eq_true_eq]; omega
  go_enter Tryd.func54, Tryd.ntmps54
  go_wp2_with fail
  refine (HQ.out _).mono ?_
  rintro e w' ⟨rfl, rfl⟩
  go_wp2
  go_returns
  exact ⟨rfl, below_alloc _ _⟩
set_option maxRecDepth 100000 in
set_option maxHeartbeats 2000000 in
theorem token_novec (s : ByteArray) (i : Nat) (w : World) (hs : s.size ≤ 140737488355328) (h0 : i < s.size) (j : Nat) (hij : (i : Int) + 1 = (j : Int)) (h1 : j < s.size) (hx : ((s[i]'h0).toNat : Int) = 98) (hy : (((s[j]'h1).toNat : Nat) : Int) = 34) (HQ : Hid (∀ w, Calls Tryd.prog 67 #[.string s, .int .i64 (j : Nat), .int .i64 2, .int .i64 1, .int .i64 64] w fun e w' => e = .returned (.int .i64 (-1)) ∧ w = w')) :
    Calls Tryd.prog 54 #[.string s, .int .i64 i] w fun e w' => e = .returned (.tuple #[.agg #[.int .i64 0, .string (⟨#[]⟩), .int .i64 0, .int .i64 0, .int .i64 0], .int .i64 0]) ∧ Below w.heap.size w w' := by
  have d1 : decide ((j : Int) < (s.size : Int)) = true := by rw [decide_eq_true_eq]; omega
  have d1' : decide (j < s.size) = true := by rw [decide_eq_true_eq]; omega
  go_enter Tryd.func54, Tryd.ntmps54
  go_wp2_with fail
  refine (HQ.out _).mono ?_
  rintro e w' ⟨rfl, rfl⟩
  go_wp2
  go_returns
  exact ⟨rfl, below_alloc _ _⟩
set_option maxRecDepth 100000 in
set_option maxHeartbeats 2000000 in
theorem token_bit (s : ByteArray) (i : Nat) (w : World) (hs : s.size ≤ 140737488355328) (h0 : i < s.size) (HL : Hid (∀ w, Calls Tryd.prog 36 #[.int .u8 (((s[i]'h0).toNat : Nat) : Int)] w fun e w' => e = .returned (.bool false) ∧ w = w')) (HD : Hid (∀ w, Calls Tryd.prog 68 #[.int .u8 (((s[i]'h0).toNat : Nat) : Int)] w fun e w' => e = .returned (.bool false) ∧ w = w')) (hx98 : (((s[i]'h0).toNat : Int) == 98) = false) (hx39 : (((s[i]'h0).toNat : Int) == 39) = true) (a b : Nat) (hia : (i : Int) + 1 = (a : Int)) (hib : (i : Int) + 2 = (b : Int)) (ha : a < s.size) (hb : b < s.size) (HB : Hid (∀ w, Calls Tryd.prog 40 #[.int .u8 (((s[a]'ha).toNat : Nat) : Int)] w fun e w' => e = .returned (.bool true) ∧ w = w')) (hz : ((((s[b]'hb).toNat : Nat) : Int) == 39) = true) :
    Calls Tryd.prog 54 #[.string s, .int .i64 i] w fun e w' => e = .returned (.tuple #[.agg #[.int .i64 4, .string (s.extract a b), .int .i64 0, .int .i64 0, .int .i64 0], .int .i64 3]) ∧ Below w.heap.size w w' := by
  have d1 : decide ((b : Int) < (s.size : Int)) = true := by rw [decide_eq_true_eq]; omega
  have d1' : decide (b < s.size) = true := by rw [decide_eq_true_eq]; omega
  go_enter Tryd.func54, Tryd.ntmps54
  go_wp2_with fail
  refine (HL.out _).mono ?_
  rintro e w' ⟨rfl, rfl⟩
  go_wp2_with fail
  refine (HD.out _).mono ?_
  rintro e w' ⟨rfl, rfl⟩
  go_wp2_with fail
  refine (HB.out _).mono ?_
  rintro e w' ⟨rfl, rfl⟩
  go_wp2
  go_returns
  exact ⟨rfl, below_alloc _ _⟩
set_option maxRecDepth 100000 in
set_option maxHeartbeats 2000000 in
theorem token_bit1 (s : ByteArray) (i : Nat) (w : World) (_hs : s.size ≤ 140737488355328) (h0 : i < s.size) (HL : Hid (∀ w, Calls Tryd.prog 36 #[.int .u8 (((s[i]'h0).toNat : Nat) : Int)] w fun e w' => e = .returned (.bool false) ∧ w = w')) (HD : Hid (∀ w, Calls Tryd.prog 68 #[.int .u8 (((s[i]'h0).toNat : Nat) : Int)] w fun e w' => e = .returned (.bool false) ∧ w = w')) (hx98 : (((s[i]'h0).toNat : Int) == 98) = false) (hx39 : (((s[i]'h0).toNat : Int) == 39) = true) (a b : Nat) (hia : (i : Int) + 1 = (a : Int)) (hib : (i : Int) + 2 = (b : Int)) (hbb : b ≤ 281474976710656) (hb : ¬ b < s.size) :
    Calls Tryd.prog 54 #[.string s, .int .i64 i] w fun e w' => e = .returned (.tuple #[.agg #[.int .i64 0, .string (⟨#[]⟩), .int .i64 0, .int .i64 0, .int .i64 0], .int .i64 0]) ∧ Below w.heap.size w w' := by
  have d1 : decide ((b : Int) < (s.size : Int)) = false := by rw [decide_eq_false_iff_not]; omega
  have d1' : decide (b < s.size) = false := by rw [decide_eq_false_iff_not]; omega
  clear hb
  go_enter Tryd.func54, Tryd.ntmps54
  go_wp2_with fail
  refine (HL.out _).mono ?_
  rintro e w' ⟨rfl, rfl⟩
  go_wp2_with fail
  refine (HD.out _).mono ?_
  rintro e w' ⟨rfl, rfl⟩
  go_wp2
  go_returns
  exact ⟨rfl, below_alloc _ _⟩
set_option maxRecDepth 100000 in
set_option maxHeartbeats 2000000 in
theorem token_bit2 (s : ByteArray) (i : Nat) (w : World) (hs : s.size ≤ 140737488355328) (h0 : i < s.size) (HL : Hid (∀ w, Calls Tryd.prog 36 #[.int .u8 (((s[i]'h0).toNat : Nat) : Int)] w fun e w' => e = .returned (.bool false) ∧ w = w')) (HD : Hid (∀ w, Calls Tryd.prog 68 #[.int .u8 (((s[i]'h0).toNat : Nat) : Int)] w fun e w' => e = .returned (.bool false) ∧ w = w')) (hx98 : (((s[i]'h0).toNat : Int) == 98) = false) (hx39 : (((s[i]'h0).toNat : Int) == 39) = true) (a b : Nat) (hia : (i : Int) + 1 = (a : Int)) (hib : (i : Int) + 2 = (b : Int)) (ha : a < s.size) (hb : b < s.size) (HB : Hid (∀ w, Calls Tryd.prog 40 #[.int .u8 (((s[a]'ha).toNat : Nat) : Int)] w fun e w' => e = .returned (.bool false) ∧ w = w')) :
    Calls Tryd.prog 54 #[.string s, .int .i64 i] w fun e w' => e = .returned (.tuple #[.agg #[.int .i64 0, .string (⟨#[]⟩), .int .i64 0, .int .i64 0, .int .i64 0], .int .i64 0]) ∧ Below w.heap.size w w' := by
  have d1 : decide ((b : Int) < (s.size : Int)) = true := by rw [decide_eq_true_eq]; omega
  have d1' : decide (b < s.size) = true := by rw [decide_eq_true_eq]; omega
  go_enter Tryd.func54, Tryd.ntmps54
  go_wp2_with fail
  refine (HL.out _).mono ?_
  rintro e w' ⟨rfl, rfl⟩
  go_wp2_with fail
  refine (HD.out _).mono ?_
  rintro e w' ⟨rfl, rfl⟩
  go_wp2_with fail
  refine (HB.out _).mono ?_
  rintro e w' ⟨rfl, rfl⟩
  go_wp2
  go_returns
  exact ⟨rfl, below_alloc _ _⟩
set_option maxRecDepth 100000 in
set_option maxHeartbeats 2000000 in
theorem token_bit3 (s : ByteArray) (i : Nat) (w : World) (hs : s.size ≤ 140737488355328) (h0 : i < s.size) (HL : Hid (∀ w, Calls Tryd.prog 36 #[.int .u8 (((s[i]'h0).toNat : Nat) : Int)] w fun e w' => e = .returned (.bool false) ∧ w = w')) (HD : Hid (∀ w, Calls Tryd.prog 68 #[.int .u8 (((s[i]'h0).toNat : Nat) : Int)] w fun e w' => e = .returned (.bool false) ∧ w = w')) (hx98 : (((s[i]'h0).toNat : Int) == 98) = false) (hx39 : (((s[i]'h0).toNat : Int) == 39) = true) (a b : Nat) (hia : (i : Int) + 1 = (a : Int)) (hib : (i : Int) + 2 = (b : Int)) (ha : a < s.size) (hb : b < s.size) (HB : Hid (∀ w, Calls Tryd.prog 40 #[.int .u8 (((s[a]'ha).toNat : Nat) : Int)] w fun e w' => e = .returned (.bool true) ∧ w = w')) (hz : ((((s[b]'hb).toNat : Nat) : Int) == 39) = false) :
    Calls Tryd.prog 54 #[.string s, .int .i64 i] w fun e w' => e = .returned (.tuple #[.agg #[.int .i64 0, .string (⟨#[]⟩), .int .i64 0, .int .i64 0, .int .i64 0], .int .i64 0]) ∧ Below w.heap.size w w' := by
  have d1 : decide ((b : Int) < (s.size : Int)) = true := by rw [decide_eq_true_eq]; omega
  have d1' : decide (b < s.size) = true := by rw [decide_eq_true_eq]; omega
  go_enter Tryd.func54, Tryd.ntmps54
  go_wp2_with fail
  refine (HL.out _).mono ?_
  rintro e w' ⟨rfl, rfl⟩
  go_wp2_with fail
  refine (HD.out _).mono ?_
  rintro e w' ⟨rfl, rfl⟩
  go_wp2_with fail
  refine (HB.out _).mono ?_
  rintro e w' ⟨rfl, rfl⟩
  go_wp2
  go_returns
  exact ⟨rfl, below_alloc _ _⟩
set_option maxRecDepth 100000 in
set_option maxHeartbeats 2000000 in
theorem token_text (s : ByteArray) (i : Nat) (w : World) (hs : s.size ≤ 140737488355328) (h0 : i < s.size) (HL : Hid (∀ w, Calls Tryd.prog 36 #[.int .u8 (((s[i]'h0).toNat : Nat) : Int)] w fun e w' => e = .returned (.bool false) ∧ w = w')) (HD : Hid (∀ w, Calls Tryd.prog 68 #[.int .u8 (((s[i]'h0).toNat : Nat) : Int)] w fun e w' => e = .returned (.bool false) ∧ w = w')) (hx98 : (((s[i]'h0).toNat : Int) == 98) = false) (hx39 : (((s[i]'h0).toNat : Int) == 39) = false) (hx34 : (((s[i]'h0).toNat : Int) == 34) = true) (a b n n2 : Nat) (hia : (i : Int) + 1 = (a : Int)) (hab : (a : Int) + (n : Int) = (b : Int)) (h2 : (n : Int) + 2 = (n2 : Int)) (hble : b ≤ s.size) (hab' : a ≤ b) (hn64 : n ≤ 64) (HQ : Hid (∀ w, Calls Tryd.prog 67 #[.string s, .int .i64 i, .int .i64 3, .int .i64 0, .int .i64 60] w fun e w' => e = .returned (.int .i64 (n : Nat)) ∧ w = w')) :
    Calls Tryd.prog 54 #[.string s, .int .i64 i] w fun e w' => e = .returned (.tuple #[.agg #[.int .i64 6, .string (s.extract a b), .int .i64 0, .int .i64 0, .int .i64 0], .int .i64 (n2 : Nat)]) ∧ Below w.heap.size w w' := by
  skip
  go_enter Tryd.func54, Tryd.ntmps54
  go_wp2_with fail
  refine (HL.out _).mono ?_
  rintro e w' ⟨rfl, rfl⟩
  go_wp2_with fail
  refine (HD.out _).mono ?_
  rintro e w' ⟨rfl, rfl⟩
  go_wp2_with fail
  refine (HQ.out _).mono ?_
  rintro e w' ⟨rfl, rfl⟩
  go_wp2
  go_returns
  exact ⟨rfl, below_alloc _ _⟩
set_option maxRecDepth 100000 in
set_option maxHeartbeats 2000000 in
theorem token_notext (s : ByteArray) (i : Nat) (w : World) (_hs : s.size ≤ 140737488355328) (h0 : i < s.size) (HL : Hid (∀ w, Calls Tryd.prog 36 #[.int .u8 (((s[i]'h0).toNat : Nat) : Int)] w fun e w' => e = .returned (.bool false) ∧ w = w')) (HD : Hid (∀ w, Calls Tryd.prog 68 #[.int .u8 (((s[i]'h0).toNat : Nat) : Int)] w fun e w' => e = .returned (.bool false) ∧ w = w')) (hx98 : (((s[i]'h0).toNat : Int) == 98) = false) (hx39 : (((s[i]'h0).toNat : Int) == 39) = false) (hx34 : (((s[i]'h0).toNat : Int) == 34) = true) (HQ : Hid (∀ w, Calls Tryd.prog 67 #[.string s, .int .i64 i, .int .i64 3, .int .i64 0, .int .i64 60] w fun e w' => e = .returned (.int .i64 (-1)) ∧ w = w')) :
    Calls Tryd.prog 54 #[.string s, .int .i64 i] w fun e w' => e = .returned (.tuple #[.agg #[.int .i64 0, .string (⟨#[]⟩), .int .i64 0, .int .i64 0, .int .i64 0], .int .i64 0]) ∧ Below w.heap.size w w' := by
  skip
  go_enter Tryd.func54, Tryd.ntmps54
  go_wp2_with fail
  refine (HL.out _).mono ?_
  rintro e w' ⟨rfl, rfl⟩
  go_wp2_with fail
  refine (HD.out _).mono ?_
  rintro e w' ⟨rfl, rfl⟩
  go_wp2_with fail
  refine (HQ.out _).mono ?_
  rintro e w' ⟨rfl, rfl⟩
  go_wp2
  go_returns
  exact ⟨rfl, below_alloc _ _⟩
set_option maxRecDepth 100000 in
set_option maxHeartbeats 2000000 in
theorem token_int (s : ByteArray) (i : Nat) (w : World) (hs : s.size ≤ 140737488355328) (h0 : i < s.size) (HL : Hid (∀ w, Calls Tryd.prog 36 #[.int .u8 (((s[i]'h0).toNat : Nat) : Int)] w fun e w' => e = .returned (.bool false) ∧ w = w')) (HD : Hid (∀ w, Calls Tryd.prog 68 #[.int .u8 (((s[i]'h0).toNat : Nat) : Int)] w fun e w' => e = .returned (.bool true) ∧ w = w')) (hx98 : (((s[i]'h0).toNat : Int) == 98) = false) (b r : Nat) (hib : (i : Int) + (r : Int) = (b : Int)) (hble : b ≤ s.size) (hab : i ≤ b) (hsz : (s.extract i b).size = r) (HR : Hid (∀ w, Calls Tryd.prog 37 #[.string s, .int .i64 i, .int .i64 0] w fun e w' => e = .returned (.int .i64 (r : Nat)) ∧ w = w')) (n : Nat) (HN : Hid (∀ w, Calls Tryd.prog 69 #[.string (s.extract i b)] w fun e w' => e = .returned (.int .i64 (n : Nat)) ∧ w = w')) (r1 : Nat) (HR1 : Hid (∀ w, Calls Tryd.prog 37 #[.string s, .int .i64 i, .int .i64 1] w fun e w' => e = .returned (.int .i64 (r1 : Nat)) ∧ w = w')) (hr : r1 = r) :
    Calls Tryd.prog 54 #[.string s, .int .i64 i] w fun e w' => e = .returned (.tuple #[.agg #[.int .i64 3, .string (⟨#[]⟩), .int .i64 (n : Nat), .int .i64 0, .int .i64 0], .int .i64 (r : Nat)]) ∧ Below w.heap.size w w' := by
  have d1 : ((r1 : Int) == (r : Int)) = true := by rw [beq_iff_eq]; omega
  clear hr
  go_enter Tryd.func54, Tryd.ntmps54
  go_wp2_with fail
  refine (HL.out _).mono ?_
  rintro e w' ⟨rfl, rfl⟩
  go_wp2_with fail
  refine (HD.out _).mono ?_
  rintro e w' ⟨rfl, rfl⟩
  go_wp2_with fail
  refine (HR.out _).mono ?_
  rintro e w' ⟨rfl, rfl⟩
  go_wp2_with fail
  refine (HN.out _).mono ?_
  rintro e w' ⟨rfl, rfl⟩
  go_wp2_with fail
  refine (HR1.out _).mono ?_
  rintro e w' ⟨rfl, rfl⟩
  go_wp2
  go_returns
  exact ⟨rfl, below_alloc _ _⟩
set_option maxRecDepth 100000 in
set_option maxHeartbeats 2000000 in
theorem token_int1 (s : ByteArray) (i : Nat) (w : World) (hs : s.size ≤ 140737488355328) (h0 : i < s.size) (HL : Hid (∀ w, Calls Tryd.prog 36 #[.int .u8 (((s[i]'h0).toNat : Nat) : Int)] w fun e w' => e = .returned (.bool false) ∧ w = w')) (HD : Hid (∀ w, Calls Tryd.prog 68 #[.int .u8 (((s[i]'h0).toNat : Nat) : Int)] w fun e w' => e = .returned (.bool true) ∧ w = w')) (hx98 : (((s[i]'h0).toNat : Int) == 98) = false) (b r : Nat) (hib : (i : Int) + (r : Int) = (b : Int)) (hble : b ≤ s.size) (hab : i ≤ b) (_hsz : (s.extract i b).size = r) (HR : Hid (∀ w, Calls Tryd.prog 37 #[.string s, .int .i64 i, .int .i64 0] w fun e w' => e = .returned (.int .i64 (r : Nat)) ∧ w = w')) (HN : Hid (∀ w, Calls Tryd.prog 69 #[.string (s.extract i b)] w fun e w' => e = .returned (.int .i64 (-1)) ∧ w = w')) :
    Calls Tryd.prog 54 #[.string s, .int .i64 i] w fun e w' => e = .returned (.tuple #[.agg #[.int .i64 0, .string (⟨#[]⟩), .int .i64 0, .int .i64 0, .int .i64 0], .int .i64 0]) ∧ Below w.heap.size w w' := by
  skip
  go_enter Tryd.func54, Tryd.ntmps54
  go_wp2_with fail
  refine (HL.out _).mono ?_
  rintro e w' ⟨rfl, rfl⟩
  go_wp2_with fail
  refine (HD.out _).mono ?_
  rintro e w' ⟨rfl, rfl⟩
  go_wp2_with fail
  refine (HR.out _).mono ?_
  rintro e w' ⟨rfl, rfl⟩
  go_wp2_with fail
  refine (HN.out _).mono ?_
  rintro e w' ⟨rfl, rfl⟩
  go_wp2
  go_returns
  exact ⟨rfl, below_alloc _ _⟩
set_option maxRecDepth 100000 in
set_option maxHeartbeats 2000000 in
theorem token_int2 (s : ByteArray) (i : Nat) (w : World) (hs : s.size ≤ 140737488355328) (h0 : i < s.size) (HL : Hid (∀ w, Calls Tryd.prog 36 #[.int .u8 (((s[i]'h0).toNat : Nat) : Int)] w fun e w' => e = .returned (.bool false) ∧ w = w')) (HD : Hid (∀ w, Calls Tryd.prog 68 #[.int .u8 (((s[i]'h0).toNat : Nat) : Int)] w fun e w' => e = .returned (.bool true) ∧ w = w')) (hx98 : (((s[i]'h0).toNat : Int) == 98) = false) (b r : Nat) (hib : (i : Int) + (r : Int) = (b : Int)) (hble : b ≤ s.size) (hab : i ≤ b) (hsz : (s.extract i b).size = r) (HR : Hid (∀ w, Calls Tryd.prog 37 #[.string s, .int .i64 i, .int .i64 0] w fun e w' => e = .returned (.int .i64 (r : Nat)) ∧ w = w')) (n : Nat) (HN : Hid (∀ w, Calls Tryd.prog 69 #[.string (s.extract i b)] w fun e w' => e = .returned (.int .i64 (n : Nat)) ∧ w = w')) (r1 : Nat) (HR1 : Hid (∀ w, Calls Tryd.prog 37 #[.string s, .int .i64 i, .int .i64 1] w fun e w' => e = .returned (.int .i64 (r1 : Nat)) ∧ w = w')) (hr : ¬ r1 = r) :
    Calls Tryd.prog 54 #[.string s, .int .i64 i] w fun e w' => e = .returned (.tuple #[.agg #[.int .i64 0, .string (⟨#[]⟩), .int .i64 0, .int .i64 0, .int .i64 0], .int .i64 0]) ∧ Below w.heap.size w w' := by
  have d1 : ((r1 : Int) == (r : Int)) = false := by rw [beq_eq_false_iff_ne]; omega
  clear hr
  go_enter Tryd.func54, Tryd.ntmps54
  go_wp2_with fail
  refine (HL.out _).mono ?_
  rintro e w' ⟨rfl, rfl⟩
  go_wp2_with fail
  refine (HD.out _).mono ?_
  rintro e w' ⟨rfl, rfl⟩
  go_wp2_with fail
  refine (HR.out _).mono ?_
  rintro e w' ⟨rfl, rfl⟩
  go_wp2_with fail
  refine (HN.out _).mono ?_
  rintro e w' ⟨rfl, rfl⟩
  go_wp2_with fail
  refine (HR1.out _).mono ?_
  rintro e w' ⟨rfl, rfl⟩
  go_wp2
  go_returns
  exact ⟨rfl, below_alloc _ _⟩
end Go.Proofs.YtfjeljehodbbmaaDoor
