/- The contract of the reference's Possible: its branches. -/
import Derived.Test.YtfjeljehodbbmaaDoorTo
import Derived.Deep.RegionWith
namespace Go.Proofs.YtfjeljehodbbmaaDoor
open Go.RowKit

theorem same_q {P : Program} {f : FuncId} {args : Array Value} {w : World} {v : Value} (h : Calls P f args w fun e w' => e = .returned v ∧ w = w') : Calls P f args w fun e w' => e = .returned v ∧ w' = w :=
  h.mono fun _ _ ⟨he, hw⟩ => ⟨he, hw.symm⟩
set_option maxRecDepth 100000 in
set_option maxHeartbeats 2000000 in
theorem poss_yes1 (x : ByteArray) (n l c : Int) (w : World) (hn : n = 0) (b : Bool) (HC : Hid (∀ w, Calls Tryd.prog 22 #[.string x] w fun e w' => e = .returned (.bool b) ∧ Below w.heap.size w w')) :
    Calls Tryd.prog 24 #[.agg #[.int .i64 1, .string x, .int .i64 n, .int .i64 l, .int .i64 c]] w fun e w' => e = .returned (.bool b) ∧ Below w.heap.size w w' := by
  have HB0 := Lib.hid (below_alloc w (.cells #[.int .i64 1, .string x, .int .i64 n, .int .i64 l, .int .i64 c] 40))
  have t0 : (n == 0) = true := by rw [beq_iff_eq]; exact hn
  clear hn
  go_enter Tryd.func24, Tryd.ntmps24
  go_wp2_with fail
  refine (HC.out _).mono ?_
  rintro e w1 ⟨rfl, hb1⟩
  have HB1 := Lib.hid (below_then HB0.out hb1)
  clear hb1
  go_wp2
  go_ret
  exact ⟨rfl, HB1.out⟩
set_option maxRecDepth 100000 in
set_option maxHeartbeats 2000000 in
theorem poss_no1 (x : ByteArray) (n l c : Int) (w : World) (hn : ¬ n = 0) :
    Calls Tryd.prog 24 #[.agg #[.int .i64 1, .string x, .int .i64 n, .int .i64 l, .int .i64 c]] w fun e w' => e = .returned (.bool false) ∧ Below w.heap.size w w' := by
  have HB0 := Lib.hid (below_alloc w (.cells #[.int .i64 1, .string x, .int .i64 n, .int .i64 l, .int .i64 c] 40))
  have t0 : (n == 0) = false := by rw [beq_eq_false_iff_ne]; exact hn
  clear hn
  go_enter Tryd.func24, Tryd.ntmps24
  go_wp2
  go_ret
  exact ⟨rfl, HB0.out⟩
set_option maxRecDepth 100000 in
set_option maxHeartbeats 2000000 in
theorem poss_yes2 (x : ByteArray) (n l c : Int) (w : World) (hn : n = 0) (b : Bool) (HC : Hid (∀ w, Calls Tryd.prog 23 #[.string x] w fun e w' => e = .returned (.bool b) ∧ Below w.heap.size w w')) :
    Calls Tryd.prog 24 #[.agg #[.int .i64 2, .string x, .int .i64 n, .int .i64 l, .int .i64 c]] w fun e w' => e = .returned (.bool b) ∧ Below w.heap.size w w' := by
  have HB0 := Lib.hid (below_alloc w (.cells #[.int .i64 2, .string x, .int .i64 n, .int .i64 l, .int .i64 c] 40))
  have t0 : (n == 0) = true := by rw [beq_iff_eq]; exact hn
  clear hn
  go_enter Tryd.func24, Tryd.ntmps24
  go_wp2_with fail
  refine (HC.out _).mono ?_
  rintro e w1 ⟨rfl, hb1⟩
  have HB1 := Lib.hid (below_then HB0.out hb1)
  clear hb1
  go_wp2
  go_ret
  exact ⟨rfl, HB1.out⟩
set_option maxRecDepth 100000 in
set_option maxHeartbeats 2000000 in
theorem poss_no2 (x : ByteArray) (n l c : Int) (w : World) (hn : ¬ n = 0) :
    Calls Tryd.prog 24 #[.agg #[.int .i64 2, .string x, .int .i64 n, .int .i64 l, .int .i64 c]] w fun e w' => e = .returned (.bool false) ∧ Below w.heap.size w w' := by
  have HB0 := Lib.hid (below_alloc w (.cells #[.int .i64 2, .string x, .int .i64 n, .int .i64 l, .int .i64 c] 40))
  have t0 : (n == 0) = false := by rw [beq_eq_false_iff_ne]; exact hn
  clear hn
  go_enter Tryd.func24, Tryd.ntmps24
  go_wp2
  go_ret
  exact ⟨rfl, HB0.out⟩
set_option maxRecDepth 100000 in
set_option maxHeartbeats 2000000 in
theorem poss_no3 (x : ByteArray) (n l c : Int) (w : World) (hx : ¬ bl x = []) :
    Calls Tryd.prog 24 #[.agg #[.int .i64 3, .string x, .int .i64 n, .int .i64 l, .int .i64 c]] w fun e w' => e = .returned (.bool false) ∧ Below w.heap.size w w' := by
  have HB0 := Lib.hid (below_alloc w (.cells #[.int .i64 3, .string x, .int .i64 n, .int .i64 l, .int .i64 c] 40))
  have t0 : (x.toList == []) = false := by rw [bl_toList, beq_eq_false_iff_ne]; exact hx
  have t1 : (x.toList == (⟨#[]⟩ : ByteArray).toList) = false := by rw [bl_toList, bl_toList, beq_eq_false_iff_ne]; exact hx
  clear hx
  go_enter Tryd.func24, Tryd.ntmps24
  go_wp2
  go_ret
  exact ⟨rfl, HB0.out⟩
set_option maxRecDepth 100000 in
set_option maxHeartbeats 2000000 in
theorem poss_neg3 (x : ByteArray) (n l c : Int) (w : World) (hx : bl x = []) (hn : n < 0) :
    Calls Tryd.prog 24 #[.agg #[.int .i64 3, .string x, .int .i64 n, .int .i64 l, .int .i64 c]] w fun e w' => e = .returned (.bool false) ∧ Below w.heap.size w w' := by
  have HB0 := Lib.hid (below_alloc w (.cells #[.int .i64 3, .string x, .int .i64 n, .int .i64 l, .int .i64 c] 40))
  have t0 : (x.toList == []) = true := by rw [bl_toList, hx]; rfl
  have t1 : (x.toList == (⟨#[]⟩ : ByteArray).toList) = true := by rw [bl_toList, bl_toList, hx]; rfl
  have d1 : decide ((0 : Int) ≤ n) = false := by rw [decide_eq_false_iff_not]; omega
  clear hx hn
  go_enter Tryd.func24, Tryd.ntmps24
  go_wp2
  go_ret
  exact ⟨rfl, HB0.out⟩
set_option maxRecDepth 100000 in
set_option maxHeartbeats 2000000 in
theorem poss_big3 (x : ByteArray) (n l c : Int) (w : World) (hx : bl x = []) (h0 : 0 ≤ n) (hn : ¬ n ≤ 2147483647) :
    Calls Tryd.prog 24 #[.agg #[.int .i64 3, .string x, .int .i64 n, .int .i64 l, .int .i64 c]] w fun e w' => e = .returned (.bool false) ∧ Below w.heap.size w w' := by
  have HB0 := Lib.hid (below_alloc w (.cells #[.int .i64 3, .string x, .int .i64 n, .int .i64 l, .int .i64 c] 40))
  have t0 : (x.toList == []) = true := by rw [bl_toList, hx]; rfl
  have t1 : (x.toList == (⟨#[]⟩ : ByteArray).toList) = true := by rw [bl_toList, bl_toList, hx]; rfl
  have d1 : decide ((0 : Int) ≤ n) = true := by rw [decide_eq_true_eq]; omega
  have d2 : decide (n ≤ (2147483647 : Int)) = false := by rw [decide_eq_false_iff_not]; omega
  clear hx hn h0
  go_enter Tryd.func24, Tryd.ntmps24
  go_wp2
  go_ret
  exact ⟨rfl, HB0.out⟩
set_option maxRecDepth 100000 in
set_option maxHeartbeats 2000000 in
theorem poss_yes3 (x : ByteArray) (n l c : Int) (w : World) (hx : bl x = []) (h0 : 0 ≤ n) (hn : n ≤ 2147483647) :
    Calls Tryd.prog 24 #[.agg #[.int .i64 3, .string x, .int .i64 n, .int .i64 l, .int .i64 c]] w fun e w' => e = .returned (.bool true) ∧ Below w.heap.size w w' := by
  have HB0 := Lib.hid (below_alloc w (.cells #[.int .i64 3, .string x, .int .i64 n, .int .i64 l, .int .i64 c] 40))
  have t0 : (x.toList == []) = true := by rw [bl_toList, hx]; rfl
  have t1 : (x.toList == (⟨#[]⟩ : ByteArray).toList) = true := by rw [bl_toList, bl_toList, hx]; rfl
  have d1 : decide ((0 : Int) ≤ n) = true := by rw [decide_eq_true_eq]; omega
  have d2 : decide (n ≤ (2147483647 : Int)) = true := by rw [decide_eq_true_eq]; omega
  clear hx hn h0
  go_enter Tryd.func24, Tryd.ntmps24
  go_wp2
  go_ret
  exact ⟨rfl, HB0.out⟩
set_option maxRecDepth 100000 in
set_option maxHeartbeats 2000000 in
theorem poss_no4 (x : ByteArray) (n l c : Int) (w : World) (hn : ¬ n = 0) :
    Calls Tryd.prog 24 #[.agg #[.int .i64 4, .string x, .int .i64 n, .int .i64 l, .int .i64 c]] w fun e w' => e = .returned (.bool false) ∧ Below w.heap.size w w' := by
  have HB0 := Lib.hid (below_alloc w (.cells #[.int .i64 4, .string x, .int .i64 n, .int .i64 l, .int .i64 c] 40))
  have t0 : (n == 0) = false := by rw [beq_eq_false_iff_ne]; exact hn
  clear hn
  go_enter Tryd.func24, Tryd.ntmps24
  go_wp2
  go_ret
  exact ⟨rfl, HB0.out⟩
set_option maxRecDepth 100000 in
set_option maxHeartbeats 2000000 in
theorem poss_len4 (x : ByteArray) (n l c : Int) (w : World) (hn : n = 0) (hl : ¬ x.size = 1) :
    Calls Tryd.prog 24 #[.agg #[.int .i64 4, .string x, .int .i64 n, .int .i64 l, .int .i64 c]] w fun e w' => e = .returned (.bool false) ∧ Below w.heap.size w w' := by
  have HB0 := Lib.hid (below_alloc w (.cells #[.int .i64 4, .string x, .int .i64 n, .int .i64 l, .int .i64 c] 40))
  have t0 : (n == 0) = true := by rw [beq_iff_eq]; exact hn
  have t1 : ((x.size : Int) == 1) = false := by rw [beq_eq_false_iff_ne]; omega
  clear hn hl
  go_enter Tryd.func24, Tryd.ntmps24
  go_wp2
  go_ret
  exact ⟨rfl, HB0.out⟩
set_option maxRecDepth 100000 in
set_option maxHeartbeats 2000000 in
theorem poss_yes4 (x : ByteArray) (n l c : Int) (w : World) (hn : n = 0) (hl : x.size = 1) (h0 : 0 < x.size) (b : Bool) (HC : Hid (∀ w, Calls Tryd.prog 40 #[.int .u8 (((x[0]'h0).toNat : Nat) : Int)] w fun e w' => e = .returned (.bool b) ∧ w = w')) :
    Calls Tryd.prog 24 #[.agg #[.int .i64 4, .string x, .int .i64 n, .int .i64 l, .int .i64 c]] w fun e w' => e = .returned (.bool b) ∧ Below w.heap.size w w' := by
  have HB0 := Lib.hid (below_alloc w (.cells #[.int .i64 4, .string x, .int .i64 n, .int .i64 l, .int .i64 c] 40))
  have t0 : (n == 0) = true := by rw [beq_iff_eq]; exact hn
  have t1 : ((x.size : Int) == 1) = true := by rw [beq_iff_eq]; omega
  clear hn hl
  go_enter Tryd.func24, Tryd.ntmps24
  go_wp2_with fail
  refine (HC.out _).mono ?_
  rintro e w' ⟨rfl, rfl⟩
  go_wp2
  go_ret
  exact ⟨rfl, HB0.out⟩
set_option maxRecDepth 100000 in
set_option maxHeartbeats 2000000 in
theorem poss_no5 (x : ByteArray) (n l c : Int) (w : World) (hn : ¬ n = 0) :
    Calls Tryd.prog 24 #[.agg #[.int .i64 5, .string x, .int .i64 n, .int .i64 l, .int .i64 c]] w fun e w' => e = .returned (.bool false) ∧ Below w.heap.size w w' := by
  have HB0 := Lib.hid (below_alloc w (.cells #[.int .i64 5, .string x, .int .i64 n, .int .i64 l, .int .i64 c] 40))
  have t0 : (n == 0) = false := by rw [beq_eq_false_iff_ne]; exact hn
  clear hn
  go_enter Tryd.func24, Tryd.ntmps24
  go_wp2_with fail
  go_quiet (fail)
  go_wp2
  go_ret
  exact ⟨rfl, below_drewN HB0.out _⟩
set_option maxRecDepth 100000 in
set_option maxHeartbeats 2000000 in
theorem poss_few5 (x : ByteArray) (n l c : Int) (w : World) (hn : n = 0) (hl : ¬ 1 ≤ x.size) :
    Calls Tryd.prog 24 #[.agg #[.int .i64 5, .string x, .int .i64 n, .int .i64 l, .int .i64 c]] w fun e w' => e = .returned (.bool false) ∧ Below w.heap.size w w' := by
  have HB0 := Lib.hid (below_alloc w (.cells #[.int .i64 5, .string x, .int .i64 n, .int .i64 l, .int .i64 c] 40))
  have t0 : (n == 0) = true := by rw [beq_iff_eq]; exact hn
  have e1 : decide ((1 : Int) ≤ (x.size : Int)) = false := by rw [decide_eq_false_iff_not]; omega
  have e1' : decide (1 ≤ x.size) = false := by rw [decide_eq_false_iff_not]; omega
  clear hn hl
  go_enter Tryd.func24, Tryd.ntmps24
  go_wp2_with fail
  go_quiet (fail)
  go_wp2
  go_ret
  exact ⟨rfl, below_drewN HB0.out _⟩
set_option maxRecDepth 100000 in
set_option maxHeartbeats 2000000 in
theorem poss_many5 (x : ByteArray) (n l c : Int) (w : World) (hn : n = 0) (hl : 1 ≤ x.size) (hm : ¬ x.size ≤ 64) :
    Calls Tryd.prog 24 #[.agg #[.int .i64 5, .string x, .int .i64 n, .int .i64 l, .int .i64 c]] w fun e w' => e = .returned (.bool false) ∧ Below w.heap.size w w' := by
  have HB0 := Lib.hid (below_alloc w (.cells #[.int .i64 5, .string x, .int .i64 n, .int .i64 l, .int .i64 c] 40))
  have t0 : (n == 0) = true := by rw [beq_iff_eq]; exact hn
  have e1 : decide ((1 : Int) ≤ (x.size : Int)) = true := by rw [decide_eq_true_eq]; omega
  have e1' : decide (1 ≤ x.size) = true := by rw [decide_eq_true_eq]; omega
  have e2 : decide ((x.size : Int) ≤ 64) = false := by rw [decide_eq_false_iff_not]; omega
  have e2' : decide (x.size ≤ 64) = false := by rw [decide_eq_false_iff_not]; omega
  clear hn hl hm
  go_enter Tryd.func24, Tryd.ntmps24
  go_wp2_with fail
  go_quiet (fail)
  go_wp2
  go_ret
  exact ⟨rfl, below_drewN HB0.out _⟩
set_option maxRecDepth 100000 in
set_option maxHeartbeats 2000000 in
theorem poss_bad5 (x : ByteArray) (n l c : Int) (w : World) (hn : n = 0) (hl : 1 ≤ x.size) (hm : x.size ≤ 64) (r : Nat) (HR : Hid (∀ w, Calls Tryd.prog 37 #[.string x, .int .i64 0, .int .i64 2] w fun e w' => e = .returned (.int .i64 (r : Nat)) ∧ w = w')) (hr : ¬ r = x.size) :
    Calls Tryd.prog 24 #[.agg #[.int .i64 5, .string x, .int .i64 n, .int .i64 l, .int .i64 c]] w fun e w' => e = .returned (.bool false) ∧ Below w.heap.size w w' := by
  have HB0 := Lib.hid (below_alloc w (.cells #[.int .i64 5, .string x, .int .i64 n, .int .i64 l, .int .i64 c] 40))
  have t0 : (n == 0) = true := by rw [beq_iff_eq]; exact hn
  have e1 : decide ((1 : Int) ≤ (x.size : Int)) = true := by rw [decide_eq_true_eq]; omega
  have e1' : decide (1 ≤ x.size) = true := by rw [decide_eq_true_eq]; omega
  have e2 : decide ((x.size : Int) ≤ 64) = true := by rw [decide_eq_true_eq]; omega
  have e2' : decide (x.size ≤ 64) = true := by rw [decide_eq_true_eq]; omega
  have e3 : ((r : Int) == (x.size : Int)) = false := by rw [beq_eq_false_iff_ne]; omega
  have e3' : (r == x.size) = false := by rw [beq_eq_false_iff_ne]; omega
  clear hn hl hm hr
  go_enter Tryd.func24, Tryd.ntmps24
  go_wp2_with fail
  go_quiet ((go_at_call 37; exact Calls.quiet_of_same (same_q (HR.out _))))
  go_wp2
  go_ret
  exact ⟨rfl, below_drewN HB0.out _⟩
set_option maxRecDepth 100000 in
set_option maxHeartbeats 2000000 in
theorem poss_yes5 (x : ByteArray) (n l c : Int) (w : World) (hn : n = 0) (hl : 1 ≤ x.size) (hm : x.size ≤ 64) (r : Nat) (HR : Hid (∀ w, Calls Tryd.prog 37 #[.string x, .int .i64 0, .int .i64 2] w fun e w' => e = .returned (.int .i64 (r : Nat)) ∧ w = w')) (hr : r = x.size) :
    Calls Tryd.prog 24 #[.agg #[.int .i64 5, .string x, .int .i64 n, .int .i64 l, .int .i64 c]] w fun e w' => e = .returned (.bool true) ∧ Below w.heap.size w w' := by
  have HB0 := Lib.hid (below_alloc w (.cells #[.int .i64 5, .string x, .int .i64 n, .int .i64 l, .int .i64 c] 40))
  have t0 : (n == 0) = true := by rw [beq_iff_eq]; exact hn
  have e1 : decide ((1 : Int) ≤ (x.size : Int)) = true := by rw [decide_eq_true_eq]; omega
  have e1' : decide (1 ≤ x.size) = true := by rw [decide_eq_true_eq]; omega
  have e2 : decide ((x.size : Int) ≤ 64) = true := by rw [decide_eq_true_eq]; omega
  have e2' : decide (x.size ≤ 64) = true := by rw [decide_eq_true_eq]; omega
  have e3 : ((r : Int) == (x.size : Int)) = true := by rw [beq_iff_eq]; omega
  have e3' : (r == x.size) = true := by rw [beq_iff_eq]; omega
  clear hn hl hm hr
  go_enter Tryd.func24, Tryd.ntmps24
  go_wp2_with fail
  go_quiet ((go_at_call 37; exact Calls.quiet_of_same (same_q (HR.out _))))
  go_wp2
  go_ret
  exact ⟨rfl, below_drewN HB0.out _⟩
set_option maxRecDepth 100000 in
set_option maxHeartbeats 2000000 in
theorem poss_no6 (x : ByteArray) (n l c : Int) (w : World) (hn : ¬ n = 0) :
    Calls Tryd.prog 24 #[.agg #[.int .i64 6, .string x, .int .i64 n, .int .i64 l, .int .i64 c]] w fun e w' => e = .returned (.bool false) ∧ Below w.heap.size w w' := by
  have HB0 := Lib.hid (below_alloc w (.cells #[.int .i64 6, .string x, .int .i64 n, .int .i64 l, .int .i64 c] 40))
  have t0 : (n == 0) = false := by rw [beq_eq_false_iff_ne]; exact hn
  clear hn
  go_enter Tryd.func24, Tryd.ntmps24
  go_wp2_with fail
  go_quiet (fail)
  go_wp2
  go_ret
  exact ⟨rfl, below_drewN HB0.out _⟩
set_option maxRecDepth 100000 in
set_option maxHeartbeats 2000000 in
theorem poss_many6 (x : ByteArray) (n l c : Int) (w : World) (hn : n = 0) (hm : ¬ x.size ≤ 60) :
    Calls Tryd.prog 24 #[.agg #[.int .i64 6, .string x, .int .i64 n, .int .i64 l, .int .i64 c]] w fun e w' => e = .returned (.bool false) ∧ Below w.heap.size w w' := by
  have HB0 := Lib.hid (below_alloc w (.cells #[.int .i64 6, .string x, .int .i64 n, .int .i64 l, .int .i64 c] 40))
  have t0 : (n == 0) = true := by rw [beq_iff_eq]; exact hn
  have e2 : decide ((x.size : Int) ≤ 60) = false := by rw [decide_eq_false_iff_not]; omega
  have e2' : decide (x.size ≤ 60) = false := by rw [decide_eq_false_iff_not]; omega
  clear hn hm
  go_enter Tryd.func24, Tryd.ntmps24
  go_wp2_with fail
  go_quiet (fail)
  go_wp2
  go_ret
  exact ⟨rfl, below_drewN HB0.out _⟩
set_option maxRecDepth 100000 in
set_option maxHeartbeats 2000000 in
theorem poss_bad6 (x : ByteArray) (n l c : Int) (w : World) (hn : n = 0) (hm : x.size ≤ 60) (r : Nat) (HR : Hid (∀ w, Calls Tryd.prog 37 #[.string x, .int .i64 0, .int .i64 3] w fun e w' => e = .returned (.int .i64 (r : Nat)) ∧ w = w')) (hr : ¬ r = x.size) :
    Calls Tryd.prog 24 #[.agg #[.int .i64 6, .string x, .int .i64 n, .int .i64 l, .int .i64 c]] w fun e w' => e = .returned (.bool false) ∧ Below w.heap.size w w' := by
  have HB0 := Lib.hid (below_alloc w (.cells #[.int .i64 6, .string x, .int .i64 n, .int .i64 l, .int .i64 c] 40))
  have t0 : (n == 0) = true := by rw [beq_iff_eq]; exact hn
  have e2 : decide ((x.size : Int) ≤ 60) = true := by rw [decide_eq_true_eq]; omega
  have e2' : decide (x.size ≤ 60) = true := by rw [decide_eq_true_eq]; omega
  have e3 : ((r : Int) == (x.size : Int)) = false := by rw [beq_eq_false_iff_ne]; omega
  have e3' : (r == x.size) = false := by rw [beq_eq_false_iff_ne]; omega
  clear hn hm hr
  go_enter Tryd.func24, Tryd.ntmps24
  go_wp2_with fail
  go_quiet ((go_at_call 37; exact Calls.quiet_of_same (same_q (HR.out _))))
  go_wp2
  go_ret
  exact ⟨rfl, below_drewN HB0.out _⟩
set_option maxRecDepth 100000 in
set_option maxHeartbeats 2000000 in
theorem poss_yes6 (x : ByteArray) (n l c : Int) (w : World) (hn : n = 0) (hm : x.size ≤ 60) (r : Nat) (HR : Hid (∀ w, Calls Tryd.prog 37 #[.string x, .int .i64 0, .int .i64 3] w fun e w' => e = .returned (.int .i64 (r : Nat)) ∧ w = w')) (hr : r = x.size) :
    Calls Tryd.prog 24 #[.agg #[.int .i64 6, .string x, .int .i64 n, .int .i64 l, .int .i64 c]] w fun e w' => e = .returned (.bool true) ∧ Below w.heap.size w w' := by
  have HB0 := Lib.hid (below_alloc w (.cells #[.int .i64 6, .string x, .int .i64 n, .int .i64 l, .int .i64 c] 40))
  have t0 : (n == 0) = true := by rw [beq_iff_eq]; exact hn
  have e2 : decide ((x.size : Int) ≤ 60) = true := by rw [decide_eq_true_eq]; omega
  have e2' : decide (x.size ≤ 60) = true := by rw [decide_eq_true_eq]; omega
  have e3 : ((r : Int) == (x.size : Int)) = true := by rw [beq_iff_eq]; omega
  have e3' : (r == x.size) = true := by rw [beq_iff_eq]; omega
  clear hn hm hr
  go_enter Tryd.func24, Tryd.ntmps24
  go_wp2_with fail
  go_quiet ((go_at_call 37; exact Calls.quiet_of_same (same_q (HR.out _))))
  go_wp2
  go_ret
  exact ⟨rfl, below_drewN HB0.out _⟩
set_option maxRecDepth 100000 in
set_option maxHeartbeats 2000000 in
theorem poss_no7 (x : ByteArray) (n l c : Int) (w : World) (hn : ¬ n = 0) :
    Calls Tryd.prog 24 #[.agg #[.int .i64 7, .string x, .int .i64 n, .int .i64 l, .int .i64 c]] w fun e w' => e = .returned (.bool false) ∧ Below w.heap.size w w' := by
  have HB0 := Lib.hid (below_alloc w (.cells #[.int .i64 7, .string x, .int .i64 n, .int .i64 l, .int .i64 c] 40))
  have t0 : (n == 0) = false := by rw [beq_eq_false_iff_ne]; exact hn
  clear hn
  go_enter Tryd.func24, Tryd.ntmps24
  go_wp2_with fail
  go_quiet (fail)
  go_wp2
  go_ret
  exact ⟨rfl, below_drewN HB0.out _⟩
set_option maxRecDepth 100000 in
set_option maxHeartbeats 2000000 in
theorem poss_yes7 (x : ByteArray) (n l c : Int) (w : World) (hn : n = 0) :
    Calls Tryd.prog 24 #[.agg #[.int .i64 7, .string x, .int .i64 n, .int .i64 l, .int .i64 c]] w fun e w' => e = .returned (.bool (memL signsL (bl x))) ∧ Below w.heap.size w w' := by
  have HB0 := Lib.hid (below_alloc w (.cells #[.int .i64 7, .string x, .int .i64 n, .int .i64 l, .int .i64 c] 40))
  have t0 : (n == 0) = true := by rw [beq_iff_eq]; exact hn
  clear hn
  go_enter Tryd.func24, Tryd.ntmps24
  go_wp2_with fail
  go_region_with (first | (go_at_call 41; refine (signs_any _).mono ?_; rintro e w1 ⟨v, rfl, hs1, hb1⟩; have HS1 := Lib.hid hs1; have hc1 := (hb1.cell (p := ⟨w.heap.size, 1, none⟩) (by first | (show w.heap.size < (w.alloc _).heap.size; rw [World.size_alloc]; omega) | (simp; done))).trans (show (w.alloc (.cells #[.int .i64 7, .string x, .int .i64 n, .int .i64 l, .int .i64 c] 40)).cell? ⟨w.heap.size, 1, none⟩ = some (.string x) by rw [World.cell?_alloc_at _ _ _ _ rfl]; rfl); have HB1 := Lib.hid (show Below w.heap.size w w1 from (below_drewN HB0.out 1).trans (hb1.mono (below_drewN HB0.out 1).size)); clear hs1 hb1) | (go_at_call 38; refine (member_any _ _ x _ HS1.out).mono ?_; rintro e w' ⟨rfl, rfl⟩))
  all_goals
    go_wp2
    go_ret
    exact ⟨rfl, HB1.out⟩
set_option maxRecDepth 100000 in
set_option maxHeartbeats 2000000 in
theorem poss_other (x : ByteArray) (n l c : Int) (w : World) (o : Int) (h1 : (o == 1) = false) (h2 : (o == 2) = false) (h3 : (o == 3) = false) (h4 : (o == 4) = false) (h5 : (o == 5) = false) (h6 : (o == 6) = false) (h7 : (o == 7) = false) :
    Calls Tryd.prog 24 #[.agg #[.int .i64 o, .string x, .int .i64 n, .int .i64 l, .int .i64 c]] w fun e w' => e = .returned (.bool false) ∧ Below w.heap.size w w' := by
  have HB0 := Lib.hid (below_alloc w (.cells #[.int .i64 o, .string x, .int .i64 n, .int .i64 l, .int .i64 c] 40))
  skip
  go_enter Tryd.func24, Tryd.ntmps24
  go_wp2
  go_ret
  exact ⟨rfl, HB0.out⟩
end Go.Proofs.YtfjeljehodbbmaaDoor
