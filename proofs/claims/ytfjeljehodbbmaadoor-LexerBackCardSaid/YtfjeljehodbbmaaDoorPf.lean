/- The contract of the program's first, branch by branch. -/
import Derived.Test.YtfjeljehodbbmaaDoorPq
namespace Go.Proofs.YtfjeljehodbbmaaDoor
open Go.RowKit

set_option maxRecDepth 100000 in
set_option maxHeartbeats 4000000 in
theorem first_vec (s : ByteArray) (w : World) (h0 : 0 < s.size) (hs : s.size ≤ 140737488355328) (o : Nat) (x : ByteArray) (n m : Nat) (HP : Hid (∀ w, Calls Tryd.prog 44 #[.string s, .string ⟨#[98, 34]⟩] w fun e w' => e = .returned (.bool true) ∧ w = w')) (HQ : Hid (∀ u, Below w.heap.size w u → Calls Tryd.prog 45 #[.string s, .string ⟨#[98, 34]⟩, .string ⟨#[34]⟩, .int .i64 5, .func (.func 46) #[] #[]] u fun e w' => e = .returned (.tuple #[tkV o x n, .int .i64 (m : Nat)]) ∧ Below u.heap.size u w')) :
    Calls Tryd.prog 28 #[.string s] w fun e w' => e = .returned (.tuple #[tkV o x n, .int .i64 (m : Nat)]) ∧ Below w.heap.size w w' := by
  unfold tkV at *
  have t0 : s.toList.isEmpty = false := by
    rw [bl_toList]
    cases hb : bl s with
    | nil => have := bl_len s; rw [hb] at this; simp at this; omega
    | cons a r => rfl
  have d0 : decide ((0 : Int) < (s.size : Int)) = true := by rw [decide_eq_true_eq]; omega
  go_enter Tryd.func28, Tryd.ntmps28
  go_wp2_with fail
  refine (HP.out _).mono ?_
  rintro e w' ⟨rfl, rfl⟩
  go_wp2_with fail
  refine (HQ.out _ (below_alloc _ _)).mono ?_
  rintro e w1 HH
  obtain ⟨he, hb1⟩ := HH
  subst he
  obtain ⟨q0, q1, q2, q3, q4, qf, hBw⟩ := tok_cells hb1
  obtain ⟨r0, r1, r2, r3, r4, hbs, hcs⟩ := tok_store q0 q1 q2 q3 q4 (.int .i64 (o : Nat)) (.string x) (.int .i64 (n : Nat)) (.int .i64 0) (.int .i64 0)
  have HBf := Lib.hid (hBw.trans hbs)
  clear hbs hcs hBw hb1
  go_wp2
  (try simp only [Exit.inBlock, Exit.then])
  refine bodyPost_ret (by simp [results, Tryd.results28, go_sem, r0, r1, r2, r3, r4]; try rfl) rfl ?_
  exact ⟨rfl, HBf.out⟩
set_option maxRecDepth 100000 in
set_option maxHeartbeats 4000000 in
theorem first_text (s : ByteArray) (w : World) (h0 : 0 < s.size) (hs : s.size ≤ 140737488355328) (o : Nat) (x : ByteArray) (n m : Nat) (HP : Hid (∀ w, Calls Tryd.prog 44 #[.string s, .string ⟨#[98, 34]⟩] w fun e w' => e = .returned (.bool false) ∧ w = w')) (t1 : (((s[0]'h0).toNat : Int) == 34) = true) (HQ : Hid (∀ u, Below w.heap.size w u → Calls Tryd.prog 45 #[.string s, .string ⟨#[34]⟩, .string ⟨#[34]⟩, .int .i64 6, .func (.func 47) #[] #[]] u fun e w' => e = .returned (.tuple #[tkV o x n, .int .i64 (m : Nat)]) ∧ Below u.heap.size u w')) :
    Calls Tryd.prog 28 #[.string s] w fun e w' => e = .returned (.tuple #[tkV o x n, .int .i64 (m : Nat)]) ∧ Below w.heap.size w w' := by
  unfold tkV at *
  have t0 : s.toList.isEmpty = false := by
    rw [bl_toList]
    cases hb : bl s with
    | nil => have := bl_len s; rw [hb] at this; simp at this; omega
    | cons a r => rfl
  have d0 : decide ((0 : Int) < (s.size : Int)) = true := by rw [decide_eq_true_eq]; omega
  go_enter Tryd.func28, Tryd.ntmps28
  go_wp2_with fail
  refine (HP.out _).mono ?_
  rintro e w' ⟨rfl, rfl⟩
  go_wp2_with fail
  refine (HQ.out _ (below_alloc _ _)).mono ?_
  rintro e w1 HH
  obtain ⟨he, hb1⟩ := HH
  subst he
  obtain ⟨q0, q1, q2, q3, q4, qf, hBw⟩ := tok_cells hb1
  obtain ⟨r0, r1, r2, r3, r4, hbs, hcs⟩ := tok_store q0 q1 q2 q3 q4 (.int .i64 (o : Nat)) (.string x) (.int .i64 (n : Nat)) (.int .i64 0) (.int .i64 0)
  have HBf := Lib.hid (hBw.trans hbs)
  clear hbs hcs hBw hb1
  go_wp2
  (try simp only [Exit.inBlock, Exit.then])
  refine bodyPost_ret (by simp [results, Tryd.results28, go_sem, r0, r1, r2, r3, r4]; try rfl) rfl ?_
  exact ⟨rfl, HBf.out⟩
set_option maxRecDepth 100000 in
set_option maxHeartbeats 4000000 in
theorem first_bit (s : ByteArray) (w : World) (h0 : 0 < s.size) (hs : s.size ≤ 140737488355328) (o : Nat) (x : ByteArray) (n m : Nat) (HP : Hid (∀ w, Calls Tryd.prog 44 #[.string s, .string ⟨#[98, 34]⟩] w fun e w' => e = .returned (.bool false) ∧ w = w')) (t1 : (((s[0]'h0).toNat : Int) == 34) = false) (t2 : (((s[0]'h0).toNat : Int) == 39) = true) (HQ : Hid (∀ u, Below w.heap.size w u → Calls Tryd.prog 45 #[.string s, .string ⟨#[39]⟩, .string ⟨#[39]⟩, .int .i64 4, .func (.func 48) #[] #[]] u fun e w' => e = .returned (.tuple #[tkV o x n, .int .i64 (m : Nat)]) ∧ Below u.heap.size u w')) :
    Calls Tryd.prog 28 #[.string s] w fun e w' => e = .returned (.tuple #[tkV o x n, .int .i64 (m : Nat)]) ∧ Below w.heap.size w w' := by
  unfold tkV at *
  have t0 : s.toList.isEmpty = false := by
    rw [bl_toList]
    cases hb : bl s with
    | nil => have := bl_len s; rw [hb] at this; simp at this; omega
    | cons a r => rfl
  have d0 : decide ((0 : Int) < (s.size : Int)) = true := by rw [decide_eq_true_eq]; omega
  go_enter Tryd.func28, Tryd.ntmps28
  go_wp2_with fail
  refine (HP.out _).mono ?_
  rintro e w' ⟨rfl, rfl⟩
  go_wp2_with fail
  refine (HQ.out _ (below_alloc _ _)).mono ?_
  rintro e w1 HH
  obtain ⟨he, hb1⟩ := HH
  subst he
  obtain ⟨q0, q1, q2, q3, q4, qf, hBw⟩ := tok_cells hb1
  obtain ⟨r0, r1, r2, r3, r4, hbs, hcs⟩ := tok_store q0 q1 q2 q3 q4 (.int .i64 (o : Nat)) (.string x) (.int .i64 (n : Nat)) (.int .i64 0) (.int .i64 0)
  have HBf := Lib.hid (hBw.trans hbs)
  clear hbs hcs hBw hb1
  go_wp2
  (try simp only [Exit.inBlock, Exit.then])
  refine bodyPost_ret (by simp [results, Tryd.results28, go_sem, r0, r1, r2, r3, r4]; try rfl) rfl ?_
  exact ⟨rfl, HBf.out⟩
set_option maxRecDepth 100000 in
set_option maxHeartbeats 4000000 in
theorem first_word (s : ByteArray) (w : World) (h0 : 0 < s.size) (hs : s.size ≤ 140737488355328) (o : Nat) (x : ByteArray) (n m : Nat) (HP : Hid (∀ w, Calls Tryd.prog 44 #[.string s, .string ⟨#[98, 34]⟩] w fun e w' => e = .returned (.bool false) ∧ w = w')) (t1 : (((s[0]'h0).toNat : Int) == 34) = false) (t2 : (((s[0]'h0).toNat : Int) == 39) = false) (HL : Hid (∀ w, Calls Tryd.prog 34 #[.int .u8 (((s[0]'h0).toNat : Nat) : Int)] w fun e w' => e = .returned (.bool true) ∧ w = w')) (k : Nat) (hk : k ≤ s.size) (HW : Hid (∀ w, Calls Tryd.prog 35 #[.string s] w fun e w' => e = .returned (.int .i64 (k : Nat)) ∧ w = w')) (y : ByteArray) (hy : s.extract 0 k = y) (HQ : Hid (∀ u, Below w.heap.size w u → Calls Tryd.prog 49 #[.string y] u fun e w' => e = .returned (.tuple #[tkV o x n, .int .i64 (m : Nat)]) ∧ Below u.heap.size u w')) :
    Calls Tryd.prog 28 #[.string s] w fun e w' => e = .returned (.tuple #[tkV o x n, .int .i64 (m : Nat)]) ∧ Below w.heap.size w w' := by
  unfold tkV at *
  have t0 : s.toList.isEmpty = false := by
    rw [bl_toList]
    cases hb : bl s with
    | nil => have := bl_len s; rw [hb] at this; simp at this; omega
    | cons a r => rfl
  have d0 : decide ((0 : Int) < (s.size : Int)) = true := by rw [decide_eq_true_eq]; omega
  go_enter Tryd.func28, Tryd.ntmps28
  go_wp2_with fail
  refine (HP.out _).mono ?_
  rintro e w' ⟨rfl, rfl⟩
  go_wp2_with fail
  refine (HL.out _).mono ?_
  rintro e w' ⟨rfl, rfl⟩
  go_wp2_with fail
  refine (HW.out _).mono ?_
  rintro e w' ⟨rfl, rfl⟩
  go_wp2_with fail
  refine (HQ.out _ (below_alloc _ _)).mono ?_
  rintro e w1 HH
  obtain ⟨he, hb1⟩ := HH
  subst he
  obtain ⟨q0, q1, q2, q3, q4, qf, hBw⟩ := tok_cells hb1
  obtain ⟨r0, r1, r2, r3, r4, hbs, hcs⟩ := tok_store q0 q1 q2 q3 q4 (.int .i64 (o : Nat)) (.string x) (.int .i64 (n : Nat)) (.int .i64 0) (.int .i64 0)
  have HBf := Lib.hid (hBw.trans hbs)
  clear hbs hcs hBw hb1
  go_wp2
  (try simp only [Exit.inBlock, Exit.then])
  refine bodyPost_ret (by simp [results, Tryd.results28, go_sem, r0, r1, r2, r3, r4]; try rfl) rfl ?_
  exact ⟨rfl, HBf.out⟩
set_option maxRecDepth 100000 in
set_option maxHeartbeats 4000000 in
theorem first_num (s : ByteArray) (w : World) (h0 : 0 < s.size) (hs : s.size ≤ 140737488355328) (o : Nat) (x : ByteArray) (n m : Nat) (HP : Hid (∀ w, Calls Tryd.prog 44 #[.string s, .string ⟨#[98, 34]⟩] w fun e w' => e = .returned (.bool false) ∧ w = w')) (t1 : (((s[0]'h0).toNat : Int) == 34) = false) (t2 : (((s[0]'h0).toNat : Int) == 39) = false) (HL : Hid (∀ w, Calls Tryd.prog 34 #[.int .u8 (((s[0]'h0).toNat : Nat) : Int)] w fun e w' => e = .returned (.bool false) ∧ w = w')) (HD : Hid (∀ w, Calls Tryd.prog 50 #[.int .u8 (((s[0]'h0).toNat : Nat) : Int)] w fun e w' => e = .returned (.bool true) ∧ w = w')) (k : Nat) (hk : k ≤ s.size) (HW : Hid (∀ w, Calls Tryd.prog 35 #[.string s] w fun e w' => e = .returned (.int .i64 (k : Nat)) ∧ w = w')) (y : ByteArray) (hy : s.extract 0 k = y) (HQ : Hid (∀ u, Below w.heap.size w u → Calls Tryd.prog 51 #[.string y] u fun e w' => e = .returned (.tuple #[tkV o x n, .int .i64 (m : Nat)]) ∧ Below u.heap.size u w')) :
    Calls Tryd.prog 28 #[.string s] w fun e w' => e = .returned (.tuple #[tkV o x n, .int .i64 (m : Nat)]) ∧ Below w.heap.size w w' := by
  unfold tkV at *
  have t0 : s.toList.isEmpty = false := by
    rw [bl_toList]
    cases hb : bl s with
    | nil => have := bl_len s; rw [hb] at this; simp at this; omega
    | cons a r => rfl
  have d0 : decide ((0 : Int) < (s.size : Int)) = true := by rw [decide_eq_true_eq]; omega
  go_enter Tryd.func28, Tryd.ntmps28
  go_wp2_with fail
  refine (HP.out _).mono ?_
  rintro e w' ⟨rfl, rfl⟩
  go_wp2_with fail
  refine (HL.out _).mono ?_
  rintro e w' ⟨rfl, rfl⟩
  go_wp2_with fail
  refine (HD.out _).mono ?_
  rintro e w' ⟨rfl, rfl⟩
  go_wp2_with fail
  refine (HW.out _).mono ?_
  rintro e w' ⟨rfl, rfl⟩
  go_wp2_with fail
  refine (HQ.out _ (below_alloc _ _)).mono ?_
  rintro e w1 HH
  obtain ⟨he, hb1⟩ := HH
  subst he
  obtain ⟨q0, q1, q2, q3, q4, qf, hBw⟩ := tok_cells hb1
  obtain ⟨r0, r1, r2, r3, r4, hbs, hcs⟩ := tok_store q0 q1 q2 q3 q4 (.int .i64 (o : Nat)) (.string x) (.int .i64 (n : Nat)) (.int .i64 0) (.int .i64 0)
  have HBf := Lib.hid (hBw.trans hbs)
  clear hbs hcs hBw hb1
  go_wp2
  (try simp only [Exit.inBlock, Exit.then])
  refine bodyPost_ret (by simp [results, Tryd.results28, go_sem, r0, r1, r2, r3, r4]; try rfl) rfl ?_
  exact ⟨rfl, HBf.out⟩
set_option maxRecDepth 100000 in
set_option maxHeartbeats 4000000 in
theorem first_sign (s : ByteArray) (w : World) (h0 : 0 < s.size) (hs : s.size ≤ 140737488355328) (o : Nat) (x : ByteArray) (n m : Nat) (HP : Hid (∀ w, Calls Tryd.prog 44 #[.string s, .string ⟨#[98, 34]⟩] w fun e w' => e = .returned (.bool false) ∧ w = w')) (t1 : (((s[0]'h0).toNat : Int) == 34) = false) (t2 : (((s[0]'h0).toNat : Int) == 39) = false) (HL : Hid (∀ w, Calls Tryd.prog 34 #[.int .u8 (((s[0]'h0).toNat : Nat) : Int)] w fun e w' => e = .returned (.bool false) ∧ w = w')) (HD : Hid (∀ w, Calls Tryd.prog 50 #[.int .u8 (((s[0]'h0).toNat : Nat) : Int)] w fun e w' => e = .returned (.bool false) ∧ w = w')) (HS : Hid (∀ w, Calls Tryd.prog 52 #[.string s] w fun e w' => e = .returned (.int .i64 (m : Nat)) ∧ w = w')) (hm0 : 0 < m) (hm : m ≤ s.size) (hx : s.extract 0 m = x) (ho : o = 7) (hn : n = 0) :
    Calls Tryd.prog 28 #[.string s] w fun e w' => e = .returned (.tuple #[tkV o x n, .int .i64 (m : Nat)]) ∧ Below w.heap.size w w' := by
  subst ho hn
  have d3 : ((m : Int) == 0) = false := by rw [beq_eq_false_iff_ne]; omega
  unfold tkV at *
  have t0 : s.toList.isEmpty = false := by
    rw [bl_toList]
    cases hb : bl s with
    | nil => have := bl_len s; rw [hb] at this; simp at this; omega
    | cons a r => rfl
  have d0 : decide ((0 : Int) < (s.size : Int)) = true := by rw [decide_eq_true_eq]; omega
  go_enter Tryd.func28, Tryd.ntmps28
  go_wp2_with fail
  refine (HP.out _).mono ?_
  rintro e w' ⟨rfl, rfl⟩
  go_wp2_with fail
  refine (HL.out _).mono ?_
  rintro e w' ⟨rfl, rfl⟩
  go_wp2_with fail
  refine (HD.out _).mono ?_
  rintro e w' ⟨rfl, rfl⟩
  go_wp2_with fail
  refine (HS.out _).mono ?_
  rintro e w' ⟨rfl, rfl⟩
  go_wp2
  go_returns
  exact ⟨rfl, below_alloc _ _⟩
set_option maxRecDepth 100000 in
set_option maxHeartbeats 4000000 in
theorem first_no (s : ByteArray) (w : World) (h0 : 0 < s.size) (hs : s.size ≤ 140737488355328) (o : Nat) (x : ByteArray) (n m : Nat) (HP : Hid (∀ w, Calls Tryd.prog 44 #[.string s, .string ⟨#[98, 34]⟩] w fun e w' => e = .returned (.bool false) ∧ w = w')) (t1 : (((s[0]'h0).toNat : Int) == 34) = false) (t2 : (((s[0]'h0).toNat : Int) == 39) = false) (HL : Hid (∀ w, Calls Tryd.prog 34 #[.int .u8 (((s[0]'h0).toNat : Nat) : Int)] w fun e w' => e = .returned (.bool false) ∧ w = w')) (HD : Hid (∀ w, Calls Tryd.prog 50 #[.int .u8 (((s[0]'h0).toNat : Nat) : Int)] w fun e w' => e = .returned (.bool false) ∧ w = w')) (HS : Hid (∀ w, Calls Tryd.prog 52 #[.string s] w fun e w' => e = .returned (.int .i64 (m : Nat)) ∧ w = w')) (hm : m = 0) (hx : x = ⟨#[]⟩) (ho : o = 0) (hn : n = 0) :
    Calls Tryd.prog 28 #[.string s] w fun e w' => e = .returned (.tuple #[tkV o x n, .int .i64 (m : Nat)]) ∧ Below w.heap.size w w' := by
  subst ho hn hm hx
  unfold tkV at *
  have t0 : s.toList.isEmpty = false := by
    rw [bl_toList]
    cases hb : bl s with
    | nil => have := bl_len s; rw [hb] at this; simp at this; omega
    | cons a r => rfl
  have d0 : decide ((0 : Int) < (s.size : Int)) = true := by rw [decide_eq_true_eq]; omega
  go_enter Tryd.func28, Tryd.ntmps28
  go_wp2_with fail
  refine (HP.out _).mono ?_
  rintro e w' ⟨rfl, rfl⟩
  go_wp2_with fail
  refine (HL.out _).mono ?_
  rintro e w' ⟨rfl, rfl⟩
  go_wp2_with fail
  refine (HD.out _).mono ?_
  rintro e w' ⟨rfl, rfl⟩
  go_wp2_with fail
  refine (HS.out _).mono ?_
  rintro e w' ⟨rfl, rfl⟩
  go_wp2
  go_returns
  exact ⟨rfl, below_alloc _ _⟩
theorem first_empty (w : World) :
    Calls Tryd.prog 28 #[.string ⟨#[]⟩] w fun e w' => e = .returned (.tuple #[tkV 0 ⟨#[]⟩ 0, .int .i64 0]) ∧ Below w.heap.size w w' := by
  unfold tkV
  go_enter Tryd.func28, Tryd.ntmps28
  go_wp2
  go_returns
  exact ⟨rfl, below_alloc _ _⟩
end Go.Proofs.YtfjeljehodbbmaaDoor
