/- The contract of the reference's token: words. -/
import Derived.Test.YtfjeljehodbbmaaDoorTk
import Derived.Handy
namespace Go.Proofs.YtfjeljehodbbmaaDoor
open Go.RowKit

theorem res_cells (w w1 : World) (hb : Below (w.alloc (.cells #[.int .i64 0, .string ⟨#[]⟩, .int .i64 0, .int .i64 0, .int .i64 0] 40)).heap.size (w.alloc (.cells #[.int .i64 0, .string ⟨#[]⟩, .int .i64 0, .int .i64 0, .int .i64 0] 40)) w1) :
    w1.cell? ⟨w.heap.size, 0, none⟩ = some (.int .i64 0) ∧ w1.cell? ⟨w.heap.size, 1, none⟩ = some (.string ⟨#[]⟩) ∧ w1.cell? ⟨w.heap.size, 2, none⟩ = some (.int .i64 0) ∧ w1.cell? ⟨w.heap.size, 3, none⟩ = some (.int .i64 0) ∧ w1.cell? ⟨w.heap.size, 4, none⟩ = some (.int .i64 0)
    ∧ (∀ k, w1.frozen? ⟨w.heap.size, k, none⟩ = false) ∧ Below w.heap.size w w1 := by
  have hl : w.heap.size < (w.alloc (.cells #[.int .i64 0, .string ⟨#[]⟩, .int .i64 0, .int .i64 0, .int .i64 0] 40)).heap.size := by rw [World.size_alloc]; omega
  have hb2 := (below_alloc w (.cells #[.int .i64 0, .string ⟨#[]⟩, .int .i64 0, .int .i64 0, .int .i64 0] 40))
  refine ⟨?_, ?_, ?_, ?_, ?_, ?_, below_then hb2 hb⟩
  · rw [hb.cell (by exact hl), World.cell?_alloc_at _ _ _ _ rfl]; rfl
  · rw [hb.cell (by exact hl), World.cell?_alloc_at _ _ _ _ rfl]; rfl
  · rw [hb.cell (by exact hl), World.cell?_alloc_at _ _ _ _ rfl]; rfl
  · rw [hb.cell (by exact hl), World.cell?_alloc_at _ _ _ _ rfl]; rfl
  · rw [hb.cell (by exact hl), World.cell?_alloc_at _ _ _ _ rfl]; rfl
  · intro k
    rw [hb.frozen (by exact hl), World.frozen?_alloc_at _ _ _ _ rfl]
theorem res_later (w w1 w2 : World) (hs : w.heap.size < w1.heap.size) {v0 v1 v2 v3 v4 : Value} (q0 : w1.cell? ⟨w.heap.size, 0, none⟩ = some v0) (q1 : w1.cell? ⟨w.heap.size, 1, none⟩ = some v1) (q2 : w1.cell? ⟨w.heap.size, 2, none⟩ = some v2) (q3 : w1.cell? ⟨w.heap.size, 3, none⟩ = some v3) (q4 : w1.cell? ⟨w.heap.size, 4, none⟩ = some v4)
    (qf : ∀ k, w1.frozen? ⟨w.heap.size, k, none⟩ = false) (hB : Below w.heap.size w w1) (hb : Below w1.heap.size w1 w2) :
    w2.cell? ⟨w.heap.size, 0, none⟩ = some v0 ∧ w2.cell? ⟨w.heap.size, 1, none⟩ = some v1 ∧ w2.cell? ⟨w.heap.size, 2, none⟩ = some v2 ∧ w2.cell? ⟨w.heap.size, 3, none⟩ = some v3 ∧ w2.cell? ⟨w.heap.size, 4, none⟩ = some v4
    ∧ (∀ k, w2.frozen? ⟨w.heap.size, k, none⟩ = false) ∧ Below w.heap.size w w2 :=
  ⟨(hb.cell hs).trans q0, (hb.cell hs).trans q1, (hb.cell hs).trans q2, (hb.cell hs).trans q3, (hb.cell hs).trans q4, fun k => (hb.frozen hs).trans (qf k), below_then hB hb⟩
theorem res_store {w : World} {B : Nat} {u0 u1 u2 u3 u4 : Value} (q0 : w.cell? ⟨B, 0, none⟩ = some u0) (q1 : w.cell? ⟨B, 1, none⟩ = some u1) (q2 : w.cell? ⟨B, 2, none⟩ = some u2) (q3 : w.cell? ⟨B, 3, none⟩ = some u3) (q4 : w.cell? ⟨B, 4, none⟩ = some u4) (v0 v1 v2 v3 v4 : Value) :
    (w.setCell ⟨B, 0, none⟩ v0).cell? ⟨B, 0, none⟩ = some v0 ∧ ((w.setCell ⟨B, 0, none⟩ v0).setCell ⟨B, 1, none⟩ v1).cell? ⟨B, 1, none⟩ = some v1 ∧ (((w.setCell ⟨B, 0, none⟩ v0).setCell ⟨B, 1, none⟩ v1).setCell ⟨B, 2, none⟩ v2).cell? ⟨B, 2, none⟩ = some v2
    ∧ ((((w.setCell ⟨B, 0, none⟩ v0).setCell ⟨B, 1, none⟩ v1).setCell ⟨B, 2, none⟩ v2).setCell ⟨B, 3, none⟩ v3).cell? ⟨B, 3, none⟩ = some v3
    ∧ (((((w.setCell ⟨B, 0, none⟩ v0).setCell ⟨B, 1, none⟩ v1).setCell ⟨B, 2, none⟩ v2).setCell ⟨B, 3, none⟩ v3).setCell ⟨B, 4, none⟩ v4).cell? ⟨B, 4, none⟩ = some v4
    ∧ Below B w (((((w.setCell ⟨B, 0, none⟩ v0).setCell ⟨B, 1, none⟩ v1).setCell ⟨B, 2, none⟩ v2).setCell ⟨B, 3, none⟩ v3).setCell ⟨B, 4, none⟩ v4) := by
  have ne : ∀ (i j : Nat), i ≠ j → (⟨B, i, none⟩ : Addr) ≠ ⟨B, j, none⟩ := fun i j h e => h (by injection e)
  have st : ∀ (w : World) (k : Nat) (v : Value), Below B w (w.setCell ⟨B, k, none⟩ v) := fun w k v => (Below.refl B w).setCell (show B ≤ B from Nat.le_refl B) v
  refine ⟨World.cell?_setCell_same _ _ _ q0, World.cell?_setCell_same _ _ _ (u := u1) ?_, World.cell?_setCell_same _ _ _ (u := u2) ?_, World.cell?_setCell_same _ _ _ (u := u3) ?_, World.cell?_setCell_same _ _ _ (u := u4) ?_, ((((st _ _ _).trans (st _ _ _)).trans (st _ _ _)).trans (st _ _ _)).trans (st _ _ _)⟩
  · rw [World.cell?_setCell_other (h := ne _ _ (by decide))]; exact q1
  · rw [World.cell?_setCell_other (h := ne _ _ (by decide)), World.cell?_setCell_other (h := ne _ _ (by decide))]; exact q2
  · rw [World.cell?_setCell_other (h := ne _ _ (by decide)), World.cell?_setCell_other (h := ne _ _ (by decide)), World.cell?_setCell_other (h := ne _ _ (by decide))]; exact q3
  · rw [World.cell?_setCell_other (h := ne _ _ (by decide)), World.cell?_setCell_other (h := ne _ _ (by decide)), World.cell?_setCell_other (h := ne _ _ (by decide)), World.cell?_setCell_other (h := ne _ _ (by decide))]; exact q4
theorem res_size {w : World} {B : Nat} {v : Value} (h : w.cell? ⟨B, 0, none⟩ = some v) : B < w.heap.size := block_lt_of_cell h
set_option maxRecDepth 100000 in
set_option maxHeartbeats 2000000 in
theorem token_word_a (s : ByteArray) (i : Nat) (w : World) (hs : s.size ≤ 140737488355328) (h0 : i < s.size) (hx : (((s[i]'h0).toNat : Int) == 98) = false) (b r : Nat) (hib : (i : Int) + (r : Int) = (b : Int)) (hble : b ≤ s.size) (hab : i ≤ b) (hsz : (s.extract i b).size = r) (HR : Hid (∀ w, Calls Tryd.prog 37 #[.string s, .int .i64 i, .int .i64 1] w fun e w' => e = .returned (.int .i64 (r : Nat)) ∧ w = w')) (HL : Hid (∀ w, Calls Tryd.prog 36 #[.int .u8 (((s[i]'h0).toNat : Nat) : Int)] w fun e w' => e = .returned (.bool true) ∧ w = w')) (HW : Hid (∀ w, Calls Tryd.prog 23 #[.string (s.extract i b)] w fun e w' => e = .returned (.bool true) ∧ Below w.heap.size w w')) :
    Calls Tryd.prog 54 #[.string s, .int .i64 i] w fun e w' => e = .returned (.tuple #[.agg #[.int .i64 2, .string (s.extract i b), .int .i64 0, .int .i64 0, .int .i64 0], .int .i64 (r : Nat)]) ∧ Below w.heap.size w w' := by

  go_enter Tryd.func54, Tryd.ntmps54
  go_wp2_with fail
  refine (HL.out _).mono ?_
  rintro e w' ⟨rfl, rfl⟩
  go_wp2_with fail
  refine (HR.out _).mono ?_
  rintro e w' ⟨rfl, rfl⟩
  go_wp2_with fail
  refine (HW.out _).mono ?_
  rintro e w1 ⟨rfl, hb1⟩
  obtain ⟨q0, q1, q2, q3, q4, qf, hB1⟩ := res_cells w w1 hb1
  have hs1 := res_size q0
  have r := res_store q0 q1 q2 q3 q4 (.int .i64 2) (.string (s.extract i b)) (.int .i64 0) (.int .i64 0) (.int .i64 0)
  obtain ⟨r0, r1, r2, r3, r4, hbs⟩ := r
  have HB := Lib.hid (hB1.trans hbs)
  clear hbs hB1 hb1
  go_wp2
  (try simp only [Exit.inBlock, Exit.then])
  refine bodyPost_ret (by simp [results, Tryd.results54, go_sem, r0, r1, r2, r3, r4]; try rfl) rfl ?_
  exact ⟨rfl, HB.out⟩
set_option maxRecDepth 100000 in
set_option maxHeartbeats 2000000 in
theorem token_name_a (s : ByteArray) (i : Nat) (w : World) (hs : s.size ≤ 140737488355328) (h0 : i < s.size) (hx : (((s[i]'h0).toNat : Int) == 98) = false) (b r : Nat) (hib : (i : Int) + (r : Int) = (b : Int)) (hble : b ≤ s.size) (hab : i ≤ b) (hsz : (s.extract i b).size = r) (HR : Hid (∀ w, Calls Tryd.prog 37 #[.string s, .int .i64 i, .int .i64 1] w fun e w' => e = .returned (.int .i64 (r : Nat)) ∧ w = w')) (HL : Hid (∀ w, Calls Tryd.prog 36 #[.int .u8 (((s[i]'h0).toNat : Nat) : Int)] w fun e w' => e = .returned (.bool true) ∧ w = w')) (HW : Hid (∀ w, Calls Tryd.prog 23 #[.string (s.extract i b)] w fun e w' => e = .returned (.bool false) ∧ Below w.heap.size w w')) (HM : Hid (∀ w, Calls Tryd.prog 22 #[.string (s.extract i b)] w fun e w' => e = .returned (.bool true) ∧ Below w.heap.size w w')) :
    Calls Tryd.prog 54 #[.string s, .int .i64 i] w fun e w' => e = .returned (.tuple #[.agg #[.int .i64 1, .string (s.extract i b), .int .i64 0, .int .i64 0, .int .i64 0], .int .i64 (r : Nat)]) ∧ Below w.heap.size w w' := by

  go_enter Tryd.func54, Tryd.ntmps54
  go_wp2_with fail
  refine (HL.out _).mono ?_
  rintro e w' ⟨rfl, rfl⟩
  go_wp2_with fail
  refine (HR.out _).mono ?_
  rintro e w' ⟨rfl, rfl⟩
  go_wp2_with fail
  refine (HW.out _).mono ?_
  rintro e w1 ⟨rfl, hb1⟩
  obtain ⟨q0, q1, q2, q3, q4, qf, hB1⟩ := res_cells w w1 hb1
  have hs1 := res_size q0
  go_wp2_with fail
  refine (HM.out _).mono ?_
  rintro e w2 ⟨rfl, hb2⟩
  obtain ⟨q0, q1, q2, q3, q4, qf, hB2⟩ := res_later w w1 w2 hs1 q0 q1 q2 q3 q4 qf hB1 hb2
  clear hb2
  have hs2 := res_size q0
  have r := res_store q0 q1 q2 q3 q4 (.int .i64 1) (.string (s.extract i b)) (.int .i64 0) (.int .i64 0) (.int .i64 0)
  obtain ⟨r0, r1, r2, r3, r4, hbs⟩ := r
  have HB := Lib.hid (hB2.trans hbs)
  clear hbs hB2 hb1
  go_wp2
  (try simp only [Exit.inBlock, Exit.then])
  refine bodyPost_ret (by simp [results, Tryd.results54, go_sem, r0, r1, r2, r3, r4]; try rfl) rfl ?_
  exact ⟨rfl, HB.out⟩
set_option maxRecDepth 100000 in
set_option maxHeartbeats 2000000 in
theorem token_long_a (s : ByteArray) (i : Nat) (w : World) (hs : s.size ≤ 140737488355328) (h0 : i < s.size) (hx : (((s[i]'h0).toNat : Int) == 98) = false) (b r : Nat) (hib : (i : Int) + (r : Int) = (b : Int)) (hble : b ≤ s.size) (hab : i ≤ b) (_hsz : (s.extract i b).size = r) (HR : Hid (∀ w, Calls Tryd.prog 37 #[.string s, .int .i64 i, .int .i64 1] w fun e w' => e = .returned (.int .i64 (r : Nat)) ∧ w = w')) (HL : Hid (∀ w, Calls Tryd.prog 36 #[.int .u8 (((s[i]'h0).toNat : Nat) : Int)] w fun e w' => e = .returned (.bool true) ∧ w = w')) (HW : Hid (∀ w, Calls Tryd.prog 23 #[.string (s.extract i b)] w fun e w' => e = .returned (.bool false) ∧ Below w.heap.size w w')) (HM : Hid (∀ w, Calls Tryd.prog 22 #[.string (s.extract i b)] w fun e w' => e = .returned (.bool false) ∧ Below w.heap.size w w')) :
    Calls Tryd.prog 54 #[.string s, .int .i64 i] w fun e w' => e = .returned (.tuple #[.agg #[.int .i64 0, .string (⟨#[]⟩), .int .i64 0, .int .i64 0, .int .i64 0], .int .i64 0]) ∧ Below w.heap.size w w' := by

  go_enter Tryd.func54, Tryd.ntmps54
  go_wp2_with fail
  refine (HL.out _).mono ?_
  rintro e w' ⟨rfl, rfl⟩
  go_wp2_with fail
  refine (HR.out _).mono ?_
  rintro e w' ⟨rfl, rfl⟩
  go_wp2_with fail
  refine (HW.out _).mono ?_
  rintro e w1 ⟨rfl, hb1⟩
  obtain ⟨q0, q1, q2, q3, q4, qf, hB1⟩ := res_cells w w1 hb1
  have hs1 := res_size q0
  go_wp2_with fail
  refine (HM.out _).mono ?_
  rintro e w2 ⟨rfl, hb2⟩
  obtain ⟨q0, q1, q2, q3, q4, qf, hB2⟩ := res_later w w1 w2 hs1 q0 q1 q2 q3 q4 qf hB1 hb2
  clear hb2
  have hs2 := res_size q0
  have r := res_store q0 q1 q2 q3 q4 (.int .i64 0) (.string (⟨#[]⟩)) (.int .i64 0) (.int .i64 0) (.int .i64 0)
  obtain ⟨r0, r1, r2, r3, r4, hbs⟩ := r
  have HB := Lib.hid (hB2.trans hbs)
  clear hbs hB2 hb1
  go_wp2
  (try simp only [Exit.inBlock, Exit.then])
  refine bodyPost_ret (by simp [results, Tryd.results54, go_sem, r0, r1, r2, r3, r4]; try rfl) rfl ?_
  exact ⟨rfl, HB.out⟩
set_option maxRecDepth 100000 in
set_option maxHeartbeats 2000000 in
theorem token_word_b (s : ByteArray) (i : Nat) (w : World) (hs : s.size ≤ 140737488355328) (h0 : i < s.size) (j : Nat) (hij : (i : Int) + 1 = (j : Int)) (hj : ¬ j < s.size) (hjb : j ≤ 281474976710656) (hx : (((s[i]'h0).toNat : Int) == 98) = true) (b r : Nat) (hib : (i : Int) + (r : Int) = (b : Int)) (hble : b ≤ s.size) (hab : i ≤ b) (hsz : (s.extract i b).size = r) (HR : Hid (∀ w, Calls Tryd.prog 37 #[.string s, .int .i64 i, .int .i64 1] w fun e w' => e = .returned (.int .i64 (r : Nat)) ∧ w = w')) (HL : Hid (∀ w, Calls Tryd.prog 36 #[.int .u8 (((s[i]'h0).toNat : Nat) : Int)] w fun e w' => e = .returned (.bool true) ∧ w = w')) (HW : Hid (∀ w, Calls Tryd.prog 23 #[.string (s.extract i b)] w fun e w' => e = .returned (.bool true) ∧ Below w.heap.size w w')) :
    Calls Tryd.prog 54 #[.string s, .int .i64 i] w fun e w' => e = .returned (.tuple #[.agg #[.int .i64 2, .string (s.extract i b), .int .i64 0, .int .i64 0, .int .i64 0], .int .i64 (r : Nat)]) ∧ Below w.heap.size w w' := by
  have d1 : decide ((j : Int) < (s.size : Int)) = false := by rw [decide_eq_false_iff_not]; omega
  have d1' : decide (j < s.size) = false := by rw [decide_eq_false_iff_not]; omega
  clear hj
  go_enter Tryd.func54, Tryd.ntmps54
  go_wp2_with fail
  refine (HL.out _).mono ?_
  rintro e w' ⟨rfl, rfl⟩
  go_wp2_with fail
  refine (HR.out _).mono ?_
  rintro e w' ⟨rfl, rfl⟩
  go_wp2_with fail
  refine (HW.out _).mono ?_
  rintro e w1 ⟨rfl, hb1⟩
  obtain ⟨q0, q1, q2, q3, q4, qf, hB1⟩ := res_cells w w1 hb1
  have hs1 := res_size q0
  have r := res_store q0 q1 q2 q3 q4 (.int .i64 2) (.string (s.extract i b)) (.int .i64 0) (.int .i64 0) (.int .i64 0)
  obtain ⟨r0, r1, r2, r3, r4, hbs⟩ := r
  have HB := Lib.hid (hB1.trans hbs)
  clear hbs hB1 hb1
  go_wp2
  (try simp only [Exit.inBlock, Exit.then])
  refine bodyPost_ret (by simp [results, Tryd.results54, go_sem, r0, r1, r2, r3, r4]; try rfl) rfl ?_
  exact ⟨rfl, HB.out⟩
set_option maxRecDepth 100000 in
set_option maxHeartbeats 2000000 in
theorem token_name_b (s : ByteArray) (i : Nat) (w : World) (hs : s.size ≤ 140737488355328) (h0 : i < s.size) (j : Nat) (hij : (i : Int) + 1 = (j : Int)) (hj : ¬ j < s.size) (hjb : j ≤ 281474976710656) (hx : (((s[i]'h0).toNat : Int) == 98) = true) (b r : Nat) (hib : (i : Int) + (r : Int) = (b : Int)) (hble : b ≤ s.size) (hab : i ≤ b) (hsz : (s.extract i b).size = r) (HR : Hid (∀ w, Calls Tryd.prog 37 #[.string s, .int .i64 i, .int .i64 1] w fun e w' => e = .returned (.int .i64 (r : Nat)) ∧ w = w')) (HL : Hid (∀ w, Calls Tryd.prog 36 #[.int .u8 (((s[i]'h0).toNat : Nat) : Int)] w fun e w' => e = .returned (.bool true) ∧ w = w')) (HW : Hid (∀ w, Calls Tryd.prog 23 #[.string (s.extract i b)] w fun e w' => e = .returned (.bool false) ∧ Below w.heap.size w w')) (HM : Hid (∀ w, Calls Tryd.prog 22 #[.string (s.extract i b)] w fun e w' => e = .returned (.bool true) ∧ Below w.heap.size w w')) :
    Calls Tryd.prog 54 #[.string s, .int .i64 i] w fun e w' => e = .returned (.tuple #[.agg #[.int .i64 1, .string (s.extract i b), .int .i64 0, .int .i64 0, .int .i64 0], .int .i64 (r : Nat)]) ∧ Below w.heap.size w w' := by
  have d1 : decide ((j : Int) < (s.size : Int)) = false := by rw [decide_eq_false_iff_not]; omega
  have d1' : decide (j < s.size) = false := by rw [decide_eq_false_iff_not]; omega
  clear hj
  go_enter Tryd.func54, Tryd.ntmps54
  go_wp2_with fail
  refine (HL.out _).mono ?_
  rintro e w' ⟨rfl, rfl⟩
  go_wp2_with fail
  refine (HR.out _).mono ?_
  rintro e w' ⟨rfl, rfl⟩
  go_wp2_with fail
  refine (HW.out _).mono ?_
  rintro e w1 ⟨rfl, hb1⟩
  obtain ⟨q0, q1, q2, q3, q4, qf, hB1⟩ := res_cells w w1 hb1
  have hs1 := res_size q0
  go_wp2_with fail
  refine (HM.out _).mono ?_
  rintro e w2 ⟨rfl, hb2⟩
  obtain ⟨q0, q1, q2, q3, q4, qf, hB2⟩ := res_later w w1 w2 hs1 q0 q1 q2 q3 q4 qf hB1 hb2
  clear hb2
  have hs2 := res_size q0
  have r := res_store q0 q1 q2 q3 q4 (.int .i64 1) (.string (s.extract i b)) (.int .i64 0) (.int .i64 0) (.int .i64 0)
  obtain ⟨r0, r1, r2, r3, r4, hbs⟩ := r
  have HB := Lib.hid (hB2.trans hbs)
  clear hbs hB2 hb1
  go_wp2
  (try simp only [Exit.inBlock, Exit.then])
  refine bodyPost_ret (by simp [results, Tryd.results54, go_sem, r0, r1, r2, r3, r4]; try rfl) rfl ?_
  exact ⟨rfl, HB.out⟩
set_option maxRecDepth 100000 in
set_option maxHeartbeats 2000000 in
theorem token_long_b (s : ByteArray) (i : Nat) (w : World) (hs : s.size ≤ 140737488355328) (h0 : i < s.size) (j : Nat) (hij : (i : Int) + 1 = (j : Int)) (hj : ¬ j < s.size) (hjb : j ≤ 281474976710656) (hx : (((s[i]'h0).toNat : Int) == 98) = true) (b r : Nat) (hib : (i : Int) + (r : Int) = (b : Int)) (hble : b ≤ s.size) (hab : i ≤ b) (hsz : (s.extract i b).size = r) (HR : Hid (∀ w, Calls Tryd.prog 37 #[.string s, .int .i64 i, .int .i64 1] w fun e w' => e = .returned (.int .i64 (r : Nat)) ∧ w = w')) (HL : Hid (∀ w, Calls Tryd.prog 36 #[.int .u8 (((s[i]'h0).toNat : Nat) : Int)] w fun e w' => e = .returned (.bool true) ∧ w = w')) (HW : Hid (∀ w, Calls Tryd.prog 23 #[.string (s.extract i b)] w fun e w' => e = .returned (.bool false) ∧ Below w.heap.size w w')) (HM : Hid (∀ w, Calls Tryd.prog 22 #[.string (s.extract i b)] w fun e w' => e = .returned (.bool false) ∧ Below w.heap.size w w')) :
    Calls Tryd.prog 54 #[.string s, .int .i64 i] w fun e w' => e = .returned (.tuple #[.agg #[.int .i64 0, .string (⟨#[]⟩), .int .i64 0, .int .i64 0, .int .i64 0], .int .i64 0]) ∧ Below w.heap.size w w' := by
  have d1 : decide ((j : Int) < (s.size : Int)) = false := by rw [decide_eq_false_iff_not]; omega
  have d1' : decide (j < s.size) = false := by rw [decide_eq_false_iff_not]; omega
  clear hj
  go_enter Tryd.func54, Tryd.ntmps54
  go_wp2_with fail
  refine (HL.out _).mono ?_
  rintro e w' ⟨rfl, rfl⟩
  go_wp2_with fail
  refine (HR.out _).mono ?_
  rintro e w' ⟨rfl, rfl⟩
  go_wp2_with fail
  refine (HW.out _).mono ?_
  rintro e w1 ⟨rfl, hb1⟩
  obtain ⟨q0, q1, q2, q3, q4, qf, hB1⟩ := res_cells w w1 hb1
  have hs1 := res_size q0
  go_wp2_with fail
  refine (HM.out _).mono ?_
  rintro e w2 ⟨rfl, hb2⟩
  obtain ⟨q0, q1, q2, q3, q4, qf, hB2⟩ := res_later w w1 w2 hs1 q0 q1 q2 q3 q4 qf hB1 hb2
  clear hb2
  have hs2 := res_size q0
  have r := res_store q0 q1 q2 q3 q4 (.int .i64 0) (.string (⟨#[]⟩)) (.int .i64 0) (.int .i64 0) (.int .i64 0)
  obtain ⟨r0, r1, r2, r3, r4, hbs⟩ := r
  have HB := Lib.hid (hB2.trans hbs)
  clear hbs hB2 hb1
  go_wp2
  (try simp only [Exit.inBlock, Exit.then])
  refine bodyPost_ret (by simp [results, Tryd.results54, go_sem, r0, r1, r2, r3, r4]; try rfl) rfl ?_
  exact ⟨rfl, HB.out⟩
set_option maxRecDepth 100000 in
set_option maxHeartbeats 2000000 in
theorem token_word_c (s : ByteArray) (i : Nat) (w : World) (hs : s.size ≤ 140737488355328) (h0 : i < s.size) (j : Nat) (hij : (i : Int) + 1 = (j : Int)) (h1 : j < s.size) (hx : (((s[i]'h0).toNat : Int) == 98) = true) (hy : ((((s[j]'h1).toNat : Nat) : Int) == 34) = false) (b r : Nat) (hib : (i : Int) + (r : Int) = (b : Int)) (hble : b ≤ s.size) (hab : i ≤ b) (hsz : (s.extract i b).size = r) (HR : Hid (∀ w, Calls Tryd.prog 37 #[.string s, .int .i64 i, .int .i64 1] w fun e w' => e = .returned (.int .i64 (r : Nat)) ∧ w = w')) (HL : Hid (∀ w, Calls Tryd.prog 36 #[.int .u8 (((s[i]'h0).toNat : Nat) : Int)] w fun e w' => e = .returned (.bool true) ∧ w = w')) (HW : Hid (∀ w, Calls Tryd.prog 23 #[.string (s.extract i b)] w fun e w' => e = .returned (.bool true) ∧ Below w.heap.size w w')) :
    Calls Tryd.prog 54 #[.string s, .int .i64 i] w fun e w' => e = .returned (.tuple #[.agg #[.int .i64 2, .string (s.extract i b), .int .i64 0, .int .i64 0, .int .i64 0], .int .i64 (r : Nat)]) ∧ Below w.heap.size w w' := by
  have d1 : decide ((j : Int) < (s.size : Int)) = true := by rw [decide_eq_true_eq]; omega
  have d1' : decide (j < s.size) = true := by rw [decide_eq_true_eq]; omega
  go_enter Tryd.func54, Tryd.ntmps54
  go_wp2_with fail
  refine (HL.out _).mono ?_
  rintro e w' ⟨rfl, rfl⟩
  go_wp2_with fail
  refine (HR.out _).mono ?_
  rintro e w' ⟨rfl, rfl⟩
  go_wp2_with fail
  refine (HW.out _).mono ?_
  rintro e w1 ⟨rfl, hb1⟩
  obtain ⟨q0, q1, q2, q3, q4, qf, hB1⟩ := res_cells w w1 hb1
  have hs1 := res_size q0
  have r := res_store q0 q1 q2 q3 q4 (.int .i64 2) (.string (s.extract i b)) (.int .i64 0) (.int .i64 0) (.int .i64 0)
  obtain ⟨r0, r1, r2, r3, r4, hbs⟩ := r
  have HB := Lib.hid (hB1.trans hbs)
  clear hbs hB1 hb1
  go_wp2
  (try simp only [Exit.inBlock, Exit.then])
  refine bodyPost_ret (by simp [results, Tryd.results54, go_sem, r0, r1, r2, r3, r4]; try rfl) rfl ?_
  exact ⟨rfl, HB.out⟩
set_option maxRecDepth 100000 in
set_option maxHeartbeats 2000000 in
theorem token_name_c (s : ByteArray) (i : Nat) (w : World) (hs : s.size ≤ 140737488355328) (h0 : i < s.size) (j : Nat) (hij : (i : Int) + 1 = (j : Int)) (h1 : j < s.size) (hx : (((s[i]'h0).toNat : Int) == 98) = true) (hy : ((((s[j]'h1).toNat : Nat) : Int) == 34) = false) (b r : Nat) (hib : (i : Int) + (r : Int) = (b : Int)) (hble : b ≤ s.size) (hab : i ≤ b) (hsz : (s.extract i b).size = r) (HR : Hid (∀ w, Calls Tryd.prog 37 #[.string s, .int .i64 i, .int .i64 1] w fun e w' => e = .returned (.int .i64 (r : Nat)) ∧ w = w')) (HL : Hid (∀ w, Calls Tryd.prog 36 #[.int .u8 (((s[i]'h0).toNat : Nat) : Int)] w fun e w' => e = .returned (.bool true) ∧ w = w')) (HW : Hid (∀ w, Calls Tryd.prog 23 #[.string (s.extract i b)] w fun e w' => e = .returned (.bool false) ∧ Below w.heap.size w w')) (HM : Hid (∀ w, Calls Tryd.prog 22 #[.string (s.extract i b)] w fun e w' => e = .returned (.bool true) ∧ Below w.heap.size w w')) :
    Calls Tryd.prog 54 #[.string s, .int .i64 i] w fun e w' => e = .returned (.tuple #[.agg #[.int .i64 1, .string (s.extract i b), .int .i64 0, .int .i64 0, .int .i64 0], .int .i64 (r : Nat)]) ∧ Below w.heap.size w w' := by
  have d1 : decide ((j : Int) < (s.size : Int)) = true := by rw [decide_eq_true_eq]; omega
  have d1' : decide (j < s.size) = true := by rw [decide_eq_true_eq]; omega
  go_enter Tryd.func54, Tryd.ntmps54
  go_wp2_with fail
  refine (HL.out _).mono ?_
  rintro e w' ⟨rfl, rfl⟩
  go_wp2_with fail
  refine (HR.out _).mono ?_
  rintro e w' ⟨rfl, rfl⟩
  go_wp2_with fail
  refine (HW.out _).mono ?_
  rintro e w1 ⟨rfl, hb1⟩
  obtain ⟨q0, q1, q2, q3, q4, qf, hB1⟩ := res_cells w w1 hb1
  have hs1 := res_size q0
  go_wp2_with fail
  refine (HM.out _).mono ?_
  rintro e w2 ⟨rfl, hb2⟩
  obtain ⟨q0, q1, q2, q3, q4, qf, hB2⟩ := res_later w w1 w2 hs1 q0 q1 q2 q3 q4 qf hB1 hb2
  clear hb2
  have hs2 := res_size q0
  have r := res_store q0 q1 q2 q3 q4 (.int .i64 1) (.string (s.extract i b)) (.int .i64 0) (.int .i64 0) (.int .i64 0)
  obtain ⟨r0, r1, r2, r3, r4, hbs⟩ := r
  have HB := Lib.hid (hB2.trans hbs)
  clear hbs hB2 hb1
  go_wp2
  (try simp only [Exit.inBlock, Exit.then])
  refine bodyPost_ret (by simp [results, Tryd.results54, go_sem, r0, r1, r2, r3, r4]; try rfl) rfl ?_
  exact ⟨rfl, HB.out⟩
set_option maxRecDepth 100000 in
set_option maxHeartbeats 2000000 in
theorem token_long_c (s : ByteArray) (i : Nat) (w : World) (hs : s.size ≤ 140737488355328) (h0 : i < s.size) (j : Nat) (hij : (i : Int) + 1 = (j : Int)) (h1 : j < s.size) (hx : (((s[i]'h0).toNat : Int) == 98) = true) (hy : ((((s[j]'h1).toNat : Nat) : Int) == 34) = false) (b r : Nat) (hib : (i : Int) + (r : Int) = (b : Int)) (hble : b ≤ s.size) (hab : i ≤ b) (hsz : (s.extract i b).size = r) (HR : Hid (∀ w, Calls Tryd.prog 37 #[.string s, .int .i64 i, .int .i64 1] w fun e w' => e = .returned (.int .i64 (r : Nat)) ∧ w = w')) (HL : Hid (∀ w, Calls Tryd.prog 36 #[.int .u8 (((s[i]'h0).toNat : Nat) : Int)] w fun e w' => e = .returned (.bool true) ∧ w = w')) (HW : Hid (∀ w, Calls Tryd.prog 23 #[.string (s.extract i b)] w fun e w' => e = .returned (.bool false) ∧ Below w.heap.size w w')) (HM : Hid (∀ w, Calls Tryd.prog 22 #[.string (s.extract i b)] w fun e w' => e = .returned (.bool false) ∧ Below w.heap.size w w')) :
    Calls Tryd.prog 54 #[.string s, .int .i64 i] w fun e w' => e = .returned (.tuple #[.agg #[.int .i64 0, .string (⟨#[]⟩), .int .i64 0, .int .i64 0, .int .i64 0], .int .i64 0]) ∧ Below w.heap.size w w' := by
  have d1 : decide ((j : Int) < (s.size : Int)) = true := by rw [decide_eq_true_eq]; omega
  have d1' : decide (j < s.size) = true := by rw [decide_eq_true_eq]; omega
  go_enter Tryd.func54, Tryd.ntmps54
  go_wp2_with fail
  refine (HL.out _).mono ?_
  rintro e w' ⟨rfl, rfl⟩
  go_wp2_with fail
  refine (HR.out _).mono ?_
  rintro e w' ⟨rfl, rfl⟩
  go_wp2_with fail
  refine (HW.out _).mono ?_
  rintro e w1 ⟨rfl, hb1⟩
  obtain ⟨q0, q1, q2, q3, q4, qf, hB1⟩ := res_cells w w1 hb1
  have hs1 := res_size q0
  go_wp2_with fail
  refine (HM.out _).mono ?_
  rintro e w2 ⟨rfl, hb2⟩
  obtain ⟨q0, q1, q2, q3, q4, qf, hB2⟩ := res_later w w1 w2 hs1 q0 q1 q2 q3 q4 qf hB1 hb2
  clear hb2
  have hs2 := res_size q0
  have r := res_store q0 q1 q2 q3 q4 (.int .i64 0) (.string (⟨#[]⟩)) (.int .i64 0) (.int .i64 0) (.int .i64 0)
  obtain ⟨r0, r1, r2, r3, r4, hbs⟩ := r
  have HB := Lib.hid (hB2.trans hbs)
  clear hbs hB2 hb1
  go_wp2
  (try simp only [Exit.inBlock, Exit.then])
  refine bodyPost_ret (by simp [results, Tryd.results54, go_sem, r0, r1, r2, r3, r4]; try rfl) rfl ?_
  exact ⟨rfl, HB.out⟩
end Go.Proofs.YtfjeljehodbbmaaDoor
