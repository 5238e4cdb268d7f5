/- The contract of the program's isPossible. -/
import Derived.Test.YtfjeljehodbbmaaDoorPt
import Derived.Test.YtfjeljehodbbmaaDoorPl
namespace Go.Proofs.YtfjeljehodbbmaaDoor
open Go.RowKit

set_option maxRecDepth 100000 in
set_option maxHeartbeats 4000000 in
theorem isp_yes (l c : Int) (y z : ByteArray) (p q m : Nat) (w : World) (hm : 0 < m) (t1 : ((m : Int) == (y.size : Int)) = true)
    (HW : Hid (∀ u, Below w.heap.size w u → Calls Tryd.prog 32 #[.agg #[.int .i64 (p : Nat), .string z, .int .i64 (q : Nat), .int .i64 l, .int .i64 c]] u fun e w' => e = .returned (.string y) ∧ Below u.heap.size u w'))
    (HT : Hid (∀ u, Below w.heap.size w u → Calls Tryd.prog 28 #[.string y] u fun e w' => e = .returned (.tuple #[.agg #[.int .i64 (p : Nat), .string z, .int .i64 (q : Nat), .int .i64 0, .int .i64 0], .int .i64 (m : Nat)]) ∧ Below u.heap.size u w')) :
    Calls Tryd.prog 31 #[.agg #[.int .i64 (p : Nat), .string z, .int .i64 (q : Nat), .int .i64 l, .int .i64 c]] w fun e w' => e = .returned (.bool true) ∧ Below w.heap.size w w' := by
  have d0 : decide ((0 : Int) < (m : Int)) = true := by rw [decide_eq_true_eq]; omega
  have d0' : decide (0 < m) = true := by rw [decide_eq_true_eq]; omega
  go_enter Tryd.func31, Tryd.ntmps31
  go_wp2_with fail
  refine (HW.out _ (below_alloc _ _)).mono ?_
  rintro e w1 ⟨rfl, hb1⟩
  have HB1 := Lib.hid (below_then (below_alloc _ _) hb1)
  have hl1 : w.heap.size < (w.alloc (.cells #[.int .i64 (p : Nat), .string z, .int .i64 (q : Nat), .int .i64 l, .int .i64 c] 40)).heap.size := by rw [World.size_alloc]; omega
  have q0 : w1.cell? ⟨w.heap.size, 0, none⟩ = some (.int .i64 (p : Nat)) := (hb1.cell (by exact hl1)).trans (by rw [World.cell?_alloc_at _ _ _ _ rfl]; rfl)
  have q1 : w1.cell? ⟨w.heap.size, 1, none⟩ = some (.string z) := (hb1.cell (by exact hl1)).trans (by rw [World.cell?_alloc_at _ _ _ _ rfl]; rfl)
  have q2 : w1.cell? ⟨w.heap.size, 2, none⟩ = some (.int .i64 (q : Nat)) := (hb1.cell (by exact hl1)).trans (by rw [World.cell?_alloc_at _ _ _ _ rfl]; rfl)
  have q3 : w1.cell? ⟨w.heap.size, 3, none⟩ = some (.int .i64 l) := (hb1.cell (by exact hl1)).trans (by rw [World.cell?_alloc_at _ _ _ _ rfl]; rfl)
  have q4 : w1.cell? ⟨w.heap.size, 4, none⟩ = some (.int .i64 c) := (hb1.cell (by exact hl1)).trans (by rw [World.cell?_alloc_at _ _ _ _ rfl]; rfl)
  have HQ : Hid (w1.cell? ⟨w.heap.size, 0, none⟩ = some (.int .i64 (p : Nat)) ∧ w1.cell? ⟨w.heap.size, 1, none⟩ = some (.string z) ∧ w1.cell? ⟨w.heap.size, 2, none⟩ = some (.int .i64 (q : Nat)) ∧ w1.cell? ⟨w.heap.size, 3, none⟩ = some (.int .i64 l) ∧ w1.cell? ⟨w.heap.size, 4, none⟩ = some (.int .i64 c)) := ⟨q0, q1, q2, q3, q4⟩
  have HL : Hid (w.heap.size < w1.heap.size) := Nat.lt_of_lt_of_le hl1 hb1.size
  clear hb1 hl1 q0 q1 q2 q3 q4
  go_wp2_with fail
  refine (HT.out _ HB1.out).mono ?_
  rintro e w2 ⟨rfl, hb2⟩
  have HB2 := Lib.hid (HB1.out.trans (hb2.mono (Nat.le_of_lt HL.out)))
  obtain ⟨s0, s1, s2, s3, s4⟩ := HQ.out
  have kl : w.heap.size < w1.heap.size := HL.out
  have ka : ∀ o, Below w2.heap.size w2 (w2.alloc o) := fun o => below_alloc w2 o
  have g0 := fun o => ((below_then hb2 (ka o)).cell (p := ⟨w.heap.size, 0, none⟩) kl).trans s0
  have g1 := fun o => ((below_then hb2 (ka o)).cell (p := ⟨w.heap.size, 1, none⟩) kl).trans s1
  have g2 := fun o => ((below_then hb2 (ka o)).cell (p := ⟨w.heap.size, 2, none⟩) kl).trans s2
  have g3 := fun o => ((below_then hb2 (ka o)).cell (p := ⟨w.heap.size, 3, none⟩) kl).trans s3
  have g4 := fun o => ((below_then hb2 (ka o)).cell (p := ⟨w.heap.size, 4, none⟩) kl).trans s4
  have HS : Hid (w1.heap.size ≤ w2.heap.size) := hb2.size
  clear hb2 s0 s1 s2 s3 s4 kl ka
  go_wp2_with fail
  go_region
  go_wp2
  go_ret
  exact ⟨rfl, below_drewN (HB2.out.alloc (Nat.le_trans (Nat.le_of_lt HL.out) (Nat.le_trans (Nat.le_of_eq rfl) HS.out)) _) 1⟩
set_option maxRecDepth 100000 in
set_option maxHeartbeats 4000000 in
theorem isp_op (o n l c : Int) (x y z : ByteArray) (p q m : Nat) (w : World) (hm : 0 < m) (t1 : ((m : Int) == (y.size : Int)) = true) (ho : ¬ (p : Int) = o)
    (HW : Hid (∀ u, Below w.heap.size w u → Calls Tryd.prog 32 #[.agg #[.int .i64 o, .string x, .int .i64 n, .int .i64 l, .int .i64 c]] u fun e w' => e = .returned (.string y) ∧ Below u.heap.size u w'))
    (HT : Hid (∀ u, Below w.heap.size w u → Calls Tryd.prog 28 #[.string y] u fun e w' => e = .returned (.tuple #[.agg #[.int .i64 (p : Nat), .string z, .int .i64 (q : Nat), .int .i64 0, .int .i64 0], .int .i64 (m : Nat)]) ∧ Below u.heap.size u w')) :
    Calls Tryd.prog 31 #[.agg #[.int .i64 o, .string x, .int .i64 n, .int .i64 l, .int .i64 c]] w fun e w' => e = .returned (.bool false) ∧ Below w.heap.size w w' := by
  have d0 : decide ((0 : Int) < (m : Int)) = true := by rw [decide_eq_true_eq]; omega
  have d0' : decide (0 < m) = true := by rw [decide_eq_true_eq]; omega
  go_enter Tryd.func31, Tryd.ntmps31
  go_wp2_with fail
  refine (HW.out _ (below_alloc _ _)).mono ?_
  rintro e w1 ⟨rfl, hb1⟩
  have HB1 := Lib.hid (below_then (below_alloc _ _) hb1)
  have hl1 : w.heap.size < (w.alloc (.cells #[.int .i64 o, .string x, .int .i64 n, .int .i64 l, .int .i64 c] 40)).heap.size := by rw [World.size_alloc]; omega
  have q0 : w1.cell? ⟨w.heap.size, 0, none⟩ = some (.int .i64 o) := (hb1.cell (by exact hl1)).trans (by rw [World.cell?_alloc_at _ _ _ _ rfl]; rfl)
  have q1 : w1.cell? ⟨w.heap.size, 1, none⟩ = some (.string x) := (hb1.cell (by exact hl1)).trans (by rw [World.cell?_alloc_at _ _ _ _ rfl]; rfl)
  have q2 : w1.cell? ⟨w.heap.size, 2, none⟩ = some (.int .i64 n) := (hb1.cell (by exact hl1)).trans (by rw [World.cell?_alloc_at _ _ _ _ rfl]; rfl)
  have q3 : w1.cell? ⟨w.heap.size, 3, none⟩ = some (.int .i64 l) := (hb1.cell (by exact hl1)).trans (by rw [World.cell?_alloc_at _ _ _ _ rfl]; rfl)
  have q4 : w1.cell? ⟨w.heap.size, 4, none⟩ = some (.int .i64 c) := (hb1.cell (by exact hl1)).trans (by rw [World.cell?_alloc_at _ _ _ _ rfl]; rfl)
  have HQ : Hid (w1.cell? ⟨w.heap.size, 0, none⟩ = some (.int .i64 o) ∧ w1.cell? ⟨w.heap.size, 1, none⟩ = some (.string x) ∧ w1.cell? ⟨w.heap.size, 2, none⟩ = some (.int .i64 n) ∧ w1.cell? ⟨w.heap.size, 3, none⟩ = some (.int .i64 l) ∧ w1.cell? ⟨w.heap.size, 4, none⟩ = some (.int .i64 c)) := ⟨q0, q1, q2, q3, q4⟩
  have HL : Hid (w.heap.size < w1.heap.size) := Nat.lt_of_lt_of_le hl1 hb1.size
  clear hb1 hl1 q0 q1 q2 q3 q4
  go_wp2_with fail
  refine (HT.out _ HB1.out).mono ?_
  rintro e w2 ⟨rfl, hb2⟩
  have HB2 := Lib.hid (HB1.out.trans (hb2.mono (Nat.le_of_lt HL.out)))
  obtain ⟨s0, s1, s2, s3, s4⟩ := HQ.out
  have kl : w.heap.size < w1.heap.size := HL.out
  have ka : ∀ o, Below w2.heap.size w2 (w2.alloc o) := fun o => below_alloc w2 o
  have g0 := fun o => ((below_then hb2 (ka o)).cell (p := ⟨w.heap.size, 0, none⟩) kl).trans s0
  have g1 := fun o => ((below_then hb2 (ka o)).cell (p := ⟨w.heap.size, 1, none⟩) kl).trans s1
  have g2 := fun o => ((below_then hb2 (ka o)).cell (p := ⟨w.heap.size, 2, none⟩) kl).trans s2
  have g3 := fun o => ((below_then hb2 (ka o)).cell (p := ⟨w.heap.size, 3, none⟩) kl).trans s3
  have g4 := fun o => ((below_then hb2 (ka o)).cell (p := ⟨w.heap.size, 4, none⟩) kl).trans s4
  have HS : Hid (w1.heap.size ≤ w2.heap.size) := hb2.size
  clear hb2 s0 s1 s2 s3 s4 kl ka
  go_wp2_with fail
  go_region
  go_wp2
  go_ret
  exact ⟨rfl, below_drewN (HB2.out.alloc (Nat.le_trans (Nat.le_of_lt HL.out) (Nat.le_trans (Nat.le_of_eq rfl) HS.out)) _) 1⟩
set_option maxRecDepth 100000 in
set_option maxHeartbeats 4000000 in
theorem isp_text (n l c : Int) (x y z : ByteArray) (p q m : Nat) (w : World) (hm : 0 < m) (t1 : ((m : Int) == (y.size : Int)) = true) (hz : (z.toList == x.toList) = false)
    (HW : Hid (∀ u, Below w.heap.size w u → Calls Tryd.prog 32 #[.agg #[.int .i64 (p : Nat), .string x, .int .i64 n, .int .i64 l, .int .i64 c]] u fun e w' => e = .returned (.string y) ∧ Below u.heap.size u w'))
    (HT : Hid (∀ u, Below w.heap.size w u → Calls Tryd.prog 28 #[.string y] u fun e w' => e = .returned (.tuple #[.agg #[.int .i64 (p : Nat), .string z, .int .i64 (q : Nat), .int .i64 0, .int .i64 0], .int .i64 (m : Nat)]) ∧ Below u.heap.size u w')) :
    Calls Tryd.prog 31 #[.agg #[.int .i64 (p : Nat), .string x, .int .i64 n, .int .i64 l, .int .i64 c]] w fun e w' => e = .returned (.bool false) ∧ Below w.heap.size w w' := by
  have d0 : decide ((0 : Int) < (m : Int)) = true := by rw [decide_eq_true_eq]; omega
  have d0' : decide (0 < m) = true := by rw [decide_eq_true_eq]; omega
  go_enter Tryd.func31, Tryd.ntmps31
  go_wp2_with fail
  refine (HW.out _ (below_alloc _ _)).mono ?_
  rintro e w1 ⟨rfl, hb1⟩
  have HB1 := Lib.hid (below_then (below_alloc _ _) hb1)
  have hl1 : w.heap.size < (w.alloc (.cells #[.int .i64 (p : Nat), .string x, .int .i64 n, .int .i64 l, .int .i64 c] 40)).heap.size := by rw [World.size_alloc]; omega
  have q0 : w1.cell? ⟨w.heap.size, 0, none⟩ = some (.int .i64 (p : Nat)) := (hb1.cell (by exact hl1)).trans (by rw [World.cell?_alloc_at _ _ _ _ rfl]; rfl)
  have q1 : w1.cell? ⟨w.heap.size, 1, none⟩ = some (.string x) := (hb1.cell (by exact hl1)).trans (by rw [World.cell?_alloc_at _ _ _ _ rfl]; rfl)
  have q2 : w1.cell? ⟨w.heap.size, 2, none⟩ = some (.int .i64 n) := (hb1.cell (by exact hl1)).trans (by rw [World.cell?_alloc_at _ _ _ _ rfl]; rfl)
  have q3 : w1.cell? ⟨w.heap.size, 3, none⟩ = some (.int .i64 l) := (hb1.cell (by exact hl1)).trans (by rw [World.cell?_alloc_at _ _ _ _ rfl]; rfl)
  have q4 : w1.cell? ⟨w.heap.size, 4, none⟩ = some (.int .i64 c) := (hb1.cell (by exact hl1)).trans (by rw [World.cell?_alloc_at _ _ _ _ rfl]; rfl)
  have HQ : Hid (w1.cell? ⟨w.heap.size, 0, none⟩ = some (.int .i64 (p : Nat)) ∧ w1.cell? ⟨w.heap.size, 1, none⟩ = some (.string x) ∧ w1.cell? ⟨w.heap.size, 2, none⟩ = some (.int .i64 n) ∧ w1.cell? ⟨w.heap.size, 3, none⟩ = some (.int .i64 l) ∧ w1.cell? ⟨w.heap.size, 4, none⟩ = some (.int .i64 c)) := ⟨q0, q1, q2, q3, q4⟩
  have HL : Hid (w.heap.size < w1.heap.size) := Nat.lt_of_lt_of_le hl1 hb1.size
  clear hb1 hl1 q0 q1 q2 q3 q4
  go_wp2_with fail
  refine (HT.out _ HB1.out).mono ?_
  rintro e w2 ⟨rfl, hb2⟩
  have HB2 := Lib.hid (HB1.out.trans (hb2.mono (Nat.le_of_lt HL.out)))
  obtain ⟨s0, s1, s2, s3, s4⟩ := HQ.out
  have kl : w.heap.size < w1.heap.size := HL.out
  have ka : ∀ o, Below w2.heap.size w2 (w2.alloc o) := fun o => below_alloc w2 o
  have g0 := fun o => ((below_then hb2 (ka o)).cell (p := ⟨w.heap.size, 0, none⟩) kl).trans s0
  have g1 := fun o => ((below_then hb2 (ka o)).cell (p := ⟨w.heap.size, 1, none⟩) kl).trans s1
  have g2 := fun o => ((below_then hb2 (ka o)).cell (p := ⟨w.heap.size, 2, none⟩) kl).trans s2
  have g3 := fun o => ((below_then hb2 (ka o)).cell (p := ⟨w.heap.size, 3, none⟩) kl).trans s3
  have g4 := fun o => ((below_then hb2 (ka o)).cell (p := ⟨w.heap.size, 4, none⟩) kl).trans s4
  have HS : Hid (w1.heap.size ≤ w2.heap.size) := hb2.size
  clear hb2 s0 s1 s2 s3 s4 kl ka
  go_wp2_with fail
  go_region
  go_wp2
  go_ret
  exact ⟨rfl, below_drewN (HB2.out.alloc (Nat.le_trans (Nat.le_of_lt HL.out) (Nat.le_trans (Nat.le_of_eq rfl) HS.out)) _) 1⟩
set_option maxRecDepth 100000 in
set_option maxHeartbeats 4000000 in
theorem isp_n (n l c : Int) (y z : ByteArray) (p q m : Nat) (w : World) (hm : 0 < m) (t1 : ((m : Int) == (y.size : Int)) = true) (hn : ¬ (q : Int) = n)
    (HW : Hid (∀ u, Below w.heap.size w u → Calls Tryd.prog 32 #[.agg #[.int .i64 (p : Nat), .string z, .int .i64 n, .int .i64 l, .int .i64 c]] u fun e w' => e = .returned (.string y) ∧ Below u.heap.size u w'))
    (HT : Hid (∀ u, Below w.heap.size w u → Calls Tryd.prog 28 #[.string y] u fun e w' => e = .returned (.tuple #[.agg #[.int .i64 (p : Nat), .string z, .int .i64 (q : Nat), .int .i64 0, .int .i64 0], .int .i64 (m : Nat)]) ∧ Below u.heap.size u w')) :
    Calls Tryd.prog 31 #[.agg #[.int .i64 (p : Nat), .string z, .int .i64 n, .int .i64 l, .int .i64 c]] w fun e w' => e = .returned (.bool false) ∧ Below w.heap.size w w' := by
  have d0 : decide ((0 : Int) < (m : Int)) = true := by rw [decide_eq_true_eq]; omega
  have d0' : decide (0 < m) = true := by rw [decide_eq_true_eq]; omega
  go_enter Tryd.func31, Tryd.ntmps31
  go_wp2_with fail
  refine (HW.out _ (below_alloc _ _)).mono ?_
  rintro e w1 ⟨rfl, hb1⟩
  have HB1 := Lib.hid (below_then (below_alloc _ _) hb1)
  have hl1 : w.heap.size < (w.alloc (.cells #[.int .i64 (p : Nat), .string z, .int .i64 n, .int .i64 l, .int .i64 c] 40)).heap.size := by rw [World.size_alloc]; omega
  have q0 : w1.cell? ⟨w.heap.size, 0, none⟩ = some (.int .i64 (p : Nat)) := (hb1.cell (by exact hl1)).trans (by rw [World.cell?_alloc_at _ _ _ _ rfl]; rfl)
  have q1 : w1.cell? ⟨w.heap.size, 1, none⟩ = some (.string z) := (hb1.cell (by exact hl1)).trans (by rw [World.cell?_alloc_at _ _ _ _ rfl]; rfl)
  have q2 : w1.cell? ⟨w.heap.size, 2, none⟩ = some (.int .i64 n) := (hb1.cell (by exact hl1)).trans (by rw [World.cell?_alloc_at _ _ _ _ rfl]; rfl)
  have q3 : w1.cell? ⟨w.heap.size, 3, none⟩ = some (.int .i64 l) := (hb1.cell (by exact hl1)).trans (by rw [World.cell?_alloc_at _ _ _ _ rfl]; rfl)
  have q4 : w1.cell? ⟨w.heap.size, 4, none⟩ = some (.int .i64 c) := (hb1.cell (by exact hl1)).trans (by rw [World.cell?_alloc_at _ _ _ _ rfl]; rfl)
  have HQ : Hid (w1.cell? ⟨w.heap.size, 0, none⟩ = some (.int .i64 (p : Nat)) ∧ w1.cell? ⟨w.heap.size, 1, none⟩ = some (.string z) ∧ w1.cell? ⟨w.heap.size, 2, none⟩ = some (.int .i64 n) ∧ w1.cell? ⟨w.heap.size, 3, none⟩ = some (.int .i64 l) ∧ w1.cell? ⟨w.heap.size, 4, none⟩ = some (.int .i64 c)) := ⟨q0, q1, q2, q3, q4⟩
  have HL : Hid (w.heap.size < w1.heap.size) := Nat.lt_of_lt_of_le hl1 hb1.size
  clear hb1 hl1 q0 q1 q2 q3 q4
  go_wp2_with fail
  refine (HT.out _ HB1.out).mono ?_
  rintro e w2 ⟨rfl, hb2⟩
  have HB2 := Lib.hid (HB1.out.trans (hb2.mono (Nat.le_of_lt HL.out)))
  obtain ⟨s0, s1, s2, s3, s4⟩ := HQ.out
  have kl : w.heap.size < w1.heap.size := HL.out
  have ka : ∀ o, Below w2.heap.size w2 (w2.alloc o) := fun o => below_alloc w2 o
  have g0 := fun o => ((below_then hb2 (ka o)).cell (p := ⟨w.heap.size, 0, none⟩) kl).trans s0
  have g1 := fun o => ((below_then hb2 (ka o)).cell (p := ⟨w.heap.size, 1, none⟩) kl).trans s1
  have g2 := fun o => ((below_then hb2 (ka o)).cell (p := ⟨w.heap.size, 2, none⟩) kl).trans s2
  have g3 := fun o => ((below_then hb2 (ka o)).cell (p := ⟨w.heap.size, 3, none⟩) kl).trans s3
  have g4 := fun o => ((below_then hb2 (ka o)).cell (p := ⟨w.heap.size, 4, none⟩) kl).trans s4
  have HS : Hid (w1.heap.size ≤ w2.heap.size) := hb2.size
  clear hb2 s0 s1 s2 s3 s4 kl ka
  go_wp2_with fail
  go_region
  go_wp2
  go_ret
  exact ⟨rfl, below_drewN (HB2.out.alloc (Nat.le_trans (Nat.le_of_lt HL.out) (Nat.le_trans (Nat.le_of_eq rfl) HS.out)) _) 1⟩
set_option maxRecDepth 100000 in
set_option maxHeartbeats 4000000 in
theorem isp_len (o n l c : Int) (x y z : ByteArray) (p q m : Nat) (w : World) (hm : 0 < m) (t1 : ((m : Int) == (y.size : Int)) = false)
    (HW : Hid (∀ u, Below w.heap.size w u → Calls Tryd.prog 32 #[.agg #[.int .i64 o, .string x, .int .i64 n, .int .i64 l, .int .i64 c]] u fun e w' => e = .returned (.string y) ∧ Below u.heap.size u w'))
    (HT : Hid (∀ u, Below w.heap.size w u → Calls Tryd.prog 28 #[.string y] u fun e w' => e = .returned (.tuple #[.agg #[.int .i64 (p : Nat), .string z, .int .i64 (q : Nat), .int .i64 0, .int .i64 0], .int .i64 (m : Nat)]) ∧ Below u.heap.size u w')) :
    Calls Tryd.prog 31 #[.agg #[.int .i64 o, .string x, .int .i64 n, .int .i64 l, .int .i64 c]] w fun e w' => e = .returned (.bool false) ∧ Below w.heap.size w w' := by
  have d0 : decide ((0 : Int) < (m : Int)) = true := by rw [decide_eq_true_eq]; omega
  have d0' : decide (0 < m) = true := by rw [decide_eq_true_eq]; omega
  go_enter Tryd.func31, Tryd.ntmps31
  go_wp2_with fail
  refine (HW.out _ (below_alloc _ _)).mono ?_
  rintro e w1 ⟨rfl, hb1⟩
  have HB1 := Lib.hid (below_then (below_alloc _ _) hb1)
  have hl1 : w.heap.size < (w.alloc (.cells #[.int .i64 o, .string x, .int .i64 n, .int .i64 l, .int .i64 c] 40)).heap.size := by rw [World.size_alloc]; omega
  have q0 : w1.cell? ⟨w.heap.size, 0, none⟩ = some (.int .i64 o) := (hb1.cell (by exact hl1)).trans (by rw [World.cell?_alloc_at _ _ _ _ rfl]; rfl)
  have q1 : w1.cell? ⟨w.heap.size, 1, none⟩ = some (.string x) := (hb1.cell (by exact hl1)).trans (by rw [World.cell?_alloc_at _ _ _ _ rfl]; rfl)
  have q2 : w1.cell? ⟨w.heap.size, 2, none⟩ = some (.int .i64 n) := (hb1.cell (by exact hl1)).trans (by rw [World.cell?_alloc_at _ _ _ _ rfl]; rfl)
  have q3 : w1.cell? ⟨w.heap.size, 3, none⟩ = some (.int .i64 l) := (hb1.cell (by exact hl1)).trans (by rw [World.cell?_alloc_at _ _ _ _ rfl]; rfl)
  have q4 : w1.cell? ⟨w.heap.size, 4, none⟩ = some (.int .i64 c) := (hb1.cell (by exact hl1)).trans (by rw [World.cell?_alloc_at _ _ _ _ rfl]; rfl)
  have HQ : Hid (w1.cell? ⟨w.heap.size, 0, none⟩ = some (.int .i64 o) ∧ w1.cell? ⟨w.heap.size, 1, none⟩ = some (.string x) ∧ w1.cell? ⟨w.heap.size, 2, none⟩ = some (.int .i64 n) ∧ w1.cell? ⟨w.heap.size, 3, none⟩ = some (.int .i64 l) ∧ w1.cell? ⟨w.heap.size, 4, none⟩ = some (.int .i64 c)) := ⟨q0, q1, q2, q3, q4⟩
  have HL : Hid (w.heap.size < w1.heap.size) := Nat.lt_of_lt_of_le hl1 hb1.size
  clear hb1 hl1 q0 q1 q2 q3 q4
  go_wp2_with fail
  refine (HT.out _ HB1.out).mono ?_
  rintro e w2 ⟨rfl, hb2⟩
  have HB2 := Lib.hid (HB1.out.trans (hb2.mono (Nat.le_of_lt HL.out)))
  obtain ⟨s0, s1, s2, s3, s4⟩ := HQ.out
  have kl : w.heap.size < w1.heap.size := HL.out
  have ka : ∀ o, Below w2.heap.size w2 (w2.alloc o) := fun o => below_alloc w2 o
  have g0 := fun o => ((below_then hb2 (ka o)).cell (p := ⟨w.heap.size, 0, none⟩) kl).trans s0
  have g1 := fun o => ((below_then hb2 (ka o)).cell (p := ⟨w.heap.size, 1, none⟩) kl).trans s1
  have g2 := fun o => ((below_then hb2 (ka o)).cell (p := ⟨w.heap.size, 2, none⟩) kl).trans s2
  have g3 := fun o => ((below_then hb2 (ka o)).cell (p := ⟨w.heap.size, 3, none⟩) kl).trans s3
  have g4 := fun o => ((below_then hb2 (ka o)).cell (p := ⟨w.heap.size, 4, none⟩) kl).trans s4
  have HS : Hid (w1.heap.size ≤ w2.heap.size) := hb2.size
  clear hb2 s0 s1 s2 s3 s4 kl ka
  go_wp2_with fail
  go_region
  go_wp2
  go_ret
  exact ⟨rfl, below_drewN (HB2.out.alloc (Nat.le_trans (Nat.le_of_lt HL.out) (Nat.le_trans (Nat.le_of_eq rfl) HS.out)) _) 1⟩
set_option maxRecDepth 100000 in
set_option maxHeartbeats 4000000 in
theorem isp_zero (o n l c : Int) (x y z : ByteArray) (p q m : Nat) (w : World) (hm : m = 0)
    (HW : Hid (∀ u, Below w.heap.size w u → Calls Tryd.prog 32 #[.agg #[.int .i64 o, .string x, .int .i64 n, .int .i64 l, .int .i64 c]] u fun e w' => e = .returned (.string y) ∧ Below u.heap.size u w'))
    (HT : Hid (∀ u, Below w.heap.size w u → Calls Tryd.prog 28 #[.string y] u fun e w' => e = .returned (.tuple #[.agg #[.int .i64 (p : Nat), .string z, .int .i64 (q : Nat), .int .i64 0, .int .i64 0], .int .i64 (m : Nat)]) ∧ Below u.heap.size u w')) :
    Calls Tryd.prog 31 #[.agg #[.int .i64 o, .string x, .int .i64 n, .int .i64 l, .int .i64 c]] w fun e w' => e = .returned (.bool false) ∧ Below w.heap.size w w' := by
  subst hm
  go_enter Tryd.func31, Tryd.ntmps31
  go_wp2_with fail
  refine (HW.out _ (below_alloc _ _)).mono ?_
  rintro e w1 ⟨rfl, hb1⟩
  have HB1 := Lib.hid (below_then (below_alloc _ _) hb1)
  have hl1 : w.heap.size < (w.alloc (.cells #[.int .i64 o, .string x, .int .i64 n, .int .i64 l, .int .i64 c] 40)).heap.size := by rw [World.size_alloc]; omega
  have q0 : w1.cell? ⟨w.heap.size, 0, none⟩ = some (.int .i64 o) := (hb1.cell (by exact hl1)).trans (by rw [World.cell?_alloc_at _ _ _ _ rfl]; rfl)
  have q1 : w1.cell? ⟨w.heap.size, 1, none⟩ = some (.string x) := (hb1.cell (by exact hl1)).trans (by rw [World.cell?_alloc_at _ _ _ _ rfl]; rfl)
  have q2 : w1.cell? ⟨w.heap.size, 2, none⟩ = some (.int .i64 n) := (hb1.cell (by exact hl1)).trans (by rw [World.cell?_alloc_at _ _ _ _ rfl]; rfl)
  have q3 : w1.cell? ⟨w.heap.size, 3, none⟩ = some (.int .i64 l) := (hb1.cell (by exact hl1)).trans (by rw [World.cell?_alloc_at _ _ _ _ rfl]; rfl)
  have q4 : w1.cell? ⟨w.heap.size, 4, none⟩ = some (.int .i64 c) := (hb1.cell (by exact hl1)).trans (by rw [World.cell?_alloc_at _ _ _ _ rfl]; rfl)
  have HQ : Hid (w1.cell? ⟨w.heap.size, 0, none⟩ = some (.int .i64 o) ∧ w1.cell? ⟨w.heap.size, 1, none⟩ = some (.string x) ∧ w1.cell? ⟨w.heap.size, 2, none⟩ = some (.int .i64 n) ∧ w1.cell? ⟨w.heap.size, 3, none⟩ = some (.int .i64 l) ∧ w1.cell? ⟨w.heap.size, 4, none⟩ = some (.int .i64 c)) := ⟨q0, q1, q2, q3, q4⟩
  have HL : Hid (w.heap.size < w1.heap.size) := Nat.lt_of_lt_of_le hl1 hb1.size
  clear hb1 hl1 q0 q1 q2 q3 q4
  go_wp2_with fail
  refine (HT.out _ HB1.out).mono ?_
  rintro e w2 ⟨rfl, hb2⟩
  have HB2 := Lib.hid (HB1.out.trans (hb2.mono (Nat.le_of_lt HL.out)))
  obtain ⟨s0, s1, s2, s3, s4⟩ := HQ.out
  have kl : w.heap.size < w1.heap.size := HL.out
  have ka : ∀ o, Below w2.heap.size w2 (w2.alloc o) := fun o => below_alloc w2 o
  have g0 := fun o => ((below_then hb2 (ka o)).cell (p := ⟨w.heap.size, 0, none⟩) kl).trans s0
  have g1 := fun o => ((below_then hb2 (ka o)).cell (p := ⟨w.heap.size, 1, none⟩) kl).trans s1
  have g2 := fun o => ((below_then hb2 (ka o)).cell (p := ⟨w.heap.size, 2, none⟩) kl).trans s2
  have g3 := fun o => ((below_then hb2 (ka o)).cell (p := ⟨w.heap.size, 3, none⟩) kl).trans s3
  have g4 := fun o => ((below_then hb2 (ka o)).cell (p := ⟨w.heap.size, 4, none⟩) kl).trans s4
  have HS : Hid (w1.heap.size ≤ w2.heap.size) := hb2.size
  clear hb2 s0 s1 s2 s3 s4 kl ka
  go_wp2_with fail
  go_region
  go_wp2
  go_ret
  exact ⟨rfl, below_drewN (HB2.out.alloc (Nat.le_trans (Nat.le_of_lt HL.out) (Nat.le_trans (Nat.le_of_eq rfl) HS.out)) _) 1⟩
theorem isPossible_any (a : TokA) (ha : Small a) (w : World) (hw : ∀ u, Below w.heap.size w u → Std u) :
    Calls Tryd.prog 31 #[.agg #[.int .i64 a.op, .string a.text, .int .i64 a.n, .int .i64 a.line, .int .i64 a.col]] w fun e w' => e = .returned (.bool (possA a)) ∧ Below w.heap.size w w' := by
  have hW : ∀ u, Below w.heap.size w u → Calls Tryd.prog 32 #[.agg #[.int .i64 a.op, .string a.text, .int .i64 a.n, .int .i64 a.line, .int .i64 a.col]] u fun e w' => e = .returned (.string (sb (wrA a))) ∧ Below u.heap.size u w' :=
    fun u hu => written_all a ha u fun u' hu' => hw u' (below_then hu hu')
  have hlen := wrA_len ha
  have hT : ∀ u, Below w.heap.size w u → Calls Tryd.prog 28 #[.string (sb (wrA a))] u fun e w' => e = .returned (fV (tokL (wrA a))) ∧ Below u.heap.size u w' := fun u hu => by
    have := first_any (sb (wrA a)) (by rw [sb_size]; omega) u fun u' hu' => hw u' (below_then hu hu')
    rwa [bl_sb] at this
  obtain ⟨o, x, n, l, c⟩ := a
  simp only at hW ⊢
  cases ht : tokL (wrA ⟨o, x, n, l, c⟩) with
  | none =>
    rw [poss_none ht]
    rw [ht] at hT
    exact isp_zero o n l c x _ ⟨#[]⟩ 0 0 0 w rfl hW hT
  | some p =>
    obtain ⟨tk, m⟩ := p
    rw [poss_some ht]
    rw [ht] at hT
    have hT : ∀ u, Below w.heap.size w u → Calls Tryd.prog 28 #[.string (sb (wrA ⟨o, x, n, l, c⟩))] u fun e w' => e = .returned (.tuple #[.agg #[.int .i64 (tk.op : Nat), .string (sb tk.text), .int .i64 (tk.n : Nat), .int .i64 0, .int .i64 0], .int .i64 (m : Nat)]) ∧ Below u.heap.size u w' := hT
    have hm : 0 < m := (tok_facts ht).2.1
    have hs := sb_size (wrA ⟨o, x, n, l, c⟩)
    simp only
    by_cases h1 : m = (wrA ⟨o, x, n, l, c⟩).length
    · have t1 : ((m : Int) == ((sb (wrA ⟨o, x, n, l, c⟩)).size : Int)) = true := by rw [beq_iff_eq]; omega
      rw [decide_eq_true h1, Bool.true_and]
      by_cases h2 : (tk.op : Int) = o
      · rw [decide_eq_true h2, Bool.true_and]
        by_cases h3 : tk.text = bl x
        · rw [decide_eq_true h3, Bool.true_and]
          obtain rfl : sb tk.text = x := by rw [h3, sb_bl]
          subst h2
          by_cases h4 : (tk.n : Int) = n
          · rw [decide_eq_true h4]
            subst h4
            exact isp_yes l c _ _ _ _ m w hm t1 hW hT
          · rw [decide_eq_false h4]
            exact isp_n n l c _ _ _ _ m w hm t1 h4 hW hT
        · rw [decide_eq_false h3, Bool.false_and]
          subst h2
          exact isp_text n l c x _ _ _ tk.n m w hm t1 (by rw [bl_toList, bl_toList, bl_sb, beq_eq_false_iff_ne]; exact h3) hW hT
      · rw [decide_eq_false h2, Bool.false_and]
        exact isp_op o n l c x _ _ _ tk.n m w hm t1 h2 hW hT
    · rw [decide_eq_false h1, Bool.false_and]
      exact isp_len o n l c x _ _ tk.op tk.n m w hm (by rw [beq_eq_false_iff_ne]; omega) hW hT
end Go.Proofs.YtfjeljehodbbmaaDoor
