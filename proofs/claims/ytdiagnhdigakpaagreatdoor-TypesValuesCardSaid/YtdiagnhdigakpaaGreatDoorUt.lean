/- The contracts of the reference's At and With. -/
import Derived.Test.YtdiagnhdigakpaaGreatDoorUf
import Derived.Test.YtdiagnhdigakpaaGreatDoorUs
namespace Go.Proofs.YtdiagnhdigakpaaGreatDoor
open Go.RowKit

set_option maxRecDepth 100000 in
set_option maxHeartbeats 4000000 in
theorem refBit_any (b : Nat) (w : World) :
    Calls Tryz.prog 70 #[.int .u8 b] w fun e w' => e = .returned (.agg #[.int .i64 1, .int .i64 0, .slice (some ⟨w.heap.size + 1, 0, none⟩) 1 1, .slice none 0 0]) ∧ Blk w' (w.heap.size + 1) 72 #[.int .u8 b] ∧ Below w.heap.size w w' := by
  have H2 := Lib.hid (boxes2 w 38 72 #[.int .i64 1, .int .i64 0, .slice (some ⟨w.heap.size + 1, 0, none⟩) 1 1, .slice none 0 0] #[.int .u8 b])
  go_enter Tryz.func70, Tryz.ntmps70
  go_wp2
  go_returns
  exact ⟨rfl, H2.out.2.1, H2.out.2.2.1⟩
theorem refBit_ex (b : Nat) (w : World) : Calls Tryz.prog 70 #[.int .u8 b] w fun e w' => ∃ n : Nat, w.heap.size ≤ n ∧ e = .returned (.agg #[.int .i64 1, .int .i64 0, .slice (some ⟨n, 0, none⟩) 1 1, .slice none 0 0]) ∧ Blk w' n 72 #[.int .u8 b] ∧ Below w.heap.size w w' := by
  refine (refBit_any b w).mono ?_
  rintro e w' ⟨rfl, h1, h2⟩
  exact ⟨_, Nat.le_succ _, rfl, h1, h2⟩
set_option maxRecDepth 100000 in
set_option maxHeartbeats 8000000 in
theorem rat_no (k l i k1 n1 : Int) (nm : ByteArray) (t3 t4 v5 v6 : Value) (w : World)
    (HA : Hid (∀ u, Below w.heap.size w u → Calls Tryz.prog 31 #[.agg #[.int .i64 k, .int .i64 l, .string nm, t3, t4], .agg #[.int .i64 k1, .int .i64 n1, v5, v6]] u fun e w' => e = .returned (.bool false) ∧ Below u.heap.size u w')) :
    Calls Tryz.prog 45 #[.agg #[.int .i64 k, .int .i64 l, .string nm, t3, t4], .agg #[.int .i64 k1, .int .i64 n1, v5, v6], .int .i64 i] w (FirstPost zeroV 2 w) := by
  have H3 := Lib.hid (boxes3 w 26 38 38 #[.int .i64 k, .int .i64 l, .string nm, t3, t4] #[.int .i64 k1, .int .i64 n1, v5, v6] #[.int .i64 0, .int .i64 0, .slice none 0 0, .slice none 0 0])
  have B0 := Lib.hid H3.out.2.2.2.1
  have T0 := Lib.hid H3.out.1
  have V0 := Lib.hid H3.out.2.1
  have R0 := Lib.hid H3.out.2.2.1
  have hs : w.heap.size ≤ w.heap.size + 1 + 1 := by omega
  clear H3
  go_enter Tryz.func45, Tryz.ntmps45
  go_wp2_with fail
  refine (HA.out _ B0.out).mono ?_
  rintro e w1 ⟨rfl, hb⟩
  have B1 := Lib.hid (below_then B0.out hb)
  have T1 := Lib.hid (T0.out.later hb)
  have V1 := Lib.hid (V0.out.later hb)
  have R1 := Lib.hid (R0.out.later hb)
  clear hb
  obtain ⟨rc_0, rc_1, rc_2, rc_3⟩ := four R1.out
  have rf_0 := R1.out.free 0
  have rf_1 := R1.out.free 1
  have rf_2 := R1.out.free 2
  have rf_3 := R1.out.free 3
  go_wp2
  refine bodyPost_ret (by simp [results, Tryz.results45, go_sem, rc_0, rc_1, rc_2, rc_3]; try rfl) rfl ?_
  exact ⟨none, 0, 0, none, 0, 0, rfl, zero_c _, set4_below B1.out hs _ _ _ _⟩
set_option maxRecDepth 100000 in
set_option maxHeartbeats 8000000 in
theorem rat_kind (k l i k1 n1 : Int) (h4 : (k != 4) = true) (h6 : (k != 6) = true) (nm : ByteArray) (t3 t4 v5 v6 : Value) (w : World)
    (HA : Hid (∀ u, Below w.heap.size w u → Calls Tryz.prog 31 #[.agg #[.int .i64 k, .int .i64 l, .string nm, t3, t4], .agg #[.int .i64 k1, .int .i64 n1, v5, v6]] u fun e w' => e = .returned (.bool true) ∧ Below u.heap.size u w')) :
    Calls Tryz.prog 45 #[.agg #[.int .i64 k, .int .i64 l, .string nm, t3, t4], .agg #[.int .i64 k1, .int .i64 n1, v5, v6], .int .i64 i] w (FirstPost zeroV 16 w) := by
  have H3 := Lib.hid (boxes3 w 26 38 38 #[.int .i64 k, .int .i64 l, .string nm, t3, t4] #[.int .i64 k1, .int .i64 n1, v5, v6] #[.int .i64 0, .int .i64 0, .slice none 0 0, .slice none 0 0])
  have B0 := Lib.hid H3.out.2.2.2.1
  have T0 := Lib.hid H3.out.1
  have V0 := Lib.hid H3.out.2.1
  have R0 := Lib.hid H3.out.2.2.1
  have hs : w.heap.size ≤ w.heap.size + 1 + 1 := by omega
  clear H3
  go_enter Tryz.func45, Tryz.ntmps45
  go_wp2_with fail
  refine (HA.out _ B0.out).mono ?_
  rintro e w1 ⟨rfl, hb⟩
  have B1 := Lib.hid (below_then B0.out hb)
  have T1 := Lib.hid (T0.out.later hb)
  have V1 := Lib.hid (V0.out.later hb)
  have R1 := Lib.hid (R0.out.later hb)
  clear hb
  obtain ⟨tc_0, tc_1, tc_2, tc_3, tc_4⟩ := fives T1.out
  obtain ⟨rc_0, rc_1, rc_2, rc_3⟩ := four R1.out
  have rf_0 := R1.out.free 0
  have rf_1 := R1.out.free 1
  have rf_2 := R1.out.free 2
  have rf_3 := R1.out.free 3
  go_wp2
  refine bodyPost_ret (by simp [results, Tryz.results45, go_sem, rc_0, rc_1, rc_2, rc_3]; try rfl) rfl ?_
  exact ⟨none, 0, 0, none, 0, 0, rfl, zero_c _, set4_below B1.out hs _ _ _ _⟩
set_option maxRecDepth 100000 in
set_option maxHeartbeats 8000000 in
theorem rat_range4a (l i k1 n1 : Int) (hi : decide (i < 0) = true) (nm : ByteArray) (t3 t4 v5 v6 : Value) (w : World)
    (HA : Hid (∀ u, Below w.heap.size w u → Calls Tryz.prog 31 #[.agg #[.int .i64 4, .int .i64 l, .string nm, t3, t4], .agg #[.int .i64 k1, .int .i64 n1, v5, v6]] u fun e w' => e = .returned (.bool true) ∧ Below u.heap.size u w')) :
    Calls Tryz.prog 45 #[.agg #[.int .i64 4, .int .i64 l, .string nm, t3, t4], .agg #[.int .i64 k1, .int .i64 n1, v5, v6], .int .i64 i] w (FirstPost zeroV 19 w) := by
  have H3 := Lib.hid (boxes3 w 26 38 38 #[.int .i64 4, .int .i64 l, .string nm, t3, t4] #[.int .i64 k1, .int .i64 n1, v5, v6] #[.int .i64 0, .int .i64 0, .slice none 0 0, .slice none 0 0])
  have B0 := Lib.hid H3.out.2.2.2.1
  have T0 := Lib.hid H3.out.1
  have V0 := Lib.hid H3.out.2.1
  have R0 := Lib.hid H3.out.2.2.1
  have hs : w.heap.size ≤ w.heap.size + 1 + 1 := by omega
  clear H3
  go_enter Tryz.func45, Tryz.ntmps45
  go_wp2_with fail
  refine (HA.out _ B0.out).mono ?_
  rintro e w1 ⟨rfl, hb⟩
  have B1 := Lib.hid (below_then B0.out hb)
  have T1 := Lib.hid (T0.out.later hb)
  have V1 := Lib.hid (V0.out.later hb)
  have R1 := Lib.hid (R0.out.later hb)
  clear hb
  obtain ⟨tc_0, tc_1, tc_2, tc_3, tc_4⟩ := fives T1.out
  obtain ⟨rc_0, rc_1, rc_2, rc_3⟩ := four R1.out
  have rf_0 := R1.out.free 0
  have rf_1 := R1.out.free 1
  have rf_2 := R1.out.free 2
  have rf_3 := R1.out.free 3
  go_wp2
  refine bodyPost_ret (by simp [results, Tryz.results45, go_sem, rc_0, rc_1, rc_2, rc_3]; try rfl) rfl ?_
  exact ⟨none, 0, 0, none, 0, 0, rfl, zero_c _, set4_below B1.out hs _ _ _ _⟩
set_option maxRecDepth 100000 in
set_option maxHeartbeats 8000000 in
theorem rat_range4b (l i k1 n1 : Int) (hi : decide (i < 0) = false) (hi2 : decide (l ≤ i) = true) (nm : ByteArray) (t3 t4 v5 v6 : Value) (w : World)
    (HA : Hid (∀ u, Below w.heap.size w u → Calls Tryz.prog 31 #[.agg #[.int .i64 4, .int .i64 l, .string nm, t3, t4], .agg #[.int .i64 k1, .int .i64 n1, v5, v6]] u fun e w' => e = .returned (.bool true) ∧ Below u.heap.size u w')) :
    Calls Tryz.prog 45 #[.agg #[.int .i64 4, .int .i64 l, .string nm, t3, t4], .agg #[.int .i64 k1, .int .i64 n1, v5, v6], .int .i64 i] w (FirstPost zeroV 19 w) := by
  have H3 := Lib.hid (boxes3 w 26 38 38 #[.int .i64 4, .int .i64 l, .string nm, t3, t4] #[.int .i64 k1, .int .i64 n1, v5, v6] #[.int .i64 0, .int .i64 0, .slice none 0 0, .slice none 0 0])
  have B0 := Lib.hid H3.out.2.2.2.1
  have T0 := Lib.hid H3.out.1
  have V0 := Lib.hid H3.out.2.1
  have R0 := Lib.hid H3.out.2.2.1
  have hs : w.heap.size ≤ w.heap.size + 1 + 1 := by omega
  clear H3
  go_enter Tryz.func45, Tryz.ntmps45
  go_wp2_with fail
  refine (HA.out _ B0.out).mono ?_
  rintro e w1 ⟨rfl, hb⟩
  have B1 := Lib.hid (below_then B0.out hb)
  have T1 := Lib.hid (T0.out.later hb)
  have V1 := Lib.hid (V0.out.later hb)
  have R1 := Lib.hid (R0.out.later hb)
  clear hb
  obtain ⟨tc_0, tc_1, tc_2, tc_3, tc_4⟩ := fives T1.out
  obtain ⟨rc_0, rc_1, rc_2, rc_3⟩ := four R1.out
  have rf_0 := R1.out.free 0
  have rf_1 := R1.out.free 1
  have rf_2 := R1.out.free 2
  have rf_3 := R1.out.free 3
  go_wp2
  refine bodyPost_ret (by simp [results, Tryz.results45, go_sem, rc_0, rc_1, rc_2, rc_3]; try rfl) rfl ?_
  exact ⟨none, 0, 0, none, 0, 0, rfl, zero_c _, set4_below B1.out hs _ _ _ _⟩
set_option maxRecDepth 100000 in
set_option maxHeartbeats 8000000 in
theorem rat_range6a (l i k1 n1 : Int) (hi : decide (i < 0) = true) (nm : ByteArray) (t3 t4 v5 v6 : Value) (w : World)
    (HA : Hid (∀ u, Below w.heap.size w u → Calls Tryz.prog 31 #[.agg #[.int .i64 6, .int .i64 l, .string nm, t3, t4], .agg #[.int .i64 k1, .int .i64 n1, v5, v6]] u fun e w' => e = .returned (.bool true) ∧ Below u.heap.size u w')) :
    Calls Tryz.prog 45 #[.agg #[.int .i64 6, .int .i64 l, .string nm, t3, t4], .agg #[.int .i64 k1, .int .i64 n1, v5, v6], .int .i64 i] w (FirstPost zeroV 19 w) := by
  have H3 := Lib.hid (boxes3 w 26 38 38 #[.int .i64 6, .int .i64 l, .string nm, t3, t4] #[.int .i64 k1, .int .i64 n1, v5, v6] #[.int .i64 0, .int .i64 0, .slice none 0 0, .slice none 0 0])
  have B0 := Lib.hid H3.out.2.2.2.1
  have T0 := Lib.hid H3.out.1
  have V0 := Lib.hid H3.out.2.1
  have R0 := Lib.hid H3.out.2.2.1
  have hs : w.heap.size ≤ w.heap.size + 1 + 1 := by omega
  clear H3
  go_enter Tryz.func45, Tryz.ntmps45
  go_wp2_with fail
  refine (HA.out _ B0.out).mono ?_
  rintro e w1 ⟨rfl, hb⟩
  have B1 := Lib.hid (below_then B0.out hb)
  have T1 := Lib.hid (T0.out.later hb)
  have V1 := Lib.hid (V0.out.later hb)
  have R1 := Lib.hid (R0.out.later hb)
  clear hb
  obtain ⟨tc_0, tc_1, tc_2, tc_3, tc_4⟩ := fives T1.out
  obtain ⟨rc_0, rc_1, rc_2, rc_3⟩ := four R1.out
  have rf_0 := R1.out.free 0
  have rf_1 := R1.out.free 1
  have rf_2 := R1.out.free 2
  have rf_3 := R1.out.free 3
  go_wp2
  refine bodyPost_ret (by simp [results, Tryz.results45, go_sem, rc_0, rc_1, rc_2, rc_3]; try rfl) rfl ?_
  exact ⟨none, 0, 0, none, 0, 0, rfl, zero_c _, set4_below B1.out hs _ _ _ _⟩
set_option maxRecDepth 100000 in
set_option maxHeartbeats 8000000 in
theorem rat_range6b (l i k1 n1 : Int) (hi : decide (i < 0) = false) (hi2 : decide (l ≤ i) = true) (nm : ByteArray) (t3 t4 v5 v6 : Value) (w : World)
    (HA : Hid (∀ u, Below w.heap.size w u → Calls Tryz.prog 31 #[.agg #[.int .i64 6, .int .i64 l, .string nm, t3, t4], .agg #[.int .i64 k1, .int .i64 n1, v5, v6]] u fun e w' => e = .returned (.bool true) ∧ Below u.heap.size u w')) :
    Calls Tryz.prog 45 #[.agg #[.int .i64 6, .int .i64 l, .string nm, t3, t4], .agg #[.int .i64 k1, .int .i64 n1, v5, v6], .int .i64 i] w (FirstPost zeroV 19 w) := by
  have H3 := Lib.hid (boxes3 w 26 38 38 #[.int .i64 6, .int .i64 l, .string nm, t3, t4] #[.int .i64 k1, .int .i64 n1, v5, v6] #[.int .i64 0, .int .i64 0, .slice none 0 0, .slice none 0 0])
  have B0 := Lib.hid H3.out.2.2.2.1
  have T0 := Lib.hid H3.out.1
  have V0 := Lib.hid H3.out.2.1
  have R0 := Lib.hid H3.out.2.2.1
  have hs : w.heap.size ≤ w.heap.size + 1 + 1 := by omega
  clear H3
  go_enter Tryz.func45, Tryz.ntmps45
  go_wp2_with fail
  refine (HA.out _ B0.out).mono ?_
  rintro e w1 ⟨rfl, hb⟩
  have B1 := Lib.hid (below_then B0.out hb)
  have T1 := Lib.hid (T0.out.later hb)
  have V1 := Lib.hid (V0.out.later hb)
  have R1 := Lib.hid (R0.out.later hb)
  clear hb
  obtain ⟨tc_0, tc_1, tc_2, tc_3, tc_4⟩ := fives T1.out
  obtain ⟨rc_0, rc_1, rc_2, rc_3⟩ := four R1.out
  have rf_0 := R1.out.free 0
  have rf_1 := R1.out.free 1
  have rf_2 := R1.out.free 2
  have rf_3 := R1.out.free 3
  go_wp2
  refine bodyPost_ret (by simp [results, Tryz.results45, go_sem, rc_0, rc_1, rc_2, rc_3]; try rfl) rfl ?_
  exact ⟨none, 0, 0, none, 0, 0, rfl, zero_c _, set4_below B1.out hs _ _ _ _⟩
set_option maxRecDepth 100000 in
set_option maxHeartbeats 8000000 in
theorem rat_vec (l j vb vo vn vd z : Nat) (hj : j < vn) (hjl : j < l) (_hv : vn ≤ 9223372036854775807) (hz3 : z ≤ 3) (k1 n1 : Int) (nm : ByteArray) (t3 t4 v6 : Value) (w : World) (hz : Hid (w.cell? ⟨vb, vo + j, none⟩ = some (.int .u8 (z : Nat))))
    (HA : Hid (∀ u, Below w.heap.size w u → Calls Tryz.prog 31 #[.agg #[.int .i64 4, .int .i64 (l : Nat), .string nm, t3, t4], .agg #[.int .i64 k1, .int .i64 n1, .slice (some ⟨vb, vo, none⟩) vn vd, v6]] u fun e w' => e = .returned (.bool true) ∧ Below u.heap.size u w')) :
    Calls Tryz.prog 45 #[.agg #[.int .i64 4, .int .i64 (l : Nat), .string nm, t3, t4], .agg #[.int .i64 k1, .int .i64 n1, .slice (some ⟨vb, vo, none⟩) vn vd, v6], .int .i64 (j : Nat)] w (FirstPost (.mk 1 0 [z] []) 0 w) := by
  have H3 := Lib.hid (boxes3 w 26 38 38 #[.int .i64 4, .int .i64 (l : Nat), .string nm, t3, t4] #[.int .i64 k1, .int .i64 n1, .slice (some ⟨vb, vo, none⟩) vn vd, v6] #[.int .i64 0, .int .i64 0, .slice none 0 0, .slice none 0 0])
  have B0 := Lib.hid H3.out.2.2.2.1
  have T0 := Lib.hid H3.out.1
  have V0 := Lib.hid H3.out.2.1
  have R0 := Lib.hid H3.out.2.2.1
  have hs : w.heap.size ≤ w.heap.size + 1 + 1 := by omega
  clear H3
  have hji : (j : Int) < (vn : Int) := by omega
  have hj0 : (0 : Int) ≤ (j : Int) := by omega
  have hi : decide ((j : Int) < 0) = false := by rw [decide_eq_false_iff_not]; omega
  have hi2 : decide ((l : Int) ≤ (j : Int)) = false := by rw [decide_eq_false_iff_not]; omega
  have hi3 : decide (l ≤ j) = false := by rw [decide_eq_false_iff_not]; omega
  go_enter Tryz.func45, Tryz.ntmps45
  go_wp2_with fail
  refine (HA.out _ B0.out).mono ?_
  rintro e w1 ⟨rfl, hb⟩
  have B1 := Lib.hid (below_then B0.out hb)
  have T1 := Lib.hid (T0.out.later hb)
  have V1 := Lib.hid (V0.out.later hb)
  have R1 := Lib.hid (R0.out.later hb)
  clear hb
  obtain ⟨tc_0, tc_1, tc_2, tc_3, tc_4⟩ := fives T1.out
  obtain ⟨vc_0, vc_1, vc_2, vc_3⟩ := four V1.out
  have g := cell_stays B1.out hz.out
  go_wp2_with fail
  refine (refBit_ex z _).mono ?_
  rintro e w2 ⟨n5, hn5, rfl, hk, hb⟩
  have B2 := Lib.hid (below_then B1.out hb)
  have R2 := Lib.hid (R1.out.later hb)
  have K2 := Lib.hid hk
  have hlt := R1.out.lt
  have HN5 := Lib.hid (show w.heap.size + 1 + 1 ≠ n5 by omega)
  clear hb hk g hlt hn5
  clear tc_0 tc_1 tc_2 tc_3 tc_4 vc_0 vc_1 vc_2 vc_3
  obtain ⟨rc_0, rc_1, rc_2, rc_3⟩ := four R2.out
  have rf_0 := R2.out.free 0
  have rf_1 := R2.out.free 1
  have rf_2 := R2.out.free 2
  have rf_3 := R2.out.free 3
  go_wp2
  refine bodyPost_ret (by simp [results, Tryz.results45, go_sem, rc_0, rc_1, rc_2, rc_3]; try rfl) rfl ?_
  exact ⟨_, _, _, none, 0, 0, rfl, bitVa_c z hz3 (K2.out.set4 HN5.out _ _ _ _), set4_below B2.out hs _ _ _ _⟩
set_option maxRecDepth 100000 in
set_option maxHeartbeats 8000000 in
theorem rat_arr (x : Va) (l j vb vo vn vd : Nat) (hj : j < vn) (hjl : j < l) (_hv : vn ≤ 9223372036854775807) (k1 n1 kk2 nn2 : Int) (A2 A3 : Option Addr) (m2 c2 m3 c3 : Nat) (nm : ByteArray) (t3 t4 v5 : Value) (w : World)
    (hz : Hid (w.cell? ⟨vb, vo + j * 4, none⟩ = some (.int .i64 kk2) ∧ w.cell? ⟨vb, vo + j * 4 + 1, none⟩ = some (.int .i64 nn2) ∧ w.cell? ⟨vb, vo + j * 4 + 2, none⟩ = some (.slice A2 m2 c2) ∧ w.cell? ⟨vb, vo + j * 4 + 3, none⟩ = some (.slice A3 m3 c3) ∧ VaC w x [.int .i64 kk2, .int .i64 nn2, .slice A2 m2 c2, .slice A3 m3 c3]))
    (HC : Hid (∀ z, Below w.heap.size w z → VaC z x [.int .i64 kk2, .int .i64 nn2, .slice A2 m2 c2, .slice A3 m3 c3] → Calls Tryz.prog 29 #[.agg #[.int .i64 kk2, .int .i64 nn2, .slice A2 m2 c2, .slice A3 m3 c3]] z (CopyOf z x)))
    (HA : Hid (∀ u, Below w.heap.size w u → Calls Tryz.prog 31 #[.agg #[.int .i64 6, .int .i64 (l : Nat), .string nm, t3, t4], .agg #[.int .i64 k1, .int .i64 n1, v5, .slice (some ⟨vb, vo, none⟩) vn vd]] u fun e w' => e = .returned (.bool true) ∧ Below u.heap.size u w')) :
    Calls Tryz.prog 45 #[.agg #[.int .i64 6, .int .i64 (l : Nat), .string nm, t3, t4], .agg #[.int .i64 k1, .int .i64 n1, v5, .slice (some ⟨vb, vo, none⟩) vn vd], .int .i64 (j : Nat)] w (FirstPost x 0 w) := by
  have H3 := Lib.hid (boxes3 w 26 38 38 #[.int .i64 6, .int .i64 (l : Nat), .string nm, t3, t4] #[.int .i64 k1, .int .i64 n1, v5, .slice (some ⟨vb, vo, none⟩) vn vd] #[.int .i64 0, .int .i64 0, .slice none 0 0, .slice none 0 0])
  have B0 := Lib.hid H3.out.2.2.2.1
  have T0 := Lib.hid H3.out.1
  have V0 := Lib.hid H3.out.2.1
  have R0 := Lib.hid H3.out.2.2.1
  have hs : w.heap.size ≤ w.heap.size + 1 + 1 := by omega
  clear H3
  have hji : (j : Int) < (vn : Int) := by omega
  have hj0 : (0 : Int) ≤ (j : Int) := by omega
  have hi : decide ((j : Int) < 0) = false := by rw [decide_eq_false_iff_not]; omega
  have hi2 : decide ((l : Int) ≤ (j : Int)) = false := by rw [decide_eq_false_iff_not]; omega
  have hi3 : decide (l ≤ j) = false := by rw [decide_eq_false_iff_not]; omega
  go_enter Tryz.func45, Tryz.ntmps45
  go_wp2_with fail
  refine (HA.out _ B0.out).mono ?_
  rintro e w1 ⟨rfl, hb⟩
  have B1 := Lib.hid (below_then B0.out hb)
  have T1 := Lib.hid (T0.out.later hb)
  have V1 := Lib.hid (V0.out.later hb)
  have R1 := Lib.hid (R0.out.later hb)
  clear hb
  obtain ⟨tc_0, tc_1, tc_2, tc_3, tc_4⟩ := fives T1.out
  obtain ⟨vc_0, vc_1, vc_2, vc_3⟩ := four V1.out
  have g0 := cell_stays B1.out hz.out.1
  have g1 := cell_stays B1.out hz.out.2.1
  have g2 := cell_stays B1.out hz.out.2.2.1
  have g3 := cell_stays B1.out hz.out.2.2.2.1
  go_wp2_with fail
  refine (HC.out _ B1.out (VaC.later B1.out _ _ hz.out.2.2.2.2)).mono ?_
  rintro e w2 hc
  obtain ⟨A4, n4, c4, B4, m4, d4, rfl, hvp, hb⟩ := copy_vaP hc
  have VP := Lib.hid (hvp.mono (S' := fun b => b ≠ w.heap.size + 1 + 1) (fun b hb _ => by have h1 := R1.out.lt; have hb : _ ≤ b := hb; omega))
  have B2 := Lib.hid (below_then B1.out hb)
  have R2 := Lib.hid (R1.out.later hb)
  clear hb hc hvp g0 g1 g2 g3
  clear tc_0 tc_1 tc_2 tc_3 tc_4 vc_0 vc_1 vc_2 vc_3
  obtain ⟨rc_0, rc_1, rc_2, rc_3⟩ := four R2.out
  have rf_0 := R2.out.free 0
  have rf_1 := R2.out.free 1
  have rf_2 := R2.out.free 2
  have rf_3 := R2.out.free 3
  go_wp2
  refine bodyPost_ret (by simp [results, Tryz.results45, go_sem, rc_0, rc_1, rc_2, rc_3]; try rfl) rfl ?_
  exact ⟨A4, n4, c4, B4, m4, d4, rfl, VaP.toC _ _ (VP.out.set4 (fun b hb => hb) _ _ _ _), set4_below B2.out hs _ _ _ _⟩
theorem rat_any (t : Ty) (v : Va) (i : Int) (cs c1 : List Value) (w : World) (ht : smT t) (hv : smV v) (h : TyC w t cs) (h1 : VaC w v c1) :
    Calls Tryz.prog 45 #[.agg cs.toArray, .agg c1.toArray, .int .i64 i] w (FirstPost (atR t v i) (partE t v i) w) := by
  have h0 := h
  have h10 := h1
  have HH : ∀ b, hasT t v = b → Hid (∀ u, Below w.heap.size w u → Calls Tryz.prog 31 #[.agg cs.toArray, .agg c1.toArray] u fun e w' => e = .returned (.bool b) ∧ Below u.heap.size u w') := fun b hb u hu => by
    have := rhas_any t v cs c1 u ht.nm (TyC.later hu _ _ h0) (VaC.later hu _ _ h10)
    rwa [hb] at this
  obtain ⟨A, n, c, B, m, d, rfl, hn, hm, hs, hT⟩ := tyC_open h
  obtain ⟨C, x, p, D, y, q, rfl, hx, hy, hb, hxp, hyq, hL⟩ := vaC_open h1
  by_cases hh : hasT t v = true
  · by_cases hk : t.kind = 4 ∨ t.kind = 6
    · by_cases hi : 0 ≤ i ∧ i < t.len
      · have hE : partE t v i = 0 := partE_zero.2 ⟨hh, hk, hi.1, hi.2⟩
        have hR : atR t v i = atV v i.toNat := if_pos hE
        obtain ⟨j, rfl⟩ : ∃ j : Nat, i = j := ⟨i.toNat, by omega⟩
        rw [hR, Int.toNat_natCast, hE]
        rcases two_shapes hh hk with ⟨l, bs, rfl, rfl, g1, g2, g3, g4⟩ | ⟨l, e, ls, rfl, rfl, g1, g2, g3, g4, g5⟩
        · have e4 : (j : Int) < (l : Int) := hi.2
          have hj : j < bs.length := by omega
          obtain rfl : x = bs.length := hx
          obtain ⟨A', c', hsl, k1, k2, k3, k4⟩ := hb
          injection hsl with f1 f2 f3
          subst f1
          rcases k4 with k4 | ⟨vb, vo, rfl, k4⟩
          · rw [show bs = [] from k4] at hj; exact absurd hj (Nat.not_lt_zero _)
          rw [atV_four, getD_of hj]
          exact rat_vec l j vb vo bs.length p bs[j] hj (by omega) k2 (g4 _ (List.getElem_mem hj)) 4 0 noName _ _ _ w (k4 j hj) (HH true hh)
        · have e4 : (j : Int) < (l : Int) := hi.2
          have hj : j < ls.length := by omega
          obtain rfl : y = ls.length := hy
          obtain ⟨vb, vo, d1, d2⟩ := va_rows (ls := ls) hL
          obtain rfl : D = some ⟨vb, vo, none⟩ := d1.resolve_left (by omega)
          obtain ⟨kk2, nn2, A2, m2, c2, A3, m3, c3, hva, f0, f1, f2, f3⟩ := row_at ls vo (d2.resolve_right (by omega)) j hj
          rw [atV_six, getDV_of hj]
          exact rat_arr ls[j] l j vb vo ls.length q hj (by omega) hyq 6 0 kk2 nn2 A2 A3 m2 c2 m3 c3 noName _ _ _ w ⟨f0, f1, f2, f3, hva⟩ (fun z hz hc => rcopy_any _ _ z (((smV_def _ _ _ _).1 hv).2.2 _ (List.getElem_mem hj)) hc) (HH true hh)
      · have hE : partE t v i = 19 := by
          unfold partE
          rw [if_pos hh, if_pos hk, if_neg hi]
        have hR : atR t v i = zeroV := if_neg (by rw [hE]; decide)
        rw [hR, hE]
        rcases hk with hk | hk <;> by_cases h0 : i < 0
        · rw [hk]
          exact rat_range4a _ i _ _ (decide_eq_true h0) _ _ _ _ _ w (by rw [hk] at HH; exact HH true hh)
        · rw [hk]
          exact rat_range4b _ i _ _ (decide_eq_false h0) (decide_eq_true (by omega)) _ _ _ _ _ w (by rw [hk] at HH; exact HH true hh)
        · rw [hk]
          exact rat_range6a _ i _ _ (decide_eq_true h0) _ _ _ _ _ w (by rw [hk] at HH; exact HH true hh)
        · rw [hk]
          exact rat_range6b _ i _ _ (decide_eq_false h0) (decide_eq_true (by omega)) _ _ _ _ _ w (by rw [hk] at HH; exact HH true hh)
    · have hE : partE t v i = 16 := by unfold partE; rw [if_pos hh, if_neg hk]
      have hR : atR t v i = zeroV := if_neg (by rw [hE]; decide)
      rw [hR, hE]
      exact rat_kind _ _ i _ _ (bne_true fun e => hk (.inl e)) (bne_true fun e => hk (.inr e)) _ _ _ _ _ w (HH true hh)
  · have hE : partE t v i = 2 := by unfold partE; rw [if_neg hh]
    have hR : atR t v i = zeroV := if_neg (by rw [hE]; decide)
    rw [hR, hE]
    exact rat_no _ _ i _ _ _ _ _ _ _ w (HH false (by simpa using hh))
end Go.Proofs.YtdiagnhdigakpaaGreatDoor
