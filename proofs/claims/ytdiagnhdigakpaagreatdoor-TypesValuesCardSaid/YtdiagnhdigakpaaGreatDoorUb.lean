/- The contracts of the program's partType and At. -/
import Derived.Test.YtdiagnhdigakpaaGreatDoorUa
import Derived.Test.YtdiagnhdigakpaaGreatDoorKj
import Derived.Test.YtdiagnhdigakpaaGreatDoorKk
namespace Go.Proofs.YtdiagnhdigakpaaGreatDoor
open Go.RowKit

/-- A type and an error. -/
def PartPost (u : Ty) (E : Nat) (w : World) (e : Ending) (w' : World) : Prop :=
  ∃ (A : Option Addr) (n c : Nat) (B : Option Addr) (m d : Nat), e = .returned (.tuple #[.agg #[.int .i64 u.kind, .int .i64 u.len, .string u.name, .slice A n c, .slice B m d], .int .i64 (E : Nat)]) ∧ TyC w' u [.int .i64 u.kind, .int .i64 u.len, .string u.name, .slice A n c, .slice B m d] ∧ Below w.heap.size w w'
theorem noTy_c (w : World) : TyC w noTy [.int .i64 0, .int .i64 0, .string ⟨#[]⟩, .slice none 0 0, .slice none 0 0] := by
  unfold noTy
  rw [TyC]
  exact ⟨_, none, 0, rfl, ⟨none, 0, rfl, by simp, by simp, .inl rfl⟩, by simp, by simp, .inl rfl⟩
theorem bitT_c (w : World) : TyC w bitT [.int .i64 1, .int .i64 0, .string ⟨#[]⟩, .slice none 0 0, .slice none 0 0] := by
  unfold bitT
  rw [TyC]
  exact ⟨_, none, 0, rfl, ⟨none, 0, rfl, by simp, by simp, .inl rfl⟩, by simp, by simp, .inl rfl⟩
theorem Ty5.same {w w' : World} {b o : Nat} {k l : Int} {nm : ByteArray} {x1 x2 : Value} (h : Ty5 w b o k l nm x1 x2) (hb : Below w.heap.size w w') : Ty5 w' b o k l nm x1 x2 := h.later hb
set_option maxRecDepth 100000 in
set_option maxHeartbeats 8000000 in
theorem part_no (k l i k1 n1 : Int) (nm : ByteArray) (t3 t4 v5 v6 : Value) (w : World)
    (HA : Hid (∀ u, Below w.heap.size w u → Calls Tryz.prog 30 #[.agg #[.int .i64 k, .int .i64 l, .string nm, t3, t4], .agg #[.int .i64 k1, .int .i64 n1, v5, v6]] u fun e w' => e = .returned (.bool false) ∧ Below u.heap.size u w')) :
    Calls Tryz.prog 90 #[.agg #[.int .i64 k, .int .i64 l, .string nm, t3, t4], .agg #[.int .i64 k1, .int .i64 n1, v5, v6], .int .i64 i] w (PartPost noTy 2 w) := by
  have H3 := Lib.hid (boxes3 w 26 38 26 #[.int .i64 k, .int .i64 l, .string nm, t3, t4] #[.int .i64 k1, .int .i64 n1, v5, v6] #[.int .i64 0, .int .i64 0, .string ⟨#[]⟩, .slice none 0 0, .slice none 0 0])
  have B0 := Lib.hid H3.out.2.2.2.1
  have T0 := Lib.hid H3.out.1
  have V0 := Lib.hid H3.out.2.1
  have R0 := Lib.hid H3.out.2.2.1
  have hs : w.heap.size ≤ w.heap.size + 1 + 1 := by omega
  clear H3
  go_enter Tryz.func90, Tryz.ntmps90
  go_wp2_with fail
  refine (HA.out _ B0.out).mono ?_
  rintro e w1 ⟨rfl, hb⟩
  have B1 := Lib.hid (below_then B0.out hb)
  have T1 := Lib.hid (T0.out.later hb)
  have V1 := Lib.hid (V0.out.later hb)
  have R1 := Lib.hid (R0.out.later hb)
  clear hb
  obtain ⟨rc_0, rc_1, rc_2, rc_3, rc_4⟩ := fives R1.out
  have rf_0 := R1.out.free 0
  have rf_1 := R1.out.free 1
  have rf_2 := R1.out.free 2
  have rf_3 := R1.out.free 3
  have rf_4 := R1.out.free 4
  go_wp2
  refine bodyPost_ret (by simp [results, Tryz.results90, go_sem, rc_0, rc_1, rc_2, rc_3, rc_4]; try rfl) rfl ?_
  exact ⟨none, 0, 0, none, 0, 0, rfl, noTy_c _, set5_below B1.out hs _ _ _ _ _⟩
set_option maxRecDepth 100000 in
set_option maxHeartbeats 8000000 in
theorem part_kind (k l i k1 n1 : Int) (h4 : (k != 4) = true) (h6 : (k != 6) = true) (nm : ByteArray) (t3 t4 v5 v6 : Value) (w : World)
    (HA : Hid (∀ u, Below w.heap.size w u → Calls Tryz.prog 30 #[.agg #[.int .i64 k, .int .i64 l, .string nm, t3, t4], .agg #[.int .i64 k1, .int .i64 n1, v5, v6]] u fun e w' => e = .returned (.bool true) ∧ Below u.heap.size u w')) :
    Calls Tryz.prog 90 #[.agg #[.int .i64 k, .int .i64 l, .string nm, t3, t4], .agg #[.int .i64 k1, .int .i64 n1, v5, v6], .int .i64 i] w (PartPost noTy 16 w) := by
  have H3 := Lib.hid (boxes3 w 26 38 26 #[.int .i64 k, .int .i64 l, .string nm, t3, t4] #[.int .i64 k1, .int .i64 n1, v5, v6] #[.int .i64 0, .int .i64 0, .string ⟨#[]⟩, .slice none 0 0, .slice none 0 0])
  have B0 := Lib.hid H3.out.2.2.2.1
  have T0 := Lib.hid H3.out.1
  have V0 := Lib.hid H3.out.2.1
  have R0 := Lib.hid H3.out.2.2.1
  have hs : w.heap.size ≤ w.heap.size + 1 + 1 := by omega
  clear H3
  go_enter Tryz.func90, Tryz.ntmps90
  go_wp2_with fail
  refine (HA.out _ B0.out).mono ?_
  rintro e w1 ⟨rfl, hb⟩
  have B1 := Lib.hid (below_then B0.out hb)
  have T1 := Lib.hid (T0.out.later hb)
  have V1 := Lib.hid (V0.out.later hb)
  have R1 := Lib.hid (R0.out.later hb)
  clear hb
  obtain ⟨tc_0, tc_1, tc_2, tc_3, tc_4⟩ := fives T1.out
  obtain ⟨rc_0, rc_1, rc_2, rc_3, rc_4⟩ := fives R1.out
  have rf_0 := R1.out.free 0
  have rf_1 := R1.out.free 1
  have rf_2 := R1.out.free 2
  have rf_3 := R1.out.free 3
  have rf_4 := R1.out.free 4
  go_wp2
  refine bodyPost_ret (by simp [results, Tryz.results90, go_sem, rc_0, rc_1, rc_2, rc_3, rc_4]; try rfl) rfl ?_
  exact ⟨none, 0, 0, none, 0, 0, rfl, noTy_c _, set5_below B1.out hs _ _ _ _ _⟩
set_option maxRecDepth 100000 in
set_option maxHeartbeats 8000000 in
theorem part_range4 (l : Nat) (h1 : 1 ≤ l) (h64 : l ≤ 64) (i k1 n1 : Int) (hi : Hid (¬ (0 ≤ i ∧ i ≤ (l : Int) - 1))) (nm : ByteArray) (t3 t4 v5 v6 : Value) (w : World)
    (HA : Hid (∀ u, Below w.heap.size w u → Calls Tryz.prog 30 #[.agg #[.int .i64 4, .int .i64 (l : Nat), .string nm, t3, t4], .agg #[.int .i64 k1, .int .i64 n1, v5, v6]] u fun e w' => e = .returned (.bool true) ∧ Below u.heap.size u w')) :
    Calls Tryz.prog 90 #[.agg #[.int .i64 4, .int .i64 (l : Nat), .string nm, t3, t4], .agg #[.int .i64 k1, .int .i64 n1, v5, v6], .int .i64 i] w (PartPost noTy 19 w) := by
  have H3 := Lib.hid (boxes3 w 26 38 26 #[.int .i64 4, .int .i64 (l : Nat), .string nm, t3, t4] #[.int .i64 k1, .int .i64 n1, v5, v6] #[.int .i64 0, .int .i64 0, .string ⟨#[]⟩, .slice none 0 0, .slice none 0 0])
  have B0 := Lib.hid H3.out.2.2.2.1
  have T0 := Lib.hid H3.out.1
  have V0 := Lib.hid H3.out.2.1
  have R0 := Lib.hid H3.out.2.2.1
  have hs : w.heap.size ≤ w.heap.size + 1 + 1 := by omega
  clear H3
  go_enter Tryz.func90, Tryz.ntmps90
  go_wp2_with fail
  refine (HA.out _ B0.out).mono ?_
  rintro e w1 ⟨rfl, hb⟩
  have B1 := Lib.hid (below_then B0.out hb)
  have T1 := Lib.hid (T0.out.later hb)
  have V1 := Lib.hid (V0.out.later hb)
  have R1 := Lib.hid (R0.out.later hb)
  clear hb
  obtain ⟨tc_0, tc_1, tc_2, tc_3, tc_4⟩ := fives T1.out
  go_wp2_with fail
  refine (within_no hi.out _).mono ?_
  rintro e w' ⟨rfl, rfl⟩
  obtain ⟨rc_0, rc_1, rc_2, rc_3, rc_4⟩ := fives R1.out
  have rf_0 := R1.out.free 0
  have rf_1 := R1.out.free 1
  have rf_2 := R1.out.free 2
  have rf_3 := R1.out.free 3
  have rf_4 := R1.out.free 4
  go_wp2
  refine bodyPost_ret (by simp [results, Tryz.results90, go_sem, rc_0, rc_1, rc_2, rc_3, rc_4]; try rfl) rfl ?_
  exact ⟨none, 0, 0, none, 0, 0, rfl, noTy_c _, set5_below B1.out hs _ _ _ _ _⟩
set_option maxRecDepth 100000 in
set_option maxHeartbeats 8000000 in
theorem part_range6 (l : Nat) (h1 : 1 ≤ l) (h64 : l ≤ 64) (i k1 n1 : Int) (hi : Hid (¬ (0 ≤ i ∧ i ≤ (l : Int) - 1))) (nm : ByteArray) (t3 t4 v5 v6 : Value) (w : World)
    (HA : Hid (∀ u, Below w.heap.size w u → Calls Tryz.prog 30 #[.agg #[.int .i64 6, .int .i64 (l : Nat), .string nm, t3, t4], .agg #[.int .i64 k1, .int .i64 n1, v5, v6]] u fun e w' => e = .returned (.bool true) ∧ Below u.heap.size u w')) :
    Calls Tryz.prog 90 #[.agg #[.int .i64 6, .int .i64 (l : Nat), .string nm, t3, t4], .agg #[.int .i64 k1, .int .i64 n1, v5, v6], .int .i64 i] w (PartPost noTy 19 w) := by
  have H3 := Lib.hid (boxes3 w 26 38 26 #[.int .i64 6, .int .i64 (l : Nat), .string nm, t3, t4] #[.int .i64 k1, .int .i64 n1, v5, v6] #[.int .i64 0, .int .i64 0, .string ⟨#[]⟩, .slice none 0 0, .slice none 0 0])
  have B0 := Lib.hid H3.out.2.2.2.1
  have T0 := Lib.hid H3.out.1
  have V0 := Lib.hid H3.out.2.1
  have R0 := Lib.hid H3.out.2.2.1
  have hs : w.heap.size ≤ w.heap.size + 1 + 1 := by omega
  clear H3
  go_enter Tryz.func90, Tryz.ntmps90
  go_wp2_with fail
  refine (HA.out _ B0.out).mono ?_
  rintro e w1 ⟨rfl, hb⟩
  have B1 := Lib.hid (below_then B0.out hb)
  have T1 := Lib.hid (T0.out.later hb)
  have V1 := Lib.hid (V0.out.later hb)
  have R1 := Lib.hid (R0.out.later hb)
  clear hb
  obtain ⟨tc_0, tc_1, tc_2, tc_3, tc_4⟩ := fives T1.out
  go_wp2_with fail
  refine (within_no hi.out _).mono ?_
  rintro e w' ⟨rfl, rfl⟩
  obtain ⟨rc_0, rc_1, rc_2, rc_3, rc_4⟩ := fives R1.out
  have rf_0 := R1.out.free 0
  have rf_1 := R1.out.free 1
  have rf_2 := R1.out.free 2
  have rf_3 := R1.out.free 3
  have rf_4 := R1.out.free 4
  go_wp2
  refine bodyPost_ret (by simp [results, Tryz.results90, go_sem, rc_0, rc_1, rc_2, rc_3, rc_4]; try rfl) rfl ?_
  exact ⟨none, 0, 0, none, 0, 0, rfl, noTy_c _, set5_below B1.out hs _ _ _ _ _⟩
set_option maxRecDepth 100000 in
set_option maxHeartbeats 8000000 in
theorem part_vec (l : Nat) (h1 : 1 ≤ l) (h64 : l ≤ 64) (i k1 n1 : Int) (hi : Hid (0 ≤ i ∧ i ≤ (l : Int) - 1)) (nm : ByteArray) (t3 t4 v5 v6 : Value) (w : World)
    (HA : Hid (∀ u, Below w.heap.size w u → Calls Tryz.prog 30 #[.agg #[.int .i64 4, .int .i64 (l : Nat), .string nm, t3, t4], .agg #[.int .i64 k1, .int .i64 n1, v5, v6]] u fun e w' => e = .returned (.bool true) ∧ Below u.heap.size u w')) :
    Calls Tryz.prog 90 #[.agg #[.int .i64 4, .int .i64 (l : Nat), .string nm, t3, t4], .agg #[.int .i64 k1, .int .i64 n1, v5, v6], .int .i64 i] w (PartPost bitT 0 w) := by
  have H3 := Lib.hid (boxes3 w 26 38 26 #[.int .i64 4, .int .i64 (l : Nat), .string nm, t3, t4] #[.int .i64 k1, .int .i64 n1, v5, v6] #[.int .i64 0, .int .i64 0, .string ⟨#[]⟩, .slice none 0 0, .slice none 0 0])
  have B0 := Lib.hid H3.out.2.2.2.1
  have T0 := Lib.hid H3.out.1
  have V0 := Lib.hid H3.out.2.1
  have R0 := Lib.hid H3.out.2.2.1
  have hs : w.heap.size ≤ w.heap.size + 1 + 1 := by omega
  clear H3
  go_enter Tryz.func90, Tryz.ntmps90
  go_wp2_with fail
  refine (HA.out _ B0.out).mono ?_
  rintro e w1 ⟨rfl, hb⟩
  have B1 := Lib.hid (below_then B0.out hb)
  have T1 := Lib.hid (T0.out.later hb)
  have V1 := Lib.hid (V0.out.later hb)
  have R1 := Lib.hid (R0.out.later hb)
  clear hb
  obtain ⟨tc_0, tc_1, tc_2, tc_3, tc_4⟩ := fives T1.out
  go_wp2_with fail
  refine (within_yes hi.out.1 hi.out.2 _).mono ?_
  rintro e w' ⟨rfl, rfl⟩
  obtain ⟨rc_0, rc_1, rc_2, rc_3, rc_4⟩ := fives R1.out
  have rf_0 := R1.out.free 0
  have rf_1 := R1.out.free 1
  have rf_2 := R1.out.free 2
  have rf_3 := R1.out.free 3
  have rf_4 := R1.out.free 4
  go_wp2
  refine bodyPost_ret (by simp [results, Tryz.results90, go_sem, rc_0, rc_1, rc_2, rc_3, rc_4]; try rfl) rfl ?_
  exact ⟨none, 0, 0, none, 0, 0, rfl, bitT_c _, set5_below B1.out hs _ _ _ _ _⟩
set_option maxRecDepth 100000 in
set_option maxHeartbeats 8000000 in
theorem part_arr (l : Nat) (h1 : 1 ≤ l) (h64 : l ≤ 64) (i k1 n1 : Int) (hi : Hid (0 ≤ i ∧ i ≤ (l : Int) - 1)) (nm : ByteArray) (t3 v5 v6 : Value) (b off d : Nat) (k2 l2 : Int) (nm2 : ByteArray) (A1 A2 : Option Addr) (n2 c1 m2 c2 : Nat) (w : World)
    (h5 : Hid (Ty5 w b off k2 l2 nm2 (.slice A1 n2 c1) (.slice A2 m2 c2)))
    (HA : Hid (∀ u, Below w.heap.size w u → Calls Tryz.prog 30 #[.agg #[.int .i64 6, .int .i64 (l : Nat), .string nm, t3, .slice (some ⟨b, off, none⟩) 1 d], .agg #[.int .i64 k1, .int .i64 n1, v5, v6]] u fun e w' => e = .returned (.bool true) ∧ Below u.heap.size u w')) :
    Calls Tryz.prog 90 #[.agg #[.int .i64 6, .int .i64 (l : Nat), .string nm, t3, .slice (some ⟨b, off, none⟩) 1 d], .agg #[.int .i64 k1, .int .i64 n1, v5, v6], .int .i64 i] w fun e w' => e = .returned (.tuple #[.agg #[.int .i64 k2, .int .i64 l2, .string nm2, .slice A1 n2 c1, .slice A2 m2 c2], .int .i64 0]) ∧ Below w.heap.size w w' := by
  have H3 := Lib.hid (boxes3 w 26 38 26 #[.int .i64 6, .int .i64 (l : Nat), .string nm, t3, .slice (some ⟨b, off, none⟩) 1 d] #[.int .i64 k1, .int .i64 n1, v5, v6] #[.int .i64 0, .int .i64 0, .string ⟨#[]⟩, .slice none 0 0, .slice none 0 0])
  have B0 := Lib.hid H3.out.2.2.2.1
  have T0 := Lib.hid H3.out.1
  have V0 := Lib.hid H3.out.2.1
  have R0 := Lib.hid H3.out.2.2.1
  have hs : w.heap.size ≤ w.heap.size + 1 + 1 := by omega
  clear H3
  have E0 := Lib.hid (h5.out.later B0.out)
  go_enter Tryz.func90, Tryz.ntmps90
  go_wp2_with fail
  refine (HA.out _ B0.out).mono ?_
  rintro e w1 ⟨rfl, hb⟩
  have B1 := Lib.hid (below_then B0.out hb)
  have T1 := Lib.hid (T0.out.later hb)
  have V1 := Lib.hid (V0.out.later hb)
  have R1 := Lib.hid (R0.out.later hb)
  have E1 := Lib.hid (Ty5.later E0.out hb)
  clear hb
  obtain ⟨tc_0, tc_1, tc_2, tc_3, tc_4⟩ := fives T1.out
  obtain ⟨ec_0, ec_1, ec_2, ec_3, ec_4⟩ := E1.out
  go_wp2_with fail
  refine (within_yes hi.out.1 hi.out.2 _).mono ?_
  rintro e w' ⟨rfl, rfl⟩
  obtain ⟨rc_0, rc_1, rc_2, rc_3, rc_4⟩ := fives R1.out
  have rf_0 := R1.out.free 0
  have rf_1 := R1.out.free 1
  have rf_2 := R1.out.free 2
  have rf_3 := R1.out.free 3
  have rf_4 := R1.out.free 4
  go_wp2
  refine bodyPost_ret (by simp [results, Tryz.results90, go_sem, rc_0, rc_1, rc_2, rc_3, rc_4]; try rfl) rfl ?_
  exact ⟨rfl, (set5_below B1.out hs _ _ _ _ _)⟩
end Go.Proofs.YtdiagnhdigakpaaGreatDoor
