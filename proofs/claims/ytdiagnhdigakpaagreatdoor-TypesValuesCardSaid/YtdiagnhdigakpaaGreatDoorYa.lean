/- The contracts of the reference's Width and Name. -/
import Derived.Test.YtdiagnhdigakpaaGreatDoorUs
namespace Go.Proofs.YtdiagnhdigakpaaGreatDoor
open Go.RowKit

/-- A string and an error, or a number and an error. -/
def PairPost (x : Value) (E : Nat) (w : World) (e : Ending) (w' : World) : Prop := e = .returned (.tuple #[x, .int .i64 (E : Nat)]) ∧ Below w.heap.size w w'
set_option maxRecDepth 100000 in
set_option maxHeartbeats 8000000 in
theorem rwid_bad (k l : Int) (nm : ByteArray) (v3 v4 : Value) (w : World)
    (HV : Hid (∀ u, Below w.heap.size w u → Calls Tryz.prog 17 #[.agg #[.int .i64 k, .int .i64 l, .string nm, v3, v4]] u fun e w' => e = .returned (.bool false) ∧ Below u.heap.size u w')) :
    Calls Tryz.prog 26 #[.agg #[.int .i64 k, .int .i64 l, .string nm, v3, v4]] w (PairPost (.int .i64 0) 2 w) := by
  have B0 := Lib.hid (below_alloc w (.cells #[.int .i64 k, .int .i64 l, .string nm, v3, v4] 26))
  have T0 := Lib.hid (box1 w 26 #[.int .i64 k, .int .i64 l, .string nm, v3, v4])
  unfold PairPost
  go_enter Tryz.func26, Tryz.ntmps26
  obtain ⟨tc_0, tc_1, tc_2, tc_3, tc_4⟩ := fives T0.out
  go_wp2_with fail
  refine (HV.out _ B0.out).mono ?_
  rintro e w1 ⟨rfl, hb⟩
  have B1 := Lib.hid (below_then B0.out hb)
  have T1 := Lib.hid (T0.out.later hb)
  clear hb
  clear tc_0 tc_1 tc_2 tc_3 tc_4
  go_wp2
  go_ret2
  exact ⟨rfl, B1.out⟩
set_option maxRecDepth 100000 in
set_option maxHeartbeats 8000000 in
theorem rnam_bad (k l : Int) (nm : ByteArray) (v3 v4 : Value) (w : World)
    (HV : Hid (∀ u, Below w.heap.size w u → Calls Tryz.prog 17 #[.agg #[.int .i64 k, .int .i64 l, .string nm, v3, v4]] u fun e w' => e = .returned (.bool false) ∧ Below u.heap.size u w')) :
    Calls Tryz.prog 21 #[.agg #[.int .i64 k, .int .i64 l, .string nm, v3, v4]] w (PairPost (.string ⟨#[]⟩) 2 w) := by
  have B0 := Lib.hid (below_alloc w (.cells #[.int .i64 k, .int .i64 l, .string nm, v3, v4] 26))
  have T0 := Lib.hid (box1 w 26 #[.int .i64 k, .int .i64 l, .string nm, v3, v4])
  unfold PairPost
  go_enter Tryz.func21, Tryz.ntmps21
  obtain ⟨tc_0, tc_1, tc_2, tc_3, tc_4⟩ := fives T0.out
  go_wp2_with fail
  refine (HV.out _ B0.out).mono ?_
  rintro e w1 ⟨rfl, hb⟩
  have B1 := Lib.hid (below_then B0.out hb)
  have T1 := Lib.hid (T0.out.later hb)
  clear hb
  clear tc_0 tc_1 tc_2 tc_3 tc_4
  go_wp2
  go_ret2
  exact ⟨rfl, B1.out⟩
set_option maxRecDepth 100000 in
set_option maxHeartbeats 8000000 in
theorem rwid_1 (l : Int) (nm : ByteArray) (v3 v4 : Value) (w : World)
    (HV : Hid (∀ u, Below w.heap.size w u → Calls Tryz.prog 17 #[.agg #[.int .i64 1, .int .i64 l, .string nm, v3, v4]] u fun e w' => e = .returned (.bool true) ∧ Below u.heap.size u w')) :
    Calls Tryz.prog 26 #[.agg #[.int .i64 1, .int .i64 l, .string nm, v3, v4]] w (PairPost (.int .i64 1) 0 w) := by
  have B0 := Lib.hid (below_alloc w (.cells #[.int .i64 1, .int .i64 l, .string nm, v3, v4] 26))
  have T0 := Lib.hid (box1 w 26 #[.int .i64 1, .int .i64 l, .string nm, v3, v4])
  unfold PairPost
  go_enter Tryz.func26, Tryz.ntmps26
  obtain ⟨tc_0, tc_1, tc_2, tc_3, tc_4⟩ := fives T0.out
  go_wp2_with fail
  refine (HV.out _ B0.out).mono ?_
  rintro e w1 ⟨rfl, hb⟩
  have B1 := Lib.hid (below_then B0.out hb)
  have T1 := Lib.hid (T0.out.later hb)
  clear hb
  clear tc_0 tc_1 tc_2 tc_3 tc_4
  obtain ⟨tc_0, tc_1, tc_2, tc_3, tc_4⟩ := fives T1.out
  go_wp2
  go_ret2
  exact ⟨rfl, B1.out⟩
set_option maxRecDepth 100000 in
set_option maxHeartbeats 8000000 in
theorem rwid_2 (l : Int) (nm : ByteArray) (v3 v4 : Value) (w : World)
    (HV : Hid (∀ u, Below w.heap.size w u → Calls Tryz.prog 17 #[.agg #[.int .i64 2, .int .i64 l, .string nm, v3, v4]] u fun e w' => e = .returned (.bool true) ∧ Below u.heap.size u w')) :
    Calls Tryz.prog 26 #[.agg #[.int .i64 2, .int .i64 l, .string nm, v3, v4]] w (PairPost (.int .i64 1) 0 w) := by
  have B0 := Lib.hid (below_alloc w (.cells #[.int .i64 2, .int .i64 l, .string nm, v3, v4] 26))
  have T0 := Lib.hid (box1 w 26 #[.int .i64 2, .int .i64 l, .string nm, v3, v4])
  unfold PairPost
  go_enter Tryz.func26, Tryz.ntmps26
  obtain ⟨tc_0, tc_1, tc_2, tc_3, tc_4⟩ := fives T0.out
  go_wp2_with fail
  refine (HV.out _ B0.out).mono ?_
  rintro e w1 ⟨rfl, hb⟩
  have B1 := Lib.hid (below_then B0.out hb)
  have T1 := Lib.hid (T0.out.later hb)
  clear hb
  clear tc_0 tc_1 tc_2 tc_3 tc_4
  obtain ⟨tc_0, tc_1, tc_2, tc_3, tc_4⟩ := fives T1.out
  go_wp2
  go_ret2
  exact ⟨rfl, B1.out⟩
set_option maxRecDepth 100000 in
set_option maxHeartbeats 8000000 in
theorem rwid_3 (l : Int) (nm : ByteArray) (v3 v4 : Value) (w : World)
    (HV : Hid (∀ u, Below w.heap.size w u → Calls Tryz.prog 17 #[.agg #[.int .i64 3, .int .i64 l, .string nm, v3, v4]] u fun e w' => e = .returned (.bool true) ∧ Below u.heap.size u w')) :
    Calls Tryz.prog 26 #[.agg #[.int .i64 3, .int .i64 l, .string nm, v3, v4]] w (PairPost (.int .i64 0) 16 w) := by
  have B0 := Lib.hid (below_alloc w (.cells #[.int .i64 3, .int .i64 l, .string nm, v3, v4] 26))
  have T0 := Lib.hid (box1 w 26 #[.int .i64 3, .int .i64 l, .string nm, v3, v4])
  unfold PairPost
  go_enter Tryz.func26, Tryz.ntmps26
  obtain ⟨tc_0, tc_1, tc_2, tc_3, tc_4⟩ := fives T0.out
  go_wp2_with fail
  refine (HV.out _ B0.out).mono ?_
  rintro e w1 ⟨rfl, hb⟩
  have B1 := Lib.hid (below_then B0.out hb)
  have T1 := Lib.hid (T0.out.later hb)
  clear hb
  clear tc_0 tc_1 tc_2 tc_3 tc_4
  obtain ⟨tc_0, tc_1, tc_2, tc_3, tc_4⟩ := fives T1.out
  go_wp2
  go_ret2
  exact ⟨rfl, B1.out⟩
set_option maxRecDepth 100000 in
set_option maxHeartbeats 8000000 in
theorem rwid_4 (l : Int) (nm : ByteArray) (v3 v4 : Value) (w : World)
    (HV : Hid (∀ u, Below w.heap.size w u → Calls Tryz.prog 17 #[.agg #[.int .i64 4, .int .i64 l, .string nm, v3, v4]] u fun e w' => e = .returned (.bool true) ∧ Below u.heap.size u w')) :
    Calls Tryz.prog 26 #[.agg #[.int .i64 4, .int .i64 l, .string nm, v3, v4]] w (PairPost (.int .i64 l) 0 w) := by
  have B0 := Lib.hid (below_alloc w (.cells #[.int .i64 4, .int .i64 l, .string nm, v3, v4] 26))
  have T0 := Lib.hid (box1 w 26 #[.int .i64 4, .int .i64 l, .string nm, v3, v4])
  unfold PairPost
  go_enter Tryz.func26, Tryz.ntmps26
  obtain ⟨tc_0, tc_1, tc_2, tc_3, tc_4⟩ := fives T0.out
  go_wp2_with fail
  refine (HV.out _ B0.out).mono ?_
  rintro e w1 ⟨rfl, hb⟩
  have B1 := Lib.hid (below_then B0.out hb)
  have T1 := Lib.hid (T0.out.later hb)
  clear hb
  clear tc_0 tc_1 tc_2 tc_3 tc_4
  obtain ⟨tc_0, tc_1, tc_2, tc_3, tc_4⟩ := fives T1.out
  go_wp2
  go_ret2
  exact ⟨rfl, B1.out⟩
set_option maxRecDepth 100000 in
set_option maxHeartbeats 8000000 in
theorem rnam_1 (l : Int) (nm : ByteArray) (v3 v4 : Value) (w : World)
    (HV : Hid (∀ u, Below w.heap.size w u → Calls Tryz.prog 17 #[.agg #[.int .i64 1, .int .i64 l, .string nm, v3, v4]] u fun e w' => e = .returned (.bool true) ∧ Below u.heap.size u w')) :
    Calls Tryz.prog 21 #[.agg #[.int .i64 1, .int .i64 l, .string nm, v3, v4]] w (PairPost (.string ⟨#[98, 105, 116]⟩) 0 w) := by
  have B0 := Lib.hid (below_alloc w (.cells #[.int .i64 1, .int .i64 l, .string nm, v3, v4] 26))
  have T0 := Lib.hid (box1 w 26 #[.int .i64 1, .int .i64 l, .string nm, v3, v4])
  unfold PairPost
  go_enter Tryz.func21, Tryz.ntmps21
  obtain ⟨tc_0, tc_1, tc_2, tc_3, tc_4⟩ := fives T0.out
  go_wp2_with fail
  refine (HV.out _ B0.out).mono ?_
  rintro e w1 ⟨rfl, hb⟩
  have B1 := Lib.hid (below_then B0.out hb)
  have T1 := Lib.hid (T0.out.later hb)
  clear hb
  clear tc_0 tc_1 tc_2 tc_3 tc_4
  obtain ⟨tc_0, tc_1, tc_2, tc_3, tc_4⟩ := fives T1.out
  go_wp2
  go_ret2
  exact ⟨rfl, B1.out⟩
set_option maxRecDepth 100000 in
set_option maxHeartbeats 8000000 in
theorem rnam_2 (l : Int) (nm : ByteArray) (v3 v4 : Value) (w : World)
    (HV : Hid (∀ u, Below w.heap.size w u → Calls Tryz.prog 17 #[.agg #[.int .i64 2, .int .i64 l, .string nm, v3, v4]] u fun e w' => e = .returned (.bool true) ∧ Below u.heap.size u w')) :
    Calls Tryz.prog 21 #[.agg #[.int .i64 2, .int .i64 l, .string nm, v3, v4]] w (PairPost (.string ⟨#[98, 111, 111, 108]⟩) 0 w) := by
  have B0 := Lib.hid (below_alloc w (.cells #[.int .i64 2, .int .i64 l, .string nm, v3, v4] 26))
  have T0 := Lib.hid (box1 w 26 #[.int .i64 2, .int .i64 l, .string nm, v3, v4])
  unfold PairPost
  go_enter Tryz.func21, Tryz.ntmps21
  obtain ⟨tc_0, tc_1, tc_2, tc_3, tc_4⟩ := fives T0.out
  go_wp2_with fail
  refine (HV.out _ B0.out).mono ?_
  rintro e w1 ⟨rfl, hb⟩
  have B1 := Lib.hid (below_then B0.out hb)
  have T1 := Lib.hid (T0.out.later hb)
  clear hb
  clear tc_0 tc_1 tc_2 tc_3 tc_4
  obtain ⟨tc_0, tc_1, tc_2, tc_3, tc_4⟩ := fives T1.out
  go_wp2
  go_ret2
  exact ⟨rfl, B1.out⟩
set_option maxRecDepth 100000 in
set_option maxHeartbeats 8000000 in
theorem rnam_3 (l : Int) (nm : ByteArray) (v3 v4 : Value) (w : World)
    (HV : Hid (∀ u, Below w.heap.size w u → Calls Tryz.prog 17 #[.agg #[.int .i64 3, .int .i64 l, .string nm, v3, v4]] u fun e w' => e = .returned (.bool true) ∧ Below u.heap.size u w')) :
    Calls Tryz.prog 21 #[.agg #[.int .i64 3, .int .i64 l, .string nm, v3, v4]] w (PairPost (.string ⟨#[105, 110, 116]⟩) 0 w) := by
  have B0 := Lib.hid (below_alloc w (.cells #[.int .i64 3, .int .i64 l, .string nm, v3, v4] 26))
  have T0 := Lib.hid (box1 w 26 #[.int .i64 3, .int .i64 l, .string nm, v3, v4])
  unfold PairPost
  go_enter Tryz.func21, Tryz.ntmps21
  obtain ⟨tc_0, tc_1, tc_2, tc_3, tc_4⟩ := fives T0.out
  go_wp2_with fail
  refine (HV.out _ B0.out).mono ?_
  rintro e w1 ⟨rfl, hb⟩
  have B1 := Lib.hid (below_then B0.out hb)
  have T1 := Lib.hid (T0.out.later hb)
  clear hb
  clear tc_0 tc_1 tc_2 tc_3 tc_4
  obtain ⟨tc_0, tc_1, tc_2, tc_3, tc_4⟩ := fives T1.out
  go_wp2
  go_ret2
  exact ⟨rfl, B1.out⟩
set_option maxRecDepth 100000 in
set_option maxHeartbeats 8000000 in
theorem rnam_5 (l : Int) (nm : ByteArray) (v3 v4 : Value) (w : World)
    (HV : Hid (∀ u, Below w.heap.size w u → Calls Tryz.prog 17 #[.agg #[.int .i64 5, .int .i64 l, .string nm, v3, v4]] u fun e w' => e = .returned (.bool true) ∧ Below u.heap.size u w')) :
    Calls Tryz.prog 21 #[.agg #[.int .i64 5, .int .i64 l, .string nm, v3, v4]] w (PairPost (.string nm) 0 w) := by
  have B0 := Lib.hid (below_alloc w (.cells #[.int .i64 5, .int .i64 l, .string nm, v3, v4] 26))
  have T0 := Lib.hid (box1 w 26 #[.int .i64 5, .int .i64 l, .string nm, v3, v4])
  unfold PairPost
  go_enter Tryz.func21, Tryz.ntmps21
  obtain ⟨tc_0, tc_1, tc_2, tc_3, tc_4⟩ := fives T0.out
  go_wp2_with fail
  refine (HV.out _ B0.out).mono ?_
  rintro e w1 ⟨rfl, hb⟩
  have B1 := Lib.hid (below_then B0.out hb)
  have T1 := Lib.hid (T0.out.later hb)
  clear hb
  clear tc_0 tc_1 tc_2 tc_3 tc_4
  obtain ⟨tc_0, tc_1, tc_2, tc_3, tc_4⟩ := fives T1.out
  go_wp2
  go_ret2
  exact ⟨rfl, B1.out⟩
set_option maxRecDepth 100000 in
set_option maxHeartbeats 8000000 in
theorem rwid_5 (l : Int) (nm : ByteArray) (NA : Option Addr) (n nc : Nat) (v4 : Value) (w : World) (hn : n ≤ 16)
    (HV : Hid (∀ u, Below w.heap.size w u → Calls Tryz.prog 17 #[.agg #[.int .i64 5, .int .i64 l, .string nm, .slice NA n nc, v4]] u fun e w' => e = .returned (.bool true) ∧ Below u.heap.size u w')) :
    Calls Tryz.prog 26 #[.agg #[.int .i64 5, .int .i64 l, .string nm, .slice NA n nc, v4]] w (PairPost (.int .i64 (encN n : Nat)) 0 w) := by
  have B0 := Lib.hid (below_alloc w (.cells #[.int .i64 5, .int .i64 l, .string nm, .slice NA n nc, v4] 26))
  have T0 := Lib.hid (box1 w 26 #[.int .i64 5, .int .i64 l, .string nm, .slice NA n nc, v4])
  unfold PairPost
  go_enter Tryz.func26, Tryz.ntmps26
  obtain ⟨tc_0, tc_1, tc_2, tc_3, tc_4⟩ := fives T0.out
  go_wp2_with fail
  refine (HV.out _ B0.out).mono ?_
  rintro e w1 ⟨rfl, hb⟩
  have B1 := Lib.hid (below_then B0.out hb)
  have T1 := Lib.hid (T0.out.later hb)
  clear hb
  clear tc_0 tc_1 tc_2 tc_3 tc_4
  obtain ⟨tc_0, tc_1, tc_2, tc_3, tc_4⟩ := fives T1.out
  go_wp2_with fail
  clear tc_0 tc_1 tc_2 tc_3 tc_4
  go_loopw [4] (fun i wr => ∃ j : Nat, (j = 1 ∨ j = 2 ∧ 2 < n ∨ j = 3 ∧ 4 < n ∨ j = 4 ∧ 8 < n) ∧ i = .int .i64 j ∧ Hid (Below w.heap.size w wr) ∧ Hid (Blk wr w.heap.size 26 #[.int .i64 5, .int .i64 l, .string nm, .slice NA n nc, v4])) (fun i _ => 5 - (intOf i).toNat)
  case atStart => exact ⟨1, .inl rfl, rfl, B1, T1⟩
  case round =>
    obtain ⟨j, hj, rfl, HB, HT⟩ := hrel
    clear B0 T0 B1 T1
    obtain ⟨p0, p1, p2, p3, p4⟩ := fives HT.out
    rcases hj with rfl | ⟨rfl, hj⟩ | ⟨rfl, hj⟩ | ⟨rfl, hj⟩
    · by_cases h : 2 < n
      · have d1 : decide ((2 : Int) < (n : Int)) = true := by rw [decide_eq_true_eq]; omega
        go_wp2
        go_roundw
        case rel => exact ⟨2, .inr (.inl ⟨rfl, h⟩), rfl, HB, HT⟩
        case measure => simp [intOf]
      · have d1 : decide ((2 : Int) < (n : Int)) = false := by rw [decide_eq_false_iff_not]; omega
        have he : encN n = 1 := by unfold encN; split <;> (try split) <;> (try split) <;> omega
        go_wp2
        go_ret2
        exact ⟨by rw [he]; rfl, HB.out⟩
    · by_cases h : 4 < n
      · have d1 : decide ((4 : Int) < (n : Int)) = true := by rw [decide_eq_true_eq]; omega
        go_wp2
        go_roundw
        case rel => exact ⟨3, .inr (.inr (.inl ⟨rfl, h⟩)), rfl, HB, HT⟩
        case measure => simp [intOf]
      · have d1 : decide ((4 : Int) < (n : Int)) = false := by rw [decide_eq_false_iff_not]; omega
        have he : encN n = 2 := by unfold encN; split <;> (try split) <;> (try split) <;> omega
        go_wp2
        go_ret2
        exact ⟨by rw [he]; rfl, HB.out⟩
    · by_cases h : 8 < n
      · have d1 : decide ((8 : Int) < (n : Int)) = true := by rw [decide_eq_true_eq]; omega
        go_wp2
        go_roundw
        case rel => exact ⟨4, .inr (.inr (.inr ⟨rfl, h⟩)), rfl, HB, HT⟩
        case measure => simp [intOf]
      · have d1 : decide ((8 : Int) < (n : Int)) = false := by rw [decide_eq_false_iff_not]; omega
        have he : encN n = 3 := by unfold encN; split <;> (try split) <;> (try split) <;> omega
        go_wp2
        go_ret2
        exact ⟨by rw [he]; rfl, HB.out⟩
    · by_cases h : 16 < n
      · omega
      · have d1 : decide ((16 : Int) < (n : Int)) = false := by rw [decide_eq_false_iff_not]; omega
        have he : encN n = 4 := by unfold encN; split <;> (try split) <;> (try split) <;> omega
        go_wp2
        go_ret2
        exact ⟨by rw [he]; rfl, HB.out⟩
set_option maxRecDepth 100000 in
set_option maxHeartbeats 8000000 in
theorem rwid_6 (x E m : Nat) (l : Int) (nm : ByteArray) (v3 : Value) (b off d : Nat) (k1 l1 : Int) (nm1 : ByteArray) (A1 A2 : Option Addr) (n1 c1 n2 c2 : Nat) (w : World) (hm : IntKind.i64.wrap ((x : Int) * l) = (m : Nat))
    (HV : Hid (∀ u, Below w.heap.size w u → Calls Tryz.prog 17 #[.agg #[.int .i64 6, .int .i64 l, .string nm, v3, .slice (some ⟨b, off, none⟩) 1 d]] u fun e w' => e = .returned (.bool true) ∧ Below u.heap.size u w'))
    (h5 : Hid (Ty5 w b off k1 l1 nm1 (.slice A1 n1 c1) (.slice A2 n2 c2)))
    (HR : Hid (∀ u, Below w.heap.size w u → Calls Tryz.prog 26 #[.agg #[.int .i64 k1, .int .i64 l1, .string nm1, .slice A1 n1 c1, .slice A2 n2 c2]] u (PairPost (.int .i64 (x : Nat)) E u))) :
    Calls Tryz.prog 26 #[.agg #[.int .i64 6, .int .i64 l, .string nm, v3, .slice (some ⟨b, off, none⟩) 1 d]] w (PairPost (.int .i64 (m : Nat)) E w) := by
  have B0 := Lib.hid (below_alloc w (.cells #[.int .i64 6, .int .i64 l, .string nm, v3, .slice (some ⟨b, off, none⟩) 1 d] 26))
  have T0 := Lib.hid (box1 w 26 #[.int .i64 6, .int .i64 l, .string nm, v3, .slice (some ⟨b, off, none⟩) 1 d])
  unfold PairPost
  unfold PairPost at HR
  go_enter Tryz.func26, Tryz.ntmps26
  obtain ⟨tc_0, tc_1, tc_2, tc_3, tc_4⟩ := fives T0.out
  go_wp2_with fail
  refine (HV.out _ B0.out).mono ?_
  rintro e w1 ⟨rfl, hb⟩
  have B1 := Lib.hid (below_then B0.out hb)
  have T1 := Lib.hid (T0.out.later hb)
  clear hb
  clear tc_0 tc_1 tc_2 tc_3 tc_4
  obtain ⟨ec_0, ec_1, ec_2, ec_3, ec_4⟩ := h5.out.later B1.out
  obtain ⟨tc_0, tc_1, tc_2, tc_3, tc_4⟩ := fives T1.out
  go_wp2_with fail
  refine (HR.out _ B1.out).mono ?_
  rintro e w2 ⟨rfl, hb⟩
  have B2 := Lib.hid (below_then B1.out hb)
  have T2 := Lib.hid (T1.out.later hb)
  clear hb
  clear ec_0 ec_1 ec_2 ec_3 ec_4 tc_0 tc_1 tc_2 tc_3 tc_4
  obtain ⟨tc_0, tc_1, tc_2, tc_3, tc_4⟩ := fives T2.out
  go_wp2
  go_ret2
  exact ⟨rfl, B2.out⟩
set_option maxRecDepth 100000 in
set_option maxHeartbeats 8000000 in
theorem rnam_4 (y : ByteArray) (hz : y.size ≤ 2) (l : Int) (nm : ByteArray) (v3 v4 : Value) (w : World)
    (HV : Hid (∀ u, Below w.heap.size w u → Calls Tryz.prog 17 #[.agg #[.int .i64 4, .int .i64 l, .string nm, v3, v4]] u fun e w' => e = .returned (.bool true) ∧ Below u.heap.size u w'))
    (HD : Hid (∀ u, Below w.heap.size w u → Calls Tryz.prog 65 #[.int .i64 l] u fun e w' => e = .returned (.string y) ∧ Below u.heap.size u w')) :
    Calls Tryz.prog 21 #[.agg #[.int .i64 4, .int .i64 l, .string nm, v3, v4]] w (PairPost (.string ((⟨#[118, 101, 99, 40]⟩ : ByteArray) ++ y ++ ⟨#[41]⟩)) 0 w) := by
  have B0 := Lib.hid (below_alloc w (.cells #[.int .i64 4, .int .i64 l, .string nm, v3, v4] 26))
  have T0 := Lib.hid (box1 w 26 #[.int .i64 4, .int .i64 l, .string nm, v3, v4])
  unfold PairPost
  have hz1 : (⟨#[118, 101, 99, 40]⟩ : ByteArray).size = 4 := rfl
  have hz2 : (⟨#[41]⟩ : ByteArray).size = 1 := rfl
  go_enter Tryz.func21, Tryz.ntmps21
  obtain ⟨tc_0, tc_1, tc_2, tc_3, tc_4⟩ := fives T0.out
  go_wp2_with fail
  refine (HV.out _ B0.out).mono ?_
  rintro e w1 ⟨rfl, hb⟩
  have B1 := Lib.hid (below_then B0.out hb)
  have T1 := Lib.hid (T0.out.later hb)
  clear hb
  clear tc_0 tc_1 tc_2 tc_3 tc_4
  obtain ⟨tc_0, tc_1, tc_2, tc_3, tc_4⟩ := fives T1.out
  go_wp2_with fail
  refine (HD.out _ B1.out).mono ?_
  rintro e w2 ⟨rfl, hb⟩
  have B2 := Lib.hid (below_then B1.out hb)
  have T2 := Lib.hid (T1.out.later hb)
  clear hb
  clear tc_0 tc_1 tc_2 tc_3 tc_4
  go_wp2
  go_ret2
  exact ⟨rfl, B2.out⟩
set_option maxRecDepth 100000 in
set_option maxHeartbeats 8000000 in
theorem rnam_6 (y x : ByteArray) (hz : y.size ≤ 2) (hz3 : x.size ≤ 1000) (l : Int) (nm : ByteArray) (v3 : Value) (b off d : Nat) (k1 l1 : Int) (nm1 : ByteArray) (A1 A2 : Option Addr) (n1 c1 n2 c2 : Nat) (w : World)
    (HV : Hid (∀ u, Below w.heap.size w u → Calls Tryz.prog 17 #[.agg #[.int .i64 6, .int .i64 l, .string nm, v3, .slice (some ⟨b, off, none⟩) 1 d]] u fun e w' => e = .returned (.bool true) ∧ Below u.heap.size u w'))
    (h5 : Hid (Ty5 w b off k1 l1 nm1 (.slice A1 n1 c1) (.slice A2 n2 c2)))
    (HR : Hid (∀ u, Below w.heap.size w u → Calls Tryz.prog 21 #[.agg #[.int .i64 k1, .int .i64 l1, .string nm1, .slice A1 n1 c1, .slice A2 n2 c2]] u (PairPost (.string x) 0 u)))
    (HD : Hid (∀ u, Below w.heap.size w u → Calls Tryz.prog 65 #[.int .i64 l] u fun e w' => e = .returned (.string y) ∧ Below u.heap.size u w')) :
    Calls Tryz.prog 21 #[.agg #[.int .i64 6, .int .i64 l, .string nm, v3, .slice (some ⟨b, off, none⟩) 1 d]] w (PairPost (.string ((⟨#[97, 114, 114, 97, 121, 40]⟩ : ByteArray) ++ y ++ ⟨#[41, 32, 111, 102, 32]⟩ ++ x)) 0 w) := by
  have B0 := Lib.hid (below_alloc w (.cells #[.int .i64 6, .int .i64 l, .string nm, v3, .slice (some ⟨b, off, none⟩) 1 d] 26))
  have T0 := Lib.hid (box1 w 26 #[.int .i64 6, .int .i64 l, .string nm, v3, .slice (some ⟨b, off, none⟩) 1 d])
  unfold PairPost
  unfold PairPost at HR
  have hz1 : (⟨#[97, 114, 114, 97, 121, 40]⟩ : ByteArray).size = 6 := rfl
  have hz2 : (⟨#[41, 32, 111, 102, 32]⟩ : ByteArray).size = 5 := rfl
  go_enter Tryz.func21, Tryz.ntmps21
  obtain ⟨tc_0, tc_1, tc_2, tc_3, tc_4⟩ := fives T0.out
  go_wp2_with fail
  refine (HV.out _ B0.out).mono ?_
  rintro e w1 ⟨rfl, hb⟩
  have B1 := Lib.hid (below_then B0.out hb)
  have T1 := Lib.hid (T0.out.later hb)
  clear hb
  clear tc_0 tc_1 tc_2 tc_3 tc_4
  obtain ⟨ec_0, ec_1, ec_2, ec_3, ec_4⟩ := h5.out.later B1.out
  obtain ⟨tc_0, tc_1, tc_2, tc_3, tc_4⟩ := fives T1.out
  go_wp2_with fail
  refine (HR.out _ B1.out).mono ?_
  rintro e w2 ⟨rfl, hb⟩
  have B2 := Lib.hid (below_then B1.out hb)
  have T2 := Lib.hid (T1.out.later hb)
  clear hb
  clear ec_0 ec_1 ec_2 ec_3 ec_4 tc_0 tc_1 tc_2 tc_3 tc_4
  obtain ⟨tc_0, tc_1, tc_2, tc_3, tc_4⟩ := fives T2.out
  go_wp2_with fail
  refine (HD.out _ B2.out).mono ?_
  rintro e w3 ⟨rfl, hb⟩
  have B3 := Lib.hid (below_then B2.out hb)
  have T3 := Lib.hid (T2.out.later hb)
  clear hb
  clear tc_0 tc_1 tc_2 tc_3 tc_4
  go_wp2
  go_ret2
  exact ⟨rfl, B3.out⟩
end Go.Proofs.YtdiagnhdigakpaaGreatDoor
