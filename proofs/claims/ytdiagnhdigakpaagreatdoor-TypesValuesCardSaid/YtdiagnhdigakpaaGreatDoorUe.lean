/- The law TypesPuts: the walk. -/
import Derived.Test.YtdiagnhdigakpaaGreatDoorUd
import Derived.Test.YtdiagnhdigakpaaGreatDoorKn
import Derived.Deep.DeepCutAuto
import Derived.Deep.RegionHeld3
import Derived.StillTactics
import Derived.Deep.QuietTactic
import Derived.BigQuiet
import Derived.IntWalk
import Derived.Test.YtdiagnhdigakpaaGreatDoorKg
namespace Go.Proofs.YtdiagnhdigakpaaGreatDoor
open Go.RowKit

/-- What stands behind the first statement: two boxes with the two values, and the two numbers. -/
def PutsMid (w : World) (tcs vcs xcs : Array Value) (i0 j0 : Int) (s7 s8 s9 s10 : Value) (wx : World) : Prop :=
  ∃ p q : Nat, s7 = .pointer (some ⟨p, 0, none⟩) ∧ s8 = .pointer (some ⟨q, 0, none⟩) ∧ s9 = .int .i64 i0 ∧ s10 = .int .i64 j0 ∧ Blk wx p 38 vcs ∧ Blk wx q 38 xcs ∧ Blk wx w.heap.size 26 tcs ∧ Below w.heap.size w wx
theorem puts_mid (w X : World) (tcs vcs xcs : Array Value) (hB : Below w.heap.size w X) (hT : Blk X w.heap.size 26 tcs) (i0 j0 : Int) :
    PutsMid w tcs vcs xcs i0 j0 (.pointer (some ⟨X.heap.size, 0, none⟩)) (.pointer (some ⟨X.heap.size + 1, 0, none⟩)) (.int .i64 i0) (.int .i64 j0) ((X.alloc (.cells vcs 38)).alloc (.cells xcs 38)).drew ∧
    PutsMid w tcs vcs xcs i0 j0 (.pointer (some ⟨X.heap.size + 1, 0, none⟩)) (.pointer (some ⟨X.heap.size, 0, none⟩)) (.int .i64 i0) (.int .i64 j0) ((X.alloc (.cells xcs 38)).alloc (.cells vcs 38)).drew := by
  obtain ⟨a1, a2, a3, _⟩ := boxes2 X 38 38 vcs xcs
  obtain ⟨b1, b2, b3, _⟩ := boxes2 X 38 38 xcs vcs
  exact ⟨⟨_, _, rfl, rfl, rfl, rfl, a1, a2, hT.later a3.drew, (below_then hB a3).drew⟩, ⟨_, _, rfl, rfl, rfl, rfl, b2, b1, hT.later b3.drew, (below_then hB b3).drew⟩⟩
/-- A row of two values in a new block. -/
theorem two_row {u : World} {v x : Va} {k1 n1 k2 n2 : Int} {A1 B1 A2 B2 : Option Addr} {m1 c1 p1 d1 m2 c2 p2 d2 : Nat} (hv : VaC u v [.int .i64 k1, .int .i64 n1, .slice A1 m1 c1, .slice B1 p1 d1]) (hx : VaC u x [.int .i64 k2, .int .i64 n2, .slice A2 m2 c2, .slice B2 p2 d2]) :
    VasC (u.alloc (.cells #[.int .i64 k1, .int .i64 n1, .slice A1 m1 c1, .slice B1 p1 d1, .int .i64 k2, .int .i64 n2, .slice A2 m2 c2, .slice B2 p2 d2] 38)) (.slice (some ⟨u.heap.size, 0, none⟩) 2 2) [v, x] := by
  have hb := below_alloc u (.cells #[.int .i64 k1, .int .i64 n1, .slice A1 m1 c1, .slice B1 p1 d1, .int .i64 k2, .int .i64 n2, .slice A2 m2 c2, .slice B2 p2 d2] 38)
  have hk := Blk.new u 38 #[.int .i64 k1, .int .i64 n1, .slice A1 m1 c1, .slice B1 p1 d1, .int .i64 k2, .int .i64 n2, .slice A2 m2 c2, .slice B2 p2 d2]
  refine ⟨_, 2, rfl, by simp, by simp, .inr ⟨_, 0, rfl, ?_⟩⟩
  rw [VaAt, VaAt, VaAt]
  refine ⟨⟨_, VaC.later hb _ _ hv, ?_⟩, ⟨_, VaC.later hb _ _ hx, ?_⟩, trivial⟩
  · intro j hj
    rw [hk.cell]
    obtain h | h | h | h : j = 0 ∨ j = 1 ∨ j = 2 ∨ j = 3 := by omega
    all_goals subst h; rfl
  · intro j hj
    rw [hk.cell]
    obtain h | h | h | h : j = 0 ∨ j = 1 ∨ j = 2 ∨ j = 3 := by omega
    all_goals subst h; rfl
/-- What stands behind the two remainders. -/
def Puts2 (u : World) (I J : Nat) (s9 s10 : Value) (wx : World) : Prop := s9 = .int .i64 (I : Nat) ∧ s10 = .int .i64 (J : Nat) ∧ Below u.heap.size u wx
theorem rem_int (i : Int) (L : Nat) (h1 : 1 ≤ L) (h64 : L ≤ 64) : Value.int .i64 (wrap64 ((IntKind.u64.wrap i).tmod (L : Int))) = .int .i64 ((Lg.toU i % L : Nat) : Int) := by
  have hm : Lg.toU i % L < L := Nat.mod_lt _ (by omega)
  rw [Lg.toU_wrap, Int.tmod_eq_emod_of_nonneg (by omega), ← Int.natCast_emod]
  generalize Lg.toU i % L = m at *
  have e : wrap64 (m : Int) = (m : Int) := by unfold wrap64; omega
  rw [e]
set_option maxRecDepth 100000 in
set_option maxHeartbeats 16000000 in
theorem puts_small (k l k1 n1 k2 n2 i0 j0 : Int) (nm : ByteArray) (TA TB A1 B1 A2 B2 : Option Addr) (tn tc tm td m1 c1 p1 d1 m2 c2 p2 d2 : Nat) (v x : Va) (w : World)
    (HVc : Hid (VaC w v [.int .i64 k1, .int .i64 n1, .slice A1 m1 c1, .slice B1 p1 d1])) (HXc : Hid (VaC w x [.int .i64 k2, .int .i64 n2, .slice A2 m2 c2, .slice B2 p2 d2]))
    (HAw : Hid (∀ z, Below w.heap.size w z → Calls Tryz.prog 14 #[] z fun e w' => e = .returned (.bool true) ∧ Below z.heap.size z w'))
    (HSm : Hid (∀ z y, Below w.heap.size w z → VasC z y [v, x] → Calls Tryz.prog 13 #[.agg #[.int .i64 k, .int .i64 l, .string nm, .slice TA tn tc, .slice TB tm td], y] z fun e w' => e = .returned (.bool false) ∧ Below z.heap.size z w')) :
    Calls Tryz.prog 11 #[.agg #[.int .i64 k, .int .i64 l, .string nm, .slice TA tn tc, .slice TB tm td], .agg #[.int .i64 k1, .int .i64 n1, .slice A1 m1 c1, .slice B1 p1 d1, .int .i64 k2, .int .i64 n2, .slice A2 m2 c2, .slice B2 p2 d2], .agg #[.int .i64 i0, .int .i64 j0]] w fun e w' => e = .returned (.bool true) ∧ Below w.heap.size w w' := by
  have H3 := Lib.hid (boxes3 w 26 58 68 #[.int .i64 k, .int .i64 l, .string nm, .slice TA tn tc, .slice TB tm td] #[.int .i64 k1, .int .i64 n1, .slice A1 m1 c1, .slice B1 p1 d1, .int .i64 k2, .int .i64 n2, .slice A2 m2 c2, .slice B2 p2 d2] #[.int .i64 i0, .int .i64 j0])
  go_enter Tryz.func11, Tryz.ntmps11
  go_upto_region 1 with fail
  go_cut [7, 8, 9, 10] (fun s7 s8 s9 s10 wx => PutsMid w #[.int .i64 k, .int .i64 l, .string nm, .slice TA tn tc, .slice TB tm td] #[.int .i64 k1, .int .i64 n1, .slice A1 m1 c1, .slice B1 p1 d1] #[.int .i64 k2, .int .i64 n2, .slice A2 m2 c2, .slice B2 p2 d2] i0 j0 s7 s8 s9 s10 wx)
  case first =>
    generalize hW : ((w.alloc (.cells #[.int .i64 k, .int .i64 l, .string nm, .slice TA tn tc, .slice TB tm td] 26)).alloc (.cells #[.int .i64 k1, .int .i64 n1, .slice A1 m1 c1, .slice B1 p1 d1, .int .i64 k2, .int .i64 n2, .slice A2 m2 c2, .slice B2 p2 d2] 58)).alloc (.cells #[.int .i64 i0, .int .i64 j0] 68) = W at H3
    have kV := fun j => H3.out.2.1.cell j
    obtain ⟨v0, v1, v2, v3, v4, v5, v6, v7⟩ : W.cell? ⟨w.heap.size + 1, 0, none⟩ = some (.int .i64 k1) ∧ W.cell? ⟨w.heap.size + 1, 1, none⟩ = some (.int .i64 n1) ∧ W.cell? ⟨w.heap.size + 1, 2, none⟩ = some (.slice A1 m1 c1) ∧ W.cell? ⟨w.heap.size + 1, 3, none⟩ = some (.slice B1 p1 d1) ∧ W.cell? ⟨w.heap.size + 1, 4, none⟩ = some (.int .i64 k2) ∧ W.cell? ⟨w.heap.size + 1, 5, none⟩ = some (.int .i64 n2) ∧ W.cell? ⟨w.heap.size + 1, 6, none⟩ = some (.slice A2 m2 c2) ∧ W.cell? ⟨w.heap.size + 1, 7, none⟩ = some (.slice B2 p2 d2) := ⟨kV 0, kV 1, kV 2, kV 3, kV 4, kV 5, kV 6, kV 7⟩
    obtain ⟨i1, i2⟩ : W.cell? ⟨w.heap.size + 1 + 1, 0, none⟩ = some (.int .i64 i0) ∧ W.cell? ⟨w.heap.size + 1 + 1, 1, none⟩ = some (.int .i64 j0) := ⟨H3.out.2.2.1.cell 0, H3.out.2.2.1.cell 1⟩
    have HM := Lib.hid (puts_mid w W #[.int .i64 k, .int .i64 l, .string nm, .slice TA tn tc, .slice TB tm td] #[.int .i64 k1, .int .i64 n1, .slice A1 m1 c1, .slice B1 p1 d1] #[.int .i64 k2, .int .i64 n2, .slice A2 m2 c2, .slice B2 p2 d2] H3.out.2.2.2.1 H3.out.1 i0 j0)
    clear kV hW
    go_region_held3 (fun w' => w'.cell? ⟨w.heap.size + 1, 0, none⟩ = some (.int .i64 k1) ∧ w'.cell? ⟨w.heap.size + 1, 1, none⟩ = some (.int .i64 n1) ∧ w'.cell? ⟨w.heap.size + 1, 2, none⟩ = some (.slice A1 m1 c1) ∧ w'.cell? ⟨w.heap.size + 1, 3, none⟩ = some (.slice B1 p1 d1) ∧ w'.cell? ⟨w.heap.size + 1, 4, none⟩ = some (.int .i64 k2) ∧ w'.cell? ⟨w.heap.size + 1, 5, none⟩ = some (.int .i64 n2) ∧ w'.cell? ⟨w.heap.size + 1, 6, none⟩ = some (.slice A2 m2 c2) ∧ w'.cell? ⟨w.heap.size + 1, 7, none⟩ = some (.slice B2 p2 d2) ∧ w'.cell? ⟨w.heap.size + 1 + 1, 0, none⟩ = some (.int .i64 i0) ∧ w'.cell? ⟨w.heap.size + 1 + 1, 1, none⟩ = some (.int .i64 j0)) (go_keep) (fail)
    all_goals go_wp2
    all_goals go_meet
    all_goals first | exact HM.out.1 | exact HM.out.2
  case rest =>
    obtain ⟨p, q, rfl, rfl, rfl, rfl, hV, hX, hT, hB⟩ := hcut
    have B0 := Lib.hid hB
    have T0 := Lib.hid hT
    have V0 := Lib.hid hV
    have X0 := Lib.hid hX
    have Z0 := Lib.hid (below_alloc wc (.cells #[.int .i64 k1, .int .i64 n1, .slice A1 m1 c1, .slice B1 p1 d1, .int .i64 k2, .int .i64 n2, .slice A2 m2 c2, .slice B2 p2 d2] 38))
    have G0 := Lib.hid (HSm.out _ _ (below_then B0.out Z0.out) (two_row (VaC.later B0.out _ _ HVc.out) (VaC.later B0.out _ _ HXc.out)))
    clear hB hT hV hX H3 HSm
    obtain ⟨tc_0, tc_1, tc_2, tc_3, tc_4⟩ := fives T0.out
    obtain ⟨vc_0, vc_1, vc_2, vc_3⟩ := four V0.out
    obtain ⟨xc_0, xc_1, xc_2, xc_3⟩ := four X0.out
    go_wp2_with fail
    refine (G0.out).mono ?_
    rintro e w1 ⟨rfl, hb⟩
    have Y1 := Lib.hid (below_then Z0.out hb)
    have B1 := Lib.hid (below_then B0.out Y1.out)
    have T1 := Lib.hid (T0.out.later Y1.out)
    have V1 := Lib.hid (V0.out.later Y1.out)
    have X1 := Lib.hid (X0.out.later Y1.out)
    clear hb G0
    clear tc_0 tc_1 tc_2 tc_3 tc_4 vc_0 vc_1 vc_2 vc_3 xc_0 xc_1 xc_2 xc_3
    go_wp2_with fail
    refine (HAw.out _ B1.out).mono ?_
    rintro e w2 ⟨rfl, hb⟩
    have B2 := Lib.hid (below_then B1.out hb)
    have T2 := Lib.hid (T1.out.later hb)
    have V2 := Lib.hid (V1.out.later hb)
    have X2 := Lib.hid (X1.out.later hb)
    clear hb
    go_wp2
    go_ret
    exact ⟨rfl, B2.out⟩
set_option maxRecDepth 100000 in
set_option maxHeartbeats 16000000 in
theorem puts_has (k l k1 n1 k2 n2 i0 j0 : Int) (nm : ByteArray) (TA TB A1 B1 A2 B2 : Option Addr) (tn tc tm td m1 c1 p1 d1 m2 c2 p2 d2 : Nat) (v x : Va) (w : World)
    (HVc : Hid (VaC w v [.int .i64 k1, .int .i64 n1, .slice A1 m1 c1, .slice B1 p1 d1])) (HXc : Hid (VaC w x [.int .i64 k2, .int .i64 n2, .slice A2 m2 c2, .slice B2 p2 d2]))
    (HAw : Hid (∀ z, Below w.heap.size w z → Calls Tryz.prog 14 #[] z fun e w' => e = .returned (.bool true) ∧ Below z.heap.size z w'))
    (HSm : Hid (∀ z y, Below w.heap.size w z → VasC z y [v, x] → Calls Tryz.prog 13 #[.agg #[.int .i64 k, .int .i64 l, .string nm, .slice TA tn tc, .slice TB tm td], y] z fun e w' => e = .returned (.bool true) ∧ Below z.heap.size z w'))
    (HHr : Hid (∀ z, Below w.heap.size w z → Calls Tryz.prog 31 #[.agg #[.int .i64 k, .int .i64 l, .string nm, .slice TA tn tc, .slice TB tm td], .agg #[.int .i64 k1, .int .i64 n1, .slice A1 m1 c1, .slice B1 p1 d1]] z fun e w' => e = .returned (.bool false) ∧ Below z.heap.size z w')) :
    Calls Tryz.prog 11 #[.agg #[.int .i64 k, .int .i64 l, .string nm, .slice TA tn tc, .slice TB tm td], .agg #[.int .i64 k1, .int .i64 n1, .slice A1 m1 c1, .slice B1 p1 d1, .int .i64 k2, .int .i64 n2, .slice A2 m2 c2, .slice B2 p2 d2], .agg #[.int .i64 i0, .int .i64 j0]] w fun e w' => e = .returned (.bool true) ∧ Below w.heap.size w w' := by
  have H3 := Lib.hid (boxes3 w 26 58 68 #[.int .i64 k, .int .i64 l, .string nm, .slice TA tn tc, .slice TB tm td] #[.int .i64 k1, .int .i64 n1, .slice A1 m1 c1, .slice B1 p1 d1, .int .i64 k2, .int .i64 n2, .slice A2 m2 c2, .slice B2 p2 d2] #[.int .i64 i0, .int .i64 j0])
  go_enter Tryz.func11, Tryz.ntmps11
  go_upto_region 1 with fail
  go_cut [7, 8, 9, 10] (fun s7 s8 s9 s10 wx => PutsMid w #[.int .i64 k, .int .i64 l, .string nm, .slice TA tn tc, .slice TB tm td] #[.int .i64 k1, .int .i64 n1, .slice A1 m1 c1, .slice B1 p1 d1] #[.int .i64 k2, .int .i64 n2, .slice A2 m2 c2, .slice B2 p2 d2] i0 j0 s7 s8 s9 s10 wx)
  case first =>
    generalize hW : ((w.alloc (.cells #[.int .i64 k, .int .i64 l, .string nm, .slice TA tn tc, .slice TB tm td] 26)).alloc (.cells #[.int .i64 k1, .int .i64 n1, .slice A1 m1 c1, .slice B1 p1 d1, .int .i64 k2, .int .i64 n2, .slice A2 m2 c2, .slice B2 p2 d2] 58)).alloc (.cells #[.int .i64 i0, .int .i64 j0] 68) = W at H3
    have kV := fun j => H3.out.2.1.cell j
    obtain ⟨v0, v1, v2, v3, v4, v5, v6, v7⟩ : W.cell? ⟨w.heap.size + 1, 0, none⟩ = some (.int .i64 k1) ∧ W.cell? ⟨w.heap.size + 1, 1, none⟩ = some (.int .i64 n1) ∧ W.cell? ⟨w.heap.size + 1, 2, none⟩ = some (.slice A1 m1 c1) ∧ W.cell? ⟨w.heap.size + 1, 3, none⟩ = some (.slice B1 p1 d1) ∧ W.cell? ⟨w.heap.size + 1, 4, none⟩ = some (.int .i64 k2) ∧ W.cell? ⟨w.heap.size + 1, 5, none⟩ = some (.int .i64 n2) ∧ W.cell? ⟨w.heap.size + 1, 6, none⟩ = some (.slice A2 m2 c2) ∧ W.cell? ⟨w.heap.size + 1, 7, none⟩ = some (.slice B2 p2 d2) := ⟨kV 0, kV 1, kV 2, kV 3, kV 4, kV 5, kV 6, kV 7⟩
    obtain ⟨i1, i2⟩ : W.cell? ⟨w.heap.size + 1 + 1, 0, none⟩ = some (.int .i64 i0) ∧ W.cell? ⟨w.heap.size + 1 + 1, 1, none⟩ = some (.int .i64 j0) := ⟨H3.out.2.2.1.cell 0, H3.out.2.2.1.cell 1⟩
    have HM := Lib.hid (puts_mid w W #[.int .i64 k, .int .i64 l, .string nm, .slice TA tn tc, .slice TB tm td] #[.int .i64 k1, .int .i64 n1, .slice A1 m1 c1, .slice B1 p1 d1] #[.int .i64 k2, .int .i64 n2, .slice A2 m2 c2, .slice B2 p2 d2] H3.out.2.2.2.1 H3.out.1 i0 j0)
    clear kV hW
    go_region_held3 (fun w' => w'.cell? ⟨w.heap.size + 1, 0, none⟩ = some (.int .i64 k1) ∧ w'.cell? ⟨w.heap.size + 1, 1, none⟩ = some (.int .i64 n1) ∧ w'.cell? ⟨w.heap.size + 1, 2, none⟩ = some (.slice A1 m1 c1) ∧ w'.cell? ⟨w.heap.size + 1, 3, none⟩ = some (.slice B1 p1 d1) ∧ w'.cell? ⟨w.heap.size + 1, 4, none⟩ = some (.int .i64 k2) ∧ w'.cell? ⟨w.heap.size + 1, 5, none⟩ = some (.int .i64 n2) ∧ w'.cell? ⟨w.heap.size + 1, 6, none⟩ = some (.slice A2 m2 c2) ∧ w'.cell? ⟨w.heap.size + 1, 7, none⟩ = some (.slice B2 p2 d2) ∧ w'.cell? ⟨w.heap.size + 1 + 1, 0, none⟩ = some (.int .i64 i0) ∧ w'.cell? ⟨w.heap.size + 1 + 1, 1, none⟩ = some (.int .i64 j0)) (go_keep) (fail)
    all_goals go_wp2
    all_goals go_meet
    all_goals first | exact HM.out.1 | exact HM.out.2
  case rest =>
    obtain ⟨p, q, rfl, rfl, rfl, rfl, hV, hX, hT, hB⟩ := hcut
    have B0 := Lib.hid hB
    have T0 := Lib.hid hT
    have V0 := Lib.hid hV
    have X0 := Lib.hid hX
    have Z0 := Lib.hid (below_alloc wc (.cells #[.int .i64 k1, .int .i64 n1, .slice A1 m1 c1, .slice B1 p1 d1, .int .i64 k2, .int .i64 n2, .slice A2 m2 c2, .slice B2 p2 d2] 38))
    have G0 := Lib.hid (HSm.out _ _ (below_then B0.out Z0.out) (two_row (VaC.later B0.out _ _ HVc.out) (VaC.later B0.out _ _ HXc.out)))
    clear hB hT hV hX H3 HSm
    obtain ⟨tc_0, tc_1, tc_2, tc_3, tc_4⟩ := fives T0.out
    obtain ⟨vc_0, vc_1, vc_2, vc_3⟩ := four V0.out
    obtain ⟨xc_0, xc_1, xc_2, xc_3⟩ := four X0.out
    go_wp2_with fail
    refine (G0.out).mono ?_
    rintro e w1 ⟨rfl, hb⟩
    have Y1 := Lib.hid (below_then Z0.out hb)
    have B1 := Lib.hid (below_then B0.out Y1.out)
    have T1 := Lib.hid (T0.out.later Y1.out)
    have V1 := Lib.hid (V0.out.later Y1.out)
    have X1 := Lib.hid (X0.out.later Y1.out)
    clear hb G0
    clear tc_0 tc_1 tc_2 tc_3 tc_4 vc_0 vc_1 vc_2 vc_3 xc_0 xc_1 xc_2 xc_3
    obtain ⟨tc_0, tc_1, tc_2, tc_3, tc_4⟩ := fives T1.out
    obtain ⟨vc_0, vc_1, vc_2, vc_3⟩ := four V1.out
    go_wp2_with fail
    refine (HHr.out _ B1.out).mono ?_
    rintro e w2 ⟨rfl, hb⟩
    have B2 := Lib.hid (below_then B1.out hb)
    have T2 := Lib.hid (T1.out.later hb)
    have V2 := Lib.hid (V1.out.later hb)
    have X2 := Lib.hid (X1.out.later hb)
    clear hb
    clear tc_0 tc_1 tc_2 tc_3 tc_4 vc_0 vc_1 vc_2 vc_3
    go_wp2_with fail
    refine (HAw.out _ B2.out).mono ?_
    rintro e w3 ⟨rfl, hb⟩
    have B3 := Lib.hid (below_then B2.out hb)
    have T3 := Lib.hid (T2.out.later hb)
    have V3 := Lib.hid (V2.out.later hb)
    have X3 := Lib.hid (X2.out.later hb)
    clear hb
    go_wp2
    go_ret
    exact ⟨rfl, B3.out⟩
set_option maxRecDepth 100000 in
set_option maxHeartbeats 16000000 in
theorem puts_len (k l k1 n1 k2 n2 i0 j0 : Int) (nm : ByteArray) (TA TB A1 B1 A2 B2 : Option Addr) (tn tc tm td m1 c1 p1 d1 m2 c2 p2 d2 : Nat) (v x : Va) (w : World) (hl : l < 1)
    (HVc : Hid (VaC w v [.int .i64 k1, .int .i64 n1, .slice A1 m1 c1, .slice B1 p1 d1])) (HXc : Hid (VaC w x [.int .i64 k2, .int .i64 n2, .slice A2 m2 c2, .slice B2 p2 d2]))
    (HAw : Hid (∀ z, Below w.heap.size w z → Calls Tryz.prog 14 #[] z fun e w' => e = .returned (.bool true) ∧ Below z.heap.size z w'))
    (HSm : Hid (∀ z y, Below w.heap.size w z → VasC z y [v, x] → Calls Tryz.prog 13 #[.agg #[.int .i64 k, .int .i64 l, .string nm, .slice TA tn tc, .slice TB tm td], y] z fun e w' => e = .returned (.bool true) ∧ Below z.heap.size z w'))
    (HHr : Hid (∀ z, Below w.heap.size w z → Calls Tryz.prog 31 #[.agg #[.int .i64 k, .int .i64 l, .string nm, .slice TA tn tc, .slice TB tm td], .agg #[.int .i64 k1, .int .i64 n1, .slice A1 m1 c1, .slice B1 p1 d1]] z fun e w' => e = .returned (.bool true) ∧ Below z.heap.size z w')) :
    Calls Tryz.prog 11 #[.agg #[.int .i64 k, .int .i64 l, .string nm, .slice TA tn tc, .slice TB tm td], .agg #[.int .i64 k1, .int .i64 n1, .slice A1 m1 c1, .slice B1 p1 d1, .int .i64 k2, .int .i64 n2, .slice A2 m2 c2, .slice B2 p2 d2], .agg #[.int .i64 i0, .int .i64 j0]] w fun e w' => e = .returned (.bool true) ∧ Below w.heap.size w w' := by
  have H3 := Lib.hid (boxes3 w 26 58 68 #[.int .i64 k, .int .i64 l, .string nm, .slice TA tn tc, .slice TB tm td] #[.int .i64 k1, .int .i64 n1, .slice A1 m1 c1, .slice B1 p1 d1, .int .i64 k2, .int .i64 n2, .slice A2 m2 c2, .slice B2 p2 d2] #[.int .i64 i0, .int .i64 j0])
  go_enter Tryz.func11, Tryz.ntmps11
  go_upto_region 1 with fail
  go_cut [7, 8, 9, 10] (fun s7 s8 s9 s10 wx => PutsMid w #[.int .i64 k, .int .i64 l, .string nm, .slice TA tn tc, .slice TB tm td] #[.int .i64 k1, .int .i64 n1, .slice A1 m1 c1, .slice B1 p1 d1] #[.int .i64 k2, .int .i64 n2, .slice A2 m2 c2, .slice B2 p2 d2] i0 j0 s7 s8 s9 s10 wx)
  case first =>
    generalize hW : ((w.alloc (.cells #[.int .i64 k, .int .i64 l, .string nm, .slice TA tn tc, .slice TB tm td] 26)).alloc (.cells #[.int .i64 k1, .int .i64 n1, .slice A1 m1 c1, .slice B1 p1 d1, .int .i64 k2, .int .i64 n2, .slice A2 m2 c2, .slice B2 p2 d2] 58)).alloc (.cells #[.int .i64 i0, .int .i64 j0] 68) = W at H3
    have kV := fun j => H3.out.2.1.cell j
    obtain ⟨v0, v1, v2, v3, v4, v5, v6, v7⟩ : W.cell? ⟨w.heap.size + 1, 0, none⟩ = some (.int .i64 k1) ∧ W.cell? ⟨w.heap.size + 1, 1, none⟩ = some (.int .i64 n1) ∧ W.cell? ⟨w.heap.size + 1, 2, none⟩ = some (.slice A1 m1 c1) ∧ W.cell? ⟨w.heap.size + 1, 3, none⟩ = some (.slice B1 p1 d1) ∧ W.cell? ⟨w.heap.size + 1, 4, none⟩ = some (.int .i64 k2) ∧ W.cell? ⟨w.heap.size + 1, 5, none⟩ = some (.int .i64 n2) ∧ W.cell? ⟨w.heap.size + 1, 6, none⟩ = some (.slice A2 m2 c2) ∧ W.cell? ⟨w.heap.size + 1, 7, none⟩ = some (.slice B2 p2 d2) := ⟨kV 0, kV 1, kV 2, kV 3, kV 4, kV 5, kV 6, kV 7⟩
    obtain ⟨i1, i2⟩ : W.cell? ⟨w.heap.size + 1 + 1, 0, none⟩ = some (.int .i64 i0) ∧ W.cell? ⟨w.heap.size + 1 + 1, 1, none⟩ = some (.int .i64 j0) := ⟨H3.out.2.2.1.cell 0, H3.out.2.2.1.cell 1⟩
    have HM := Lib.hid (puts_mid w W #[.int .i64 k, .int .i64 l, .string nm, .slice TA tn tc, .slice TB tm td] #[.int .i64 k1, .int .i64 n1, .slice A1 m1 c1, .slice B1 p1 d1] #[.int .i64 k2, .int .i64 n2, .slice A2 m2 c2, .slice B2 p2 d2] H3.out.2.2.2.1 H3.out.1 i0 j0)
    clear kV hW
    go_region_held3 (fun w' => w'.cell? ⟨w.heap.size + 1, 0, none⟩ = some (.int .i64 k1) ∧ w'.cell? ⟨w.heap.size + 1, 1, none⟩ = some (.int .i64 n1) ∧ w'.cell? ⟨w.heap.size + 1, 2, none⟩ = some (.slice A1 m1 c1) ∧ w'.cell? ⟨w.heap.size + 1, 3, none⟩ = some (.slice B1 p1 d1) ∧ w'.cell? ⟨w.heap.size + 1, 4, none⟩ = some (.int .i64 k2) ∧ w'.cell? ⟨w.heap.size + 1, 5, none⟩ = some (.int .i64 n2) ∧ w'.cell? ⟨w.heap.size + 1, 6, none⟩ = some (.slice A2 m2 c2) ∧ w'.cell? ⟨w.heap.size + 1, 7, none⟩ = some (.slice B2 p2 d2) ∧ w'.cell? ⟨w.heap.size + 1 + 1, 0, none⟩ = some (.int .i64 i0) ∧ w'.cell? ⟨w.heap.size + 1 + 1, 1, none⟩ = some (.int .i64 j0)) (go_keep) (fail)
    all_goals go_wp2
    all_goals go_meet
    all_goals first | exact HM.out.1 | exact HM.out.2
  case rest =>
    obtain ⟨p, q, rfl, rfl, rfl, rfl, hV, hX, hT, hB⟩ := hcut
    have B0 := Lib.hid hB
    have T0 := Lib.hid hT
    have V0 := Lib.hid hV
    have X0 := Lib.hid hX
    have Z0 := Lib.hid (below_alloc wc (.cells #[.int .i64 k1, .int .i64 n1, .slice A1 m1 c1, .slice B1 p1 d1, .int .i64 k2, .int .i64 n2, .slice A2 m2 c2, .slice B2 p2 d2] 38))
    have G0 := Lib.hid (HSm.out _ _ (below_then B0.out Z0.out) (two_row (VaC.later B0.out _ _ HVc.out) (VaC.later B0.out _ _ HXc.out)))
    clear hB hT hV hX H3 HSm
    obtain ⟨tc_0, tc_1, tc_2, tc_3, tc_4⟩ := fives T0.out
    obtain ⟨vc_0, vc_1, vc_2, vc_3⟩ := four V0.out
    obtain ⟨xc_0, xc_1, xc_2, xc_3⟩ := four X0.out
    go_wp2_with fail
    refine (G0.out).mono ?_
    rintro e w1 ⟨rfl, hb⟩
    have Y1 := Lib.hid (below_then Z0.out hb)
    have B1 := Lib.hid (below_then B0.out Y1.out)
    have T1 := Lib.hid (T0.out.later Y1.out)
    have V1 := Lib.hid (V0.out.later Y1.out)
    have X1 := Lib.hid (X0.out.later Y1.out)
    clear hb G0
    clear tc_0 tc_1 tc_2 tc_3 tc_4 vc_0 vc_1 vc_2 vc_3 xc_0 xc_1 xc_2 xc_3
    obtain ⟨tc_0, tc_1, tc_2, tc_3, tc_4⟩ := fives T1.out
    obtain ⟨vc_0, vc_1, vc_2, vc_3⟩ := four V1.out
    go_wp2_with fail
    refine (HHr.out _ B1.out).mono ?_
    rintro e w2 ⟨rfl, hb⟩
    have B2 := Lib.hid (below_then B1.out hb)
    have T2 := Lib.hid (T1.out.later hb)
    have V2 := Lib.hid (V1.out.later hb)
    have X2 := Lib.hid (X1.out.later hb)
    clear hb
    clear tc_0 tc_1 tc_2 tc_3 tc_4 vc_0 vc_1 vc_2 vc_3
    obtain ⟨tc_0, tc_1, tc_2, tc_3, tc_4⟩ := fives T2.out
    have hd : decide (l < 1) = true := decide_eq_true hl
    go_wp2_with fail
    refine (HAw.out _ B2.out).mono ?_
    rintro e w3 ⟨rfl, hb⟩
    have B3 := Lib.hid (below_then B2.out hb)
    have T3 := Lib.hid (T2.out.later hb)
    have V3 := Lib.hid (V2.out.later hb)
    have X3 := Lib.hid (X2.out.later hb)
    clear hb
    clear tc_0 tc_1 tc_2 tc_3 tc_4
    go_wp2
    go_ret
    exact ⟨rfl, B3.out⟩
set_option maxRecDepth 100000 in
set_option maxHeartbeats 16000000 in
theorem puts_err (k k1 n1 k2 n2 i0 j0 : Int) (nm : ByteArray) (TA TB A1 B1 A2 B2 : Option Addr) (tn tc tm td m1 c1 p1 d1 m2 c2 p2 d2 : Nat) (L : Nat) (h1 : 1 ≤ L) (h64 : L ≤ 64) (v x : Va) (w : World)
    (HVc : Hid (VaC w v [.int .i64 k1, .int .i64 n1, .slice A1 m1 c1, .slice B1 p1 d1])) (HXc : Hid (VaC w x [.int .i64 k2, .int .i64 n2, .slice A2 m2 c2, .slice B2 p2 d2]))
    (HAw : Hid (∀ z, Below w.heap.size w z → Calls Tryz.prog 14 #[] z fun e w' => e = .returned (.bool true) ∧ Below z.heap.size z w'))
    (HSm : Hid (∀ z y, Below w.heap.size w z → VasC z y [v, x] → Calls Tryz.prog 13 #[.agg #[.int .i64 k, .int .i64 (L : Nat), .string nm, .slice TA tn tc, .slice TB tm td], y] z fun e w' => e = .returned (.bool true) ∧ Below z.heap.size z w'))
    (HHr : Hid (∀ z, Below w.heap.size w z → Calls Tryz.prog 31 #[.agg #[.int .i64 k, .int .i64 (L : Nat), .string nm, .slice TA tn tc, .slice TB tm td], .agg #[.int .i64 k1, .int .i64 n1, .slice A1 m1 c1, .slice B1 p1 d1]] z fun e w' => e = .returned (.bool true) ∧ Below z.heap.size z w'))
    (HW : Hid (∀ z, Below w.heap.size w z → Calls Tryz.prog 46 #[.agg #[.int .i64 k, .int .i64 (L : Nat), .string nm, .slice TA tn tc, .slice TB tm td], .agg #[.int .i64 k1, .int .i64 n1, .slice A1 m1 c1, .slice B1 p1 d1], .int .i64 (Lg.toU i0 % L : Nat), .agg #[.int .i64 k2, .int .i64 n2, .slice A2 m2 c2, .slice B2 p2 d2]] z (FirstPost zeroV 2 z))) :
    Calls Tryz.prog 11 #[.agg #[.int .i64 k, .int .i64 (L : Nat), .string nm, .slice TA tn tc, .slice TB tm td], .agg #[.int .i64 k1, .int .i64 n1, .slice A1 m1 c1, .slice B1 p1 d1, .int .i64 k2, .int .i64 n2, .slice A2 m2 c2, .slice B2 p2 d2], .agg #[.int .i64 i0, .int .i64 j0]] w fun e w' => e = .returned (.bool true) ∧ Below w.heap.size w w' := by
  have H3 := Lib.hid (boxes3 w 26 58 68 #[.int .i64 k, .int .i64 (L : Nat), .string nm, .slice TA tn tc, .slice TB tm td] #[.int .i64 k1, .int .i64 n1, .slice A1 m1 c1, .slice B1 p1 d1, .int .i64 k2, .int .i64 n2, .slice A2 m2 c2, .slice B2 p2 d2] #[.int .i64 i0, .int .i64 j0])
  go_enter Tryz.func11, Tryz.ntmps11
  go_upto_region 1 with fail
  go_cut [7, 8, 9, 10] (fun s7 s8 s9 s10 wx => PutsMid w #[.int .i64 k, .int .i64 (L : Nat), .string nm, .slice TA tn tc, .slice TB tm td] #[.int .i64 k1, .int .i64 n1, .slice A1 m1 c1, .slice B1 p1 d1] #[.int .i64 k2, .int .i64 n2, .slice A2 m2 c2, .slice B2 p2 d2] i0 j0 s7 s8 s9 s10 wx)
  case first =>
    generalize hW : ((w.alloc (.cells #[.int .i64 k, .int .i64 (L : Nat), .string nm, .slice TA tn tc, .slice TB tm td] 26)).alloc (.cells #[.int .i64 k1, .int .i64 n1, .slice A1 m1 c1, .slice B1 p1 d1, .int .i64 k2, .int .i64 n2, .slice A2 m2 c2, .slice B2 p2 d2] 58)).alloc (.cells #[.int .i64 i0, .int .i64 j0] 68) = W at H3
    have kV := fun j => H3.out.2.1.cell j
    obtain ⟨v0, v1, v2, v3, v4, v5, v6, v7⟩ : W.cell? ⟨w.heap.size + 1, 0, none⟩ = some (.int .i64 k1) ∧ W.cell? ⟨w.heap.size + 1, 1, none⟩ = some (.int .i64 n1) ∧ W.cell? ⟨w.heap.size + 1, 2, none⟩ = some (.slice A1 m1 c1) ∧ W.cell? ⟨w.heap.size + 1, 3, none⟩ = some (.slice B1 p1 d1) ∧ W.cell? ⟨w.heap.size + 1, 4, none⟩ = some (.int .i64 k2) ∧ W.cell? ⟨w.heap.size + 1, 5, none⟩ = some (.int .i64 n2) ∧ W.cell? ⟨w.heap.size + 1, 6, none⟩ = some (.slice A2 m2 c2) ∧ W.cell? ⟨w.heap.size + 1, 7, none⟩ = some (.slice B2 p2 d2) := ⟨kV 0, kV 1, kV 2, kV 3, kV 4, kV 5, kV 6, kV 7⟩
    obtain ⟨i1, i2⟩ : W.cell? ⟨w.heap.size + 1 + 1, 0, none⟩ = some (.int .i64 i0) ∧ W.cell? ⟨w.heap.size + 1 + 1, 1, none⟩ = some (.int .i64 j0) := ⟨H3.out.2.2.1.cell 0, H3.out.2.2.1.cell 1⟩
    have HM := Lib.hid (puts_mid w W #[.int .i64 k, .int .i64 (L : Nat), .string nm, .slice TA tn tc, .slice TB tm td] #[.int .i64 k1, .int .i64 n1, .slice A1 m1 c1, .slice B1 p1 d1] #[.int .i64 k2, .int .i64 n2, .slice A2 m2 c2, .slice B2 p2 d2] H3.out.2.2.2.1 H3.out.1 i0 j0)
    clear kV hW
    go_region_held3 (fun w' => w'.cell? ⟨w.heap.size + 1, 0, none⟩ = some (.int .i64 k1) ∧ w'.cell? ⟨w.heap.size + 1, 1, none⟩ = some (.int .i64 n1) ∧ w'.cell? ⟨w.heap.size + 1, 2, none⟩ = some (.slice A1 m1 c1) ∧ w'.cell? ⟨w.heap.size + 1, 3, none⟩ = some (.slice B1 p1 d1) ∧ w'.cell? ⟨w.heap.size + 1, 4, none⟩ = some (.int .i64 k2) ∧ w'.cell? ⟨w.heap.size + 1, 5, none⟩ = some (.int .i64 n2) ∧ w'.cell? ⟨w.heap.size + 1, 6, none⟩ = some (.slice A2 m2 c2) ∧ w'.cell? ⟨w.heap.size + 1, 7, none⟩ = some (.slice B2 p2 d2) ∧ w'.cell? ⟨w.heap.size + 1 + 1, 0, none⟩ = some (.int .i64 i0) ∧ w'.cell? ⟨w.heap.size + 1 + 1, 1, none⟩ = some (.int .i64 j0)) (go_keep) (fail)
    all_goals go_wp2
    all_goals go_meet
    all_goals first | exact HM.out.1 | exact HM.out.2
  case rest =>
    obtain ⟨p, q, rfl, rfl, rfl, rfl, hV, hX, hT, hB⟩ := hcut
    have B0 := Lib.hid hB
    have T0 := Lib.hid hT
    have V0 := Lib.hid hV
    have X0 := Lib.hid hX
    have Z0 := Lib.hid (below_alloc wc (.cells #[.int .i64 k1, .int .i64 n1, .slice A1 m1 c1, .slice B1 p1 d1, .int .i64 k2, .int .i64 n2, .slice A2 m2 c2, .slice B2 p2 d2] 38))
    have G0 := Lib.hid (HSm.out _ _ (below_then B0.out Z0.out) (two_row (VaC.later B0.out _ _ HVc.out) (VaC.later B0.out _ _ HXc.out)))
    clear hB hT hV hX H3 HSm
    obtain ⟨tc_0, tc_1, tc_2, tc_3, tc_4⟩ := fives T0.out
    obtain ⟨vc_0, vc_1, vc_2, vc_3⟩ := four V0.out
    obtain ⟨xc_0, xc_1, xc_2, xc_3⟩ := four X0.out
    go_wp2_with fail
    refine (G0.out).mono ?_
    rintro e w1 ⟨rfl, hb⟩
    have Y1 := Lib.hid (below_then Z0.out hb)
    have B1 := Lib.hid (below_then B0.out Y1.out)
    have T1 := Lib.hid (T0.out.later Y1.out)
    have V1 := Lib.hid (V0.out.later Y1.out)
    have X1 := Lib.hid (X0.out.later Y1.out)
    clear hb G0
    clear tc_0 tc_1 tc_2 tc_3 tc_4 vc_0 vc_1 vc_2 vc_3 xc_0 xc_1 xc_2 xc_3
    obtain ⟨tc_0, tc_1, tc_2, tc_3, tc_4⟩ := fives T1.out
    obtain ⟨vc_0, vc_1, vc_2, vc_3⟩ := four V1.out
    go_wp2_with fail
    refine (HHr.out _ B1.out).mono ?_
    rintro e w2 ⟨rfl, hb⟩
    have B2 := Lib.hid (below_then B1.out hb)
    have T2 := Lib.hid (T1.out.later hb)
    have V2 := Lib.hid (V1.out.later hb)
    have X2 := Lib.hid (X1.out.later hb)
    clear hb
    clear tc_0 tc_1 tc_2 tc_3 tc_4 vc_0 vc_1 vc_2 vc_3
    obtain ⟨tc_0, tc_1, tc_2, tc_3, tc_4⟩ := fives T2.out
    have hd : decide ((L : Int) < 1) = false := by rw [decide_eq_false_iff_not]; omega
    skip
    go_upto_region 4 with fail
    go_cut [9, 10] (fun s9 s10 wx => Puts2 w2 (Lg.toU i0 % L) (Lg.toU j0 % L) s9 s10 wx)
    case first =>
      obtain ⟨tc_0, tc_1, tc_2, tc_3, tc_4⟩ := fives T2.out
      go_quiet (fail)
      go_wp2
      go_meet
      exact ⟨rem_int i0 L (by omega) (by omega), rem_int j0 L (by omega) (by omega), below_drewN (Below.refl _ _) _⟩
    case rest =>
      obtain ⟨rfl, rfl, hb⟩ := hcut
      have B3 := Lib.hid (below_then B2.out hb)
      have T3 := Lib.hid (T2.out.later hb)
      have V3 := Lib.hid (V2.out.later hb)
      have X3 := Lib.hid (X2.out.later hb)
      clear hb
      generalize Lg.toU i0 % L = I at *
      generalize Lg.toU j0 % L = J at *
      obtain ⟨tc_0, tc_1, tc_2, tc_3, tc_4⟩ := fives T3.out
      obtain ⟨vc_0, vc_1, vc_2, vc_3⟩ := four V3.out
      obtain ⟨xc_0, xc_1, xc_2, xc_3⟩ := four X3.out
      go_wp2_with fail
      refine (HW.out _ B3.out).mono ?_
      rintro e w4 ⟨AU, nU, cU, BU, mU, dU, rfl, hvc, hb⟩
      have Z4 := Lib.hid (below_alloc w4 (.cells #[.int .i64 zeroV.kind, .int .i64 zeroV.n, .slice AU nU cU, .slice BU mU dU] 38))
      have Y4 := Lib.hid (below_then hb Z4.out)
      have B4 := Lib.hid (below_then B3.out Y4.out)
      have T4 := Lib.hid (T3.out.later Y4.out)
      have V4 := Lib.hid (V3.out.later Y4.out)
      have X4 := Lib.hid (X3.out.later Y4.out)
      have U4 : Hid (Blk (w4.alloc (.cells #[.int .i64 zeroV.kind, .int .i64 zeroV.n, .slice AU nU cU, .slice BU mU dU] 38)) w4.heap.size 38 #[.int .i64 zeroV.kind, .int .i64 zeroV.n, .slice AU nU cU, .slice BU mU dU]) := Blk.new _ _ _
      have CU4 := Lib.hid (VaC.later Z4.out _ _ hvc)
      clear hb hvc
      clear tc_0 tc_1 tc_2 tc_3 tc_4 vc_0 vc_1 vc_2 vc_3 xc_0 xc_1 xc_2 xc_3
      go_wp2_with fail
      refine (HAw.out _ B4.out).mono ?_
      rintro e w5 ⟨rfl, hb⟩
      have B5 := Lib.hid (below_then B4.out hb)
      have T5 := Lib.hid (T4.out.later hb)
      have V5 := Lib.hid (V4.out.later hb)
      have X5 := Lib.hid (X4.out.later hb)
      have U5 := Lib.hid (U4.out.later hb)
      have CU5 := Lib.hid (VaC.later hb _ _ CU4.out)
      clear hb
      go_wp2
      go_ret
      exact ⟨rfl, B5.out⟩
set_option maxRecDepth 100000 in
set_option maxHeartbeats 16000000 in
theorem puts_same (k k1 n1 k2 n2 i0 j0 : Int) (nm : ByteArray) (TA TB A1 B1 A2 B2 : Option Addr) (tn tc tm td m1 c1 p1 d1 m2 c2 p2 d2 : Nat) (L : Nat) (h1 : 1 ≤ L) (h64 : L ≤ 64) (v x : Va) (w : World) (uu xa xb xc : Va) (hij : Lg.toU i0 % L = Lg.toU j0 % L)
    (HVc : Hid (VaC w v [.int .i64 k1, .int .i64 n1, .slice A1 m1 c1, .slice B1 p1 d1])) (HXc : Hid (VaC w x [.int .i64 k2, .int .i64 n2, .slice A2 m2 c2, .slice B2 p2 d2]))
    (HAw : Hid (∀ z, Below w.heap.size w z → Calls Tryz.prog 14 #[] z fun e w' => e = .returned (.bool true) ∧ Below z.heap.size z w'))
    (HSm : Hid (∀ z y, Below w.heap.size w z → VasC z y [v, x] → Calls Tryz.prog 13 #[.agg #[.int .i64 k, .int .i64 (L : Nat), .string nm, .slice TA tn tc, .slice TB tm td], y] z fun e w' => e = .returned (.bool true) ∧ Below z.heap.size z w'))
    (HHr : Hid (∀ z, Below w.heap.size w z → Calls Tryz.prog 31 #[.agg #[.int .i64 k, .int .i64 (L : Nat), .string nm, .slice TA tn tc, .slice TB tm td], .agg #[.int .i64 k1, .int .i64 n1, .slice A1 m1 c1, .slice B1 p1 d1]] z fun e w' => e = .returned (.bool true) ∧ Below z.heap.size z w'))
    (HW : Hid (∀ z, Below w.heap.size w z → Calls Tryz.prog 46 #[.agg #[.int .i64 k, .int .i64 (L : Nat), .string nm, .slice TA tn tc, .slice TB tm td], .agg #[.int .i64 k1, .int .i64 n1, .slice A1 m1 c1, .slice B1 p1 d1], .int .i64 (Lg.toU i0 % L : Nat), .agg #[.int .i64 k2, .int .i64 n2, .slice A2 m2 c2, .slice B2 p2 d2]] z (FirstPost uu 0 z)))
    (HA1 : Hid (∀ z cs, Below w.heap.size w z → VaC z uu cs → Calls Tryz.prog 44 #[.agg #[.int .i64 k, .int .i64 (L : Nat), .string nm, .slice TA tn tc, .slice TB tm td], .agg cs.toArray, .int .i64 (Lg.toU i0 % L : Nat)] z (FirstPost xa 0 z)))
    (HA2 : Hid (∀ z cs, Below w.heap.size w z → VaC z uu cs → Calls Tryz.prog 44 #[.agg #[.int .i64 k, .int .i64 (L : Nat), .string nm, .slice TA tn tc, .slice TB tm td], .agg cs.toArray, .int .i64 (Lg.toU j0 % L : Nat)] z (FirstPost xb 0 z)))
    (HA3 : Hid (∀ z, Below w.heap.size w z → Calls Tryz.prog 44 #[.agg #[.int .i64 k, .int .i64 (L : Nat), .string nm, .slice TA tn tc, .slice TB tm td], .agg #[.int .i64 k1, .int .i64 n1, .slice A1 m1 c1, .slice B1 p1 d1], .int .i64 (Lg.toU j0 % L : Nat)] z (FirstPost xc 0 z)))
    (HH2 : Hid (∀ z cs, Below w.heap.size w z → VaC z uu cs → Calls Tryz.prog 30 #[.agg #[.int .i64 k, .int .i64 (L : Nat), .string nm, .slice TA tn tc, .slice TB tm td], .agg cs.toArray] z fun e w' => e = .returned (.bool true) ∧ Below z.heap.size z w'))
    (HL1 : Hid (∀ z ca, Below w.heap.size w z → VaC z xa ca → Calls Tryz.prog 24 #[.agg ca.toArray, .agg #[.int .i64 k2, .int .i64 n2, .slice A2 m2 c2, .slice B2 p2 d2]] z fun e w' => e = .returned (.bool true) ∧ Below z.heap.size z w')) :
    Calls Tryz.prog 11 #[.agg #[.int .i64 k, .int .i64 (L : Nat), .string nm, .slice TA tn tc, .slice TB tm td], .agg #[.int .i64 k1, .int .i64 n1, .slice A1 m1 c1, .slice B1 p1 d1, .int .i64 k2, .int .i64 n2, .slice A2 m2 c2, .slice B2 p2 d2], .agg #[.int .i64 i0, .int .i64 j0]] w fun e w' => e = .returned (.bool true) ∧ Below w.heap.size w w' := by
  have H3 := Lib.hid (boxes3 w 26 58 68 #[.int .i64 k, .int .i64 (L : Nat), .string nm, .slice TA tn tc, .slice TB tm td] #[.int .i64 k1, .int .i64 n1, .slice A1 m1 c1, .slice B1 p1 d1, .int .i64 k2, .int .i64 n2, .slice A2 m2 c2, .slice B2 p2 d2] #[.int .i64 i0, .int .i64 j0])
  go_enter Tryz.func11, Tryz.ntmps11
  go_upto_region 1 with fail
  go_cut [7, 8, 9, 10] (fun s7 s8 s9 s10 wx => PutsMid w #[.int .i64 k, .int .i64 (L : Nat), .string nm, .slice TA tn tc, .slice TB tm td] #[.int .i64 k1, .int .i64 n1, .slice A1 m1 c1, .slice B1 p1 d1] #[.int .i64 k2, .int .i64 n2, .slice A2 m2 c2, .slice B2 p2 d2] i0 j0 s7 s8 s9 s10 wx)
  case first =>
    generalize hW : ((w.alloc (.cells #[.int .i64 k, .int .i64 (L : Nat), .string nm, .slice TA tn tc, .slice TB tm td] 26)).alloc (.cells #[.int .i64 k1, .int .i64 n1, .slice A1 m1 c1, .slice B1 p1 d1, .int .i64 k2, .int .i64 n2, .slice A2 m2 c2, .slice B2 p2 d2] 58)).alloc (.cells #[.int .i64 i0, .int .i64 j0] 68) = W at H3
    have kV := fun j => H3.out.2.1.cell j
    obtain ⟨v0, v1, v2, v3, v4, v5, v6, v7⟩ : W.cell? ⟨w.heap.size + 1, 0, none⟩ = some (.int .i64 k1) ∧ W.cell? ⟨w.heap.size + 1, 1, none⟩ = some (.int .i64 n1) ∧ W.cell? ⟨w.heap.size + 1, 2, none⟩ = some (.slice A1 m1 c1) ∧ W.cell? ⟨w.heap.size + 1, 3, none⟩ = some (.slice B1 p1 d1) ∧ W.cell? ⟨w.heap.size + 1, 4, none⟩ = some (.int .i64 k2) ∧ W.cell? ⟨w.heap.size + 1, 5, none⟩ = some (.int .i64 n2) ∧ W.cell? ⟨w.heap.size + 1, 6, none⟩ = some (.slice A2 m2 c2) ∧ W.cell? ⟨w.heap.size + 1, 7, none⟩ = some (.slice B2 p2 d2) := ⟨kV 0, kV 1, kV 2, kV 3, kV 4, kV 5, kV 6, kV 7⟩
    obtain ⟨i1, i2⟩ : W.cell? ⟨w.heap.size + 1 + 1, 0, none⟩ = some (.int .i64 i0) ∧ W.cell? ⟨w.heap.size + 1 + 1, 1, none⟩ = some (.int .i64 j0) := ⟨H3.out.2.2.1.cell 0, H3.out.2.2.1.cell 1⟩
    have HM := Lib.hid (puts_mid w W #[.int .i64 k, .int .i64 (L : Nat), .string nm, .slice TA tn tc, .slice TB tm td] #[.int .i64 k1, .int .i64 n1, .slice A1 m1 c1, .slice B1 p1 d1] #[.int .i64 k2, .int .i64 n2, .slice A2 m2 c2, .slice B2 p2 d2] H3.out.2.2.2.1 H3.out.1 i0 j0)
    clear kV hW
    go_region_held3 (fun w' => w'.cell? ⟨w.heap.size + 1, 0, none⟩ = some (.int .i64 k1) ∧ w'.cell? ⟨w.heap.size + 1, 1, none⟩ = some (.int .i64 n1) ∧ w'.cell? ⟨w.heap.size + 1, 2, none⟩ = some (.slice A1 m1 c1) ∧ w'.cell? ⟨w.heap.size + 1, 3, none⟩ = some (.slice B1 p1 d1) ∧ w'.cell? ⟨w.heap.size + 1, 4, none⟩ = some (.int .i64 k2) ∧ w'.cell? ⟨w.heap.size + 1, 5, none⟩ = some (.int .i64 n2) ∧ w'.cell? ⟨w.heap.size + 1, 6, none⟩ = some (.slice A2 m2 c2) ∧ w'.cell? ⟨w.heap.size + 1, 7, none⟩ = some (.slice B2 p2 d2) ∧ w'.cell? ⟨w.heap.size + 1 + 1, 0, none⟩ = some (.int .i64 i0) ∧ w'.cell? ⟨w.heap.size + 1 + 1, 1, none⟩ = some (.int .i64 j0)) (go_keep) (fail)
    all_goals go_wp2
    all_goals go_meet
    all_goals first | exact HM.out.1 | exact HM.out.2
  case rest =>
    obtain ⟨p, q, rfl, rfl, rfl, rfl, hV, hX, hT, hB⟩ := hcut
    have B0 := Lib.hid hB
    have T0 := Lib.hid hT
    have V0 := Lib.hid hV
    have X0 := Lib.hid hX
    have Z0 := Lib.hid (below_alloc wc (.cells #[.int .i64 k1, .int .i64 n1, .slice A1 m1 c1, .slice B1 p1 d1, .int .i64 k2, .int .i64 n2, .slice A2 m2 c2, .slice B2 p2 d2] 38))
    have G0 := Lib.hid (HSm.out _ _ (below_then B0.out Z0.out) (two_row (VaC.later B0.out _ _ HVc.out) (VaC.later B0.out _ _ HXc.out)))
    clear hB hT hV hX H3 HSm
    obtain ⟨tc_0, tc_1, tc_2, tc_3, tc_4⟩ := fives T0.out
    obtain ⟨vc_0, vc_1, vc_2, vc_3⟩ := four V0.out
    obtain ⟨xc_0, xc_1, xc_2, xc_3⟩ := four X0.out
    go_wp2_with fail
    refine (G0.out).mono ?_
    rintro e w1 ⟨rfl, hb⟩
    have Y1 := Lib.hid (below_then Z0.out hb)
    have B1 := Lib.hid (below_then B0.out Y1.out)
    have T1 := Lib.hid (T0.out.later Y1.out)
    have V1 := Lib.hid (V0.out.later Y1.out)
    have X1 := Lib.hid (X0.out.later Y1.out)
    clear hb G0
    clear tc_0 tc_1 tc_2 tc_3 tc_4 vc_0 vc_1 vc_2 vc_3 xc_0 xc_1 xc_2 xc_3
    obtain ⟨tc_0, tc_1, tc_2, tc_3, tc_4⟩ := fives T1.out
    obtain ⟨vc_0, vc_1, vc_2, vc_3⟩ := four V1.out
    go_wp2_with fail
    refine (HHr.out _ B1.out).mono ?_
    rintro e w2 ⟨rfl, hb⟩
    have B2 := Lib.hid (below_then B1.out hb)
    have T2 := Lib.hid (T1.out.later hb)
    have V2 := Lib.hid (V1.out.later hb)
    have X2 := Lib.hid (X1.out.later hb)
    clear hb
    clear tc_0 tc_1 tc_2 tc_3 tc_4 vc_0 vc_1 vc_2 vc_3
    obtain ⟨tc_0, tc_1, tc_2, tc_3, tc_4⟩ := fives T2.out
    have hd : decide ((L : Int) < 1) = false := by rw [decide_eq_false_iff_not]; omega
    skip
    go_upto_region 4 with fail
    go_cut [9, 10] (fun s9 s10 wx => Puts2 w2 (Lg.toU i0 % L) (Lg.toU j0 % L) s9 s10 wx)
    case first =>
      obtain ⟨tc_0, tc_1, tc_2, tc_3, tc_4⟩ := fives T2.out
      go_quiet (fail)
      go_wp2
      go_meet
      exact ⟨rem_int i0 L (by omega) (by omega), rem_int j0 L (by omega) (by omega), below_drewN (Below.refl _ _) _⟩
    case rest =>
      obtain ⟨rfl, rfl, hb⟩ := hcut
      have B3 := Lib.hid (below_then B2.out hb)
      have T3 := Lib.hid (T2.out.later hb)
      have V3 := Lib.hid (V2.out.later hb)
      have X3 := Lib.hid (X2.out.later hb)
      clear hb
      generalize Lg.toU i0 % L = I at *
      generalize Lg.toU j0 % L = J at *
      have hIJ : ((I : Int) == (J : Int)) = true := by rw [beq_iff_eq]; exact_mod_cast hij
      clear hij
      obtain ⟨tc_0, tc_1, tc_2, tc_3, tc_4⟩ := fives T3.out
      obtain ⟨vc_0, vc_1, vc_2, vc_3⟩ := four V3.out
      obtain ⟨xc_0, xc_1, xc_2, xc_3⟩ := four X3.out
      go_wp2_with fail
      refine (HW.out _ B3.out).mono ?_
      rintro e w4 ⟨AU, nU, cU, BU, mU, dU, rfl, hvc, hb⟩
      have Z4 := Lib.hid (below_alloc w4 (.cells #[.int .i64 uu.kind, .int .i64 uu.n, .slice AU nU cU, .slice BU mU dU] 38))
      have Y4 := Lib.hid (below_then hb Z4.out)
      have B4 := Lib.hid (below_then B3.out Y4.out)
      have T4 := Lib.hid (T3.out.later Y4.out)
      have V4 := Lib.hid (V3.out.later Y4.out)
      have X4 := Lib.hid (X3.out.later Y4.out)
      have U4 : Hid (Blk (w4.alloc (.cells #[.int .i64 uu.kind, .int .i64 uu.n, .slice AU nU cU, .slice BU mU dU] 38)) w4.heap.size 38 #[.int .i64 uu.kind, .int .i64 uu.n, .slice AU nU cU, .slice BU mU dU]) := Blk.new _ _ _
      have CU4 := Lib.hid (VaC.later Z4.out _ _ hvc)
      clear hb hvc
      clear tc_0 tc_1 tc_2 tc_3 tc_4 vc_0 vc_1 vc_2 vc_3 xc_0 xc_1 xc_2 xc_3
      obtain ⟨tc_0, tc_1, tc_2, tc_3, tc_4⟩ := fives T4.out
      obtain ⟨uc_0, uc_1, uc_2, uc_3⟩ := four U4.out
      go_wp2_with fail
      refine (HA1.out _ _ B4.out CU4.out).mono ?_
      rintro e w5 ⟨AP, nP, cP, BP, mP, dP, rfl, hvc, hb⟩
      have Z5 := Lib.hid (below_alloc w5 (.cells #[.int .i64 xa.kind, .int .i64 xa.n, .slice AP nP cP, .slice BP mP dP] 38))
      have Y5 := Lib.hid (below_then hb Z5.out)
      have B5 := Lib.hid (below_then B4.out Y5.out)
      have T5 := Lib.hid (T4.out.later Y5.out)
      have V5 := Lib.hid (V4.out.later Y5.out)
      have X5 := Lib.hid (X4.out.later Y5.out)
      have U5 := Lib.hid (U4.out.later Y5.out)
      have CU5 := Lib.hid (VaC.later Y5.out _ _ CU4.out)
      have P5 : Hid (Blk (w5.alloc (.cells #[.int .i64 xa.kind, .int .i64 xa.n, .slice AP nP cP, .slice BP mP dP] 38)) w5.heap.size 38 #[.int .i64 xa.kind, .int .i64 xa.n, .slice AP nP cP, .slice BP mP dP]) := Blk.new _ _ _
      have CP5 := Lib.hid (VaC.later Z5.out _ _ hvc)
      clear hb hvc
      clear tc_0 tc_1 tc_2 tc_3 tc_4 uc_0 uc_1 uc_2 uc_3
      obtain ⟨tc_0, tc_1, tc_2, tc_3, tc_4⟩ := fives T5.out
      obtain ⟨uc_0, uc_1, uc_2, uc_3⟩ := four U5.out
      go_wp2_with fail
      refine (HA2.out _ _ B5.out CU5.out).mono ?_
      rintro e w6 ⟨AQ, nQ, cQ, BQ, mQ, dQ, rfl, hvc, hb⟩
      have Z6 := Lib.hid (below_alloc w6 (.cells #[.int .i64 xb.kind, .int .i64 xb.n, .slice AQ nQ cQ, .slice BQ mQ dQ] 38))
      have Y6 := Lib.hid (below_then hb Z6.out)
      have B6 := Lib.hid (below_then B5.out Y6.out)
      have T6 := Lib.hid (T5.out.later Y6.out)
      have V6 := Lib.hid (V5.out.later Y6.out)
      have X6 := Lib.hid (X5.out.later Y6.out)
      have U6 := Lib.hid (U5.out.later Y6.out)
      have P6 := Lib.hid (P5.out.later Y6.out)
      have CU6 := Lib.hid (VaC.later Y6.out _ _ CU5.out)
      have CP6 := Lib.hid (VaC.later Y6.out _ _ CP5.out)
      have Q6 : Hid (Blk (w6.alloc (.cells #[.int .i64 xb.kind, .int .i64 xb.n, .slice AQ nQ cQ, .slice BQ mQ dQ] 38)) w6.heap.size 38 #[.int .i64 xb.kind, .int .i64 xb.n, .slice AQ nQ cQ, .slice BQ mQ dQ]) := Blk.new _ _ _
      have CQ6 := Lib.hid (VaC.later Z6.out _ _ hvc)
      clear hb hvc
      clear tc_0 tc_1 tc_2 tc_3 tc_4 uc_0 uc_1 uc_2 uc_3
      obtain ⟨tc_0, tc_1, tc_2, tc_3, tc_4⟩ := fives T6.out
      obtain ⟨vc_0, vc_1, vc_2, vc_3⟩ := four V6.out
      go_wp2_with fail
      refine (HA3.out _ B6.out).mono ?_
      rintro e w7 ⟨AR, nR, cR, BR, mR, dR, rfl, hvc, hb⟩
      have Z7 := Lib.hid (below_alloc w7 (.cells #[.int .i64 xc.kind, .int .i64 xc.n, .slice AR nR cR, .slice BR mR dR] 38))
      have Y7 := Lib.hid (below_then hb Z7.out)
      have B7 := Lib.hid (below_then B6.out Y7.out)
      have T7 := Lib.hid (T6.out.later Y7.out)
      have V7 := Lib.hid (V6.out.later Y7.out)
      have X7 := Lib.hid (X6.out.later Y7.out)
      have U7 := Lib.hid (U6.out.later Y7.out)
      have P7 := Lib.hid (P6.out.later Y7.out)
      have Q7 := Lib.hid (Q6.out.later Y7.out)
      have CU7 := Lib.hid (VaC.later Y7.out _ _ CU6.out)
      have CP7 := Lib.hid (VaC.later Y7.out _ _ CP6.out)
      have CQ7 := Lib.hid (VaC.later Y7.out _ _ CQ6.out)
      have R7 : Hid (Blk (w7.alloc (.cells #[.int .i64 xc.kind, .int .i64 xc.n, .slice AR nR cR, .slice BR mR dR] 38)) w7.heap.size 38 #[.int .i64 xc.kind, .int .i64 xc.n, .slice AR nR cR, .slice BR mR dR]) := Blk.new _ _ _
      have CR7 := Lib.hid (VaC.later Z7.out _ _ hvc)
      clear hb hvc
      clear tc_0 tc_1 tc_2 tc_3 tc_4 vc_0 vc_1 vc_2 vc_3
      obtain ⟨tc_0, tc_1, tc_2, tc_3, tc_4⟩ := fives T7.out
      obtain ⟨uc_0, uc_1, uc_2, uc_3⟩ := four U7.out
      go_wp2_with fail
      refine (HH2.out _ _ B7.out CU7.out).mono ?_
      rintro e w8 ⟨rfl, hb⟩
      have B8 := Lib.hid (below_then B7.out hb)
      have T8 := Lib.hid (T7.out.later hb)
      have V8 := Lib.hid (V7.out.later hb)
      have X8 := Lib.hid (X7.out.later hb)
      have U8 := Lib.hid (U7.out.later hb)
      have P8 := Lib.hid (P7.out.later hb)
      have Q8 := Lib.hid (Q7.out.later hb)
      have R8 := Lib.hid (R7.out.later hb)
      have CP8 := Lib.hid (VaC.later hb _ _ CP7.out)
      have CQ8 := Lib.hid (VaC.later hb _ _ CQ7.out)
      have CR8 := Lib.hid (VaC.later hb _ _ CR7.out)
      clear hb
      clear tc_0 tc_1 tc_2 tc_3 tc_4 uc_0 uc_1 uc_2 uc_3
      obtain ⟨pc_0, pc_1, pc_2, pc_3⟩ := four P8.out
      obtain ⟨xc_0, xc_1, xc_2, xc_3⟩ := four X8.out
      go_wp2_with fail
      refine (HL1.out _ _ B8.out CP8.out).mono ?_
      rintro e w9 ⟨rfl, hb⟩
      have B9 := Lib.hid (below_then B8.out hb)
      have T9 := Lib.hid (T8.out.later hb)
      have V9 := Lib.hid (V8.out.later hb)
      have X9 := Lib.hid (X8.out.later hb)
      have U9 := Lib.hid (U8.out.later hb)
      have P9 := Lib.hid (P8.out.later hb)
      have Q9 := Lib.hid (Q8.out.later hb)
      have R9 := Lib.hid (R8.out.later hb)
      have CP9 := Lib.hid (VaC.later hb _ _ CP8.out)
      have CQ9 := Lib.hid (VaC.later hb _ _ CQ8.out)
      have CR9 := Lib.hid (VaC.later hb _ _ CR8.out)
      clear hb
      clear pc_0 pc_1 pc_2 pc_3 xc_0 xc_1 xc_2 xc_3
      go_wp2_with fail
      refine (HAw.out _ B9.out).mono ?_
      rintro e w10 ⟨rfl, hb⟩
      have B10 := Lib.hid (below_then B9.out hb)
      have T10 := Lib.hid (T9.out.later hb)
      have V10 := Lib.hid (V9.out.later hb)
      have X10 := Lib.hid (X9.out.later hb)
      have U10 := Lib.hid (U9.out.later hb)
      have P10 := Lib.hid (P9.out.later hb)
      have Q10 := Lib.hid (Q9.out.later hb)
      have R10 := Lib.hid (R9.out.later hb)
      have CP10 := Lib.hid (VaC.later hb _ _ CP9.out)
      have CQ10 := Lib.hid (VaC.later hb _ _ CQ9.out)
      have CR10 := Lib.hid (VaC.later hb _ _ CR9.out)
      clear hb
      go_wp2
      go_ret
      exact ⟨rfl, B10.out⟩
set_option maxRecDepth 100000 in
set_option maxHeartbeats 16000000 in
theorem puts_other (k k1 n1 k2 n2 i0 j0 : Int) (nm : ByteArray) (TA TB A1 B1 A2 B2 : Option Addr) (tn tc tm td m1 c1 p1 d1 m2 c2 p2 d2 : Nat) (L : Nat) (h1 : 1 ≤ L) (h64 : L ≤ 64) (v x : Va) (w : World) (uu xa xb xc : Va) (hij : ¬ Lg.toU i0 % L = Lg.toU j0 % L)
    (HVc : Hid (VaC w v [.int .i64 k1, .int .i64 n1, .slice A1 m1 c1, .slice B1 p1 d1])) (HXc : Hid (VaC w x [.int .i64 k2, .int .i64 n2, .slice A2 m2 c2, .slice B2 p2 d2]))
    (HAw : Hid (∀ z, Below w.heap.size w z → Calls Tryz.prog 14 #[] z fun e w' => e = .returned (.bool true) ∧ Below z.heap.size z w'))
    (HSm : Hid (∀ z y, Below w.heap.size w z → VasC z y [v, x] → Calls Tryz.prog 13 #[.agg #[.int .i64 k, .int .i64 (L : Nat), .string nm, .slice TA tn tc, .slice TB tm td], y] z fun e w' => e = .returned (.bool true) ∧ Below z.heap.size z w'))
    (HHr : Hid (∀ z, Below w.heap.size w z → Calls Tryz.prog 31 #[.agg #[.int .i64 k, .int .i64 (L : Nat), .string nm, .slice TA tn tc, .slice TB tm td], .agg #[.int .i64 k1, .int .i64 n1, .slice A1 m1 c1, .slice B1 p1 d1]] z fun e w' => e = .returned (.bool true) ∧ Below z.heap.size z w'))
    (HW : Hid (∀ z, Below w.heap.size w z → Calls Tryz.prog 46 #[.agg #[.int .i64 k, .int .i64 (L : Nat), .string nm, .slice TA tn tc, .slice TB tm td], .agg #[.int .i64 k1, .int .i64 n1, .slice A1 m1 c1, .slice B1 p1 d1], .int .i64 (Lg.toU i0 % L : Nat), .agg #[.int .i64 k2, .int .i64 n2, .slice A2 m2 c2, .slice B2 p2 d2]] z (FirstPost uu 0 z)))
    (HA1 : Hid (∀ z cs, Below w.heap.size w z → VaC z uu cs → Calls Tryz.prog 44 #[.agg #[.int .i64 k, .int .i64 (L : Nat), .string nm, .slice TA tn tc, .slice TB tm td], .agg cs.toArray, .int .i64 (Lg.toU i0 % L : Nat)] z (FirstPost xa 0 z)))
    (HA2 : Hid (∀ z cs, Below w.heap.size w z → VaC z uu cs → Calls Tryz.prog 44 #[.agg #[.int .i64 k, .int .i64 (L : Nat), .string nm, .slice TA tn tc, .slice TB tm td], .agg cs.toArray, .int .i64 (Lg.toU j0 % L : Nat)] z (FirstPost xb 0 z)))
    (HA3 : Hid (∀ z, Below w.heap.size w z → Calls Tryz.prog 44 #[.agg #[.int .i64 k, .int .i64 (L : Nat), .string nm, .slice TA tn tc, .slice TB tm td], .agg #[.int .i64 k1, .int .i64 n1, .slice A1 m1 c1, .slice B1 p1 d1], .int .i64 (Lg.toU j0 % L : Nat)] z (FirstPost xc 0 z)))
    (HH2 : Hid (∀ z cs, Below w.heap.size w z → VaC z uu cs → Calls Tryz.prog 30 #[.agg #[.int .i64 k, .int .i64 (L : Nat), .string nm, .slice TA tn tc, .slice TB tm td], .agg cs.toArray] z fun e w' => e = .returned (.bool true) ∧ Below z.heap.size z w'))
    (HL1 : Hid (∀ z ca, Below w.heap.size w z → VaC z xa ca → Calls Tryz.prog 24 #[.agg ca.toArray, .agg #[.int .i64 k2, .int .i64 n2, .slice A2 m2 c2, .slice B2 p2 d2]] z fun e w' => e = .returned (.bool true) ∧ Below z.heap.size z w'))
    (HL2 : Hid (∀ z ca cb, Below w.heap.size w z → VaC z xb ca → VaC z xc cb → Calls Tryz.prog 24 #[.agg ca.toArray, .agg cb.toArray] z fun e w' => e = .returned (.bool true) ∧ Below z.heap.size z w')) :
    Calls Tryz.prog 11 #[.agg #[.int .i64 k, .int .i64 (L : Nat), .string nm, .slice TA tn tc, .slice TB tm td], .agg #[.int .i64 k1, .int .i64 n1, .slice A1 m1 c1, .slice B1 p1 d1, .int .i64 k2, .int .i64 n2, .slice A2 m2 c2, .slice B2 p2 d2], .agg #[.int .i64 i0, .int .i64 j0]] w fun e w' => e = .returned (.bool true) ∧ Below w.heap.size w w' := by
  have H3 := Lib.hid (boxes3 w 26 58 68 #[.int .i64 k, .int .i64 (L : Nat), .string nm, .slice TA tn tc, .slice TB tm td] #[.int .i64 k1, .int .i64 n1, .slice A1 m1 c1, .slice B1 p1 d1, .int .i64 k2, .int .i64 n2, .slice A2 m2 c2, .slice B2 p2 d2] #[.int .i64 i0, .int .i64 j0])
  go_enter Tryz.func11, Tryz.ntmps11
  go_upto_region 1 with fail
  go_cut [7, 8, 9, 10] (fun s7 s8 s9 s10 wx => PutsMid w #[.int .i64 k, .int .i64 (L : Nat), .string nm, .slice TA tn tc, .slice TB tm td] #[.int .i64 k1, .int .i64 n1, .slice A1 m1 c1, .slice B1 p1 d1] #[.int .i64 k2, .int .i64 n2, .slice A2 m2 c2, .slice B2 p2 d2] i0 j0 s7 s8 s9 s10 wx)
  case first =>
    generalize hW : ((w.alloc (.cells #[.int .i64 k, .int .i64 (L : Nat), .string nm, .slice TA tn tc, .slice TB tm td] 26)).alloc (.cells #[.int .i64 k1, .int .i64 n1, .slice A1 m1 c1, .slice B1 p1 d1, .int .i64 k2, .int .i64 n2, .slice A2 m2 c2, .slice B2 p2 d2] 58)).alloc (.cells #[.int .i64 i0, .int .i64 j0] 68) = W at H3
    have kV := fun j => H3.out.2.1.cell j
    obtain ⟨v0, v1, v2, v3, v4, v5, v6, v7⟩ : W.cell? ⟨w.heap.size + 1, 0, none⟩ = some (.int .i64 k1) ∧ W.cell? ⟨w.heap.size + 1, 1, none⟩ = some (.int .i64 n1) ∧ W.cell? ⟨w.heap.size + 1, 2, none⟩ = some (.slice A1 m1 c1) ∧ W.cell? ⟨w.heap.size + 1, 3, none⟩ = some (.slice B1 p1 d1) ∧ W.cell? ⟨w.heap.size + 1, 4, none⟩ = some (.int .i64 k2) ∧ W.cell? ⟨w.heap.size + 1, 5, none⟩ = some (.int .i64 n2) ∧ W.cell? ⟨w.heap.size + 1, 6, none⟩ = some (.slice A2 m2 c2) ∧ W.cell? ⟨w.heap.size + 1, 7, none⟩ = some (.slice B2 p2 d2) := ⟨kV 0, kV 1, kV 2, kV 3, kV 4, kV 5, kV 6, kV 7⟩
    obtain ⟨i1, i2⟩ : W.cell? ⟨w.heap.size + 1 + 1, 0, none⟩ = some (.int .i64 i0) ∧ W.cell? ⟨w.heap.size + 1 + 1, 1, none⟩ = some (.int .i64 j0) := ⟨H3.out.2.2.1.cell 0, H3.out.2.2.1.cell 1⟩
    have HM := Lib.hid (puts_mid w W #[.int .i64 k, .int .i64 (L : Nat), .string nm, .slice TA tn tc, .slice TB tm td] #[.int .i64 k1, .int .i64 n1, .slice A1 m1 c1, .slice B1 p1 d1] #[.int .i64 k2, .int .i64 n2, .slice A2 m2 c2, .slice B2 p2 d2] H3.out.2.2.2.1 H3.out.1 i0 j0)
    clear kV hW
    go_region_held3 (fun w' => w'.cell? ⟨w.heap.size + 1, 0, none⟩ = some (.int .i64 k1) ∧ w'.cell? ⟨w.heap.size + 1, 1, none⟩ = some (.int .i64 n1) ∧ w'.cell? ⟨w.heap.size + 1, 2, none⟩ = some (.slice A1 m1 c1) ∧ w'.cell? ⟨w.heap.size + 1, 3, none⟩ = some (.slice B1 p1 d1) ∧ w'.cell? ⟨w.heap.size + 1, 4, none⟩ = some (.int .i64 k2) ∧ w'.cell? ⟨w.heap.size + 1, 5, none⟩ = some (.int .i64 n2) ∧ w'.cell? ⟨w.heap.size + 1, 6, none⟩ = some (.slice A2 m2 c2) ∧ w'.cell? ⟨w.heap.size + 1, 7, none⟩ = some (.slice B2 p2 d2) ∧ w'.cell? ⟨w.heap.size + 1 + 1, 0, none⟩ = some (.int .i64 i0) ∧ w'.cell? ⟨w.heap.size + 1 + 1, 1, none⟩ = some (.int .i64 j0)) (go_keep) (fail)
    all_goals go_wp2
    all_goals go_meet
    all_goals first | exact HM.out.1 | exact HM.out.2
  case rest =>
    obtain ⟨p, q, rfl, rfl, rfl, rfl, hV, hX, hT, hB⟩ := hcut
    have B0 := Lib.hid hB
    have T0 := Lib.hid hT
    have V0 := Lib.hid hV
    have X0 := Lib.hid hX
    have Z0 := Lib.hid (below_alloc wc (.cells #[.int .i64 k1, .int .i64 n1, .slice A1 m1 c1, .slice B1 p1 d1, .int .i64 k2, .int .i64 n2, .slice A2 m2 c2, .slice B2 p2 d2] 38))
    have G0 := Lib.hid (HSm.out _ _ (below_then B0.out Z0.out) (two_row (VaC.later B0.out _ _ HVc.out) (VaC.later B0.out _ _ HXc.out)))
    clear hB hT hV hX H3 HSm
    obtain ⟨tc_0, tc_1, tc_2, tc_3, tc_4⟩ := fives T0.out
    obtain ⟨vc_0, vc_1, vc_2, vc_3⟩ := four V0.out
    obtain ⟨xc_0, xc_1, xc_2, xc_3⟩ := four X0.out
    go_wp2_with fail
    refine (G0.out).mono ?_
    rintro e w1 ⟨rfl, hb⟩
    have Y1 := Lib.hid (below_then Z0.out hb)
    have B1 := Lib.hid (below_then B0.out Y1.out)
    have T1 := Lib.hid (T0.out.later Y1.out)
    have V1 := Lib.hid (V0.out.later Y1.out)
    have X1 := Lib.hid (X0.out.later Y1.out)
    clear hb G0
    clear tc_0 tc_1 tc_2 tc_3 tc_4 vc_0 vc_1 vc_2 vc_3 xc_0 xc_1 xc_2 xc_3
    obtain ⟨tc_0, tc_1, tc_2, tc_3, tc_4⟩ := fives T1.out
    obtain ⟨vc_0, vc_1, vc_2, vc_3⟩ := four V1.out
    go_wp2_with fail
    refine (HHr.out _ B1.out).mono ?_
    rintro e w2 ⟨rfl, hb⟩
    have B2 := Lib.hid (below_then B1.out hb)
    have T2 := Lib.hid (T1.out.later hb)
    have V2 := Lib.hid (V1.out.later hb)
    have X2 := Lib.hid (X1.out.later hb)
    clear hb
    clear tc_0 tc_1 tc_2 tc_3 tc_4 vc_0 vc_1 vc_2 vc_3
    obtain ⟨tc_0, tc_1, tc_2, tc_3, tc_4⟩ := fives T2.out
    have hd : decide ((L : Int) < 1) = false := by rw [decide_eq_false_iff_not]; omega
    skip
    go_upto_region 4 with fail
    go_cut [9, 10] (fun s9 s10 wx => Puts2 w2 (Lg.toU i0 % L) (Lg.toU j0 % L) s9 s10 wx)
    case first =>
      obtain ⟨tc_0, tc_1, tc_2, tc_3, tc_4⟩ := fives T2.out
      go_quiet (fail)
      go_wp2
      go_meet
      exact ⟨rem_int i0 L (by omega) (by omega), rem_int j0 L (by omega) (by omega), below_drewN (Below.refl _ _) _⟩
    case rest =>
      obtain ⟨rfl, rfl, hb⟩ := hcut
      have B3 := Lib.hid (below_then B2.out hb)
      have T3 := Lib.hid (T2.out.later hb)
      have V3 := Lib.hid (V2.out.later hb)
      have X3 := Lib.hid (X2.out.later hb)
      clear hb
      generalize Lg.toU i0 % L = I at *
      generalize Lg.toU j0 % L = J at *
      have hIJ : ((I : Int) == (J : Int)) = false := by rw [beq_eq_false_iff_ne]; exact_mod_cast hij
      clear hij
      obtain ⟨tc_0, tc_1, tc_2, tc_3, tc_4⟩ := fives T3.out
      obtain ⟨vc_0, vc_1, vc_2, vc_3⟩ := four V3.out
      obtain ⟨xc_0, xc_1, xc_2, xc_3⟩ := four X3.out
      go_wp2_with fail
      refine (HW.out _ B3.out).mono ?_
      rintro e w4 ⟨AU, nU, cU, BU, mU, dU, rfl, hvc, hb⟩
      have Z4 := Lib.hid (below_alloc w4 (.cells #[.int .i64 uu.kind, .int .i64 uu.n, .slice AU nU cU, .slice BU mU dU] 38))
      have Y4 := Lib.hid (below_then hb Z4.out)
      have B4 := Lib.hid (below_then B3.out Y4.out)
      have T4 := Lib.hid (T3.out.later Y4.out)
      have V4 := Lib.hid (V3.out.later Y4.out)
      have X4 := Lib.hid (X3.out.later Y4.out)
      have U4 : Hid (Blk (w4.alloc (.cells #[.int .i64 uu.kind, .int .i64 uu.n, .slice AU nU cU, .slice BU mU dU] 38)) w4.heap.size 38 #[.int .i64 uu.kind, .int .i64 uu.n, .slice AU nU cU, .slice BU mU dU]) := Blk.new _ _ _
      have CU4 := Lib.hid (VaC.later Z4.out _ _ hvc)
      clear hb hvc
      clear tc_0 tc_1 tc_2 tc_3 tc_4 vc_0 vc_1 vc_2 vc_3 xc_0 xc_1 xc_2 xc_3
      obtain ⟨tc_0, tc_1, tc_2, tc_3, tc_4⟩ := fives T4.out
      obtain ⟨uc_0, uc_1, uc_2, uc_3⟩ := four U4.out
      go_wp2_with fail
      refine (HA1.out _ _ B4.out CU4.out).mono ?_
      rintro e w5 ⟨AP, nP, cP, BP, mP, dP, rfl, hvc, hb⟩
      have Z5 := Lib.hid (below_alloc w5 (.cells #[.int .i64 xa.kind, .int .i64 xa.n, .slice AP nP cP, .slice BP mP dP] 38))
      have Y5 := Lib.hid (below_then hb Z5.out)
      have B5 := Lib.hid (below_then B4.out Y5.out)
      have T5 := Lib.hid (T4.out.later Y5.out)
      have V5 := Lib.hid (V4.out.later Y5.out)
      have X5 := Lib.hid (X4.out.later Y5.out)
      have U5 := Lib.hid (U4.out.later Y5.out)
      have CU5 := Lib.hid (VaC.later Y5.out _ _ CU4.out)
      have P5 : Hid (Blk (w5.alloc (.cells #[.int .i64 xa.kind, .int .i64 xa.n, .slice AP nP cP, .slice BP mP dP] 38)) w5.heap.size 38 #[.int .i64 xa.kind, .int .i64 xa.n, .slice AP nP cP, .slice BP mP dP]) := Blk.new _ _ _
      have CP5 := Lib.hid (VaC.later Z5.out _ _ hvc)
      clear hb hvc
      clear tc_0 tc_1 tc_2 tc_3 tc_4 uc_0 uc_1 uc_2 uc_3
      obtain ⟨tc_0, tc_1, tc_2, tc_3, tc_4⟩ := fives T5.out
      obtain ⟨uc_0, uc_1, uc_2, uc_3⟩ := four U5.out
      go_wp2_with fail
      refine (HA2.out _ _ B5.out CU5.out).mono ?_
      rintro e w6 ⟨AQ, nQ, cQ, BQ, mQ, dQ, rfl, hvc, hb⟩
      have Z6 := Lib.hid (below_alloc w6 (.cells #[.int .i64 xb.kind, .int .i64 xb.n, .slice AQ nQ cQ, .slice BQ mQ dQ] 38))
      have Y6 := Lib.hid (below_then hb Z6.out)
      have B6 := Lib.hid (below_then B5.out Y6.out)
      have T6 := Lib.hid (T5.out.later Y6.out)
      have V6 := Lib.hid (V5.out.later Y6.out)
      have X6 := Lib.hid (X5.out.later Y6.out)
      have U6 := Lib.hid (U5.out.later Y6.out)
      have P6 := Lib.hid (P5.out.later Y6.out)
      have CU6 := Lib.hid (VaC.later Y6.out _ _ CU5.out)
      have CP6 := Lib.hid (VaC.later Y6.out _ _ CP5.out)
      have Q6 : Hid (Blk (w6.alloc (.cells #[.int .i64 xb.kind, .int .i64 xb.n, .slice AQ nQ cQ, .slice BQ mQ dQ] 38)) w6.heap.size 38 #[.int .i64 xb.kind, .int .i64 xb.n, .slice AQ nQ cQ, .slice BQ mQ dQ]) := Blk.new _ _ _
      have CQ6 := Lib.hid (VaC.later Z6.out _ _ hvc)
      clear hb hvc
      clear tc_0 tc_1 tc_2 tc_3 tc_4 uc_0 uc_1 uc_2 uc_3
      obtain ⟨tc_0, tc_1, tc_2, tc_3, tc_4⟩ := fives T6.out
      obtain ⟨vc_0, vc_1, vc_2, vc_3⟩ := four V6.out
      go_wp2_with fail
      refine (HA3.out _ B6.out).mono ?_
      rintro e w7 ⟨AR, nR, cR, BR, mR, dR, rfl, hvc, hb⟩
      have Z7 := Lib.hid (below_alloc w7 (.cells #[.int .i64 xc.kind, .int .i64 xc.n, .slice AR nR cR, .slice BR mR dR] 38))
      have Y7 := Lib.hid (below_then hb Z7.out)
      have B7 := Lib.hid (below_then B6.out Y7.out)
      have T7 := Lib.hid (T6.out.later Y7.out)
      have V7 := Lib.hid (V6.out.later Y7.out)
      have X7 := Lib.hid (X6.out.later Y7.out)
      have U7 := Lib.hid (U6.out.later Y7.out)
      have P7 := Lib.hid (P6.out.later Y7.out)
      have Q7 := Lib.hid (Q6.out.later Y7.out)
      have CU7 := Lib.hid (VaC.later Y7.out _ _ CU6.out)
      have CP7 := Lib.hid (VaC.later Y7.out _ _ CP6.out)
      have CQ7 := Lib.hid (VaC.later Y7.out _ _ CQ6.out)
      have R7 : Hid (Blk (w7.alloc (.cells #[.int .i64 xc.kind, .int .i64 xc.n, .slice AR nR cR, .slice BR mR dR] 38)) w7.heap.size 38 #[.int .i64 xc.kind, .int .i64 xc.n, .slice AR nR cR, .slice BR mR dR]) := Blk.new _ _ _
      have CR7 := Lib.hid (VaC.later Z7.out _ _ hvc)
      clear hb hvc
      clear tc_0 tc_1 tc_2 tc_3 tc_4 vc_0 vc_1 vc_2 vc_3
      obtain ⟨tc_0, tc_1, tc_2, tc_3, tc_4⟩ := fives T7.out
      obtain ⟨uc_0, uc_1, uc_2, uc_3⟩ := four U7.out
      go_wp2_with fail
      refine (HH2.out _ _ B7.out CU7.out).mono ?_
      rintro e w8 ⟨rfl, hb⟩
      have B8 := Lib.hid (below_then B7.out hb)
      have T8 := Lib.hid (T7.out.later hb)
      have V8 := Lib.hid (V7.out.later hb)
      have X8 := Lib.hid (X7.out.later hb)
      have U8 := Lib.hid (U7.out.later hb)
      have P8 := Lib.hid (P7.out.later hb)
      have Q8 := Lib.hid (Q7.out.later hb)
      have R8 := Lib.hid (R7.out.later hb)
      have CP8 := Lib.hid (VaC.later hb _ _ CP7.out)
      have CQ8 := Lib.hid (VaC.later hb _ _ CQ7.out)
      have CR8 := Lib.hid (VaC.later hb _ _ CR7.out)
      clear hb
      clear tc_0 tc_1 tc_2 tc_3 tc_4 uc_0 uc_1 uc_2 uc_3
      obtain ⟨pc_0, pc_1, pc_2, pc_3⟩ := four P8.out
      obtain ⟨xc_0, xc_1, xc_2, xc_3⟩ := four X8.out
      go_wp2_with fail
      refine (HL1.out _ _ B8.out CP8.out).mono ?_
      rintro e w9 ⟨rfl, hb⟩
      have B9 := Lib.hid (below_then B8.out hb)
      have T9 := Lib.hid (T8.out.later hb)
      have V9 := Lib.hid (V8.out.later hb)
      have X9 := Lib.hid (X8.out.later hb)
      have U9 := Lib.hid (U8.out.later hb)
      have P9 := Lib.hid (P8.out.later hb)
      have Q9 := Lib.hid (Q8.out.later hb)
      have R9 := Lib.hid (R8.out.later hb)
      have CP9 := Lib.hid (VaC.later hb _ _ CP8.out)
      have CQ9 := Lib.hid (VaC.later hb _ _ CQ8.out)
      have CR9 := Lib.hid (VaC.later hb _ _ CR8.out)
      clear hb
      clear pc_0 pc_1 pc_2 pc_3 xc_0 xc_1 xc_2 xc_3
      obtain ⟨qc_0, qc_1, qc_2, qc_3⟩ := four Q9.out
      obtain ⟨rc_0, rc_1, rc_2, rc_3⟩ := four R9.out
      go_wp2_with fail
      refine (HL2.out _ _ _ B9.out CQ9.out CR9.out).mono ?_
      rintro e w10 ⟨rfl, hb⟩
      have B10 := Lib.hid (below_then B9.out hb)
      have T10 := Lib.hid (T9.out.later hb)
      have V10 := Lib.hid (V9.out.later hb)
      have X10 := Lib.hid (X9.out.later hb)
      have U10 := Lib.hid (U9.out.later hb)
      have P10 := Lib.hid (P9.out.later hb)
      have Q10 := Lib.hid (Q9.out.later hb)
      have R10 := Lib.hid (R9.out.later hb)
      have CP10 := Lib.hid (VaC.later hb _ _ CP9.out)
      have CQ10 := Lib.hid (VaC.later hb _ _ CQ9.out)
      have CR10 := Lib.hid (VaC.later hb _ _ CR9.out)
      clear hb
      clear qc_0 qc_1 qc_2 qc_3 rc_0 rc_1 rc_2 rc_3
      go_wp2_with fail
      refine (HAw.out _ B10.out).mono ?_
      rintro e w11 ⟨rfl, hb⟩
      have B11 := Lib.hid (below_then B10.out hb)
      have T11 := Lib.hid (T10.out.later hb)
      have V11 := Lib.hid (V10.out.later hb)
      have X11 := Lib.hid (X10.out.later hb)
      have U11 := Lib.hid (U10.out.later hb)
      have P11 := Lib.hid (P10.out.later hb)
      have Q11 := Lib.hid (Q10.out.later hb)
      have R11 := Lib.hid (R10.out.later hb)
      have CP11 := Lib.hid (VaC.later hb _ _ CP10.out)
      have CQ11 := Lib.hid (VaC.later hb _ _ CQ10.out)
      have CR11 := Lib.hid (VaC.later hb _ _ CR10.out)
      clear hb
      go_wp2
      go_ret
      exact ⟨rfl, B11.out⟩
end Go.Proofs.YtdiagnhdigakpaaGreatDoor
