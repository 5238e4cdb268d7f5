/- The law TypesElements: the walk. -/
import Derived.Test.YtgcnckkpfeffnaaGreatDoorUx
import Derived.Test.YtgcnckkpfeffnaaGreatDoorUe
namespace Go.Proofs.YtgcnckkpfeffnaaGreatDoor
open Go.RowKit

/-- What stands behind the first statement: two boxes with the two values. -/
def ElemMid (w : World) (tcs vcs xcs : Array Value) (s7 s8 : Value) (wx : World) : Prop :=
  ∃ p q : Nat, s7 = .pointer (some ⟨p, 0, none⟩) ∧ s8 = .pointer (some ⟨q, 0, none⟩) ∧ Blk wx p 38 vcs ∧ Blk wx q 38 xcs ∧ Blk wx w.heap.size 26 tcs ∧ Below w.heap.size w wx
theorem elem_mid (w X : World) (tcs vcs xcs : Array Value) (hB : Below w.heap.size w X) (hT : Blk X w.heap.size 26 tcs) :
    ElemMid w tcs vcs xcs (.pointer (some ⟨X.heap.size, 0, none⟩)) (.pointer (some ⟨X.heap.size + 1, 0, none⟩)) ((X.alloc (.cells vcs 38)).alloc (.cells xcs 38)).drew ∧
    ElemMid w tcs vcs xcs (.pointer (some ⟨X.heap.size + 1, 0, none⟩)) (.pointer (some ⟨X.heap.size, 0, none⟩)) ((X.alloc (.cells xcs 38)).alloc (.cells vcs 38)).drew := by
  obtain ⟨a1, a2, a3, _⟩ := boxes2 X 38 38 vcs xcs
  obtain ⟨b1, b2, b3, _⟩ := boxes2 X 38 38 xcs vcs
  exact ⟨⟨_, _, rfl, rfl, a1, a2, hT.later a3.drew, (below_then hB a3).drew⟩, ⟨_, _, rfl, rfl, b2, b1, hT.later b3.drew, (below_then hB b3).drew⟩⟩
theorem ty_far4 {S : Nat → Prop} {w : World} {t : Ty} {cs : List Value} (h : TyP S w t cs) {g : Nat} (hS : ∀ b, S b → b ≠ g) (a b c d : Value) : TyP S ((((w.setCell ⟨g, 0, none⟩ a).setCell ⟨g, 1, none⟩ b).setCell ⟨g, 2, none⟩ c).setCell ⟨g, 3, none⟩ d) t cs :=
  (((h.set (a := ⟨g, 0, none⟩) hS a).set (a := ⟨g, 1, none⟩) hS b).set (a := ⟨g, 2, none⟩) hS c).set (a := ⟨g, 3, none⟩) hS d
theorem blk_own4 {w : World} {p : Nat} {T : TypeId} {x0 x1 x2 x3 : Value} (h : Blk w p T #[x0, x1, x2, x3]) (a b c d : Value) : Blk ((((w.setCell ⟨p, 0, none⟩ a).setCell ⟨p, 1, none⟩ b).setCell ⟨p, 2, none⟩ c).setCell ⟨p, 3, none⟩ d) p T #[a, b, c, d] :=
  (((h.set 0 a).set 1 b).set 2 c).set 3 d
set_option maxRecDepth 100000 in
set_option maxHeartbeats 16000000 in
theorem elem_small (k l k1 n1 k2 n2 i0 : Int) (nm : ByteArray) (TA TB KA KB LA LB : Option Addr) (tn tc tm td m1 c1 p1 d1 m2 c2 p2 d2 : Nat) (v x : Va) (w : World)
    (HVc : Hid (VaC w v [.int .i64 k1, .int .i64 n1, .slice KA m1 c1, .slice KB p1 d1])) (HXc : Hid (VaC w x [.int .i64 k2, .int .i64 n2, .slice LA m2 c2, .slice LB p2 d2]))
    (HAw : Hid (∀ z, Below w.heap.size w z → Calls Tryz.prog 14 #[] z fun e w' => e = .returned (.bool true) ∧ Below z.heap.size z w'))
    (HSm : Hid (∀ z y, Below w.heap.size w z → VasC z y [v, x] → Calls Tryz.prog 13 #[.agg #[.int .i64 k, .int .i64 l, .string nm, .slice TA tn tc, .slice TB tm td], y] z fun e w' => e = .returned (.bool false) ∧ Below z.heap.size z w')) :
    Calls Tryz.prog 6 #[.agg #[.int .i64 k, .int .i64 l, .string nm, .slice TA tn tc, .slice TB tm td], .agg #[.int .i64 k1, .int .i64 n1, .slice KA m1 c1, .slice KB p1 d1, .int .i64 k2, .int .i64 n2, .slice LA m2 c2, .slice LB p2 d2], .int .i64 i0] w fun e w' => e = .returned (.bool true) ∧ Below w.heap.size w w' := by
  have H3 := Lib.hid (boxes2 w 26 58 #[.int .i64 k, .int .i64 l, .string nm, .slice TA tn tc, .slice TB tm td] #[.int .i64 k1, .int .i64 n1, .slice KA m1 c1, .slice KB p1 d1, .int .i64 k2, .int .i64 n2, .slice LA m2 c2, .slice LB p2 d2])
  go_enter Tryz.func6, Tryz.ntmps6
  go_upto_region 1 with fail
  go_cut [7, 8] (fun s7 s8 wx => ElemMid w #[.int .i64 k, .int .i64 l, .string nm, .slice TA tn tc, .slice TB tm td] #[.int .i64 k1, .int .i64 n1, .slice KA m1 c1, .slice KB p1 d1] #[.int .i64 k2, .int .i64 n2, .slice LA m2 c2, .slice LB p2 d2] s7 s8 wx)
  case first =>
    generalize hW : (w.alloc (.cells #[.int .i64 k, .int .i64 l, .string nm, .slice TA tn tc, .slice TB tm td] 26)).alloc (.cells #[.int .i64 k1, .int .i64 n1, .slice KA m1 c1, .slice KB p1 d1, .int .i64 k2, .int .i64 n2, .slice LA m2 c2, .slice LB p2 d2] 58) = W at H3
    have kV := fun j => H3.out.2.1.cell j
    obtain ⟨v0, v1, v2, v3, v4, v5, v6, v7⟩ : W.cell? ⟨w.heap.size + 1, 0, none⟩ = some (.int .i64 k1) ∧ W.cell? ⟨w.heap.size + 1, 1, none⟩ = some (.int .i64 n1) ∧ W.cell? ⟨w.heap.size + 1, 2, none⟩ = some (.slice KA m1 c1) ∧ W.cell? ⟨w.heap.size + 1, 3, none⟩ = some (.slice KB p1 d1) ∧ W.cell? ⟨w.heap.size + 1, 4, none⟩ = some (.int .i64 k2) ∧ W.cell? ⟨w.heap.size + 1, 5, none⟩ = some (.int .i64 n2) ∧ W.cell? ⟨w.heap.size + 1, 6, none⟩ = some (.slice LA m2 c2) ∧ W.cell? ⟨w.heap.size + 1, 7, none⟩ = some (.slice LB p2 d2) := ⟨kV 0, kV 1, kV 2, kV 3, kV 4, kV 5, kV 6, kV 7⟩
    have HM := Lib.hid (elem_mid w W #[.int .i64 k, .int .i64 l, .string nm, .slice TA tn tc, .slice TB tm td] #[.int .i64 k1, .int .i64 n1, .slice KA m1 c1, .slice KB p1 d1] #[.int .i64 k2, .int .i64 n2, .slice LA m2 c2, .slice LB p2 d2] H3.out.2.2.1 H3.out.1)
    clear kV hW
    go_region_held3 (fun w' => w'.cell? ⟨w.heap.size + 1, 0, none⟩ = some (.int .i64 k1) ∧ w'.cell? ⟨w.heap.size + 1, 1, none⟩ = some (.int .i64 n1) ∧ w'.cell? ⟨w.heap.size + 1, 2, none⟩ = some (.slice KA m1 c1) ∧ w'.cell? ⟨w.heap.size + 1, 3, none⟩ = some (.slice KB p1 d1) ∧ w'.cell? ⟨w.heap.size + 1, 4, none⟩ = some (.int .i64 k2) ∧ w'.cell? ⟨w.heap.size + 1, 5, none⟩ = some (.int .i64 n2) ∧ w'.cell? ⟨w.heap.size + 1, 6, none⟩ = some (.slice LA m2 c2) ∧ w'.cell? ⟨w.heap.size + 1, 7, none⟩ = some (.slice LB p2 d2)) (go_keep) (fail)
    all_goals go_wp2
    all_goals go_meet
    all_goals first | exact HM.out.1 | exact HM.out.2
  case rest =>
    obtain ⟨p, q, rfl, rfl, hV, hX, hT, hB⟩ := hcut
    have B0 := Lib.hid hB
    have T0 := Lib.hid hT
    have V0 := Lib.hid hV
    have X0 := Lib.hid hX
    have Z0 := Lib.hid (below_alloc wc (.cells #[.int .i64 k1, .int .i64 n1, .slice KA m1 c1, .slice KB p1 d1, .int .i64 k2, .int .i64 n2, .slice LA m2 c2, .slice LB p2 d2] 38))
    have G0 := Lib.hid (HSm.out _ _ (below_then B0.out Z0.out) (two_row (VaC.later B0.out _ _ HVc.out) (VaC.later B0.out _ _ HXc.out)))
    clear hB hT hV hX H3 HSm
    obtain ⟨tc_0, tc_1, tc_2, tc_3, tc_4⟩ := fives T0.out
    obtain ⟨vc_0, vc_1, vc_2, vc_3⟩ := four V0.out
    obtain ⟨xc_0, xc_1, xc_2, xc_3⟩ := four X0.out
    go_wp2_with fail
    refine (G0.out).mono ?_
    rintro e w1 ⟨rfl, hb⟩
    have Y1 := Lib.hid (below_then Z0.out hb)
    have B1 := Lib.hid (below_then B0.out Y1.out)
    have T1 := Lib.hid (T0.out.later Y1.out)
    have V1 := Lib.hid (V0.out.later Y1.out)
    have X1 := Lib.hid (X0.out.later Y1.out)
    clear hb G0
    clear tc_0 tc_1 tc_2 tc_3 tc_4 vc_0 vc_1 vc_2 vc_3 xc_0 xc_1 xc_2 xc_3
    go_wp2_with fail
    refine (HAw.out _ B1.out).mono ?_
    rintro e w2 ⟨rfl, hb⟩
    have B2 := Lib.hid (below_then B1.out hb)
    have T2 := Lib.hid (T1.out.later hb)
    have V2 := Lib.hid (V1.out.later hb)
    have X2 := Lib.hid (X1.out.later hb)
    clear hb
    go_wp2
    go_ret
    exact ⟨rfl, B2.out⟩
set_option maxRecDepth 100000 in
set_option maxHeartbeats 16000000 in
theorem elem_all (k l k1 n1 k2 n2 i0 : Int) (nm : ByteArray) (TA TB KA KB LA LB : Option Addr) (tn tc tm td m1 c1 p1 d1 m2 c2 p2 d2 : Nat) (v x : Va) (w : World) (t : Ty) (y1 y2 : Va) (E1 E2 : Nat)
    (HVc : Hid (VaC w v [.int .i64 k1, .int .i64 n1, .slice KA m1 c1, .slice KB p1 d1])) (HXc : Hid (VaC w x [.int .i64 k2, .int .i64 n2, .slice LA m2 c2, .slice LB p2 d2]))
    (HAw : Hid (∀ z, Below w.heap.size w z → Calls Tryz.prog 14 #[] z fun e w' => e = .returned (.bool true) ∧ Below z.heap.size z w'))
    (HSm : Hid (∀ z y, Below w.heap.size w z → VasC z y [v, x] → Calls Tryz.prog 13 #[.agg #[.int .i64 k, .int .i64 l, .string nm, .slice TA tn tc, .slice TB tm td], y] z fun e w' => e = .returned (.bool true) ∧ Below z.heap.size z w'))
    (HCt : Hid (∀ z, Below w.heap.size w z → Calls Tryz.prog 15 #[.agg #[.int .i64 k, .int .i64 l, .string nm, .slice TA tn tc, .slice TB tm td]] z (CopyTyOf z t)))
    (HCv : Hid (∀ z, Below w.heap.size w z → Calls Tryz.prog 29 #[.agg #[.int .i64 k1, .int .i64 n1, .slice KA m1 c1, .slice KB p1 d1]] z (CopyOf z v)))
    (HCx : Hid (∀ z, Below w.heap.size w z → Calls Tryz.prog 29 #[.agg #[.int .i64 k2, .int .i64 n2, .slice LA m2 c2, .slice LB p2 d2]] z (CopyOf z x)))
    (HA : Hid (∀ z ct cv, Below w.heap.size w z → TyC z t ct → VaC z v cv → Calls Tryz.prog 44 #[.agg ct.toArray, .agg cv.toArray, .int .i64 i0] z (FirstPost y1 E1 z)))
    (HB : Hid (∀ z, Below w.heap.size w z → Calls Tryz.prog 45 #[.agg #[.int .i64 k, .int .i64 l, .string nm, .slice TA tn tc, .slice TB tm td], .agg #[.int .i64 k1, .int .i64 n1, .slice KA m1 c1, .slice KB p1 d1], .int .i64 i0] z (FirstPost y1 E1 z)))
    (HL1 : Hid (∀ z ca cb, Below w.heap.size w z → VaC z y1 ca → VaC z y1 cb → Calls Tryz.prog 24 #[.agg ca.toArray, .agg cb.toArray] z fun e w' => e = .returned (.bool true) ∧ Below z.heap.size z w'))
    (HW : Hid (∀ z ct cv cx, Below w.heap.size w z → TyC z t ct → VaC z v cv → VaC z x cx → Calls Tryz.prog 46 #[.agg ct.toArray, .agg cv.toArray, .int .i64 i0, .agg cx.toArray] z (FirstPostP y2 E2 z)))
    (HU : Hid (∀ z, Below w.heap.size w z → Calls Tryz.prog 47 #[.agg #[.int .i64 k, .int .i64 l, .string nm, .slice TA tn tc, .slice TB tm td], .agg #[.int .i64 k1, .int .i64 n1, .slice KA m1 c1, .slice KB p1 d1], .int .i64 i0, .agg #[.int .i64 k2, .int .i64 n2, .slice LA m2 c2, .slice LB p2 d2]] z (FirstPostP y2 E2 z)))
    (HL2 : Hid (∀ z ca cb, Below w.heap.size w z → VaC z y2 ca → VaC z y2 cb → Calls Tryz.prog 24 #[.agg ca.toArray, .agg cb.toArray] z fun e w' => e = .returned (.bool true) ∧ Below z.heap.size z w'))
    (HL3 : Hid (∀ z cb, Below w.heap.size w z → VaC z v cb → Calls Tryz.prog 24 #[.agg #[.int .i64 k1, .int .i64 n1, .slice KA m1 c1, .slice KB p1 d1], .agg cb.toArray] z fun e w' => e = .returned (.bool true) ∧ Below z.heap.size z w'))
    (HL4 : Hid (∀ z cb, Below w.heap.size w z → VaC z x cb → Calls Tryz.prog 24 #[.agg #[.int .i64 k2, .int .i64 n2, .slice LA m2 c2, .slice LB p2 d2], .agg cb.toArray] z fun e w' => e = .returned (.bool true) ∧ Below z.heap.size z w')) :
    Calls Tryz.prog 6 #[.agg #[.int .i64 k, .int .i64 l, .string nm, .slice TA tn tc, .slice TB tm td], .agg #[.int .i64 k1, .int .i64 n1, .slice KA m1 c1, .slice KB p1 d1, .int .i64 k2, .int .i64 n2, .slice LA m2 c2, .slice LB p2 d2], .int .i64 i0] w fun e w' => e = .returned (.bool true) ∧ Below w.heap.size w w' := by
  have H3 := Lib.hid (boxes2 w 26 58 #[.int .i64 k, .int .i64 l, .string nm, .slice TA tn tc, .slice TB tm td] #[.int .i64 k1, .int .i64 n1, .slice KA m1 c1, .slice KB p1 d1, .int .i64 k2, .int .i64 n2, .slice LA m2 c2, .slice LB p2 d2])
  go_enter Tryz.func6, Tryz.ntmps6
  go_upto_region 1 with fail
  go_cut [7, 8] (fun s7 s8 wx => ElemMid w #[.int .i64 k, .int .i64 l, .string nm, .slice TA tn tc, .slice TB tm td] #[.int .i64 k1, .int .i64 n1, .slice KA m1 c1, .slice KB p1 d1] #[.int .i64 k2, .int .i64 n2, .slice LA m2 c2, .slice LB p2 d2] s7 s8 wx)
  case first =>
    generalize hW : (w.alloc (.cells #[.int .i64 k, .int .i64 l, .string nm, .slice TA tn tc, .slice TB tm td] 26)).alloc (.cells #[.int .i64 k1, .int .i64 n1, .slice KA m1 c1, .slice KB p1 d1, .int .i64 k2, .int .i64 n2, .slice LA m2 c2, .slice LB p2 d2] 58) = W at H3
    have kV := fun j => H3.out.2.1.cell j
    obtain ⟨v0, v1, v2, v3, v4, v5, v6, v7⟩ : W.cell? ⟨w.heap.size + 1, 0, none⟩ = some (.int .i64 k1) ∧ W.cell? ⟨w.heap.size + 1, 1, none⟩ = some (.int .i64 n1) ∧ W.cell? ⟨w.heap.size + 1, 2, none⟩ = some (.slice KA m1 c1) ∧ W.cell? ⟨w.heap.size + 1, 3, none⟩ = some (.slice KB p1 d1) ∧ W.cell? ⟨w.heap.size + 1, 4, none⟩ = some (.int .i64 k2) ∧ W.cell? ⟨w.heap.size + 1, 5, none⟩ = some (.int .i64 n2) ∧ W.cell? ⟨w.heap.size + 1, 6, none⟩ = some (.slice LA m2 c2) ∧ W.cell? ⟨w.heap.size + 1, 7, none⟩ = some (.slice LB p2 d2) := ⟨kV 0, kV 1, kV 2, kV 3, kV 4, kV 5, kV 6, kV 7⟩
    have HM := Lib.hid (elem_mid w W #[.int .i64 k, .int .i64 l, .string nm, .slice TA tn tc, .slice TB tm td] #[.int .i64 k1, .int .i64 n1, .slice KA m1 c1, .slice KB p1 d1] #[.int .i64 k2, .int .i64 n2, .slice LA m2 c2, .slice LB p2 d2] H3.out.2.2.1 H3.out.1)
    clear kV hW
    go_region_held3 (fun w' => w'.cell? ⟨w.heap.size + 1, 0, none⟩ = some (.int .i64 k1) ∧ w'.cell? ⟨w.heap.size + 1, 1, none⟩ = some (.int .i64 n1) ∧ w'.cell? ⟨w.heap.size + 1, 2, none⟩ = some (.slice KA m1 c1) ∧ w'.cell? ⟨w.heap.size + 1, 3, none⟩ = some (.slice KB p1 d1) ∧ w'.cell? ⟨w.heap.size + 1, 4, none⟩ = some (.int .i64 k2) ∧ w'.cell? ⟨w.heap.size + 1, 5, none⟩ = some (.int .i64 n2) ∧ w'.cell? ⟨w.heap.size + 1, 6, none⟩ = some (.slice LA m2 c2) ∧ w'.cell? ⟨w.heap.size + 1, 7, none⟩ = some (.slice LB p2 d2)) (go_keep) (fail)
    all_goals go_wp2
    all_goals go_meet
    all_goals first | exact HM.out.1 | exact HM.out.2
  case rest =>
    obtain ⟨p, q, rfl, rfl, hV, hX, hT, hB⟩ := hcut
    have B0 := Lib.hid hB
    have T0 := Lib.hid hT
    have V0 := Lib.hid hV
    have X0 := Lib.hid hX
    have Z0 := Lib.hid (below_alloc wc (.cells #[.int .i64 k1, .int .i64 n1, .slice KA m1 c1, .slice KB p1 d1, .int .i64 k2, .int .i64 n2, .slice LA m2 c2, .slice LB p2 d2] 38))
    have G0 := Lib.hid (HSm.out _ _ (below_then B0.out Z0.out) (two_row (VaC.later B0.out _ _ HVc.out) (VaC.later B0.out _ _ HXc.out)))
    clear hB hT hV hX H3 HSm
    obtain ⟨tc_0, tc_1, tc_2, tc_3, tc_4⟩ := fives T0.out
    obtain ⟨vc_0, vc_1, vc_2, vc_3⟩ := four V0.out
    obtain ⟨xc_0, xc_1, xc_2, xc_3⟩ := four X0.out
    go_wp2_with fail
    refine (G0.out).mono ?_
    rintro e w1 ⟨rfl, hb⟩
    have Y1 := Lib.hid (below_then Z0.out hb)
    have B1 := Lib.hid (below_then B0.out Y1.out)
    have T1 := Lib.hid (T0.out.later Y1.out)
    have V1 := Lib.hid (V0.out.later Y1.out)
    have X1 := Lib.hid (X0.out.later Y1.out)
    clear hb G0
    clear tc_0 tc_1 tc_2 tc_3 tc_4 vc_0 vc_1 vc_2 vc_3 xc_0 xc_1 xc_2 xc_3
    go_upto_region 4 with fail
    go_cut [9, 10, 11] (fun s9 s10 s11 wx => Copies w1 t v x s9 s10 s11 wx)
    case first =>
      have d0 : Below w1.heap.size w1 w1.drew := (Below.refl _ _).drew
      have bd := below_then B1.out d0
      refine wp_region_any (by kernel_rfl) ?_
      change wpAny _ _ _ _ _ _ _ (World.drew _)
      refine boxes_region (n := 3) (T := tri 26 38 38) (z := tri #[.int .i64 0, .int .i64 0, .string ⟨#[]⟩, .slice none 0 0, .slice none 0 0] #[.int .i64 0, .int .i64 0, .slice none 0 0, .slice none 0 0] #[.int .i64 0, .int .i64 0, .slice none 0 0, .slice none 0 0]) (cs := tri #[.int .i64 k, .int .i64 l, .string nm, .slice TA tn tc, .slice TB tm td] #[.int .i64 k1, .int .i64 n1, .slice KA m1 c1, .slice KB p1 d1] #[.int .i64 k2, .int .i64 n2, .slice LA m2 c2, .slice LB p2 d2]) (R := tri (fun S w cs => TyP S w t cs.toList) (fun S w cs => VaP S w v cs.toList) (fun S w cs => VaP S w x cs.toList)) (L := tri 27 29 31) (C := tri 28 30 32) (B := tri 9 10 11) (X := tri 3 7 8) (src := tri w.heap.size p q) (f := tri 15 29 29) (sz := tri 5 4 4) (dsc := tri ((Tryz.prog.underlying 26).getD .invalid) ((Tryz.prog.underlying 38).getD .invalid) ((Tryz.prog.underlying 38).getD .invalid)) ?_ ?_
      · exact {
          size := rfl
          early := by kernel_rfl
          load := fin3 ⟨_, rfl, rfl, rfl, rfl⟩ ⟨_, rfl, rfl, rfl, rfl⟩ ⟨_, rfl, rfl, rfl, rfl⟩
          call := fin3 ⟨_, _, rfl, rfl, rfl, rfl, ⟨0, .data⟩, by simp, rfl, rfl⟩ ⟨_, _, rfl, rfl, rfl, rfl, ⟨2, .data⟩, by simp, rfl, rfl⟩ ⟨_, _, rfl, rfl, rfl, rfl, ⟨4, .data⟩, by simp, rfl, rfl⟩
          alloc := fin3 ⟨_, rfl, rfl, rfl, rfl⟩ ⟨_, rfl, rfl, rfl, rfl⟩ ⟨_, rfl, rfl, rfl, rfl⟩
          store := fin3 ⟨_, rfl, rfl, rfl, rfl, ⟨⟨1, .data⟩, by simp, rfl, rfl⟩, ⟨6, .data⟩, by simp, rfl, rfl⟩ ⟨_, rfl, rfl, rfl, rfl, ⟨⟨3, .data⟩, by simp, rfl, rfl⟩, ⟨7, .data⟩, by simp, rfl, rfl⟩ ⟨_, rfl, rfl, rfl, rfl, ⟨⟨5, .data⟩, by simp, rfl, rfl⟩, ⟨8, .data⟩, by simp, rfl, rfl⟩
          lc := (fin3 (fin3 (by decide) (by decide) (by decide)) (fin3 (by decide) (by decide) (by decide)) (fin3 (by decide) (by decide) (by decide)))
          lb := (fin3 (fin3 (by decide) (by decide) (by decide)) (fin3 (by decide) (by decide) (by decide)) (fin3 (by decide) (by decide) (by decide)))
          cb := (fin3 (fin3 (by decide) (by decide) (by decide)) (fin3 (by decide) (by decide) (by decide)) (fin3 (by decide) (by decide) (by decide)))
          ll := (fin3 (fin3 (by decide) (by decide) (by decide)) (fin3 (by decide) (by decide) (by decide)) (fin3 (by decide) (by decide) (by decide)))
          cc := (fin3 (fin3 (by decide) (by decide) (by decide)) (fin3 (by decide) (by decide) (by decide)) (fin3 (by decide) (by decide) (by decide)))
          bb := (fin3 (fin3 (by decide) (by decide) (by decide)) (fin3 (by decide) (by decide) (by decide)) (fin3 (by decide) (by decide) (by decide)))
          xl := (fin3 (fin3 (by decide) (by decide) (by decide)) (fin3 (by decide) (by decide) (by decide)) (fin3 (by decide) (by decide) (by decide)))
          xc := (fin3 (fin3 (by decide) (by decide) (by decide)) (fin3 (by decide) (by decide) (by decide)) (fin3 (by decide) (by decide) (by decide)))
          xb := (fin3 (fin3 (by decide) (by decide) (by decide)) (fin3 (by decide) (by decide) (by decide)) (fin3 (by decide) (by decide) (by decide)))
          ls := fin3 (show 27 < 93 by decide) (show 29 < 93 by decide) (show 31 < 93 by decide)
          cs' := fin3 (show 28 < 93 by decide) (show 30 < 93 by decide) (show 32 < 93 by decide)
          bs := fin3 (show 9 < 93 by decide) (show 10 < 93 by decide) (show 11 < 93 by decide)
          xe := fin3 rfl rfl rfl
          sb := fin3 (T1.out.later d0) (V1.out.later d0) (X1.out.later d0)
          b0 := fin3 rfl rfl rfl
          un := fin3 (by kernel_rfl) (by kernel_rfl) (by kernel_rfl)
          row := fin3 (by kernel_rfl) (by kernel_rfl) (by kernel_rfl)
          inf := fin3 (by kernel_rfl) (by kernel_rfl) (by kernel_rfl)
          csz := fin3 rfl rfl rfl
          zsz := fin3 rfl rfl rfl
          al := fin3 al_ty al_va al_va
          en := fin3 (enters Tryz.func15 (by kernel_rfl) (by kernel_rfl)) (enters Tryz.func29 (by kernel_rfl) (by kernel_rfl)) (enters Tryz.func29 (by kernel_rfl) (by kernel_rfl))
          stay := fin3 (stays_ty t) (stays_va v) (stays_va x)
          rsz := fin3 (ty_rsz t) (va_rsz v) (va_rsz x)
          con := fin3 (fun u hu => (HCt.out u (below_then bd hu)).mono fun _ _ h => copyTy_p h) (fun u hu => (HCv.out u (below_then bd hu)).mono fun _ _ h => copyVa_p h) (fun u hu => (HCx.out u (below_then bd hu)).mono fun _ _ h => copyVa_p h) }
      · intro a w' hd hs ho hk hb
        obtain ⟨p9, d9, e9, k9, r9⟩ := hk 0
        obtain ⟨p10, d10, e10, k10, r10⟩ := hk 1
        obtain ⟨p11, d11, e11, k11, r11⟩ := hk 2
        have hR := copies_of k9 k10 k11 r9 r10 r11 (below_then d0 hb)
        have ha := act_of [27, 28, 29, 30, 31, 32, 9, 10, 11] hd hs (fun t ht => by
          simp only [List.mem_cons, List.not_mem_nil, or_false, not_or] at ht
          obtain ⟨h1, h2, h3, h4, h5, h6, h7, h8, h9⟩ := ht
          exact ho t (fin3 ⟨h1, h2, h7⟩ ⟨h3, h4, h8⟩ ⟨h5, h6, h9⟩))
        replace e9 : a.eval (.tmp 9) = .pointer (some ⟨p9, 0, none⟩) := e9
        replace e10 : a.eval (.tmp 10) = .pointer (some ⟨p10, 0, none⟩) := e10
        replace e11 : a.eval (.tmp 11) = .pointer (some ⟨p11, 0, none⟩) := e11
        simp only [List.foldl_cons, List.foldl_nil] at ha
        rw [e9, e10, e11] at ha
        generalize a.eval (.tmp 27) = z27 at ha
        generalize a.eval (.tmp 28) = z28 at ha
        generalize a.eval (.tmp 29) = z29 at ha
        generalize a.eval (.tmp 30) = z30 at ha
        generalize a.eval (.tmp 31) = z31 at ha
        generalize a.eval (.tmp 32) = z32 at ha
        clear hd hs ho hk hb e9 e10 e11 k9 k10 k11 r9 r10 r11
        subst ha
        simp only [Act.put, List.setIfInBounds_toArray, List.set_cons_zero, List.set_cons_succ]
        go_wp2
        go_meet
        exact hR
    case rest =>
      obtain ⟨p9, p10, p11, MA, MB, NA, NB, OA, OB, n3, c3, m3, d3, n4, c4, m4, d4, n5, c5, m5, d5, rfl, rfl, rfl, hM, hN, hO, cM, cN, cO, hb⟩ := hcut
      have B2 := Lib.hid (below_then B1.out hb)
      have T2 := Lib.hid (T1.out.later hb)
      have V2 := Lib.hid (V1.out.later hb)
      have X2 := Lib.hid (X1.out.later hb)
      have M2 := Lib.hid hM
      have CM2 := Lib.hid cM
      have N2 := Lib.hid hN
      have CN2 := Lib.hid cN
      have O2 := Lib.hid hO
      have CO2 := Lib.hid cO
      clear hb hM hN hO cM cN cO HCt HCv HCx
      clear B1 T1 V1 X1
      obtain ⟨mc_0, mc_1, mc_2, mc_3, mc_4⟩ := fives M2.out
      obtain ⟨nc_0, nc_1, nc_2, nc_3⟩ := four N2.out
      go_wp2_with fail
      refine (HA.out _ _ _ B2.out CM2.out CN2.out).mono ?_
      rintro e w3 ⟨AP, nP, cP, BP, mP, dP, rfl, hvc, hb⟩
      have Z3 := Lib.hid (below_alloc w3 (.cells #[.int .i64 y1.kind, .int .i64 y1.n, .slice AP nP cP, .slice BP mP dP] 38))
      have Y3 := Lib.hid (below_then hb Z3.out)
      have B3 := Lib.hid (below_then B2.out Y3.out)
      have hPw := (below_then B2.out hb).size
      have hPT := (T2.out.later hb).lt
      have T3 := Lib.hid (T2.out.later Y3.out)
      have hPV := (V2.out.later hb).lt
      have V3 := Lib.hid (V2.out.later Y3.out)
      have hPX := (X2.out.later hb).lt
      have X3 := Lib.hid (X2.out.later Y3.out)
      have hPM := (M2.out.later hb).lt
      have M3 := Lib.hid (M2.out.later Y3.out)
      have hPN := (N2.out.later hb).lt
      have N3 := Lib.hid (N2.out.later Y3.out)
      have hPO := (O2.out.later hb).lt
      have O3 := Lib.hid (O2.out.later Y3.out)
      have CM3 := Lib.hid ((TyC.old (TyC.later hb _ _ CM2.out)).later Z3.out)
      have CN3 := Lib.hid ((VaC.old (VaC.later hb _ _ CN2.out)).later Z3.out)
      have CO3 := Lib.hid ((VaC.old (VaC.later hb _ _ CO2.out)).later Z3.out)
      have CP3 := Lib.hid (VaC.later Z3.out _ _ hvc)
      have P3 : Hid (Blk (w3.alloc (.cells #[.int .i64 y1.kind, .int .i64 y1.n, .slice AP nP cP, .slice BP mP dP] 38)) w3.heap.size 38 #[.int .i64 y1.kind, .int .i64 y1.n, .slice AP nP cP, .slice BP mP dP]) := Blk.new _ _ _
      clear hb hvc
      clear mc_0 mc_1 mc_2 mc_3 mc_4 nc_0 nc_1 nc_2 nc_3
      obtain ⟨tc_0, tc_1, tc_2, tc_3, tc_4⟩ := fives T3.out
      obtain ⟨vc_0, vc_1, vc_2, vc_3⟩ := four V3.out
      go_wp2_with fail
      refine (HB.out _ B3.out).mono ?_
      rintro e w4 ⟨AQ, nQ, cQ, BQ, mQ, dQ, rfl, hvc, hb⟩
      have Z4 := Lib.hid (below_alloc w4 (.cells #[.int .i64 y1.kind, .int .i64 y1.n, .slice AQ nQ cQ, .slice BQ mQ dQ] 38))
      have Y4 := Lib.hid (below_then hb Z4.out)
      have B4 := Lib.hid (below_then B3.out Y4.out)
      have hQw := (below_then B3.out hb).size
      have hQT := (T3.out.later hb).lt
      have T4 := Lib.hid (T3.out.later Y4.out)
      have hQV := (V3.out.later hb).lt
      have V4 := Lib.hid (V3.out.later Y4.out)
      have hQX := (X3.out.later hb).lt
      have X4 := Lib.hid (X3.out.later Y4.out)
      have hQM := (M3.out.later hb).lt
      have M4 := Lib.hid (M3.out.later Y4.out)
      have hQN := (N3.out.later hb).lt
      have N4 := Lib.hid (N3.out.later Y4.out)
      have hQO := (O3.out.later hb).lt
      have O4 := Lib.hid (O3.out.later Y4.out)
      have hQP := (P3.out.later hb).lt
      have P4 := Lib.hid (P3.out.later Y4.out)
      have CM4 := Lib.hid ((CM3.out).later Y4.out)
      have CN4 := Lib.hid ((CN3.out).later Y4.out)
      have CO4 := Lib.hid ((CO3.out).later Y4.out)
      have CP4 := Lib.hid (VaC.later Y4.out _ _ CP3.out)
      have CQ4 := Lib.hid (VaC.later Z4.out _ _ hvc)
      have Q4 : Hid (Blk (w4.alloc (.cells #[.int .i64 y1.kind, .int .i64 y1.n, .slice AQ nQ cQ, .slice BQ mQ dQ] 38)) w4.heap.size 38 #[.int .i64 y1.kind, .int .i64 y1.n, .slice AQ nQ cQ, .slice BQ mQ dQ]) := Blk.new _ _ _
      clear hb hvc
      clear tc_0 tc_1 tc_2 tc_3 tc_4 vc_0 vc_1 vc_2 vc_3
      obtain ⟨pc_0, pc_1, pc_2, pc_3⟩ := four P4.out
      obtain ⟨qc_0, qc_1, qc_2, qc_3⟩ := four Q4.out
      go_wp2_with fail
      refine (HL1.out _ _ _ B4.out CP4.out CQ4.out).mono ?_
      rintro e w5 ⟨rfl, hb⟩
      have B5 := Lib.hid (below_then B4.out hb)
      have T5 := Lib.hid (T4.out.later hb)
      have V5 := Lib.hid (V4.out.later hb)
      have X5 := Lib.hid (X4.out.later hb)
      have M5 := Lib.hid (M4.out.later hb)
      have N5 := Lib.hid (N4.out.later hb)
      have O5 := Lib.hid (O4.out.later hb)
      have P5 := Lib.hid (P4.out.later hb)
      have Q5 := Lib.hid (Q4.out.later hb)
      have CM5 := Lib.hid ((CM4.out).later hb)
      have CN5 := Lib.hid ((CN4.out).later hb)
      have CO5 := Lib.hid ((CO4.out).later hb)
      have CP5 := Lib.hid (VaC.later hb _ _ CP4.out)
      have CQ5 := Lib.hid (VaC.later hb _ _ CQ4.out)
      clear hb
      clear pc_0 pc_1 pc_2 pc_3 qc_0 qc_1 qc_2 qc_3
      obtain ⟨mc_0, mc_1, mc_2, mc_3, mc_4⟩ := fives M5.out
      obtain ⟨nc_0, nc_1, nc_2, nc_3⟩ := four N5.out
      obtain ⟨oc_0, oc_1, oc_2, oc_3⟩ := four O5.out
      go_wp2_with fail
      refine (HW.out _ _ _ _ B5.out (TyP.toC _ _ CM5.out) (VaP.toC _ _ CN5.out) (VaP.toC _ _ CO5.out)).mono ?_
      rintro e w6 ⟨AP9, nP9, cP9, BP9, mP9, dP9, rfl, hvp, hb⟩
      have hbx := below_then B5.out hb
      have B6 := Lib.hid (set4_below hbx hPw (.int .i64 y2.kind) (.int .i64 y2.n) (.slice AP9 nP9 cP9) (.slice BP9 mP9 dP9))
      have T6 := Lib.hid (Blk.set4 (g := w3.heap.size) (T5.out.later hb) (by omega) (.int .i64 y2.kind) (.int .i64 y2.n) (.slice AP9 nP9 cP9) (.slice BP9 mP9 dP9))
      have V6 := Lib.hid (Blk.set4 (g := w3.heap.size) (V5.out.later hb) (by omega) (.int .i64 y2.kind) (.int .i64 y2.n) (.slice AP9 nP9 cP9) (.slice BP9 mP9 dP9))
      have X6 := Lib.hid (Blk.set4 (g := w3.heap.size) (X5.out.later hb) (by omega) (.int .i64 y2.kind) (.int .i64 y2.n) (.slice AP9 nP9 cP9) (.slice BP9 mP9 dP9))
      have M6 := Lib.hid (Blk.set4 (g := w3.heap.size) (M5.out.later hb) (by omega) (.int .i64 y2.kind) (.int .i64 y2.n) (.slice AP9 nP9 cP9) (.slice BP9 mP9 dP9))
      have N6 := Lib.hid (Blk.set4 (g := w3.heap.size) (N5.out.later hb) (by omega) (.int .i64 y2.kind) (.int .i64 y2.n) (.slice AP9 nP9 cP9) (.slice BP9 mP9 dP9))
      have O6 := Lib.hid (Blk.set4 (g := w3.heap.size) (O5.out.later hb) (by omega) (.int .i64 y2.kind) (.int .i64 y2.n) (.slice AP9 nP9 cP9) (.slice BP9 mP9 dP9))
      have P6 := Lib.hid (blk_own4 (P5.out.later hb) (.int .i64 y2.kind) (.int .i64 y2.n) (.slice AP9 nP9 cP9) (.slice BP9 mP9 dP9))
      have Q6 := Lib.hid (Blk.set4 (g := w3.heap.size) (Q5.out.later hb) (by omega) (.int .i64 y2.kind) (.int .i64 y2.n) (.slice AP9 nP9 cP9) (.slice BP9 mP9 dP9))
      have CM6 := Lib.hid (ty_far4 (g := w3.heap.size) (CM5.out.later hb) (fun b (hb : b < w3.heap.size) => by omega) (.int .i64 y2.kind) (.int .i64 y2.n) (.slice AP9 nP9 cP9) (.slice BP9 mP9 dP9))
      have CN6 := Lib.hid (VaP.set4 (g := w3.heap.size) (CN5.out.later hb) (fun b (hb : b < w3.heap.size) => by omega) (.int .i64 y2.kind) (.int .i64 y2.n) (.slice AP9 nP9 cP9) (.slice BP9 mP9 dP9))
      have CO6 := Lib.hid (VaP.set4 (g := w3.heap.size) (CO5.out.later hb) (fun b (hb : b < w3.heap.size) => by omega) (.int .i64 y2.kind) (.int .i64 y2.n) (.slice AP9 nP9 cP9) (.slice BP9 mP9 dP9))
      have CP6 := Lib.hid (VaP.set4 (g := w3.heap.size) hvp (fun b (hb : _ ≤ b) => by have := P5.out.lt; omega) (.int .i64 y2.kind) (.int .i64 y2.n) (.slice AP9 nP9 cP9) (.slice BP9 mP9 dP9))
      have N0 := P5.out.later hb
      obtain ⟨zc_0, zc_1, zc_2, zc_3⟩ := four N0
      have zf_0 := N0.free 0
      have zf_1 := N0.free 1
      have zf_2 := N0.free 2
      have zf_3 := N0.free 3
      clear hvp hbx N0
      clear mc_0 mc_1 mc_2 mc_3 mc_4 nc_0 nc_1 nc_2 nc_3 oc_0 oc_1 oc_2 oc_3
      go_upto_region 10 with fail
      clear zc_0 zc_1 zc_2 zc_3 zf_0 zf_1 zf_2 zf_3 hb
      generalize (((w6.setCell ⟨w3.heap.size, 0, none⟩ (.int .i64 y2.kind)).setCell ⟨w3.heap.size, 1, none⟩ (.int .i64 y2.n)).setCell ⟨w3.heap.size, 2, none⟩ (.slice AP9 nP9 cP9)).setCell ⟨w3.heap.size, 3, none⟩ (.slice BP9 mP9 dP9) = u906 at *
      obtain ⟨tc_0, tc_1, tc_2, tc_3, tc_4⟩ := fives T6.out
      obtain ⟨vc_0, vc_1, vc_2, vc_3⟩ := four V6.out
      obtain ⟨xc_0, xc_1, xc_2, xc_3⟩ := four X6.out
      go_wp2_with fail
      refine (HU.out _ B6.out).mono ?_
      rintro e w7 ⟨AQ8, nQ8, cQ8, BQ8, mQ8, dQ8, rfl, hvp, hb⟩
      have hbx := below_then B6.out hb
      have B7 := Lib.hid (set4_below hbx hQw (.int .i64 y2.kind) (.int .i64 y2.n) (.slice AQ8 nQ8 cQ8) (.slice BQ8 mQ8 dQ8))
      have T7 := Lib.hid (Blk.set4 (g := w4.heap.size) (T6.out.later hb) (by omega) (.int .i64 y2.kind) (.int .i64 y2.n) (.slice AQ8 nQ8 cQ8) (.slice BQ8 mQ8 dQ8))
      have V7 := Lib.hid (Blk.set4 (g := w4.heap.size) (V6.out.later hb) (by omega) (.int .i64 y2.kind) (.int .i64 y2.n) (.slice AQ8 nQ8 cQ8) (.slice BQ8 mQ8 dQ8))
      have X7 := Lib.hid (Blk.set4 (g := w4.heap.size) (X6.out.later hb) (by omega) (.int .i64 y2.kind) (.int .i64 y2.n) (.slice AQ8 nQ8 cQ8) (.slice BQ8 mQ8 dQ8))
      have M7 := Lib.hid (Blk.set4 (g := w4.heap.size) (M6.out.later hb) (by omega) (.int .i64 y2.kind) (.int .i64 y2.n) (.slice AQ8 nQ8 cQ8) (.slice BQ8 mQ8 dQ8))
      have N7 := Lib.hid (Blk.set4 (g := w4.heap.size) (N6.out.later hb) (by omega) (.int .i64 y2.kind) (.int .i64 y2.n) (.slice AQ8 nQ8 cQ8) (.slice BQ8 mQ8 dQ8))
      have O7 := Lib.hid (Blk.set4 (g := w4.heap.size) (O6.out.later hb) (by omega) (.int .i64 y2.kind) (.int .i64 y2.n) (.slice AQ8 nQ8 cQ8) (.slice BQ8 mQ8 dQ8))
      have P7 := Lib.hid (Blk.set4 (g := w4.heap.size) (P6.out.later hb) (by omega) (.int .i64 y2.kind) (.int .i64 y2.n) (.slice AQ8 nQ8 cQ8) (.slice BQ8 mQ8 dQ8))
      have Q7 := Lib.hid (blk_own4 (Q6.out.later hb) (.int .i64 y2.kind) (.int .i64 y2.n) (.slice AQ8 nQ8 cQ8) (.slice BQ8 mQ8 dQ8))
      have CM7 := Lib.hid (ty_far4 (g := w4.heap.size) (CM6.out.later hb) (fun b (hb : b < w3.heap.size) => by omega) (.int .i64 y2.kind) (.int .i64 y2.n) (.slice AQ8 nQ8 cQ8) (.slice BQ8 mQ8 dQ8))
      have CN7 := Lib.hid (VaP.set4 (g := w4.heap.size) (CN6.out.later hb) (fun b (hb : b < w3.heap.size) => by omega) (.int .i64 y2.kind) (.int .i64 y2.n) (.slice AQ8 nQ8 cQ8) (.slice BQ8 mQ8 dQ8))
      have CO7 := Lib.hid (VaP.set4 (g := w4.heap.size) (CO6.out.later hb) (fun b (hb : b < w3.heap.size) => by omega) (.int .i64 y2.kind) (.int .i64 y2.n) (.slice AQ8 nQ8 cQ8) (.slice BQ8 mQ8 dQ8))
      have CP7 := Lib.hid (VaP.set4 (g := w4.heap.size) (CP6.out.later hb) (fun b (hb : _ ≤ b) => by have := Q5.out.lt; omega) (.int .i64 y2.kind) (.int .i64 y2.n) (.slice AQ8 nQ8 cQ8) (.slice BQ8 mQ8 dQ8))
      have CQ7 := Lib.hid (VaP.set4 (g := w4.heap.size) hvp (fun b (hb : _ ≤ b) => by have := Q6.out.lt; omega) (.int .i64 y2.kind) (.int .i64 y2.n) (.slice AQ8 nQ8 cQ8) (.slice BQ8 mQ8 dQ8))
      have N0 := Q6.out.later hb
      obtain ⟨zc_0, zc_1, zc_2, zc_3⟩ := four N0
      have zf_0 := N0.free 0
      have zf_1 := N0.free 1
      have zf_2 := N0.free 2
      have zf_3 := N0.free 3
      clear hvp hbx N0
      clear tc_0 tc_1 tc_2 tc_3 tc_4 vc_0 vc_1 vc_2 vc_3 xc_0 xc_1 xc_2 xc_3
      go_upto_region 11 with fail
      clear zc_0 zc_1 zc_2 zc_3 zf_0 zf_1 zf_2 zf_3 hb
      generalize (((w7.setCell ⟨w4.heap.size, 0, none⟩ (.int .i64 y2.kind)).setCell ⟨w4.heap.size, 1, none⟩ (.int .i64 y2.n)).setCell ⟨w4.heap.size, 2, none⟩ (.slice AQ8 nQ8 cQ8)).setCell ⟨w4.heap.size, 3, none⟩ (.slice BQ8 mQ8 dQ8) = u907 at *
      obtain ⟨pc_0, pc_1, pc_2, pc_3⟩ := four P7.out
      obtain ⟨qc_0, qc_1, qc_2, qc_3⟩ := four Q7.out
      go_wp2_with fail
      refine (HL2.out _ _ _ B7.out (VaP.toC _ _ CP7.out) (VaP.toC _ _ CQ7.out)).mono ?_
      rintro e w8 ⟨rfl, hb⟩
      have B8 := Lib.hid (below_then B7.out hb)
      have T8 := Lib.hid (T7.out.later hb)
      have V8 := Lib.hid (V7.out.later hb)
      have X8 := Lib.hid (X7.out.later hb)
      have M8 := Lib.hid (M7.out.later hb)
      have N8 := Lib.hid (N7.out.later hb)
      have O8 := Lib.hid (O7.out.later hb)
      have P8 := Lib.hid (P7.out.later hb)
      have Q8 := Lib.hid (Q7.out.later hb)
      have CN8 := Lib.hid ((CN7.out).later hb)
      have CO8 := Lib.hid ((CO7.out).later hb)
      have CP8 := Lib.hid ((CP7.out).later hb)
      have CQ8 := Lib.hid ((CQ7.out).later hb)
      clear hb
      clear pc_0 pc_1 pc_2 pc_3 qc_0 qc_1 qc_2 qc_3
      obtain ⟨vc_0, vc_1, vc_2, vc_3⟩ := four V8.out
      obtain ⟨nc_0, nc_1, nc_2, nc_3⟩ := four N8.out
      go_wp2_with fail
      refine (HL3.out _ _ B8.out (VaP.toC _ _ CN8.out)).mono ?_
      rintro e w9 ⟨rfl, hb⟩
      have B9 := Lib.hid (below_then B8.out hb)
      have T9 := Lib.hid (T8.out.later hb)
      have V9 := Lib.hid (V8.out.later hb)
      have X9 := Lib.hid (X8.out.later hb)
      have M9 := Lib.hid (M8.out.later hb)
      have N9 := Lib.hid (N8.out.later hb)
      have O9 := Lib.hid (O8.out.later hb)
      have P9 := Lib.hid (P8.out.later hb)
      have Q9 := Lib.hid (Q8.out.later hb)
      have CN9 := Lib.hid ((CN8.out).later hb)
      have CO9 := Lib.hid ((CO8.out).later hb)
      have CP9 := Lib.hid ((CP8.out).later hb)
      have CQ9 := Lib.hid ((CQ8.out).later hb)
      clear hb
      clear vc_0 vc_1 vc_2 vc_3 nc_0 nc_1 nc_2 nc_3
      obtain ⟨xc_0, xc_1, xc_2, xc_3⟩ := four X9.out
      obtain ⟨oc_0, oc_1, oc_2, oc_3⟩ := four O9.out
      go_wp2_with fail
      refine (HL4.out _ _ B9.out (VaP.toC _ _ CO9.out)).mono ?_
      rintro e w10 ⟨rfl, hb⟩
      have B10 := Lib.hid (below_then B9.out hb)
      have T10 := Lib.hid (T9.out.later hb)
      have V10 := Lib.hid (V9.out.later hb)
      have X10 := Lib.hid (X9.out.later hb)
      have M10 := Lib.hid (M9.out.later hb)
      have N10 := Lib.hid (N9.out.later hb)
      have O10 := Lib.hid (O9.out.later hb)
      have P10 := Lib.hid (P9.out.later hb)
      have Q10 := Lib.hid (Q9.out.later hb)
      have CN10 := Lib.hid ((CN9.out).later hb)
      have CO10 := Lib.hid ((CO9.out).later hb)
      have CP10 := Lib.hid ((CP9.out).later hb)
      have CQ10 := Lib.hid ((CQ9.out).later hb)
      clear hb
      clear xc_0 xc_1 xc_2 xc_3 oc_0 oc_1 oc_2 oc_3
      go_wp2_with fail
      refine (HAw.out _ B10.out).mono ?_
      rintro e w11 ⟨rfl, hb⟩
      have B11 := Lib.hid (below_then B10.out hb)
      have T11 := Lib.hid (T10.out.later hb)
      have V11 := Lib.hid (V10.out.later hb)
      have X11 := Lib.hid (X10.out.later hb)
      have M11 := Lib.hid (M10.out.later hb)
      have N11 := Lib.hid (N10.out.later hb)
      have O11 := Lib.hid (O10.out.later hb)
      have P11 := Lib.hid (P10.out.later hb)
      have Q11 := Lib.hid (Q10.out.later hb)
      have CN11 := Lib.hid ((CN10.out).later hb)
      have CO11 := Lib.hid ((CO10.out).later hb)
      have CP11 := Lib.hid ((CP10.out).later hb)
      have CQ11 := Lib.hid ((CQ10.out).later hb)
      clear hb
      go_wp2
      go_ret
      exact ⟨rfl, B11.out⟩
end Go.Proofs.YtgcnckkpfeffnaaGreatDoor
