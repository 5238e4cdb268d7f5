/- The law TypesValues: the walk, and its contracts put together. -/
import Derived.Test.YtdiagnhdigakpaaGreatDoorUx
import Derived.Test.YtdiagnhdigakpaaGreatDoorUe
import Derived.Test.YtdiagnhdigakpaaGreatDoorUg
import Derived.Test.YtdiagnhdigakpaaGreatDoorOb
import Derived.Test.YtdiagnhdigakpaaGreatDoorOc
import Derived.Test.YtdiagnhdigakpaaGreatDoorZg
import Derived.Deep.RegionHeld3
namespace Go.Proofs.YtdiagnhdigakpaaGreatDoor
open Go.RowKit

theorem keep19 {w0 w1 w2 : World} {a0 a1 a2 a3 a4 a5 a6 a7 a8 a9 a10 a11 a12 a13 a14 a15 a16 a17 : Addr} {x0 x1 x2 x3 x4 x5 x6 x7 x8 x9 x10 x11 x12 x13 x14 x15 x16 x17 : Value} (hb : Below w1.heap.size w1 w2) (h : Below w0.heap.size w0 w1 ∧ w1.cell? a0 = some x0 ∧ w1.cell? a1 = some x1 ∧ w1.cell? a2 = some x2 ∧ w1.cell? a3 = some x3 ∧ w1.cell? a4 = some x4 ∧ w1.cell? a5 = some x5 ∧ w1.cell? a6 = some x6 ∧ w1.cell? a7 = some x7 ∧ w1.cell? a8 = some x8 ∧ w1.cell? a9 = some x9 ∧ w1.cell? a10 = some x10 ∧ w1.cell? a11 = some x11 ∧ w1.cell? a12 = some x12 ∧ w1.cell? a13 = some x13 ∧ w1.cell? a14 = some x14 ∧ w1.cell? a15 = some x15 ∧ w1.cell? a16 = some x16 ∧ w1.cell? a17 = some x17) : Below w0.heap.size w0 w2 ∧ w2.cell? a0 = some x0 ∧ w2.cell? a1 = some x1 ∧ w2.cell? a2 = some x2 ∧ w2.cell? a3 = some x3 ∧ w2.cell? a4 = some x4 ∧ w2.cell? a5 = some x5 ∧ w2.cell? a6 = some x6 ∧ w2.cell? a7 = some x7 ∧ w2.cell? a8 = some x8 ∧ w2.cell? a9 = some x9 ∧ w2.cell? a10 = some x10 ∧ w2.cell? a11 = some x11 ∧ w2.cell? a12 = some x12 ∧ w2.cell? a13 = some x13 ∧ w2.cell? a14 = some x14 ∧ w2.cell? a15 = some x15 ∧ w2.cell? a16 = some x16 ∧ w2.cell? a17 = some x17 := by
  obtain ⟨h0, g0, g1, g2, g3, g4, g5, g6, g7, g8, g9, g10, g11, g12, g13, g14, g15, g16, g17⟩ := h
  exact ⟨below_then h0 hb, cell_stays hb g0, cell_stays hb g1, cell_stays hb g2, cell_stays hb g3, cell_stays hb g4, cell_stays hb g5, cell_stays hb g6, cell_stays hb g7, cell_stays hb g8, cell_stays hb g9, cell_stays hb g10, cell_stays hb g11, cell_stays hb g12, cell_stays hb g13, cell_stays hb g14, cell_stays hb g15, cell_stays hb g16, cell_stays hb g17⟩
set_option maxRecDepth 100000 in
set_option maxHeartbeats 16000000 in
theorem values_small (k l k1 n1 k2 n2 : Int) (nm : ByteArray) (TA TB KA KB LA LB : Option Addr) (tn tc tm td m1 c1 p1 d1 m2 c2 p2 d2 : Nat) (v x : Va) (w : World)
    (HVc : Hid (VaC w v [.int .i64 k1, .int .i64 n1, .slice KA m1 c1, .slice KB p1 d1])) (HXc : Hid (VaC w x [.int .i64 k2, .int .i64 n2, .slice LA m2 c2, .slice LB p2 d2]))
    (HAw : Hid (∀ z, Below w.heap.size w z → Calls Tryz.prog 14 #[] z (fun e w' => e = .returned (.bool true) ∧ Below z.heap.size z w')))
    (HSm : Hid (∀ z y, Below w.heap.size w z → VasC z y [v, x] → Calls Tryz.prog 13 #[.agg #[.int .i64 k, .int .i64 l, .string nm, .slice TA tn tc, .slice TB tm td], y] z (fun e w' => e = .returned (.bool false) ∧ Below z.heap.size z w'))) :
    Calls Tryz.prog 4 #[.agg #[.int .i64 k, .int .i64 l, .string nm, .slice TA tn tc, .slice TB tm td], .agg #[.int .i64 k1, .int .i64 n1, .slice KA m1 c1, .slice KB p1 d1], .agg #[.int .i64 k2, .int .i64 n2, .slice LA m2 c2, .slice LB p2 d2]] w fun e w' => e = .returned (.bool true) ∧ Below w.heap.size w w' := by
  have H3 := Lib.hid (boxes3 w 26 38 38 #[.int .i64 k, .int .i64 l, .string nm, .slice TA tn tc, .slice TB tm td] #[.int .i64 k1, .int .i64 n1, .slice KA m1 c1, .slice KB p1 d1] #[.int .i64 k2, .int .i64 n2, .slice LA m2 c2, .slice LB p2 d2])
  go_enter Tryz.func4, Tryz.ntmps4
  go_upto_region 1 with fail
  generalize ((w.alloc (.cells #[.int .i64 k, .int .i64 l, .string nm, .slice TA tn tc, .slice TB tm td] 26)).alloc (.cells #[.int .i64 k1, .int .i64 n1, .slice KA m1 c1, .slice KB p1 d1] 38)).alloc (.cells #[.int .i64 k2, .int .i64 n2, .slice LA m2 c2, .slice LB p2 d2] 38) = W at *
  have B0 := Lib.hid H3.out.2.2.2.1
  have T0 := Lib.hid H3.out.1
  have V0 := Lib.hid H3.out.2.1
  have X0 := Lib.hid H3.out.2.2.1
  have Z0 := Lib.hid (below_alloc W (.cells #[.int .i64 k1, .int .i64 n1, .slice KA m1 c1, .slice KB p1 d1, .int .i64 k2, .int .i64 n2, .slice LA m2 c2, .slice LB p2 d2] 38))
  have G0 := Lib.hid (HSm.out _ _ (below_then B0.out Z0.out) (two_row (VaC.later B0.out _ _ HVc.out) (VaC.later B0.out _ _ HXc.out)))
  clear H3 HSm
  obtain ⟨tc_0, tc_1, tc_2, tc_3, tc_4⟩ := fives T0.out
  obtain ⟨vc_0, vc_1, vc_2, vc_3⟩ := four V0.out
  obtain ⟨xc_0, xc_1, xc_2, xc_3⟩ := four X0.out
  go_wp2_with fail
  refine (G0.out).mono ?_
  rintro e w1 ⟨rfl, hb⟩
  have Y1 := Lib.hid (below_then Z0.out hb)
  have B1 := Lib.hid (below_then B0.out Y1.out)
  have T1 := Lib.hid (T0.out.later Y1.out)
  have V1 := Lib.hid (V0.out.later Y1.out)
  have X1 := Lib.hid (X0.out.later Y1.out)
  clear hb G0
  clear tc_0 tc_1 tc_2 tc_3 tc_4 vc_0 vc_1 vc_2 vc_3 xc_0 xc_1 xc_2 xc_3
  go_wp2_with fail
  refine (HAw.out _ B1.out).mono ?_
  rintro e w2 ⟨rfl, hb⟩
  have B2 := Lib.hid (below_then B1.out hb)
  have T2 := Lib.hid (T1.out.later hb)
  have V2 := Lib.hid (V1.out.later hb)
  have X2 := Lib.hid (X1.out.later hb)
  clear hb
  go_wp2
  go_ret
  exact ⟨rfl, B2.out⟩
set_option maxRecDepth 100000 in
set_option maxHeartbeats 16000000 in
theorem values_all (k l k1 n1 k2 n2 : Int) (nm : ByteArray) (TA TB KA KB LA LB : Option Addr) (tn tc tm td m1 c1 p1 d1 m2 c2 p2 d2 : Nat) (v x : Va) (w : World) (t : Ty) (bh be : Bool) (s : ByteArray) (bs : List Nat) (ls : List Va) (E1 E2 E3 E4 : Nat)
    (HVc : Hid (VaC w v [.int .i64 k1, .int .i64 n1, .slice KA m1 c1, .slice KB p1 d1])) (HXc : Hid (VaC w x [.int .i64 k2, .int .i64 n2, .slice LA m2 c2, .slice LB p2 d2]))
    (HAw : Hid (∀ z, Below w.heap.size w z → Calls Tryz.prog 14 #[] z (fun e w' => e = .returned (.bool true) ∧ Below z.heap.size z w')))
    (HSm : Hid (∀ z y, Below w.heap.size w z → VasC z y [v, x] → Calls Tryz.prog 13 #[.agg #[.int .i64 k, .int .i64 l, .string nm, .slice TA tn tc, .slice TB tm td], y] z (fun e w' => e = .returned (.bool true) ∧ Below z.heap.size z w')))
    (HCt : Hid (∀ z, Below w.heap.size w z → Calls Tryz.prog 15 #[.agg #[.int .i64 k, .int .i64 l, .string nm, .slice TA tn tc, .slice TB tm td]] z (CopyTyOf z t)))
    (HCv : Hid (∀ z, Below w.heap.size w z → Calls Tryz.prog 29 #[.agg #[.int .i64 k1, .int .i64 n1, .slice KA m1 c1, .slice KB p1 d1]] z (CopyOf z v)))
    (HCx : Hid (∀ z, Below w.heap.size w z → Calls Tryz.prog 29 #[.agg #[.int .i64 k2, .int .i64 n2, .slice LA m2 c2, .slice LB p2 d2]] z (CopyOf z x)))
    (HH : Hid (∀ z ct cv, Below w.heap.size w z → TyC z t ct → VaC z v cv → Calls Tryz.prog 30 #[.agg ct.toArray, .agg cv.toArray] z (fun e w' => e = .returned (.bool bh) ∧ Below z.heap.size z w')))
    (HHr : Hid (∀ z, Below w.heap.size w z → Calls Tryz.prog 31 #[.agg #[.int .i64 k, .int .i64 l, .string nm, .slice TA tn tc, .slice TB tm td], .agg #[.int .i64 k1, .int .i64 n1, .slice KA m1 c1, .slice KB p1 d1]] z (fun e w' => e = .returned (.bool bh) ∧ Below z.heap.size z w')))
    (HQ : Hid (∀ z ct cv cx, Below w.heap.size w z → TyC z t ct → VaC z v cv → VaC z x cx → Calls Tryz.prog 32 #[.agg ct.toArray, .agg cv.toArray, .agg cx.toArray] z (fun e w' => e = .returned (.tuple #[.bool be, .int .i64 (E1 : Nat)]) ∧ Below z.heap.size z w')))
    (HQr : Hid (∀ z, Below w.heap.size w z → Calls Tryz.prog 33 #[.agg #[.int .i64 k, .int .i64 l, .string nm, .slice TA tn tc, .slice TB tm td], .agg #[.int .i64 k1, .int .i64 n1, .slice KA m1 c1, .slice KB p1 d1], .agg #[.int .i64 k2, .int .i64 n2, .slice LA m2 c2, .slice LB p2 d2]] z (fun e w' => e = .returned (.tuple #[.bool be, .int .i64 (E1 : Nat)]) ∧ Below z.heap.size z w')))
    (HT : Hid (∀ z ct cv, Below w.heap.size w z → TyC z t ct → VaC z v cv → Calls Tryz.prog 34 #[.agg ct.toArray, .agg cv.toArray] z (fun e w' => e = .returned (.tuple #[.string s, .int .i64 (E2 : Nat)]) ∧ Below z.heap.size z w')))
    (HTr : Hid (∀ z, Below w.heap.size w z → Calls Tryz.prog 35 #[.agg #[.int .i64 k, .int .i64 l, .string nm, .slice TA tn tc, .slice TB tm td], .agg #[.int .i64 k1, .int .i64 n1, .slice KA m1 c1, .slice KB p1 d1]] z (fun e w' => e = .returned (.tuple #[.string s, .int .i64 (E2 : Nat)]) ∧ Below z.heap.size z w')))
    (HB : Hid (∀ z ct cv, Below w.heap.size w z → TyC z t ct → VaC z v cv → Calls Tryz.prog 36 #[.agg ct.toArray, .agg cv.toArray] z (BitsPostE bs E3 z)))
    (HBr : Hid (∀ z, Below w.heap.size w z → Calls Tryz.prog 37 #[.agg #[.int .i64 k, .int .i64 l, .string nm, .slice TA tn tc, .slice TB tm td], .agg #[.int .i64 k1, .int .i64 n1, .slice KA m1 c1, .slice KB p1 d1]] z (BitsPostE bs E3 z)))
    (HP : Hid (∀ z ct cv, Below w.heap.size w z → TyC z t ct → VaC z v cv → Calls Tryz.prog 39 #[.agg ct.toArray, .agg cv.toArray] z (SplitPost ls E4 z)))
    (HPr : Hid (∀ z, Below w.heap.size w z → Calls Tryz.prog 40 #[.agg #[.int .i64 k, .int .i64 l, .string nm, .slice TA tn tc, .slice TB tm td], .agg #[.int .i64 k1, .int .i64 n1, .slice KA m1 c1, .slice KB p1 d1]] z (SplitPost ls E4 z)))
    (HS : Hid (∀ z ub uc, Below w.heap.size w z → Lg.Sl z ub bs → Lg.Sl z uc bs → Calls Tryz.prog 38 #[ub, uc] z (fun e w' => e = .returned (.bool true) ∧ Below z.heap.size z w')))
    (HA : Hid (∀ z ul um, Below w.heap.size w z → VasC z ul ls → VasC z um ls → Calls Tryz.prog 41 #[ul, um] z (fun e w' => e = .returned (.bool true) ∧ Below z.heap.size z w')))
    (HL3 : Hid (∀ z cb, Below w.heap.size w z → VaC z v cb → Calls Tryz.prog 24 #[.agg #[.int .i64 k1, .int .i64 n1, .slice KA m1 c1, .slice KB p1 d1], .agg cb.toArray] z (fun e w' => e = .returned (.bool true) ∧ Below z.heap.size z w')))
    (HL4 : Hid (∀ z cb, Below w.heap.size w z → VaC z x cb → Calls Tryz.prog 24 #[.agg #[.int .i64 k2, .int .i64 n2, .slice LA m2 c2, .slice LB p2 d2], .agg cb.toArray] z (fun e w' => e = .returned (.bool true) ∧ Below z.heap.size z w'))) :
    Calls Tryz.prog 4 #[.agg #[.int .i64 k, .int .i64 l, .string nm, .slice TA tn tc, .slice TB tm td], .agg #[.int .i64 k1, .int .i64 n1, .slice KA m1 c1, .slice KB p1 d1], .agg #[.int .i64 k2, .int .i64 n2, .slice LA m2 c2, .slice LB p2 d2]] w fun e w' => e = .returned (.bool true) ∧ Below w.heap.size w w' := by
  have H3 := Lib.hid (boxes3 w 26 38 38 #[.int .i64 k, .int .i64 l, .string nm, .slice TA tn tc, .slice TB tm td] #[.int .i64 k1, .int .i64 n1, .slice KA m1 c1, .slice KB p1 d1] #[.int .i64 k2, .int .i64 n2, .slice LA m2 c2, .slice LB p2 d2])
  go_enter Tryz.func4, Tryz.ntmps4
  go_upto_region 1 with fail
  generalize ((w.alloc (.cells #[.int .i64 k, .int .i64 l, .string nm, .slice TA tn tc, .slice TB tm td] 26)).alloc (.cells #[.int .i64 k1, .int .i64 n1, .slice KA m1 c1, .slice KB p1 d1] 38)).alloc (.cells #[.int .i64 k2, .int .i64 n2, .slice LA m2 c2, .slice LB p2 d2] 38) = W at *
  have B0 := Lib.hid H3.out.2.2.2.1
  have T0 := Lib.hid H3.out.1
  have V0 := Lib.hid H3.out.2.1
  have X0 := Lib.hid H3.out.2.2.1
  have Z0 := Lib.hid (below_alloc W (.cells #[.int .i64 k1, .int .i64 n1, .slice KA m1 c1, .slice KB p1 d1, .int .i64 k2, .int .i64 n2, .slice LA m2 c2, .slice LB p2 d2] 38))
  have G0 := Lib.hid (HSm.out _ _ (below_then B0.out Z0.out) (two_row (VaC.later B0.out _ _ HVc.out) (VaC.later B0.out _ _ HXc.out)))
  clear H3 HSm
  obtain ⟨tc_0, tc_1, tc_2, tc_3, tc_4⟩ := fives T0.out
  obtain ⟨vc_0, vc_1, vc_2, vc_3⟩ := four V0.out
  obtain ⟨xc_0, xc_1, xc_2, xc_3⟩ := four X0.out
  go_wp2_with fail
  refine (G0.out).mono ?_
  rintro e w1 ⟨rfl, hb⟩
  have Y1 := Lib.hid (below_then Z0.out hb)
  have B1 := Lib.hid (below_then B0.out Y1.out)
  have T1 := Lib.hid (T0.out.later Y1.out)
  have V1 := Lib.hid (V0.out.later Y1.out)
  have X1 := Lib.hid (X0.out.later Y1.out)
  clear hb G0
  clear tc_0 tc_1 tc_2 tc_3 tc_4 vc_0 vc_1 vc_2 vc_3 xc_0 xc_1 xc_2 xc_3
  go_upto_region 3 with fail
  go_cut [7, 8, 9] (fun s7 s8 s9 wx => Copies w1 t v x s7 s8 s9 wx)
  case first =>
    have d0 : Below w1.heap.size w1 w1.drew := (Below.refl _ _).drew
    have bd := below_then B1.out d0
    refine wp_region_any (by kernel_rfl) ?_
    change wpAny _ _ _ _ _ _ _ (World.drew _)
    refine boxes_region (n := 3) (T := tri 26 38 38) (z := tri #[.int .i64 0, .int .i64 0, .string ⟨#[]⟩, .slice none 0 0, .slice none 0 0] #[.int .i64 0, .int .i64 0, .slice none 0 0, .slice none 0 0] #[.int .i64 0, .int .i64 0, .slice none 0 0, .slice none 0 0]) (cs := tri #[.int .i64 k, .int .i64 l, .string nm, .slice TA tn tc, .slice TB tm td] #[.int .i64 k1, .int .i64 n1, .slice KA m1 c1, .slice KB p1 d1] #[.int .i64 k2, .int .i64 n2, .slice LA m2 c2, .slice LB p2 d2]) (R := tri (fun S w cs => TyP S w t cs.toList) (fun S w cs => VaP S w v cs.toList) (fun S w cs => VaP S w x cs.toList)) (L := tri 27 29 31) (C := tri 28 30 32) (B := tri 7 8 9) (X := tri 3 4 5) (src := tri w.heap.size (w.heap.size + 1) (w.heap.size + 1 + 1)) (f := tri 15 29 29) (sz := tri 5 4 4) (dsc := tri ((Tryz.prog.underlying 26).getD .invalid) ((Tryz.prog.underlying 38).getD .invalid) ((Tryz.prog.underlying 38).getD .invalid)) ?_ ?_
    · exact {
        size := rfl
        early := by kernel_rfl
        load := fin3 ⟨_, rfl, rfl, rfl, rfl⟩ ⟨_, rfl, rfl, rfl, rfl⟩ ⟨_, rfl, rfl, rfl, rfl⟩
        call := fin3 ⟨_, _, rfl, rfl, rfl, rfl, ⟨0, .data⟩, by simp, rfl, rfl⟩ ⟨_, _, rfl, rfl, rfl, rfl, ⟨2, .data⟩, by simp, rfl, rfl⟩ ⟨_, _, rfl, rfl, rfl, rfl, ⟨4, .data⟩, by simp, rfl, rfl⟩
        alloc := fin3 ⟨_, rfl, rfl, rfl, rfl⟩ ⟨_, rfl, rfl, rfl, rfl⟩ ⟨_, rfl, rfl, rfl, rfl⟩
        store := fin3 ⟨_, rfl, rfl, rfl, rfl, ⟨⟨1, .data⟩, by simp, rfl, rfl⟩, ⟨6, .data⟩, by simp, rfl, rfl⟩ ⟨_, rfl, rfl, rfl, rfl, ⟨⟨3, .data⟩, by simp, rfl, rfl⟩, ⟨7, .data⟩, by simp, rfl, rfl⟩ ⟨_, rfl, rfl, rfl, rfl, ⟨⟨5, .data⟩, by simp, rfl, rfl⟩, ⟨8, .data⟩, by simp, rfl, rfl⟩
        lc := (fin3 (fin3 (by decide) (by decide) (by decide)) (fin3 (by decide) (by decide) (by decide)) (fin3 (by decide) (by decide) (by decide)))
        lb := (fin3 (fin3 (by decide) (by decide) (by decide)) (fin3 (by decide) (by decide) (by decide)) (fin3 (by decide) (by decide) (by decide)))
        cb := (fin3 (fin3 (by decide) (by decide) (by decide)) (fin3 (by decide) (by decide) (by decide)) (fin3 (by decide) (by decide) (by decide)))
        ll := (fin3 (fin3 (by decide) (by decide) (by decide)) (fin3 (by decide) (by decide) (by decide)) (fin3 (by decide) (by decide) (by decide)))
        cc := (fin3 (fin3 (by decide) (by decide) (by decide)) (fin3 (by decide) (by decide) (by decide)) (fin3 (by decide) (by decide) (by decide)))
        bb := (fin3 (fin3 (by decide) (by decide) (by decide)) (fin3 (by decide) (by decide) (by decide)) (fin3 (by decide) (by decide) (by decide)))
        xl := (fin3 (fin3 (by decide) (by decide) (by decide)) (fin3 (by decide) (by decide) (by decide)) (fin3 (by decide) (by decide) (by decide)))
        xc := (fin3 (fin3 (by decide) (by decide) (by decide)) (fin3 (by decide) (by decide) (by decide)) (fin3 (by decide) (by decide) (by decide)))
        xb := (fin3 (fin3 (by decide) (by decide) (by decide)) (fin3 (by decide) (by decide) (by decide)) (fin3 (by decide) (by decide) (by decide)))
        ls := fin3 (show 27 < 136 by decide) (show 29 < 136 by decide) (show 31 < 136 by decide)
        cs' := fin3 (show 28 < 136 by decide) (show 30 < 136 by decide) (show 32 < 136 by decide)
        bs := fin3 (show 7 < 136 by decide) (show 8 < 136 by decide) (show 9 < 136 by decide)
        xe := fin3 rfl rfl rfl
        sb := fin3 (T1.out.later d0) (V1.out.later d0) (X1.out.later d0)
        b0 := fin3 rfl rfl rfl
        un := fin3 (by kernel_rfl) (by kernel_rfl) (by kernel_rfl)
        row := fin3 (by kernel_rfl) (by kernel_rfl) (by kernel_rfl)
        inf := fin3 (by kernel_rfl) (by kernel_rfl) (by kernel_rfl)
        csz := fin3 rfl rfl rfl
        zsz := fin3 rfl rfl rfl
        al := fin3 al_ty al_va al_va
        en := fin3 (enters Tryz.func15 (by kernel_rfl) (by kernel_rfl)) (enters Tryz.func29 (by kernel_rfl) (by kernel_rfl)) (enters Tryz.func29 (by kernel_rfl) (by kernel_rfl))
        stay := fin3 (stays_ty t) (stays_va v) (stays_va x)
        rsz := fin3 (ty_rsz t) (va_rsz v) (va_rsz x)
        con := fin3 (fun u hu => (HCt.out u (below_then bd hu)).mono fun _ _ h => copyTy_p h) (fun u hu => (HCv.out u (below_then bd hu)).mono fun _ _ h => copyVa_p h) (fun u hu => (HCx.out u (below_then bd hu)).mono fun _ _ h => copyVa_p h) }
    · intro a w' hd hs ho hk hb
      obtain ⟨p7, d7, e7, k7, r7⟩ := hk 0
      obtain ⟨p8, d8, e8, k8, r8⟩ := hk 1
      obtain ⟨p9, d9, e9, k9, r9⟩ := hk 2
      have hR := copies_of k7 k8 k9 r7 r8 r9 (below_then d0 hb)
      have ha := act_of [27, 28, 29, 30, 31, 32, 7, 8, 9] hd hs (fun t ht => by
        simp only [List.mem_cons, List.not_mem_nil, or_false, not_or] at ht
        obtain ⟨h1, h2, h3, h4, h5, h6, h7, h8, h9⟩ := ht
        exact ho t (fin3 ⟨h1, h2, h7⟩ ⟨h3, h4, h8⟩ ⟨h5, h6, h9⟩))
      replace e7 : a.eval (.tmp 7) = .pointer (some ⟨p7, 0, none⟩) := e7
      replace e8 : a.eval (.tmp 8) = .pointer (some ⟨p8, 0, none⟩) := e8
      replace e9 : a.eval (.tmp 9) = .pointer (some ⟨p9, 0, none⟩) := e9
      simp only [List.foldl_cons, List.foldl_nil] at ha
      rw [e7, e8, e9] at ha
      generalize a.eval (.tmp 27) = z27 at ha
      generalize a.eval (.tmp 28) = z28 at ha
      generalize a.eval (.tmp 29) = z29 at ha
      generalize a.eval (.tmp 30) = z30 at ha
      generalize a.eval (.tmp 31) = z31 at ha
      generalize a.eval (.tmp 32) = z32 at ha
      clear hd hs ho hk hb e7 e8 e9 k7 k8 k9 r7 r8 r9
      subst ha
      simp only [Act.put, List.setIfInBounds_toArray, List.set_cons_zero, List.set_cons_succ]
      go_wp2
      go_meet
      exact hR
  case rest =>
    obtain ⟨p7, p8, p9, MA, MB, NA, NB, OA, OB, n3, c3, m3, d3, n4, c4, m4, d4, n5, c5, m5, d5, rfl, rfl, rfl, hM, hN, hO, cM, cN, cO, hb⟩ := hcut
    have B2 := Lib.hid (below_then B1.out hb)
    have T2 := Lib.hid (T1.out.later hb)
    have V2 := Lib.hid (V1.out.later hb)
    have X2 := Lib.hid (X1.out.later hb)
    have M2 := Lib.hid hM
    have CM2 := Lib.hid cM
    have N2 := Lib.hid hN
    have CN2 := Lib.hid cN
    have O2 := Lib.hid hO
    have CO2 := Lib.hid cO
    clear hb hM hN hO cM cN cO HCt HCv HCx
    clear B1 T1 V1 X1
    have HCM := CM2
    have HCN := CN2
    obtain ⟨tc_0, tc_1, tc_2, tc_3, tc_4⟩ := fives T2.out
    obtain ⟨vc_0, vc_1, vc_2, vc_3⟩ := four V2.out
    obtain ⟨mc_0, mc_1, mc_2, mc_3, mc_4⟩ := fives M2.out
    obtain ⟨nc_0, nc_1, nc_2, nc_3⟩ := four N2.out
    have HK0 := B2.out
    go_upto_region 4 with fail
    go_cut [39] (fun s39 wx => s39 = .bool false ∧ Below wc.heap.size wc wx)
    case first =>
      have HR0 := (Below.refl wc.heap.size wc).drew
      have hS0 := keep19 HR0 ⟨Below.refl wc.heap.size wc, tc_0, tc_1, tc_2, tc_3, tc_4, vc_0, vc_1, vc_2, vc_3, mc_0, mc_1, mc_2, mc_3, mc_4, nc_0, nc_1, nc_2, nc_3⟩
      go_region_held3 (fun w' => Below wc.heap.size wc w' ∧ w'.cell? ⟨w.heap.size, 0, none⟩ = some (.int .i64 k) ∧ w'.cell? ⟨w.heap.size, 1, none⟩ = some (.int .i64 l) ∧ w'.cell? ⟨w.heap.size, 2, none⟩ = some (.string nm) ∧ w'.cell? ⟨w.heap.size, 3, none⟩ = some (.slice TA tn tc) ∧ w'.cell? ⟨w.heap.size, 4, none⟩ = some (.slice TB tm td) ∧ w'.cell? ⟨(w.heap.size + 1), 0, none⟩ = some (.int .i64 k1) ∧ w'.cell? ⟨(w.heap.size + 1), 1, none⟩ = some (.int .i64 n1) ∧ w'.cell? ⟨(w.heap.size + 1), 2, none⟩ = some (.slice KA m1 c1) ∧ w'.cell? ⟨(w.heap.size + 1), 3, none⟩ = some (.slice KB p1 d1) ∧ w'.cell? ⟨p7, 0, none⟩ = some (.int .i64 t.kind) ∧ w'.cell? ⟨p7, 1, none⟩ = some (.int .i64 t.len) ∧ w'.cell? ⟨p7, 2, none⟩ = some (.string t.name) ∧ w'.cell? ⟨p7, 3, none⟩ = some (.slice MA n3 c3) ∧ w'.cell? ⟨p7, 4, none⟩ = some (.slice MB m3 d3) ∧ w'.cell? ⟨p8, 0, none⟩ = some (.int .i64 v.kind) ∧ w'.cell? ⟨p8, 1, none⟩ = some (.int .i64 v.n) ∧ w'.cell? ⟨p8, 2, none⟩ = some (.slice NA n4 c4) ∧ w'.cell? ⟨p8, 3, none⟩ = some (.slice NB m4 d4)) (with_reducible assumption) (first | (go_at_call 30; have hS9 : Below wc.heap.size wc _ ∧ _ := (by with_reducible assumption); with_reducible refine (HH.out _ _ _ (below_then HK0 hS9.1) (TyC.later hS9.1 _ _ HCM.out) (VaC.later hS9.1 _ _ HCN.out)).mono ?_; rintro e w9 ⟨rfl, hb9⟩; have hS8 := keep19 hb9 hS9) | (go_at_call 31; have hS9 : Below wc.heap.size wc _ ∧ _ := (by with_reducible assumption); with_reducible refine (HHr.out _ (below_then HK0 hS9.1)).mono ?_; rintro e w9 ⟨rfl, hb9⟩; have hS8 := keep19 hb9 hS9))
      all_goals (go_wp2; go_meet)
      all_goals exact ⟨rfl, And.left (b := _) (by with_reducible assumption)⟩
    case rest =>
      obtain ⟨rfl, hb⟩ := hcut
      have B3 := Lib.hid (below_then B2.out hb)
      have T3 := Lib.hid (T2.out.later hb)
      have V3 := Lib.hid (V2.out.later hb)
      have X3 := Lib.hid (X2.out.later hb)
      have M3 := Lib.hid (M2.out.later hb)
      have N3 := Lib.hid (N2.out.later hb)
      have O3 := Lib.hid (O2.out.later hb)
      have CM3 := Lib.hid (TyC.later hb _ _ CM2.out)
      have CN3 := Lib.hid (VaC.later hb _ _ CN2.out)
      have CO3 := Lib.hid (VaC.later hb _ _ CO2.out)
      clear hb HH HHr HCM HCN HK0
      clear tc_0 tc_1 tc_2 tc_3 tc_4 vc_0 vc_1 vc_2 vc_3 mc_0 mc_1 mc_2 mc_3 mc_4 nc_0 nc_1 nc_2 nc_3
      unfold BitsPostE at HB HBr
      unfold SplitPost at HP HPr
      obtain ⟨mc_0, mc_1, mc_2, mc_3, mc_4⟩ := fives M3.out
      obtain ⟨nc_0, nc_1, nc_2, nc_3⟩ := four N3.out
      obtain ⟨oc_0, oc_1, oc_2, oc_3⟩ := four O3.out
      go_wp2_with fail
      refine (HQ.out _ _ _ _ B3.out CM3.out CN3.out CO3.out).mono ?_
      rintro e w4 ⟨rfl, hb⟩
      have B4 := Lib.hid (below_then B3.out hb)
      have T4 := Lib.hid (T3.out.later hb)
      have V4 := Lib.hid (V3.out.later hb)
      have X4 := Lib.hid (X3.out.later hb)
      have M4 := Lib.hid (M3.out.later hb)
      have N4 := Lib.hid (N3.out.later hb)
      have O4 := Lib.hid (O3.out.later hb)
      have CM4 := Lib.hid (TyC.later hb _ _ CM3.out)
      have CN4 := Lib.hid (VaC.later hb _ _ CN3.out)
      have CO4 := Lib.hid (VaC.later hb _ _ CO3.out)
      clear hb
      clear mc_0 mc_1 mc_2 mc_3 mc_4 nc_0 nc_1 nc_2 nc_3 oc_0 oc_1 oc_2 oc_3
      obtain ⟨tc_0, tc_1, tc_2, tc_3, tc_4⟩ := fives T4.out
      obtain ⟨vc_0, vc_1, vc_2, vc_3⟩ := four V4.out
      obtain ⟨xc_0, xc_1, xc_2, xc_3⟩ := four X4.out
      go_wp2_with fail
      refine (HQr.out _ B4.out).mono ?_
      rintro e w5 ⟨rfl, hb⟩
      have B5 := Lib.hid (below_then B4.out hb)
      have T5 := Lib.hid (T4.out.later hb)
      have V5 := Lib.hid (V4.out.later hb)
      have X5 := Lib.hid (X4.out.later hb)
      have M5 := Lib.hid (M4.out.later hb)
      have N5 := Lib.hid (N4.out.later hb)
      have O5 := Lib.hid (O4.out.later hb)
      have CM5 := Lib.hid (TyC.later hb _ _ CM4.out)
      have CN5 := Lib.hid (VaC.later hb _ _ CN4.out)
      have CO5 := Lib.hid (VaC.later hb _ _ CO4.out)
      clear hb
      clear tc_0 tc_1 tc_2 tc_3 tc_4 vc_0 vc_1 vc_2 vc_3 xc_0 xc_1 xc_2 xc_3
      obtain ⟨mc_0, mc_1, mc_2, mc_3, mc_4⟩ := fives M5.out
      obtain ⟨nc_0, nc_1, nc_2, nc_3⟩ := four N5.out
      go_wp2_with fail
      refine (HT.out _ _ _ B5.out CM5.out CN5.out).mono ?_
      rintro e w6 ⟨rfl, hb⟩
      have B6 := Lib.hid (below_then B5.out hb)
      have T6 := Lib.hid (T5.out.later hb)
      have V6 := Lib.hid (V5.out.later hb)
      have X6 := Lib.hid (X5.out.later hb)
      have M6 := Lib.hid (M5.out.later hb)
      have N6 := Lib.hid (N5.out.later hb)
      have O6 := Lib.hid (O5.out.later hb)
      have CM6 := Lib.hid (TyC.later hb _ _ CM5.out)
      have CN6 := Lib.hid (VaC.later hb _ _ CN5.out)
      have CO6 := Lib.hid (VaC.later hb _ _ CO5.out)
      clear hb
      clear mc_0 mc_1 mc_2 mc_3 mc_4 nc_0 nc_1 nc_2 nc_3
      obtain ⟨tc_0, tc_1, tc_2, tc_3, tc_4⟩ := fives T6.out
      obtain ⟨vc_0, vc_1, vc_2, vc_3⟩ := four V6.out
      go_wp2_with fail
      refine (HTr.out _ B6.out).mono ?_
      rintro e w7 ⟨rfl, hb⟩
      have B7 := Lib.hid (below_then B6.out hb)
      have T7 := Lib.hid (T6.out.later hb)
      have V7 := Lib.hid (V6.out.later hb)
      have X7 := Lib.hid (X6.out.later hb)
      have M7 := Lib.hid (M6.out.later hb)
      have N7 := Lib.hid (N6.out.later hb)
      have O7 := Lib.hid (O6.out.later hb)
      have CM7 := Lib.hid (TyC.later hb _ _ CM6.out)
      have CN7 := Lib.hid (VaC.later hb _ _ CN6.out)
      have CO7 := Lib.hid (VaC.later hb _ _ CO6.out)
      clear hb
      clear tc_0 tc_1 tc_2 tc_3 tc_4 vc_0 vc_1 vc_2 vc_3
      obtain ⟨mc_0, mc_1, mc_2, mc_3, mc_4⟩ := fives M7.out
      obtain ⟨nc_0, nc_1, nc_2, nc_3⟩ := four N7.out
      go_wp2_with fail
      refine (HB.out _ _ _ B7.out CM7.out CN7.out).mono ?_
      rintro e w8 ⟨ub, rfl, hsb, hb⟩
      have B8 := Lib.hid (below_then B7.out hb)
      have T8 := Lib.hid (T7.out.later hb)
      have V8 := Lib.hid (V7.out.later hb)
      have X8 := Lib.hid (X7.out.later hb)
      have M8 := Lib.hid (M7.out.later hb)
      have N8 := Lib.hid (N7.out.later hb)
      have O8 := Lib.hid (O7.out.later hb)
      have CM8 := Lib.hid (TyC.later hb _ _ CM7.out)
      have CN8 := Lib.hid (VaC.later hb _ _ CN7.out)
      have CO8 := Lib.hid (VaC.later hb _ _ CO7.out)
      have SB8 := Lib.hid hsb
      clear hsb
      clear hb
      clear mc_0 mc_1 mc_2 mc_3 mc_4 nc_0 nc_1 nc_2 nc_3
      obtain ⟨tc_0, tc_1, tc_2, tc_3, tc_4⟩ := fives T8.out
      obtain ⟨vc_0, vc_1, vc_2, vc_3⟩ := four V8.out
      go_wp2_with fail
      refine (HBr.out _ B8.out).mono ?_
      rintro e w9 ⟨uc, rfl, hsc, hb⟩
      have B9 := Lib.hid (below_then B8.out hb)
      have T9 := Lib.hid (T8.out.later hb)
      have V9 := Lib.hid (V8.out.later hb)
      have X9 := Lib.hid (X8.out.later hb)
      have M9 := Lib.hid (M8.out.later hb)
      have N9 := Lib.hid (N8.out.later hb)
      have O9 := Lib.hid (O8.out.later hb)
      have CM9 := Lib.hid (TyC.later hb _ _ CM8.out)
      have CN9 := Lib.hid (VaC.later hb _ _ CN8.out)
      have CO9 := Lib.hid (VaC.later hb _ _ CO8.out)
      have SB9 := Lib.hid ((SB8.out).later hb)
      have SC9 := Lib.hid hsc
      clear hsc
      clear hb
      clear tc_0 tc_1 tc_2 tc_3 tc_4 vc_0 vc_1 vc_2 vc_3
      go_wp2_with fail
      refine (HS.out _ _ _ B9.out SB9.out SC9.out).mono ?_
      rintro e w10 ⟨rfl, hb⟩
      have B10 := Lib.hid (below_then B9.out hb)
      have T10 := Lib.hid (T9.out.later hb)
      have V10 := Lib.hid (V9.out.later hb)
      have X10 := Lib.hid (X9.out.later hb)
      have M10 := Lib.hid (M9.out.later hb)
      have N10 := Lib.hid (N9.out.later hb)
      have O10 := Lib.hid (O9.out.later hb)
      have CM10 := Lib.hid (TyC.later hb _ _ CM9.out)
      have CN10 := Lib.hid (VaC.later hb _ _ CN9.out)
      have CO10 := Lib.hid (VaC.later hb _ _ CO9.out)
      have SB10 := Lib.hid ((SB9.out).later hb)
      clear hb
      obtain ⟨mc_0, mc_1, mc_2, mc_3, mc_4⟩ := fives M10.out
      obtain ⟨nc_0, nc_1, nc_2, nc_3⟩ := four N10.out
      go_wp2_with fail
      refine (HP.out _ _ _ B10.out CM10.out CN10.out).mono ?_
      rintro e w11 ⟨ul, rfl, hsl, hb⟩
      have B11 := Lib.hid (below_then B10.out hb)
      have T11 := Lib.hid (T10.out.later hb)
      have V11 := Lib.hid (V10.out.later hb)
      have X11 := Lib.hid (X10.out.later hb)
      have M11 := Lib.hid (M10.out.later hb)
      have N11 := Lib.hid (N10.out.later hb)
      have O11 := Lib.hid (O10.out.later hb)
      have CM11 := Lib.hid (TyC.later hb _ _ CM10.out)
      have CN11 := Lib.hid (VaC.later hb _ _ CN10.out)
      have CO11 := Lib.hid (VaC.later hb _ _ CO10.out)
      have SL11 := Lib.hid ((hsl.vas (S' := fun _ => True) (fun _ _ _ => trivial) (fun _ _ _ => trivial)).c)
      clear hsl
      clear hb
      clear mc_0 mc_1 mc_2 mc_3 mc_4 nc_0 nc_1 nc_2 nc_3
      obtain ⟨tc_0, tc_1, tc_2, tc_3, tc_4⟩ := fives T11.out
      obtain ⟨vc_0, vc_1, vc_2, vc_3⟩ := four V11.out
      go_wp2_with fail
      refine (HPr.out _ B11.out).mono ?_
      rintro e w12 ⟨um, rfl, hsm, hb⟩
      have B12 := Lib.hid (below_then B11.out hb)
      have T12 := Lib.hid (T11.out.later hb)
      have V12 := Lib.hid (V11.out.later hb)
      have X12 := Lib.hid (X11.out.later hb)
      have M12 := Lib.hid (M11.out.later hb)
      have N12 := Lib.hid (N11.out.later hb)
      have O12 := Lib.hid (O11.out.later hb)
      have CM12 := Lib.hid (TyC.later hb _ _ CM11.out)
      have CN12 := Lib.hid (VaC.later hb _ _ CN11.out)
      have CO12 := Lib.hid (VaC.later hb _ _ CO11.out)
      have SL12 := Lib.hid ((SL11.out).later hb)
      have SM12 := Lib.hid ((hsm.vas (S' := fun _ => True) (fun _ _ _ => trivial) (fun _ _ _ => trivial)).c)
      clear hsm
      clear hb
      clear tc_0 tc_1 tc_2 tc_3 tc_4 vc_0 vc_1 vc_2 vc_3
      go_wp2_with fail
      refine (HA.out _ _ _ B12.out SL12.out SM12.out).mono ?_
      rintro e w13 ⟨rfl, hb⟩
      have B13 := Lib.hid (below_then B12.out hb)
      have T13 := Lib.hid (T12.out.later hb)
      have V13 := Lib.hid (V12.out.later hb)
      have X13 := Lib.hid (X12.out.later hb)
      have M13 := Lib.hid (M12.out.later hb)
      have N13 := Lib.hid (N12.out.later hb)
      have O13 := Lib.hid (O12.out.later hb)
      have CM13 := Lib.hid (TyC.later hb _ _ CM12.out)
      have CN13 := Lib.hid (VaC.later hb _ _ CN12.out)
      have CO13 := Lib.hid (VaC.later hb _ _ CO12.out)
      have SL13 := Lib.hid ((SL12.out).later hb)
      clear hb
      obtain ⟨vc_0, vc_1, vc_2, vc_3⟩ := four V13.out
      obtain ⟨nc_0, nc_1, nc_2, nc_3⟩ := four N13.out
      go_wp2_with fail
      refine (HL3.out _ _ B13.out CN13.out).mono ?_
      rintro e w14 ⟨rfl, hb⟩
      have B14 := Lib.hid (below_then B13.out hb)
      have T14 := Lib.hid (T13.out.later hb)
      have V14 := Lib.hid (V13.out.later hb)
      have X14 := Lib.hid (X13.out.later hb)
      have M14 := Lib.hid (M13.out.later hb)
      have N14 := Lib.hid (N13.out.later hb)
      have O14 := Lib.hid (O13.out.later hb)
      have CM14 := Lib.hid (TyC.later hb _ _ CM13.out)
      have CN14 := Lib.hid (VaC.later hb _ _ CN13.out)
      have CO14 := Lib.hid (VaC.later hb _ _ CO13.out)
      clear hb
      clear vc_0 vc_1 vc_2 vc_3 nc_0 nc_1 nc_2 nc_3
      obtain ⟨xc_0, xc_1, xc_2, xc_3⟩ := four X14.out
      obtain ⟨oc_0, oc_1, oc_2, oc_3⟩ := four O14.out
      go_wp2_with fail
      refine (HL4.out _ _ B14.out CO14.out).mono ?_
      rintro e w15 ⟨rfl, hb⟩
      have B15 := Lib.hid (below_then B14.out hb)
      have T15 := Lib.hid (T14.out.later hb)
      have V15 := Lib.hid (V14.out.later hb)
      have X15 := Lib.hid (X14.out.later hb)
      have M15 := Lib.hid (M14.out.later hb)
      have N15 := Lib.hid (N14.out.later hb)
      have O15 := Lib.hid (O14.out.later hb)
      have CM15 := Lib.hid (TyC.later hb _ _ CM14.out)
      have CN15 := Lib.hid (VaC.later hb _ _ CN14.out)
      have CO15 := Lib.hid (VaC.later hb _ _ CO14.out)
      clear hb
      clear xc_0 xc_1 xc_2 xc_3 oc_0 oc_1 oc_2 oc_3
      go_wp2_with fail
      refine (HAw.out _ B15.out).mono ?_
      rintro e w16 ⟨rfl, hb⟩
      have B16 := Lib.hid (below_then B15.out hb)
      have T16 := Lib.hid (T15.out.later hb)
      have V16 := Lib.hid (V15.out.later hb)
      have X16 := Lib.hid (X15.out.later hb)
      have M16 := Lib.hid (M15.out.later hb)
      have N16 := Lib.hid (N15.out.later hb)
      have O16 := Lib.hid (O15.out.later hb)
      have CM16 := Lib.hid (TyC.later hb _ _ CM15.out)
      have CN16 := Lib.hid (VaC.later hb _ _ CN15.out)
      have CO16 := Lib.hid (VaC.later hb _ _ CO15.out)
      clear hb
      go_wp2
      go_ret
      exact ⟨rfl, B16.out⟩
theorem same_bits (bs : List Nat) (u1 u2 : Value) (w : World) (h1 : Lg.Sl w u1 bs) (h2 : Lg.Sl w u2 bs) : Calls Tryz.prog 38 #[u1, u2] w fun e w' => e = .returned (.bool true) ∧ Below w.heap.size w w' := by
  have := Lg.same_any u1 u2 bs bs w h1 h2
  rwa [show Lg.eqL bs bs = true by unfold Lg.eqL; simp] at this
theorem alike_self (y : Va) (hy : smV y) (ca cb : List Value) (z : World) (h : VaC z y ca) (h' : VaC z y cb) : Calls Tryz.prog 24 #[.agg ca.toArray, .agg cb.toArray] z fun e w' => e = .returned (.bool true) ∧ Below z.heap.size z w' := by
  have := ralike_any y y ca cb z hy hy h h'
  rwa [alikeV_refl] at this
theorem splt_small (t : Ty) (v : Va) : (spltR t v).length ≤ 10000 ∧ ∀ x ∈ spltR t v, smV x := by
  unfold spltR
  cases h : hasT t v with
  | false => exact ⟨by simp, by simp⟩
  | true => exact ⟨by have := (split_small h).1; rw [if_pos rfl]; omega, (split_small h).2⟩
theorem lawValues_any (t : Ty) (v x : Va) (cs c1 c2 : List Value) (w : World) (hw : Std w) (h : TyC w t cs) (hv : VaC w v c1) (hx : VaC w x c2) :
    Calls Tryz.prog 4 #[.agg cs.toArray, .agg c1.toArray, .agg c2.toArray] w fun e w' => e = .returned (.bool true) ∧ Below w.heap.size w w' := by
  have h0 := h
  have hv0 := hv
  have hx0 := hx
  obtain ⟨A, n, c, B, m, d, rfl, _⟩ := tyC_open h
  obtain ⟨C, y, p, D, z, q, rfl, _⟩ := vaC_open hv
  obtain ⟨C2, y2, p2, D2, z2, q2, rfl, _⟩ := vaC_open hx
  have HAw : Hid (∀ z, Below w.heap.size w z → Calls Tryz.prog 14 #[] z fun e w' => e = .returned (.bool true) ∧ Below z.heap.size z w') := fun z hz => awake_true z (hw.later hz)
  have HSm : ∀ b, smallB t [v, x] = b → Hid (∀ u s, Below w.heap.size w u → VasC u s [v, x] → Calls Tryz.prog 13 #[.agg #[.int .i64 t.kind, .int .i64 t.len, .string t.name, .slice A n c, .slice B m d], s] u fun e w' => e = .returned (.bool b) ∧ Below u.heap.size u w') := fun b hb u s hu hs => by
    have := small_any t _ s [v, x] u (TyC.later hu _ _ h0) hs
    rwa [hb] at this
  cases hs : smallB t [v, x] with
  | false => exact values_small _ _ _ _ _ _ _ A B C D C2 D2 n c m d y p z q y2 p2 z2 q2 v x w hv0 hx0 HAw (HSm false hs)
  | true =>
    obtain ⟨ht, hsv, hsx⟩ := small_two hs
    exact values_all _ _ _ _ _ _ _ A B C D C2 D2 n c m d y p z q y2 p2 z2 q2 v x w t (hasT t v) (eqR t v x) (sb (textR t v)) (bitR t v) (spltR t v) (eqE t v x) (hasE t v) (bitE t v) (hasE t v) hv0 hx0 HAw (HSm true hs)
      (fun u hu => copyType_any t _ u ht (TyC.later hu _ _ h0))
      (fun u hu => rcopy_any v _ u hsv (VaC.later hu _ _ hv0))
      (fun u hu => rcopy_any x _ u hsx (VaC.later hu _ _ hx0))
      (fun u ct cv hu h1 h2 => phas_any t v ct cv u ht h1 h2)
      (fun u hu => rhas_any t v _ _ u ht.nm (TyC.later hu _ _ h0) (VaC.later hu _ _ hv0))
      (fun u ct cv cx hu h1 h2 h3 => pEqual_any t v x ct cv cx u ht h1 h2 h3)
      (fun u hu => rEqual_any t v x _ _ _ u ht hsv hsx (TyC.later hu _ _ h0) (VaC.later hu _ _ hv0) (VaC.later hu _ _ hx0))
      (fun u ct cv hu h1 h2 => ptext_any t v ct cv u ht (hw.later hu) h1 h2)
      (fun u hu => rtext_any t v _ _ u ht (TyC.later hu _ _ h0) (VaC.later hu _ _ hv0))
      (fun u ct cv hu h1 h2 => pbits_any t v ct cv u ht hsv h1 h2)
      (fun u hu => rbits_any t v _ _ u ht (TyC.later hu _ _ h0) (VaC.later hu _ _ hv0))
      (fun u ct cv hu h1 h2 => psplit_any t v ct cv u ht hsv h1 h2)
      (fun u hu => rsplit_any t v _ _ u ht hsv (TyC.later hu _ _ h0) (VaC.later hu _ _ hv0))
      (fun u ub uc _ h1 h2 => same_bits _ ub uc u h1 h2)
      (fun u ul um _ h1 h2 => rall_same _ (splt_small t v).1 (splt_small t v).2 ul um u h1 h2)
      (fun u cb hu h1 => alike_self v hsv _ cb u (VaC.later hu _ _ hv0) h1)
      (fun u cb hu h1 => alike_self x hsx _ cb u (VaC.later hu _ _ hx0) h1)
end Go.Proofs.YtdiagnhdigakpaaGreatDoor
