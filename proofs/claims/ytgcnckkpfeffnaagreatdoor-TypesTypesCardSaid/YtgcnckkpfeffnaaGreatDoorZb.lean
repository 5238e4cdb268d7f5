/- The law TypesTypes: the walk. -/
import Derived.Test.YtgcnckkpfeffnaaGreatDoorUx
import Derived.Test.YtgcnckkpfeffnaaGreatDoorUe
import Derived.Test.YtgcnckkpfeffnaaGreatDoorYb
import Derived.Deep.RegionHeld3
namespace Go.Proofs.YtgcnckkpfeffnaaGreatDoor
open Go.RowKit

/-- Two things. -/
def duo {α : Type} (a b : α) : Fin 2 → α
  | 0 => a
  | 1 => b
theorem fin2 {p : Fin 2 → Prop} (h0 : p 0) (h1 : p 1) : ∀ k, p k
  | 0 => h0
  | 1 => h1
/-- What stands behind the region: two boxes with copies of types. -/
def CopiesT (w : World) (t u : Ty) (s5 s6 : Value) (wx : World) : Prop :=
  ∃ (p5 p6 : Nat) (A1 B1 A2 B2 : Option Addr) (n1 c1 m1 d1 n2 c2 m2 d2 : Nat), s5 = .pointer (some ⟨p5, 0, none⟩) ∧ s6 = .pointer (some ⟨p6, 0, none⟩) ∧
    Blk wx p5 26 #[.int .i64 t.kind, .int .i64 t.len, .string t.name, .slice A1 n1 c1, .slice B1 m1 d1] ∧ Blk wx p6 26 #[.int .i64 u.kind, .int .i64 u.len, .string u.name, .slice A2 n2 c2, .slice B2 m2 d2] ∧
    TyC wx t [.int .i64 t.kind, .int .i64 t.len, .string t.name, .slice A1 n1 c1, .slice B1 m1 d1] ∧ TyC wx u [.int .i64 u.kind, .int .i64 u.len, .string u.name, .slice A2 n2 c2, .slice B2 m2 d2] ∧ Below w.heap.size w wx
theorem copiesT_of {w wx : World} {t u : Ty} {p5 p6 : Nat} {d5 d6 : Array Value} {S1 S2 : Nat → Prop} (k5 : Blk wx p5 26 d5) (k6 : Blk wx p6 26 d6)
    (r5 : TyP S1 wx t d5.toList) (r6 : TyP S2 wx u d6.toList) (hb : Below w.heap.size w wx) : CopiesT w t u (.pointer (some ⟨p5, 0, none⟩)) (.pointer (some ⟨p6, 0, none⟩)) wx := by
  obtain ⟨A1, n1, c1, B1, m1, d1, rfl, h1⟩ := ty_box r5
  obtain ⟨A2, n2, c2, B2, m2, d2, rfl, h2⟩ := ty_box r6
  exact ⟨_, _, _, _, _, _, _, _, _, _, _, _, _, _, rfl, rfl, k5, k6, h1, h2, hb⟩
theorem keep21 {w0 w1 w2 : World} {a0 a1 a2 a3 a4 a5 a6 a7 a8 a9 a10 a11 a12 a13 a14 a15 a16 a17 a18 a19 : Addr} {x0 x1 x2 x3 x4 x5 x6 x7 x8 x9 x10 x11 x12 x13 x14 x15 x16 x17 x18 x19 : Value} (hb : Below w1.heap.size w1 w2) (h : Below w0.heap.size w0 w1 ∧ w1.cell? a0 = some x0 ∧ w1.cell? a1 = some x1 ∧ w1.cell? a2 = some x2 ∧ w1.cell? a3 = some x3 ∧ w1.cell? a4 = some x4 ∧ w1.cell? a5 = some x5 ∧ w1.cell? a6 = some x6 ∧ w1.cell? a7 = some x7 ∧ w1.cell? a8 = some x8 ∧ w1.cell? a9 = some x9 ∧ w1.cell? a10 = some x10 ∧ w1.cell? a11 = some x11 ∧ w1.cell? a12 = some x12 ∧ w1.cell? a13 = some x13 ∧ w1.cell? a14 = some x14 ∧ w1.cell? a15 = some x15 ∧ w1.cell? a16 = some x16 ∧ w1.cell? a17 = some x17 ∧ w1.cell? a18 = some x18 ∧ w1.cell? a19 = some x19) : Below w0.heap.size w0 w2 ∧ w2.cell? a0 = some x0 ∧ w2.cell? a1 = some x1 ∧ w2.cell? a2 = some x2 ∧ w2.cell? a3 = some x3 ∧ w2.cell? a4 = some x4 ∧ w2.cell? a5 = some x5 ∧ w2.cell? a6 = some x6 ∧ w2.cell? a7 = some x7 ∧ w2.cell? a8 = some x8 ∧ w2.cell? a9 = some x9 ∧ w2.cell? a10 = some x10 ∧ w2.cell? a11 = some x11 ∧ w2.cell? a12 = some x12 ∧ w2.cell? a13 = some x13 ∧ w2.cell? a14 = some x14 ∧ w2.cell? a15 = some x15 ∧ w2.cell? a16 = some x16 ∧ w2.cell? a17 = some x17 ∧ w2.cell? a18 = some x18 ∧ w2.cell? a19 = some x19 := by
  obtain ⟨h0, g0, g1, g2, g3, g4, g5, g6, g7, g8, g9, g10, g11, g12, g13, g14, g15, g16, g17, g18, g19⟩ := h
  exact ⟨below_then h0 hb, cell_stays hb g0, cell_stays hb g1, cell_stays hb g2, cell_stays hb g3, cell_stays hb g4, cell_stays hb g5, cell_stays hb g6, cell_stays hb g7, cell_stays hb g8, cell_stays hb g9, cell_stays hb g10, cell_stays hb g11, cell_stays hb g12, cell_stays hb g13, cell_stays hb g14, cell_stays hb g15, cell_stays hb g16, cell_stays hb g17, cell_stays hb g18, cell_stays hb g19⟩
set_option maxRecDepth 100000 in
set_option maxHeartbeats 16000000 in
theorem types_small1 (k l k2 l2 : Int) (nm nm2 : ByteArray) (TA TB UA UB : Option Addr) (tn tc tm td un uc um ud : Nat) (w : World)
    (HAw : Hid (∀ z, Below w.heap.size w z → Calls Tryz.prog 14 #[] z (fun e w' => e = .returned (.bool true) ∧ Below z.heap.size z w')))
    (HS1 : Hid (∀ z, Below w.heap.size w z → Calls Tryz.prog 13 #[.agg #[.int .i64 k, .int .i64 l, .string nm, .slice TA tn tc, .slice TB tm td], .slice none 0 0] z (fun e w' => e = .returned (.bool false) ∧ Below z.heap.size z w'))) :
    Calls Tryz.prog 3 #[.agg #[.int .i64 k, .int .i64 l, .string nm, .slice TA tn tc, .slice TB tm td], .agg #[.int .i64 k2, .int .i64 l2, .string nm2, .slice UA un uc, .slice UB um ud]] w fun e w' => e = .returned (.bool true) ∧ Below w.heap.size w w' := by
  have HB := Lib.hid (boxes2 w 26 26 #[.int .i64 k, .int .i64 l, .string nm, .slice TA tn tc, .slice TB tm td] #[.int .i64 k2, .int .i64 l2, .string nm2, .slice UA un uc, .slice UB um ud])
  have B0 := Lib.hid HB.out.2.2.1
  have T0 := Lib.hid HB.out.1
  have U0 := Lib.hid HB.out.2.1
  clear HB
  go_enter Tryz.func3, Tryz.ntmps3
  obtain ⟨tc_0, tc_1, tc_2, tc_3, tc_4⟩ := fives T0.out
  go_wp2_with fail
  refine (HS1.out _ B0.out).mono ?_
  rintro e w1 ⟨rfl, hb⟩
  have B1 := Lib.hid (below_then B0.out hb)
  have T1 := Lib.hid (T0.out.later hb)
  have U1 := Lib.hid (U0.out.later hb)
  clear hb
  clear tc_0 tc_1 tc_2 tc_3 tc_4
  go_wp2_with fail
  refine (HAw.out _ B1.out).mono ?_
  rintro e w2 ⟨rfl, hb⟩
  have B2 := Lib.hid (below_then B1.out hb)
  have T2 := Lib.hid (T1.out.later hb)
  have U2 := Lib.hid (U1.out.later hb)
  clear hb
  go_wp2
  go_ret
  exact ⟨rfl, B2.out⟩
set_option maxRecDepth 100000 in
set_option maxHeartbeats 16000000 in
theorem types_small2 (k l k2 l2 : Int) (nm nm2 : ByteArray) (TA TB UA UB : Option Addr) (tn tc tm td un uc um ud : Nat) (w : World)
    (HAw : Hid (∀ z, Below w.heap.size w z → Calls Tryz.prog 14 #[] z (fun e w' => e = .returned (.bool true) ∧ Below z.heap.size z w')))
    (HS1 : Hid (∀ z, Below w.heap.size w z → Calls Tryz.prog 13 #[.agg #[.int .i64 k, .int .i64 l, .string nm, .slice TA tn tc, .slice TB tm td], .slice none 0 0] z (fun e w' => e = .returned (.bool true) ∧ Below z.heap.size z w')))
    (HS2 : Hid (∀ z, Below w.heap.size w z → Calls Tryz.prog 13 #[.agg #[.int .i64 k2, .int .i64 l2, .string nm2, .slice UA un uc, .slice UB um ud], .slice none 0 0] z (fun e w' => e = .returned (.bool false) ∧ Below z.heap.size z w'))) :
    Calls Tryz.prog 3 #[.agg #[.int .i64 k, .int .i64 l, .string nm, .slice TA tn tc, .slice TB tm td], .agg #[.int .i64 k2, .int .i64 l2, .string nm2, .slice UA un uc, .slice UB um ud]] w fun e w' => e = .returned (.bool true) ∧ Below w.heap.size w w' := by
  have HB := Lib.hid (boxes2 w 26 26 #[.int .i64 k, .int .i64 l, .string nm, .slice TA tn tc, .slice TB tm td] #[.int .i64 k2, .int .i64 l2, .string nm2, .slice UA un uc, .slice UB um ud])
  have B0 := Lib.hid HB.out.2.2.1
  have T0 := Lib.hid HB.out.1
  have U0 := Lib.hid HB.out.2.1
  clear HB
  go_enter Tryz.func3, Tryz.ntmps3
  obtain ⟨tc_0, tc_1, tc_2, tc_3, tc_4⟩ := fives T0.out
  go_wp2_with fail
  refine (HS1.out _ B0.out).mono ?_
  rintro e w1 ⟨rfl, hb⟩
  have B1 := Lib.hid (below_then B0.out hb)
  have T1 := Lib.hid (T0.out.later hb)
  have U1 := Lib.hid (U0.out.later hb)
  clear hb
  clear tc_0 tc_1 tc_2 tc_3 tc_4
  obtain ⟨uc_0, uc_1, uc_2, uc_3, uc_4⟩ := fives U1.out
  go_wp2_with fail
  refine (HS2.out _ B1.out).mono ?_
  rintro e w2 ⟨rfl, hb⟩
  have B2 := Lib.hid (below_then B1.out hb)
  have T2 := Lib.hid (T1.out.later hb)
  have U2 := Lib.hid (U1.out.later hb)
  clear hb
  clear uc_0 uc_1 uc_2 uc_3 uc_4
  go_wp2_with fail
  refine (HAw.out _ B2.out).mono ?_
  rintro e w3 ⟨rfl, hb⟩
  have B3 := Lib.hid (below_then B2.out hb)
  have T3 := Lib.hid (T2.out.later hb)
  have U3 := Lib.hid (U2.out.later hb)
  clear hb
  go_wp2
  go_ret
  exact ⟨rfl, B3.out⟩
set_option maxRecDepth 100000 in
set_option maxHeartbeats 16000000 in
theorem types_all (k l k2 l2 : Int) (nm nm2 : ByteArray) (TA TB UA UB : Option Addr) (tn tc tm td un uc um ud : Nat) (w : World) (t u : Ty) (bv bs bg : Bool) (x : ByteArray) (y : Va) (E1 E2 E3 E4 N3 N4 : Nat)
    (HAw : Hid (∀ z, Below w.heap.size w z → Calls Tryz.prog 14 #[] z (fun e w' => e = .returned (.bool true) ∧ Below z.heap.size z w')))
    (HS1 : Hid (∀ z, Below w.heap.size w z → Calls Tryz.prog 13 #[.agg #[.int .i64 k, .int .i64 l, .string nm, .slice TA tn tc, .slice TB tm td], .slice none 0 0] z (fun e w' => e = .returned (.bool true) ∧ Below z.heap.size z w')))
    (HS2 : Hid (∀ z, Below w.heap.size w z → Calls Tryz.prog 13 #[.agg #[.int .i64 k2, .int .i64 l2, .string nm2, .slice UA un uc, .slice UB um ud], .slice none 0 0] z (fun e w' => e = .returned (.bool true) ∧ Below z.heap.size z w')))
    (HCt : Hid (∀ z, Below w.heap.size w z → Calls Tryz.prog 15 #[.agg #[.int .i64 k, .int .i64 l, .string nm, .slice TA tn tc, .slice TB tm td]] z (CopyTyOf z t)))
    (HCu : Hid (∀ z, Below w.heap.size w z → Calls Tryz.prog 15 #[.agg #[.int .i64 k2, .int .i64 l2, .string nm2, .slice UA un uc, .slice UB um ud]] z (CopyTyOf z u)))
    (HV : Hid (∀ z ct, Below w.heap.size w z → TyC z t ct → Calls Tryz.prog 16 #[.agg ct.toArray] z (fun e w' => e = .returned (.bool bv) ∧ Below z.heap.size z w')))
    (HVr : Hid (∀ z, Below w.heap.size w z → Calls Tryz.prog 17 #[.agg #[.int .i64 k, .int .i64 l, .string nm, .slice TA tn tc, .slice TB tm td]] z (fun e w' => e = .returned (.bool bv) ∧ Below z.heap.size z w')))
    (HE : Hid (∀ z ct cu, Below w.heap.size w z → TyC z t ct → TyC z u cu → Calls Tryz.prog 18 #[.agg ct.toArray, .agg cu.toArray] z (fun e w' => e = .returned (.bool bs) ∧ Below z.heap.size z w')))
    (HEr : Hid (∀ z, Below w.heap.size w z → Calls Tryz.prog 19 #[.agg #[.int .i64 k, .int .i64 l, .string nm, .slice TA tn tc, .slice TB tm td], .agg #[.int .i64 k2, .int .i64 l2, .string nm2, .slice UA un uc, .slice UB um ud]] z (fun e w' => e = .returned (.bool bs) ∧ Below z.heap.size z w')))
    (HG : Hid (∀ z ct cu, Below w.heap.size w z → TyC z t ct → TyC z u cu → Calls Tryz.prog 18 #[.agg cu.toArray, .agg ct.toArray] z (fun e w' => e = .returned (.bool bg) ∧ Below z.heap.size z w')))
    (HGr : Hid (∀ z, Below w.heap.size w z → Calls Tryz.prog 19 #[.agg #[.int .i64 k2, .int .i64 l2, .string nm2, .slice UA un uc, .slice UB um ud], .agg #[.int .i64 k, .int .i64 l, .string nm, .slice TA tn tc, .slice TB tm td]] z (fun e w' => e = .returned (.bool bg) ∧ Below z.heap.size z w')))
    (HN : Hid (∀ z ct, Below w.heap.size w z → TyC z t ct → Calls Tryz.prog 20 #[.agg ct.toArray] z (PairPost (.string x) E1 z)))
    (HNr : Hid (∀ z, Below w.heap.size w z → Calls Tryz.prog 21 #[.agg #[.int .i64 k, .int .i64 l, .string nm, .slice TA tn tc, .slice TB tm td]] z (PairPost (.string x) E1 z)))
    (HF : Hid (∀ z ct, Below w.heap.size w z → TyC z t ct → Calls Tryz.prog 22 #[.agg ct.toArray] z (FirstPost y E2 z)))
    (HFr : Hid (∀ z, Below w.heap.size w z → Calls Tryz.prog 23 #[.agg #[.int .i64 k, .int .i64 l, .string nm, .slice TA tn tc, .slice TB tm td]] z (FirstPost y E2 z)))
    (HL : Hid (∀ z ca cb, Below w.heap.size w z → VaC z y ca → VaC z y cb → Calls Tryz.prog 24 #[.agg ca.toArray, .agg cb.toArray] z (fun e w' => e = .returned (.bool true) ∧ Below z.heap.size z w')))
    (HW : Hid (∀ z ct, Below w.heap.size w z → TyC z t ct → Calls Tryz.prog 25 #[.agg ct.toArray] z (PairPost (.int .i64 (N3 : Nat)) E3 z)))
    (HWr : Hid (∀ z, Below w.heap.size w z → Calls Tryz.prog 26 #[.agg #[.int .i64 k, .int .i64 l, .string nm, .slice TA tn tc, .slice TB tm td]] z (PairPost (.int .i64 (N3 : Nat)) E3 z)))
    (HP : Hid (∀ z ct, Below w.heap.size w z → TyC z t ct → Calls Tryz.prog 27 #[.agg ct.toArray] z (PairPost (.int .i64 (N4 : Nat)) E4 z)))
    (HPr : Hid (∀ z, Below w.heap.size w z → Calls Tryz.prog 28 #[.agg #[.int .i64 k, .int .i64 l, .string nm, .slice TA tn tc, .slice TB tm td]] z (PairPost (.int .i64 (N4 : Nat)) E4 z))) :
    Calls Tryz.prog 3 #[.agg #[.int .i64 k, .int .i64 l, .string nm, .slice TA tn tc, .slice TB tm td], .agg #[.int .i64 k2, .int .i64 l2, .string nm2, .slice UA un uc, .slice UB um ud]] w fun e w' => e = .returned (.bool true) ∧ Below w.heap.size w w' := by
  have HB := Lib.hid (boxes2 w 26 26 #[.int .i64 k, .int .i64 l, .string nm, .slice TA tn tc, .slice TB tm td] #[.int .i64 k2, .int .i64 l2, .string nm2, .slice UA un uc, .slice UB um ud])
  have B0 := Lib.hid HB.out.2.2.1
  have T0 := Lib.hid HB.out.1
  have U0 := Lib.hid HB.out.2.1
  clear HB
  go_enter Tryz.func3, Tryz.ntmps3
  obtain ⟨tc_0, tc_1, tc_2, tc_3, tc_4⟩ := fives T0.out
  go_wp2_with fail
  refine (HS1.out _ B0.out).mono ?_
  rintro e w1 ⟨rfl, hb⟩
  have B1 := Lib.hid (below_then B0.out hb)
  have T1 := Lib.hid (T0.out.later hb)
  have U1 := Lib.hid (U0.out.later hb)
  clear hb
  clear tc_0 tc_1 tc_2 tc_3 tc_4
  obtain ⟨uc_0, uc_1, uc_2, uc_3, uc_4⟩ := fives U1.out
  go_wp2_with fail
  refine (HS2.out _ B1.out).mono ?_
  rintro e w2 ⟨rfl, hb⟩
  have B2 := Lib.hid (below_then B1.out hb)
  have T2 := Lib.hid (T1.out.later hb)
  have U2 := Lib.hid (U1.out.later hb)
  clear hb
  clear uc_0 uc_1 uc_2 uc_3 uc_4
  go_upto_region 3 with fail
  go_cut [5, 6] (fun s5 s6 wx => CopiesT w2 t u s5 s6 wx)
  case first =>
    have d0 : Below w2.heap.size w2 w2.drew := (Below.refl _ _).drew
    have bd := below_then B2.out d0
    refine wp_region_any (by kernel_rfl) ?_
    change wpAny _ _ _ _ _ _ _ (World.drew _)
    refine boxes_region (n := 2) (T := duo 26 26) (z := duo #[.int .i64 0, .int .i64 0, .string ⟨#[]⟩, .slice none 0 0, .slice none 0 0] #[.int .i64 0, .int .i64 0, .string ⟨#[]⟩, .slice none 0 0, .slice none 0 0]) (cs := duo #[.int .i64 k, .int .i64 l, .string nm, .slice TA tn tc, .slice TB tm td] #[.int .i64 k2, .int .i64 l2, .string nm2, .slice UA un uc, .slice UB um ud]) (R := duo (fun S w cs => TyP S w t cs.toList) (fun S w cs => TyP S w u cs.toList)) (L := duo 28 30) (C := duo 29 31) (B := duo 5 6) (X := duo 2 3) (src := duo w.heap.size (w.heap.size + 1)) (f := duo 15 15) (sz := duo 5 5) (dsc := duo ((Tryz.prog.underlying 26).getD .invalid) ((Tryz.prog.underlying 26).getD .invalid)) ?_ ?_
    · exact {
        size := rfl
        early := by kernel_rfl
        load := fin2 ⟨_, rfl, rfl, rfl, rfl⟩ ⟨_, rfl, rfl, rfl, rfl⟩
        call := fin2 ⟨_, _, rfl, rfl, rfl, rfl, ⟨0, .data⟩, by simp, rfl, rfl⟩ ⟨_, _, rfl, rfl, rfl, rfl, ⟨2, .data⟩, by simp, rfl, rfl⟩
        alloc := fin2 ⟨_, rfl, rfl, rfl, rfl⟩ ⟨_, rfl, rfl, rfl, rfl⟩
        store := fin2 ⟨_, rfl, rfl, rfl, rfl, ⟨⟨1, .data⟩, by simp, rfl, rfl⟩, ⟨4, .data⟩, by simp, rfl, rfl⟩ ⟨_, rfl, rfl, rfl, rfl, ⟨⟨3, .data⟩, by simp, rfl, rfl⟩, ⟨5, .data⟩, by simp, rfl, rfl⟩
        lc := (fin2 (fin2 (by decide) (by decide)) (fin2 (by decide) (by decide)))
        lb := (fin2 (fin2 (by decide) (by decide)) (fin2 (by decide) (by decide)))
        cb := (fin2 (fin2 (by decide) (by decide)) (fin2 (by decide) (by decide)))
        ll := (fin2 (fin2 (by decide) (by decide)) (fin2 (by decide) (by decide)))
        cc := (fin2 (fin2 (by decide) (by decide)) (fin2 (by decide) (by decide)))
        bb := (fin2 (fin2 (by decide) (by decide)) (fin2 (by decide) (by decide)))
        xl := (fin2 (fin2 (by decide) (by decide)) (fin2 (by decide) (by decide)))
        xc := (fin2 (fin2 (by decide) (by decide)) (fin2 (by decide) (by decide)))
        xb := (fin2 (fin2 (by decide) (by decide)) (fin2 (by decide) (by decide)))
        ls := fin2 (show 28 < 133 by decide) (show 30 < 133 by decide)
        cs' := fin2 (show 29 < 133 by decide) (show 31 < 133 by decide)
        bs := fin2 (show 5 < 133 by decide) (show 6 < 133 by decide)
        xe := fin2 rfl rfl
        sb := fin2 (T2.out.later d0) (U2.out.later d0)
        b0 := fin2 rfl rfl
        un := fin2 (by kernel_rfl) (by kernel_rfl)
        row := fin2 (by kernel_rfl) (by kernel_rfl)
        inf := fin2 (by kernel_rfl) (by kernel_rfl)
        csz := fin2 rfl rfl
        zsz := fin2 rfl rfl
        al := fin2 al_ty al_ty
        en := fin2 (enters Tryz.func15 (by kernel_rfl) (by kernel_rfl)) (enters Tryz.func15 (by kernel_rfl) (by kernel_rfl))
        stay := fin2 (stays_ty t) (stays_ty u)
        rsz := fin2 (ty_rsz t) (ty_rsz u)
        con := fin2 (fun x hx => (HCt.out x (below_then bd hx)).mono fun _ _ h => copyTy_p h) (fun x hx => (HCu.out x (below_then bd hx)).mono fun _ _ h => copyTy_p h) }
    · intro a w' hd hs ho hk hb
      obtain ⟨p5, d5, e5, k5, r5⟩ := hk 0
      obtain ⟨p6, d6, e6, k6, r6⟩ := hk 1
      have hR := copiesT_of k5 k6 r5 r6 (below_then d0 hb)
      have ha := act_of [28, 29, 30, 31, 5, 6] hd hs (fun t ht => by
        simp only [List.mem_cons, List.not_mem_nil, or_false, not_or] at ht
        obtain ⟨h1, h2, h3, h4, h5, h6⟩ := ht
        exact ho t (fin2 ⟨h1, h2, h5⟩ ⟨h3, h4, h6⟩))
      replace e5 : a.eval (.tmp 5) = .pointer (some ⟨p5, 0, none⟩) := e5
      replace e6 : a.eval (.tmp 6) = .pointer (some ⟨p6, 0, none⟩) := e6
      simp only [List.foldl_cons, List.foldl_nil] at ha
      rw [e5, e6] at ha
      generalize a.eval (.tmp 28) = z28 at ha
      generalize a.eval (.tmp 29) = z29 at ha
      generalize a.eval (.tmp 30) = z30 at ha
      generalize a.eval (.tmp 31) = z31 at ha
      clear hd hs ho hk hb e5 e6 k5 k6 r5 r6
      subst ha
      simp only [Act.put, List.setIfInBounds_toArray, List.set_cons_zero, List.set_cons_succ]
      go_wp2
      go_meet
      exact hR
  case rest =>
    obtain ⟨p5, p6, MA, MB, NA, NB, n3, c3, m3, d3, n4, c4, m4, d4, rfl, rfl, hM, hN, cM, cN, hb⟩ := hcut
    have B3 := Lib.hid (below_then B2.out hb)
    have T3 := Lib.hid (T2.out.later hb)
    have U3 := Lib.hid (U2.out.later hb)
    have M3 := Lib.hid hM
    have CM3 := Lib.hid cM
    have N3 := Lib.hid hN
    have CN3 := Lib.hid cN
    clear hb hM hN cM cN HCt HCu
    clear B2 T2 U2
    have HCM := CM3
    have HCN := CN3
    obtain ⟨tc_0, tc_1, tc_2, tc_3, tc_4⟩ := fives T3.out
    obtain ⟨uc_0, uc_1, uc_2, uc_3, uc_4⟩ := fives U3.out
    obtain ⟨mc_0, mc_1, mc_2, mc_3, mc_4⟩ := fives M3.out
    obtain ⟨nc_0, nc_1, nc_2, nc_3, nc_4⟩ := fives N3.out
    have HK0 := B3.out
    go_upto_region 4 with fail
    go_cut [54] (fun s54 wx => s54 = .bool false ∧ Below wc.heap.size wc wx)
    case first =>
      have HR0 := (Below.refl wc.heap.size wc).drew
      have hS0 := keep21 HR0 ⟨Below.refl wc.heap.size wc, tc_0, tc_1, tc_2, tc_3, tc_4, uc_0, uc_1, uc_2, uc_3, uc_4, mc_0, mc_1, mc_2, mc_3, mc_4, nc_0, nc_1, nc_2, nc_3, nc_4⟩
      go_region_held3 (fun w' => Below wc.heap.size wc w' ∧ w'.cell? ⟨w.heap.size, 0, none⟩ = some (.int .i64 k) ∧ w'.cell? ⟨w.heap.size, 1, none⟩ = some (.int .i64 l) ∧ w'.cell? ⟨w.heap.size, 2, none⟩ = some (.string nm) ∧ w'.cell? ⟨w.heap.size, 3, none⟩ = some (.slice TA tn tc) ∧ w'.cell? ⟨w.heap.size, 4, none⟩ = some (.slice TB tm td) ∧ w'.cell? ⟨(w.heap.size + 1), 0, none⟩ = some (.int .i64 k2) ∧ w'.cell? ⟨(w.heap.size + 1), 1, none⟩ = some (.int .i64 l2) ∧ w'.cell? ⟨(w.heap.size + 1), 2, none⟩ = some (.string nm2) ∧ w'.cell? ⟨(w.heap.size + 1), 3, none⟩ = some (.slice UA un uc) ∧ w'.cell? ⟨(w.heap.size + 1), 4, none⟩ = some (.slice UB um ud) ∧ w'.cell? ⟨p5, 0, none⟩ = some (.int .i64 t.kind) ∧ w'.cell? ⟨p5, 1, none⟩ = some (.int .i64 t.len) ∧ w'.cell? ⟨p5, 2, none⟩ = some (.string t.name) ∧ w'.cell? ⟨p5, 3, none⟩ = some (.slice MA n3 c3) ∧ w'.cell? ⟨p5, 4, none⟩ = some (.slice MB m3 d3) ∧ w'.cell? ⟨p6, 0, none⟩ = some (.int .i64 u.kind) ∧ w'.cell? ⟨p6, 1, none⟩ = some (.int .i64 u.len) ∧ w'.cell? ⟨p6, 2, none⟩ = some (.string u.name) ∧ w'.cell? ⟨p6, 3, none⟩ = some (.slice NA n4 c4) ∧ w'.cell? ⟨p6, 4, none⟩ = some (.slice NB m4 d4)) (with_reducible assumption) (first | (go_at_call 16; have hS9 : Below wc.heap.size wc _ ∧ _ := (by with_reducible assumption); with_reducible refine (HV.out _ _ (below_then HK0 hS9.1) (TyC.later hS9.1 _ _ HCM.out)).mono ?_; rintro e w9 ⟨rfl, hb9⟩; have hS8 := keep21 hb9 hS9) | (go_at_call 17; have hS9 : Below wc.heap.size wc _ ∧ _ := (by with_reducible assumption); with_reducible refine (HVr.out _ (below_then HK0 hS9.1)).mono ?_; rintro e w9 ⟨rfl, hb9⟩; have hS8 := keep21 hb9 hS9) | (go_at_call 18; have hS9 : Below wc.heap.size wc _ ∧ _ := (by with_reducible assumption); with_reducible refine (HE.out _ _ _ (below_then HK0 hS9.1) (TyC.later hS9.1 _ _ HCM.out) (TyC.later hS9.1 _ _ HCN.out)).mono ?_; rintro e w9 ⟨rfl, hb9⟩; have hS8 := keep21 hb9 hS9) | (go_at_call 18; have hS9 : Below wc.heap.size wc _ ∧ _ := (by with_reducible assumption); with_reducible refine (HG.out _ _ _ (below_then HK0 hS9.1) (TyC.later hS9.1 _ _ HCM.out) (TyC.later hS9.1 _ _ HCN.out)).mono ?_; rintro e w9 ⟨rfl, hb9⟩; have hS8 := keep21 hb9 hS9) | (go_at_call 19; have hS9 : Below wc.heap.size wc _ ∧ _ := (by with_reducible assumption); with_reducible refine (HEr.out _ (below_then HK0 hS9.1)).mono ?_; rintro e w9 ⟨rfl, hb9⟩; have hS8 := keep21 hb9 hS9) | (go_at_call 19; have hS9 : Below wc.heap.size wc _ ∧ _ := (by with_reducible assumption); with_reducible refine (HGr.out _ (below_then HK0 hS9.1)).mono ?_; rintro e w9 ⟨rfl, hb9⟩; have hS8 := keep21 hb9 hS9))
      all_goals (go_wp2; go_meet)
      all_goals exact ⟨rfl, And.left (b := _) (by with_reducible assumption)⟩
    case rest =>
      obtain ⟨rfl, hb⟩ := hcut
      have B4 := Lib.hid (below_then B3.out hb)
      have T4 := Lib.hid (T3.out.later hb)
      have U4 := Lib.hid (U3.out.later hb)
      have M4 := Lib.hid (M3.out.later hb)
      have N4 := Lib.hid (N3.out.later hb)
      have CM4 := Lib.hid (TyC.later hb _ _ CM3.out)
      have CN4 := Lib.hid (TyC.later hb _ _ CN3.out)
      clear hb HV HVr HE HEr HG HGr HCM HCN HK0
      clear tc_0 tc_1 tc_2 tc_3 tc_4 uc_0 uc_1 uc_2 uc_3 uc_4 mc_0 mc_1 mc_2 mc_3 mc_4 nc_0 nc_1 nc_2 nc_3 nc_4
      unfold PairPost at HN HNr HW HWr HP HPr
      unfold FirstPost at HF HFr
      obtain ⟨mc_0, mc_1, mc_2, mc_3, mc_4⟩ := fives M4.out
      go_wp2_with fail
      refine (HN.out _ _ B4.out CM4.out).mono ?_
      rintro e w5 ⟨rfl, hb⟩
      have B5 := Lib.hid (below_then B4.out hb)
      have T5 := Lib.hid (T4.out.later hb)
      have U5 := Lib.hid (U4.out.later hb)
      have M5 := Lib.hid (M4.out.later hb)
      have N5 := Lib.hid (N4.out.later hb)
      have CM5 := Lib.hid (TyC.later hb _ _ CM4.out)
      have CN5 := Lib.hid (TyC.later hb _ _ CN4.out)
      clear hb
      clear mc_0 mc_1 mc_2 mc_3 mc_4
      obtain ⟨tc_0, tc_1, tc_2, tc_3, tc_4⟩ := fives T5.out
      go_wp2_with fail
      refine (HNr.out _ B5.out).mono ?_
      rintro e w6 ⟨rfl, hb⟩
      have B6 := Lib.hid (below_then B5.out hb)
      have T6 := Lib.hid (T5.out.later hb)
      have U6 := Lib.hid (U5.out.later hb)
      have M6 := Lib.hid (M5.out.later hb)
      have N6 := Lib.hid (N5.out.later hb)
      have CM6 := Lib.hid (TyC.later hb _ _ CM5.out)
      have CN6 := Lib.hid (TyC.later hb _ _ CN5.out)
      clear hb
      clear tc_0 tc_1 tc_2 tc_3 tc_4
      obtain ⟨mc_0, mc_1, mc_2, mc_3, mc_4⟩ := fives M6.out
      go_wp2_with fail
      refine (HF.out _ _ B6.out CM6.out).mono ?_
      rintro e w7 ⟨AP, nP, cP, BP, mP, dP, rfl, hvc, hb⟩
      have Z7 := Lib.hid (below_alloc w7 (.cells #[.int .i64 y.kind, .int .i64 y.n, .slice AP nP cP, .slice BP mP dP] 38))
      have Y7 := Lib.hid (below_then hb Z7.out)
      have B7 := Lib.hid (below_then B6.out Y7.out)
      have T7 := Lib.hid (T6.out.later Y7.out)
      have U7 := Lib.hid (U6.out.later Y7.out)
      have M7 := Lib.hid (M6.out.later Y7.out)
      have N7 := Lib.hid (N6.out.later Y7.out)
      have CM7 := Lib.hid (TyC.later Y7.out _ _ CM6.out)
      have CN7 := Lib.hid (TyC.later Y7.out _ _ CN6.out)
      have CP7 := Lib.hid (VaC.later Z7.out _ _ hvc)
      have P7 : Hid (Blk (w7.alloc (.cells #[.int .i64 y.kind, .int .i64 y.n, .slice AP nP cP, .slice BP mP dP] 38)) w7.heap.size 38 #[.int .i64 y.kind, .int .i64 y.n, .slice AP nP cP, .slice BP mP dP]) := Blk.new _ _ _
      clear hb hvc
      clear mc_0 mc_1 mc_2 mc_3 mc_4
      obtain ⟨tc_0, tc_1, tc_2, tc_3, tc_4⟩ := fives T7.out
      go_wp2_with fail
      refine (HFr.out _ B7.out).mono ?_
      rintro e w8 ⟨AQ, nQ, cQ, BQ, mQ, dQ, rfl, hvc, hb⟩
      have Z8 := Lib.hid (below_alloc w8 (.cells #[.int .i64 y.kind, .int .i64 y.n, .slice AQ nQ cQ, .slice BQ mQ dQ] 38))
      have Y8 := Lib.hid (below_then hb Z8.out)
      have B8 := Lib.hid (below_then B7.out Y8.out)
      have T8 := Lib.hid (T7.out.later Y8.out)
      have U8 := Lib.hid (U7.out.later Y8.out)
      have M8 := Lib.hid (M7.out.later Y8.out)
      have N8 := Lib.hid (N7.out.later Y8.out)
      have P8 := Lib.hid (P7.out.later Y8.out)
      have CM8 := Lib.hid (TyC.later Y8.out _ _ CM7.out)
      have CN8 := Lib.hid (TyC.later Y8.out _ _ CN7.out)
      have CP8 := Lib.hid (VaC.later Y8.out _ _ CP7.out)
      have CQ8 := Lib.hid (VaC.later Z8.out _ _ hvc)
      have Q8 : Hid (Blk (w8.alloc (.cells #[.int .i64 y.kind, .int .i64 y.n, .slice AQ nQ cQ, .slice BQ mQ dQ] 38)) w8.heap.size 38 #[.int .i64 y.kind, .int .i64 y.n, .slice AQ nQ cQ, .slice BQ mQ dQ]) := Blk.new _ _ _
      clear hb hvc
      clear tc_0 tc_1 tc_2 tc_3 tc_4
      obtain ⟨pc_0, pc_1, pc_2, pc_3⟩ := four P8.out
      obtain ⟨qc_0, qc_1, qc_2, qc_3⟩ := four Q8.out
      go_wp2_with fail
      refine (HL.out _ _ _ B8.out CP8.out CQ8.out).mono ?_
      rintro e w9 ⟨rfl, hb⟩
      have B9 := Lib.hid (below_then B8.out hb)
      have T9 := Lib.hid (T8.out.later hb)
      have U9 := Lib.hid (U8.out.later hb)
      have M9 := Lib.hid (M8.out.later hb)
      have N9 := Lib.hid (N8.out.later hb)
      have P9 := Lib.hid (P8.out.later hb)
      have Q9 := Lib.hid (Q8.out.later hb)
      have CM9 := Lib.hid (TyC.later hb _ _ CM8.out)
      have CN9 := Lib.hid (TyC.later hb _ _ CN8.out)
      have CP9 := Lib.hid (VaC.later hb _ _ CP8.out)
      have CQ9 := Lib.hid (VaC.later hb _ _ CQ8.out)
      clear hb
      clear pc_0 pc_1 pc_2 pc_3 qc_0 qc_1 qc_2 qc_3
      obtain ⟨mc_0, mc_1, mc_2, mc_3, mc_4⟩ := fives M9.out
      go_wp2_with fail
      refine (HW.out _ _ B9.out CM9.out).mono ?_
      rintro e w10 ⟨rfl, hb⟩
      have B10 := Lib.hid (below_then B9.out hb)
      have T10 := Lib.hid (T9.out.later hb)
      have U10 := Lib.hid (U9.out.later hb)
      have M10 := Lib.hid (M9.out.later hb)
      have N10 := Lib.hid (N9.out.later hb)
      have P10 := Lib.hid (P9.out.later hb)
      have Q10 := Lib.hid (Q9.out.later hb)
      have CM10 := Lib.hid (TyC.later hb _ _ CM9.out)
      have CN10 := Lib.hid (TyC.later hb _ _ CN9.out)
      have CP10 := Lib.hid (VaC.later hb _ _ CP9.out)
      have CQ10 := Lib.hid (VaC.later hb _ _ CQ9.out)
      clear hb
      clear mc_0 mc_1 mc_2 mc_3 mc_4
      obtain ⟨tc_0, tc_1, tc_2, tc_3, tc_4⟩ := fives T10.out
      go_wp2_with fail
      refine (HWr.out _ B10.out).mono ?_
      rintro e w11 ⟨rfl, hb⟩
      have B11 := Lib.hid (below_then B10.out hb)
      have T11 := Lib.hid (T10.out.later hb)
      have U11 := Lib.hid (U10.out.later hb)
      have M11 := Lib.hid (M10.out.later hb)
      have N11 := Lib.hid (N10.out.later hb)
      have P11 := Lib.hid (P10.out.later hb)
      have Q11 := Lib.hid (Q10.out.later hb)
      have CM11 := Lib.hid (TyC.later hb _ _ CM10.out)
      have CN11 := Lib.hid (TyC.later hb _ _ CN10.out)
      have CP11 := Lib.hid (VaC.later hb _ _ CP10.out)
      have CQ11 := Lib.hid (VaC.later hb _ _ CQ10.out)
      clear hb
      clear tc_0 tc_1 tc_2 tc_3 tc_4
      obtain ⟨mc_0, mc_1, mc_2, mc_3, mc_4⟩ := fives M11.out
      go_wp2_with fail
      refine (HP.out _ _ B11.out CM11.out).mono ?_
      rintro e w12 ⟨rfl, hb⟩
      have B12 := Lib.hid (below_then B11.out hb)
      have T12 := Lib.hid (T11.out.later hb)
      have U12 := Lib.hid (U11.out.later hb)
      have M12 := Lib.hid (M11.out.later hb)
      have N12 := Lib.hid (N11.out.later hb)
      have P12 := Lib.hid (P11.out.later hb)
      have Q12 := Lib.hid (Q11.out.later hb)
      have CM12 := Lib.hid (TyC.later hb _ _ CM11.out)
      have CN12 := Lib.hid (TyC.later hb _ _ CN11.out)
      have CP12 := Lib.hid (VaC.later hb _ _ CP11.out)
      have CQ12 := Lib.hid (VaC.later hb _ _ CQ11.out)
      clear hb
      clear mc_0 mc_1 mc_2 mc_3 mc_4
      obtain ⟨tc_0, tc_1, tc_2, tc_3, tc_4⟩ := fives T12.out
      go_wp2_with fail
      refine (HPr.out _ B12.out).mono ?_
      rintro e w13 ⟨rfl, hb⟩
      have B13 := Lib.hid (below_then B12.out hb)
      have T13 := Lib.hid (T12.out.later hb)
      have U13 := Lib.hid (U12.out.later hb)
      have M13 := Lib.hid (M12.out.later hb)
      have N13 := Lib.hid (N12.out.later hb)
      have P13 := Lib.hid (P12.out.later hb)
      have Q13 := Lib.hid (Q12.out.later hb)
      have CM13 := Lib.hid (TyC.later hb _ _ CM12.out)
      have CN13 := Lib.hid (TyC.later hb _ _ CN12.out)
      have CP13 := Lib.hid (VaC.later hb _ _ CP12.out)
      have CQ13 := Lib.hid (VaC.later hb _ _ CQ12.out)
      clear hb
      clear tc_0 tc_1 tc_2 tc_3 tc_4
      go_wp2_with fail
      refine (HAw.out _ B13.out).mono ?_
      rintro e w14 ⟨rfl, hb⟩
      have B14 := Lib.hid (below_then B13.out hb)
      have T14 := Lib.hid (T13.out.later hb)
      have U14 := Lib.hid (U13.out.later hb)
      have M14 := Lib.hid (M13.out.later hb)
      have N14 := Lib.hid (N13.out.later hb)
      have P14 := Lib.hid (P13.out.later hb)
      have Q14 := Lib.hid (Q13.out.later hb)
      have CM14 := Lib.hid (TyC.later hb _ _ CM13.out)
      have CN14 := Lib.hid (TyC.later hb _ _ CN13.out)
      have CP14 := Lib.hid (VaC.later hb _ _ CP13.out)
      have CQ14 := Lib.hid (VaC.later hb _ _ CQ13.out)
      clear hb
      go_wp2
      go_ret
      exact ⟨rfl, B14.out⟩
end Go.Proofs.YtgcnckkpfeffnaaGreatDoor
