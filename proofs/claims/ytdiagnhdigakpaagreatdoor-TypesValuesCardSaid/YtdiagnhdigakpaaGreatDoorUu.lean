/- The contract of the reference's With. -/
import Derived.Test.YtdiagnhdigakpaaGreatDoorUt
namespace Go.Proofs.YtdiagnhdigakpaaGreatDoor
open Go.RowKit

set_option maxRecDepth 100000 in
set_option maxHeartbeats 8000000 in
theorem rwith_err (y : Va) (E : Nat) (hE : E = 2 ∨ E = 16 ∨ E = 19) (k l i k1 n1 k2 n2 : Int) (nm : ByteArray) (t3 t4 v5 v6 x5 x6 : Value) (w : World)
    (HP : Hid (∀ z, Below w.heap.size w z → Calls Tryz.prog 45 #[.agg #[.int .i64 k, .int .i64 l, .string nm, t3, t4], .agg #[.int .i64 k1, .int .i64 n1, v5, v6], .int .i64 i] z (FirstPost y E z))) :
    Calls Tryz.prog 47 #[.agg #[.int .i64 k, .int .i64 l, .string nm, t3, t4], .agg #[.int .i64 k1, .int .i64 n1, v5, v6], .int .i64 i, .agg #[.int .i64 k2, .int .i64 n2, x5, x6]] w (FirstPostP zeroV E w) := by
  have H4 := Lib.hid (boxes4 w 26 38 38 38 #[.int .i64 k, .int .i64 l, .string nm, t3, t4] #[.int .i64 k1, .int .i64 n1, v5, v6] #[.int .i64 k2, .int .i64 n2, x5, x6] #[.int .i64 0, .int .i64 0, .slice none 0 0, .slice none 0 0])
  have B0 := Lib.hid H4.out.2.2.2.2.1
  have T0 := Lib.hid H4.out.1
  have V0 := Lib.hid H4.out.2.1
  have X0 := Lib.hid H4.out.2.2.1
  have R0 := Lib.hid H4.out.2.2.2.1
  have hs : w.heap.size ≤ w.heap.size + 1 + 1 + 1 := by omega
  clear H4
  unfold FirstPost at HP
  rcases hE with rfl | rfl | rfl
  all_goals
    go_enter Tryz.func47, Tryz.ntmps47
    go_wp2_with fail
    refine (HP.out _ B0.out).mono ?_
    rintro e w1 ⟨A, n, c, B, m, d, rfl, -, hb⟩
    have Y1 := Lib.hid (below_then hb (below_alloc w1 (.cells #[.int .i64 y.kind, .int .i64 y.n, .slice A n c, .slice B m d] 38)))
    have B1 := Lib.hid (below_then B0.out Y1.out)
    have T1 := Lib.hid (T0.out.later Y1.out)
    have V1 := Lib.hid (V0.out.later Y1.out)
    have X1 := Lib.hid (X0.out.later Y1.out)
    have R1 := Lib.hid (R0.out.later Y1.out)
    clear hb
    obtain ⟨rc_0, rc_1, rc_2, rc_3⟩ := four R1.out
    have rf_0 := R1.out.free 0
    have rf_1 := R1.out.free 1
    have rf_2 := R1.out.free 2
    have rf_3 := R1.out.free 3
    go_wp2
    refine bodyPost_ret (by simp [results, Tryz.results47, go_sem, rc_0, rc_1, rc_2, rc_3]; try rfl) rfl ?_
    exact ⟨none, 0, 0, none, 0, 0, rfl, zero_p _ _, set4_below B1.out hs _ _ _ _⟩
set_option maxRecDepth 100000 in
set_option maxHeartbeats 8000000 in
theorem rwith_misfit4 (y : Va) (l i k1 n1 k2 n2 : Int) (nm : ByteArray) (t3 v5 v6 x5 x6 : Value) (t4 : Value) (w : World)
    (HP : Hid (∀ z, Below w.heap.size w z → Calls Tryz.prog 45 #[.agg #[.int .i64 4, .int .i64 l, .string nm, t3, t4], .agg #[.int .i64 k1, .int .i64 n1, v5, v6], .int .i64 i] z (FirstPost y 0 z)))
    (HF : Hid (∀ z cs, Below w.heap.size w z → TyC z bitT cs → Calls Tryz.prog 31 #[.agg cs.toArray, .agg #[.int .i64 k2, .int .i64 n2, x5, x6]] z fun e w' => e = .returned (.bool false) ∧ Below z.heap.size z w')) :
    Calls Tryz.prog 47 #[.agg #[.int .i64 4, .int .i64 l, .string nm, t3, t4], .agg #[.int .i64 k1, .int .i64 n1, v5, v6], .int .i64 i, .agg #[.int .i64 k2, .int .i64 n2, x5, x6]] w (FirstPostP zeroV 2 w) := by
  have H4 := Lib.hid (boxes4 w 26 38 38 38 #[.int .i64 4, .int .i64 l, .string nm, t3, t4] #[.int .i64 k1, .int .i64 n1, v5, v6] #[.int .i64 k2, .int .i64 n2, x5, x6] #[.int .i64 0, .int .i64 0, .slice none 0 0, .slice none 0 0])
  have B0 := Lib.hid H4.out.2.2.2.2.1
  have T0 := Lib.hid H4.out.1
  have V0 := Lib.hid H4.out.2.1
  have X0 := Lib.hid H4.out.2.2.1
  have R0 := Lib.hid H4.out.2.2.2.1
  have hs : w.heap.size ≤ w.heap.size + 1 + 1 + 1 := by omega
  clear H4
  unfold FirstPost at HP
  go_enter Tryz.func47, Tryz.ntmps47
  go_wp2_with fail
  refine (HP.out _ B0.out).mono ?_
  rintro e w1 ⟨A, n, c, B, m, d, rfl, -, hb⟩
  have Y1 := Lib.hid (below_then (below_then hb (below_alloc w1 (.cells #[.int .i64 y.kind, .int .i64 y.n, .slice A n c, .slice B m d] 38))) (below_alloc (w1.alloc (.cells #[.int .i64 y.kind, .int .i64 y.n, .slice A n c, .slice B m d] 38)) (.cells #[.int .i64 1, .int .i64 0, .string ⟨#[]⟩, .slice none 0 0, .slice none 0 0] 26)))
  have O1 : Hid (Blk ((w1.alloc (.cells #[.int .i64 y.kind, .int .i64 y.n, .slice A n c, .slice B m d] 38)).alloc (.cells #[.int .i64 1, .int .i64 0, .string ⟨#[]⟩, .slice none 0 0, .slice none 0 0] 26)) (w1.heap.size + 1) 26 #[.int .i64 1, .int .i64 0, .string ⟨#[]⟩, .slice none 0 0, .slice none 0 0]) := blk_new _ _ _ _ (World.size_alloc _ _)
  have TO := Lib.hid (bitT_c ((w1.alloc (.cells #[.int .i64 y.kind, .int .i64 y.n, .slice A n c, .slice B m d] 38)).alloc (.cells #[.int .i64 1, .int .i64 0, .string ⟨#[]⟩, .slice none 0 0, .slice none 0 0] 26)))
  have B1 := Lib.hid (below_then B0.out Y1.out)
  have T1 := Lib.hid (T0.out.later Y1.out)
  have V1 := Lib.hid (V0.out.later Y1.out)
  have X1 := Lib.hid (X0.out.later Y1.out)
  have R1 := Lib.hid (R0.out.later Y1.out)
  clear hb
  obtain ⟨tc_0, tc_1, tc_2, tc_3, tc_4⟩ := fives T1.out
  obtain ⟨xc_0, xc_1, xc_2, xc_3⟩ := four X1.out
  obtain ⟨oc_0, oc_1, oc_2, oc_3, oc_4⟩ := fives O1.out
  go_wp2_with fail
  refine (HF.out _ _ B1.out TO.out).mono ?_
  rintro e w2 ⟨rfl, hb⟩
  have B2 := Lib.hid (below_then B1.out hb)
  have T2 := Lib.hid (T1.out.later hb)
  have V2 := Lib.hid (V1.out.later hb)
  have X2 := Lib.hid (X1.out.later hb)
  have R2 := Lib.hid (R1.out.later hb)
  have O2 := Lib.hid (O1.out.later hb)
  clear hb
  clear tc_0 tc_1 tc_2 tc_3 tc_4 xc_0 xc_1 xc_2 xc_3 oc_0 oc_1 oc_2 oc_3 oc_4
  obtain ⟨rc_0, rc_1, rc_2, rc_3⟩ := four R2.out
  have rf_0 := R2.out.free 0
  have rf_1 := R2.out.free 1
  have rf_2 := R2.out.free 2
  have rf_3 := R2.out.free 3
  go_wp2
  refine bodyPost_ret (by simp [results, Tryz.results47, go_sem, rc_0, rc_1, rc_2, rc_3]; try rfl) rfl ?_
  exact ⟨none, 0, 0, none, 0, 0, rfl, zero_p _ _, set4_below B2.out hs _ _ _ _⟩
set_option maxRecDepth 100000 in
set_option maxHeartbeats 8000000 in
theorem rwith_misfit6 (y : Va) (l i k1 n1 k2 n2 : Int) (nm : ByteArray) (t3 v5 v6 x5 x6 : Value) (b off dd0 : Nat) (et : Ty) (k3 l3 : Int) (nm3 : ByteArray) (A5 A6 : Option Addr) (n5 c5 n6 c6 : Nat) (w : World)
    (HP : Hid (∀ z, Below w.heap.size w z → Calls Tryz.prog 45 #[.agg #[.int .i64 6, .int .i64 l, .string nm, t3, .slice (some ⟨b, off, none⟩) 1 dd0], .agg #[.int .i64 k1, .int .i64 n1, v5, v6], .int .i64 i] z (FirstPost y 0 z)))
    (h5 : Hid (Ty5 w b off k3 l3 nm3 (.slice A5 n5 c5) (.slice A6 n6 c6))) (hte : Hid (TyC w et [.int .i64 k3, .int .i64 l3, .string nm3, .slice A5 n5 c5, .slice A6 n6 c6]))
    (HF : Hid (∀ z cs, Below w.heap.size w z → TyC z et cs → Calls Tryz.prog 31 #[.agg cs.toArray, .agg #[.int .i64 k2, .int .i64 n2, x5, x6]] z fun e w' => e = .returned (.bool false) ∧ Below z.heap.size z w')) :
    Calls Tryz.prog 47 #[.agg #[.int .i64 6, .int .i64 l, .string nm, t3, .slice (some ⟨b, off, none⟩) 1 dd0], .agg #[.int .i64 k1, .int .i64 n1, v5, v6], .int .i64 i, .agg #[.int .i64 k2, .int .i64 n2, x5, x6]] w (FirstPostP zeroV 2 w) := by
  have H4 := Lib.hid (boxes4 w 26 38 38 38 #[.int .i64 6, .int .i64 l, .string nm, t3, .slice (some ⟨b, off, none⟩) 1 dd0] #[.int .i64 k1, .int .i64 n1, v5, v6] #[.int .i64 k2, .int .i64 n2, x5, x6] #[.int .i64 0, .int .i64 0, .slice none 0 0, .slice none 0 0])
  have B0 := Lib.hid H4.out.2.2.2.2.1
  have T0 := Lib.hid H4.out.1
  have V0 := Lib.hid H4.out.2.1
  have X0 := Lib.hid H4.out.2.2.1
  have R0 := Lib.hid H4.out.2.2.2.1
  have hs : w.heap.size ≤ w.heap.size + 1 + 1 + 1 := by omega
  clear H4
  unfold FirstPost at HP
  go_enter Tryz.func47, Tryz.ntmps47
  go_wp2_with fail
  refine (HP.out _ B0.out).mono ?_
  rintro e w1 ⟨A, n, c, B, m, d, rfl, -, hb⟩
  have YB1 := Lib.hid (below_then (below_then hb (below_alloc w1 (.cells #[.int .i64 y.kind, .int .i64 y.n, .slice A n c, .slice B m d] 38))) (below_alloc (w1.alloc (.cells #[.int .i64 y.kind, .int .i64 y.n, .slice A n c, .slice B m d] 38)) (.cells #[.int .i64 1, .int .i64 0, .string ⟨#[]⟩, .slice none 0 0, .slice none 0 0] 26)))
  have TB1 := Lib.hid (T0.out.later YB1.out)
  have E1 := Lib.hid (h5.out.later (below_then B0.out YB1.out))
  have Y1 := Lib.hid (below_then (below_then hb (below_alloc w1 (.cells #[.int .i64 y.kind, .int .i64 y.n, .slice A n c, .slice B m d] 38))) (below_alloc (w1.alloc (.cells #[.int .i64 y.kind, .int .i64 y.n, .slice A n c, .slice B m d] 38)) (.cells #[.int .i64 k3, .int .i64 l3, .string nm3, .slice A5 n5 c5, .slice A6 n6 c6] 26)))
  have O1 : Hid (Blk ((w1.alloc (.cells #[.int .i64 y.kind, .int .i64 y.n, .slice A n c, .slice B m d] 38)).alloc (.cells #[.int .i64 k3, .int .i64 l3, .string nm3, .slice A5 n5 c5, .slice A6 n6 c6] 26)) (w1.heap.size + 1) 26 #[.int .i64 k3, .int .i64 l3, .string nm3, .slice A5 n5 c5, .slice A6 n6 c6]) := blk_new _ _ _ _ (World.size_alloc _ _)
  have B1 := Lib.hid (below_then B0.out Y1.out)
  have TO := Lib.hid (TyC.later B1.out _ _ hte.out)
  have T1 := Lib.hid (T0.out.later Y1.out)
  have V1 := Lib.hid (V0.out.later Y1.out)
  have X1 := Lib.hid (X0.out.later Y1.out)
  have R1 := Lib.hid (R0.out.later Y1.out)
  clear hb
  obtain ⟨tb_0, tb_1, tb_2, tb_3, tb_4⟩ := fives TB1.out
  obtain ⟨ec_0, ec_1, ec_2, ec_3, ec_4⟩ := E1.out
  obtain ⟨xc_0, xc_1, xc_2, xc_3⟩ := four X1.out
  obtain ⟨oc_0, oc_1, oc_2, oc_3, oc_4⟩ := fives O1.out
  go_wp2_with fail
  refine (HF.out _ _ B1.out TO.out).mono ?_
  rintro e w2 ⟨rfl, hb⟩
  have B2 := Lib.hid (below_then B1.out hb)
  have T2 := Lib.hid (T1.out.later hb)
  have V2 := Lib.hid (V1.out.later hb)
  have X2 := Lib.hid (X1.out.later hb)
  have R2 := Lib.hid (R1.out.later hb)
  have O2 := Lib.hid (O1.out.later hb)
  clear hb
  clear tb_0 tb_1 tb_2 tb_3 tb_4 ec_0 ec_1 ec_2 ec_3 ec_4 xc_0 xc_1 xc_2 xc_3 oc_0 oc_1 oc_2 oc_3 oc_4
  obtain ⟨rc_0, rc_1, rc_2, rc_3⟩ := four R2.out
  have rf_0 := R2.out.free 0
  have rf_1 := R2.out.free 1
  have rf_2 := R2.out.free 2
  have rf_3 := R2.out.free 3
  go_wp2
  refine bodyPost_ret (by simp [results, Tryz.results47, go_sem, rc_0, rc_1, rc_2, rc_3]; try rfl) rfl ?_
  exact ⟨none, 0, 0, none, 0, 0, rfl, zero_p _ _, set4_below B2.out hs _ _ _ _⟩
set_option maxRecDepth 100000 in
set_option maxHeartbeats 8000000 in
theorem rwith_vec (y : Va) (l k1 n1 k2 n2 : Int) (bs : List Nat) (j z xb xo xd : Nat) (hj : j < bs.length) (hl : bs.length ≤ 10000) (hz3 : z ≤ 3) (nm : ByteArray) (t3 t4 v5 v6 x6 : Value) (w : World) (hz : Hid (w.cell? ⟨xb, xo, none⟩ = some (.int .u8 (z : Nat))))
    (HP : Hid (∀ z, Below w.heap.size w z → Calls Tryz.prog 45 #[.agg #[.int .i64 4, .int .i64 l, .string nm, t3, t4], .agg #[.int .i64 k1, .int .i64 n1, v5, v6], .int .i64 (j : Nat)] z (FirstPost y 0 z)))
    (HF : Hid (∀ z cs, Below w.heap.size w z → TyC z bitT cs → Calls Tryz.prog 31 #[.agg cs.toArray, .agg #[.int .i64 k2, .int .i64 n2, .slice (some ⟨xb, xo, none⟩) 1 xd, x6]] z fun e w' => e = .returned (.bool true) ∧ Below z.heap.size z w'))
    (HC : Hid (∀ z, Below w.heap.size w z → Calls Tryz.prog 29 #[.agg #[.int .i64 k1, .int .i64 n1, v5, v6]] z (CopyOf z (.mk k1 n1 bs [])))) :
    Calls Tryz.prog 47 #[.agg #[.int .i64 4, .int .i64 l, .string nm, t3, t4], .agg #[.int .i64 k1, .int .i64 n1, v5, v6], .int .i64 (j : Nat), .agg #[.int .i64 k2, .int .i64 n2, .slice (some ⟨xb, xo, none⟩) 1 xd, x6]] w (FirstPostP (.mk k1 n1 (bs.set j z) []) 0 w) := by
  have H4 := Lib.hid (boxes4 w 26 38 38 38 #[.int .i64 4, .int .i64 l, .string nm, t3, t4] #[.int .i64 k1, .int .i64 n1, v5, v6] #[.int .i64 k2, .int .i64 n2, .slice (some ⟨xb, xo, none⟩) 1 xd, x6] #[.int .i64 0, .int .i64 0, .slice none 0 0, .slice none 0 0])
  have B0 := Lib.hid H4.out.2.2.2.2.1
  have T0 := Lib.hid H4.out.1
  have V0 := Lib.hid H4.out.2.1
  have X0 := Lib.hid H4.out.2.2.1
  have R0 := Lib.hid H4.out.2.2.2.1
  have hs : w.heap.size ≤ w.heap.size + 1 + 1 + 1 := by omega
  clear H4
  unfold FirstPost at HP
  have hji : (j : Int) < (bs.length : Int) := by omega
  have hj0 : (0 : Int) ≤ (j : Int) := by omega
  go_enter Tryz.func47, Tryz.ntmps47
  go_wp2_with fail
  refine (HP.out _ B0.out).mono ?_
  rintro e w1 ⟨A, n, c, B, m, d, rfl, -, hb⟩
  have Y1 := Lib.hid (below_then (below_then hb (below_alloc w1 (.cells #[.int .i64 y.kind, .int .i64 y.n, .slice A n c, .slice B m d] 38))) (below_alloc (w1.alloc (.cells #[.int .i64 y.kind, .int .i64 y.n, .slice A n c, .slice B m d] 38)) (.cells #[.int .i64 1, .int .i64 0, .string ⟨#[]⟩, .slice none 0 0, .slice none 0 0] 26)))
  have O1 : Hid (Blk ((w1.alloc (.cells #[.int .i64 y.kind, .int .i64 y.n, .slice A n c, .slice B m d] 38)).alloc (.cells #[.int .i64 1, .int .i64 0, .string ⟨#[]⟩, .slice none 0 0, .slice none 0 0] 26)) (w1.heap.size + 1) 26 #[.int .i64 1, .int .i64 0, .string ⟨#[]⟩, .slice none 0 0, .slice none 0 0]) := blk_new _ _ _ _ (World.size_alloc _ _)
  have TO := Lib.hid (bitT_c ((w1.alloc (.cells #[.int .i64 y.kind, .int .i64 y.n, .slice A n c, .slice B m d] 38)).alloc (.cells #[.int .i64 1, .int .i64 0, .string ⟨#[]⟩, .slice none 0 0, .slice none 0 0] 26)))
  have B1 := Lib.hid (below_then B0.out Y1.out)
  have T1 := Lib.hid (T0.out.later Y1.out)
  have V1 := Lib.hid (V0.out.later Y1.out)
  have X1 := Lib.hid (X0.out.later Y1.out)
  have R1 := Lib.hid (R0.out.later Y1.out)
  clear hb
  obtain ⟨tc_0, tc_1, tc_2, tc_3, tc_4⟩ := fives T1.out
  obtain ⟨xc_0, xc_1, xc_2, xc_3⟩ := four X1.out
  obtain ⟨oc_0, oc_1, oc_2, oc_3, oc_4⟩ := fives O1.out
  go_wp2_with fail
  refine (HF.out _ _ B1.out TO.out).mono ?_
  rintro e w2 ⟨rfl, hb⟩
  have B2 := Lib.hid (below_then B1.out hb)
  have T2 := Lib.hid (T1.out.later hb)
  have V2 := Lib.hid (V1.out.later hb)
  have X2 := Lib.hid (X1.out.later hb)
  have R2 := Lib.hid (R1.out.later hb)
  have O2 := Lib.hid (O1.out.later hb)
  clear hb
  clear tc_0 tc_1 tc_2 tc_3 tc_4 xc_0 xc_1 xc_2 xc_3 oc_0 oc_1 oc_2 oc_3 oc_4
  obtain ⟨vc_0, vc_1, vc_2, vc_3⟩ := four V2.out
  go_wp2_with fail
  refine (HC.out _ B2.out).mono ?_
  rintro e w3 ⟨vb, vl, rfl, ho, hv, hb⟩
  obtain ⟨g, q, hvb, hg1, hg2⟩ := own_head ho (show 0 < bs.length by omega)
  obtain ⟨A4, q4, hvl⟩ := hv.shape
  dsimp only [Va.kind, Va.n, Va.bits, Va.list] at ho hv hvb hvl ⊢
  simp only [List.length_nil] at hvb hvl
  subst hvb
  subst hvl
  have Z3 := Lib.hid (below_alloc w3 (.cells #[.int .i64 k1, .int .i64 n1, .slice (some ⟨g, 0, none⟩) bs.length q, .slice A4 0 q4] 38))
  have Y3 := Lib.hid (below_then hb Z3.out)
  have B3 := Lib.hid (below_then B2.out Y3.out)
  have T3 := Lib.hid (T2.out.later Y3.out)
  have X3 := Lib.hid (X2.out.later Y3.out)
  have R3 := Lib.hid (R2.out.later Y3.out)
  have N3 : Hid (Blk (w3.alloc (.cells #[.int .i64 k1, .int .i64 n1, .slice (some ⟨g, 0, none⟩) bs.length q, .slice A4 0 q4] 38)) w3.heap.size 38 #[.int .i64 k1, .int .i64 n1, .slice (some ⟨g, 0, none⟩) bs.length q, .slice A4 0 q4]) := Blk.new _ _ _
  have O3 := Lib.hid (ho.kept Z3.out)
  have g0 := cell_stays B3.out hz.out
  obtain ⟨o1, o2⟩ := O3.out.cell j hj
  have hR := R2.out.lt
  have hw3 : (w3.setCell ⟨g, j, none⟩ (.int .u8 (z : Nat))).heap.size = w3.heap.size := by simp [World.setCell]
  have Z5 := Lib.hid (show Below (w3.setCell ⟨g, j, none⟩ (.int .u8 (z : Nat))).heap.size (w3.setCell ⟨g, j, none⟩ (.int .u8 (z : Nat))) ((w3.setCell ⟨g, j, none⟩ (.int .u8 (z : Nat))).alloc (.cells #[.int .i64 k1, .int .i64 n1, .slice (some ⟨g, 0, none⟩) bs.length q, .slice A4 0 q4] 38)).drew from (below_alloc _ _).drew)
  have O5 := Lib.hid ((ho.stored j z (by omega)).1.kept Z5.out)
  have N5 : Hid (Blk ((w3.setCell ⟨g, j, none⟩ (.int .u8 (z : Nat))).alloc (.cells #[.int .i64 k1, .int .i64 n1, .slice (some ⟨g, 0, none⟩) bs.length q, .slice A4 0 q4] 38)).drew w3.heap.size 38 #[.int .i64 k1, .int .i64 n1, .slice (some ⟨g, 0, none⟩) bs.length q, .slice A4 0 q4]) := blk_drew (blk_new _ _ _ _ hw3)
  have R5 := Lib.hid (((R2.out.later hb).other (a := ⟨g, j, none⟩) (show g ≠ w.heap.size + 1 + 1 + 1 by omega) (.int .u8 (z : Nat))).later Z5.out)
  have B5 := Lib.hid (below_then ((below_then B2.out hb).setCell (p := ⟨g, j, none⟩) (show w.heap.size ≤ g by have := B2.out.size; omega) (.int .u8 (z : Nat))) Z5.out)
  clear hw3
  generalize bs[j] = z0 at o1
  clear hb ho hv
  clear vc_0 vc_1 vc_2 vc_3
  obtain ⟨tc_0, tc_1, tc_2, tc_3, tc_4⟩ := fives T3.out
  obtain ⟨xc_0, xc_1, xc_2, xc_3⟩ := four X3.out
  obtain ⟨nc_0, nc_1, nc_2, nc_3⟩ := four N3.out
  go_wp2_with fail
  go_region
  clear tc_0 tc_1 tc_2 tc_3 tc_4 xc_0 xc_1 xc_2 xc_3 nc_0 nc_1 nc_2 nc_3
  clear g0 o1 o2
  generalize ((w3.setCell ⟨g, j, none⟩ (.int .u8 (z : Nat))).alloc (.cells #[.int .i64 k1, .int .i64 n1, .slice (some ⟨g, 0, none⟩) bs.length q, .slice A4 0 q4] 38)).drew = W5 at *
  obtain ⟨nc_0, nc_1, nc_2, nc_3⟩ := four N5.out
  obtain ⟨rc_0, rc_1, rc_2, rc_3⟩ := four R5.out
  have rf_0 := R5.out.free 0
  have rf_1 := R5.out.free 1
  have rf_2 := R5.out.free 2
  have rf_3 := R5.out.free 3
  go_wp2
  refine bodyPost_ret (by simp [results, Tryz.results47, go_sem, rc_0, rc_1, rc_2, rc_3]; try rfl) rfl ?_
  exact ⟨_, _, _, _, _, _, rfl, VaP.mono (VaP.set4 (S := fun b => w.heap.size ≤ b ∧ b ≠ w.heap.size + 1 + 1 + 1) (vaP_iff.2 ⟨_, _, rfl, own_bitP O5.out (fun b hb _ => show w.heap.size ≤ b ∧ b ≠ w.heap.size + 1 + 1 + 1 by have := B2.out.size; omega), vasP_none _ _⟩) (fun b hb => hb.2) _ _ _ _) (fun b hb _ => hb.1), set4_below B5.out hs _ _ _ _⟩
set_option maxRecDepth 100000 in
set_option maxHeartbeats 8000000 in
theorem rwith_arr (y : Va) (x : Va) (l k1 n1 k2 n2 : Int) (ls : List Va) (j : Nat) (hj : j < ls.length) (hl : ls.length ≤ 10000) (nm : ByteArray) (t3 v5 v6 x5 x6 : Value) (b off dd0 : Nat) (et : Ty) (k3 l3 : Int) (nm3 : ByteArray) (A5 A6 : Option Addr) (n5 c5 n6 c6 : Nat) (w : World)
    (HP : Hid (∀ z, Below w.heap.size w z → Calls Tryz.prog 45 #[.agg #[.int .i64 6, .int .i64 l, .string nm, t3, .slice (some ⟨b, off, none⟩) 1 dd0], .agg #[.int .i64 k1, .int .i64 n1, v5, v6], .int .i64 (j : Nat)] z (FirstPost y 0 z)))
    (h5 : Hid (Ty5 w b off k3 l3 nm3 (.slice A5 n5 c5) (.slice A6 n6 c6))) (hte : Hid (TyC w et [.int .i64 k3, .int .i64 l3, .string nm3, .slice A5 n5 c5, .slice A6 n6 c6]))
    (HF : Hid (∀ z cs, Below w.heap.size w z → TyC z et cs → Calls Tryz.prog 31 #[.agg cs.toArray, .agg #[.int .i64 k2, .int .i64 n2, x5, x6]] z fun e w' => e = .returned (.bool true) ∧ Below z.heap.size z w'))
    (HC : Hid (∀ z, Below w.heap.size w z → Calls Tryz.prog 29 #[.agg #[.int .i64 k1, .int .i64 n1, v5, v6]] z (CopyOf z (.mk k1 n1 [] ls))))
    (HD : Hid (∀ z, Below w.heap.size w z → Calls Tryz.prog 29 #[.agg #[.int .i64 k2, .int .i64 n2, x5, x6]] z (CopyOf z x))) :
    Calls Tryz.prog 47 #[.agg #[.int .i64 6, .int .i64 l, .string nm, t3, .slice (some ⟨b, off, none⟩) 1 dd0], .agg #[.int .i64 k1, .int .i64 n1, v5, v6], .int .i64 (j : Nat), .agg #[.int .i64 k2, .int .i64 n2, x5, x6]] w (FirstPostP (.mk k1 n1 [] (ls.set j x)) 0 w) := by
  have H4 := Lib.hid (boxes4 w 26 38 38 38 #[.int .i64 6, .int .i64 l, .string nm, t3, .slice (some ⟨b, off, none⟩) 1 dd0] #[.int .i64 k1, .int .i64 n1, v5, v6] #[.int .i64 k2, .int .i64 n2, x5, x6] #[.int .i64 0, .int .i64 0, .slice none 0 0, .slice none 0 0])
  have B0 := Lib.hid H4.out.2.2.2.2.1
  have T0 := Lib.hid H4.out.1
  have V0 := Lib.hid H4.out.2.1
  have X0 := Lib.hid H4.out.2.2.1
  have R0 := Lib.hid H4.out.2.2.2.1
  have hs : w.heap.size ≤ w.heap.size + 1 + 1 + 1 := by omega
  clear H4
  unfold FirstPost at HP
  have hji : (j : Int) < (ls.length : Int) := by omega
  have hj0 : (0 : Int) ≤ (j : Int) := by omega
  go_enter Tryz.func47, Tryz.ntmps47
  go_wp2_with fail
  refine (HP.out _ B0.out).mono ?_
  rintro e w1 ⟨A, n, c, B, m, d, rfl, -, hb⟩
  have YB1 := Lib.hid (below_then (below_then hb (below_alloc w1 (.cells #[.int .i64 y.kind, .int .i64 y.n, .slice A n c, .slice B m d] 38))) (below_alloc (w1.alloc (.cells #[.int .i64 y.kind, .int .i64 y.n, .slice A n c, .slice B m d] 38)) (.cells #[.int .i64 1, .int .i64 0, .string ⟨#[]⟩, .slice none 0 0, .slice none 0 0] 26)))
  have TB1 := Lib.hid (T0.out.later YB1.out)
  have E1 := Lib.hid (h5.out.later (below_then B0.out YB1.out))
  have Y1 := Lib.hid (below_then (below_then hb (below_alloc w1 (.cells #[.int .i64 y.kind, .int .i64 y.n, .slice A n c, .slice B m d] 38))) (below_alloc (w1.alloc (.cells #[.int .i64 y.kind, .int .i64 y.n, .slice A n c, .slice B m d] 38)) (.cells #[.int .i64 k3, .int .i64 l3, .string nm3, .slice A5 n5 c5, .slice A6 n6 c6] 26)))
  have O1 : Hid (Blk ((w1.alloc (.cells #[.int .i64 y.kind, .int .i64 y.n, .slice A n c, .slice B m d] 38)).alloc (.cells #[.int .i64 k3, .int .i64 l3, .string nm3, .slice A5 n5 c5, .slice A6 n6 c6] 26)) (w1.heap.size + 1) 26 #[.int .i64 k3, .int .i64 l3, .string nm3, .slice A5 n5 c5, .slice A6 n6 c6]) := blk_new _ _ _ _ (World.size_alloc _ _)
  have B1 := Lib.hid (below_then B0.out Y1.out)
  have TO := Lib.hid (TyC.later B1.out _ _ hte.out)
  have T1 := Lib.hid (T0.out.later Y1.out)
  have V1 := Lib.hid (V0.out.later Y1.out)
  have X1 := Lib.hid (X0.out.later Y1.out)
  have R1 := Lib.hid (R0.out.later Y1.out)
  clear hb
  obtain ⟨tb_0, tb_1, tb_2, tb_3, tb_4⟩ := fives TB1.out
  obtain ⟨ec_0, ec_1, ec_2, ec_3, ec_4⟩ := E1.out
  obtain ⟨xc_0, xc_1, xc_2, xc_3⟩ := four X1.out
  obtain ⟨oc_0, oc_1, oc_2, oc_3, oc_4⟩ := fives O1.out
  go_wp2_with fail
  refine (HF.out _ _ B1.out TO.out).mono ?_
  rintro e w2 ⟨rfl, hb⟩
  have B2 := Lib.hid (below_then B1.out hb)
  have T2 := Lib.hid (T1.out.later hb)
  have V2 := Lib.hid (V1.out.later hb)
  have X2 := Lib.hid (X1.out.later hb)
  have R2 := Lib.hid (R1.out.later hb)
  have O2 := Lib.hid (O1.out.later hb)
  clear hb
  clear tb_0 tb_1 tb_2 tb_3 tb_4 ec_0 ec_1 ec_2 ec_3 ec_4 xc_0 xc_1 xc_2 xc_3 oc_0 oc_1 oc_2 oc_3 oc_4
  obtain ⟨vc_0, vc_1, vc_2, vc_3⟩ := four V2.out
  go_wp2_with fail
  refine (HC.out _ B2.out).mono ?_
  rintro e w3 ⟨vb, vl, rfl, ho, hv, hb⟩
  obtain ⟨g, q, hvl, hg1, hg2⟩ := ownV_head hv (show 0 < ls.length by omega)
  obtain ⟨A4, q4, hvb, -⟩ := ho.sl
  dsimp only [Va.kind, Va.n, Va.bits, Va.list] at ho hv hvb hvl ⊢
  simp only [List.length_nil] at hvb hvl
  subst hvb
  subst hvl
  have Z3 := Lib.hid (below_alloc w3 (.cells #[.int .i64 k1, .int .i64 n1, .slice A4 0 q4, .slice (some ⟨g, 0, none⟩) ls.length q] 38))
  have Y3 := Lib.hid (below_then hb Z3.out)
  have B3 := Lib.hid (below_then B2.out Y3.out)
  have T3 := Lib.hid (T2.out.later Y3.out)
  have X3 := Lib.hid (X2.out.later Y3.out)
  have R3 := Lib.hid (R2.out.later Y3.out)
  have N3 : Hid (Blk (w3.alloc (.cells #[.int .i64 k1, .int .i64 n1, .slice A4 0 q4, .slice (some ⟨g, 0, none⟩) ls.length q] 38)) w3.heap.size 38 #[.int .i64 k1, .int .i64 n1, .slice A4 0 q4, .slice (some ⟨g, 0, none⟩) ls.length q]) := Blk.new _ _ _
  have O3 := Lib.hid (hv.kept Z3.out)
  have hR := R2.out.lt
  have HX := Lib.hid (HD.out ((w3.alloc (.cells #[.int .i64 k1, .int .i64 n1, .slice A4 0 q4, .slice (some ⟨g, 0, none⟩) ls.length q] 38)).drewN 1) (below_drewN B3.out 1))
  have hbd := Lib.hid (below_drewN (Below.refl (w3.alloc (.cells #[.int .i64 k1, .int .i64 n1, .slice A4 0 q4, .slice (some ⟨g, 0, none⟩) ls.length q] 38)).heap.size (w3.alloc (.cells #[.int .i64 k1, .int .i64 n1, .slice A4 0 q4, .slice (some ⟨g, 0, none⟩) ls.length q] 38))) 1)
  clear hb ho hv
  clear vc_0 vc_1 vc_2 vc_3
  obtain ⟨tc_0, tc_1, tc_2, tc_3, tc_4⟩ := fives T3.out
  obtain ⟨xc_0, xc_1, xc_2, xc_3⟩ := four X3.out
  obtain ⟨nc_0, nc_1, nc_2, nc_3⟩ := four N3.out
  go_wp2_with fail
  go_region_with (go_at_call 29; refine (HX.out).mono ?_; rintro e w4 hc; obtain ⟨A, n, c, B, m, dd, rfl, hvp, hb3⟩ := copy_vaP hc; have HBb := Lib.hid (below_then hbd.out hb3); have N4 := Lib.hid (N3.out.later HBb.out); have X4 := Lib.hid (X3.out.later HBb.out); have O4 := Lib.hid (O3.out.kept HBb.out); have R4 := Lib.hid (R3.out.later HBb.out); have B4 := Lib.hid (below_then B3.out HBb.out); have VP := Lib.hid (hvp.mono (S' := fun b => w2.heap.size ≤ b ∧ b ≠ g) (fun b hb _ => by have hb : (w3.alloc (.cells #[.int .i64 k1, .int .i64 n1, .slice A4 0 q4, .slice (some ⟨g, 0, none⟩) ls.length q] 38)).heap.size ≤ b := hb; rw [World.size_alloc] at hb; omega)); obtain ⟨s0, s1, s2, s3⟩ := four N4.out; obtain ⟨y0, y1, y2, y3⟩ := four X4.out; obtain ⟨u0, o0, f0⟩ := O4.out.cell4 j hj 0 (by omega); obtain ⟨u1, o1, f1⟩ := O4.out.cell4 j hj 1 (by omega); obtain ⟨u2, o2, f2⟩ := O4.out.cell4 j hj 2 (by omega); obtain ⟨u3, o3, f3⟩ := O4.out.cell4 j hj 3 (by omega); rw [Nat.add_zero] at o0 f0; clear hc hvp hb3)
  all_goals
    have O5 := Lib.hid (O4.out.stored4 VP.out j hj)
    have N5 := Lib.hid ((((N4.out.other (a := ⟨g, j * 4, none⟩) (show g ≠ w3.heap.size by omega) (.int .i64 x.kind)).other (a := ⟨g, j * 4 + 1, none⟩) (show g ≠ w3.heap.size by omega) (.int .i64 x.n)).other (a := ⟨g, j * 4 + 2, none⟩) (show g ≠ w3.heap.size by omega) (.slice A n c)).other (a := ⟨g, j * 4 + 3, none⟩) (show g ≠ w3.heap.size by omega) (.slice B m dd))
    have R5 := Lib.hid ((((R4.out.other (a := ⟨g, j * 4, none⟩) (show g ≠ w.heap.size + 1 + 1 + 1 by omega) (.int .i64 x.kind)).other (a := ⟨g, j * 4 + 1, none⟩) (show g ≠ w.heap.size + 1 + 1 + 1 by omega) (.int .i64 x.n)).other (a := ⟨g, j * 4 + 2, none⟩) (show g ≠ w.heap.size + 1 + 1 + 1 by omega) (.slice A n c)).other (a := ⟨g, j * 4 + 3, none⟩) (show g ≠ w.heap.size + 1 + 1 + 1 by omega) (.slice B m dd))
    have hwg : w.heap.size ≤ g := by have := B2.out.size; omega
    have B5 := Lib.hid ((((B4.out.setCell (p := ⟨g, j * 4, none⟩) hwg (.int .i64 x.kind)).setCell (p := ⟨g, j * 4 + 1, none⟩) hwg (.int .i64 x.n)).setCell (p := ⟨g, j * 4 + 2, none⟩) hwg (.slice A n c)).setCell (p := ⟨g, j * 4 + 3, none⟩) hwg (.slice B m dd))
    clear s0 s1 s2 s3 y0 y1 y2 y3 o0 o1 o2 o3 f0 f1 f2 f3
    obtain ⟨nc_0, nc_1, nc_2, nc_3⟩ := four N5.out
    obtain ⟨rc_0, rc_1, rc_2, rc_3⟩ := four R5.out
    have rf_0 := R5.out.free 0
    have rf_1 := R5.out.free 1
    have rf_2 := R5.out.free 2
    have rf_3 := R5.out.free 3
    go_wp2
    refine bodyPost_ret (by simp [results, Tryz.results47, go_sem, rc_0, rc_1, rc_2, rc_3]; try rfl) rfl ?_
    exact ⟨_, _, _, _, _, _, rfl, VaP.mono (VaP.set4 (S := fun b => w.heap.size ≤ b ∧ b ≠ w.heap.size + 1 + 1 + 1) (vaP_iff.2 ⟨_, _, rfl, bitP_none _ _, O5.out.vas (fun b hb _ => show w.heap.size ≤ b ∧ b ≠ w.heap.size + 1 + 1 + 1 by have := B2.out.size; omega) (fun b hb _ => show w.heap.size ≤ b ∧ b ≠ w.heap.size + 1 + 1 + 1 by have := B2.out.size; omega)⟩) (fun b hb => hb.2) _ _ _ _) (fun b hb _ => hb.1), set4_below B5.out hs _ _ _ _⟩
theorem rwithP_any (t : Ty) (v x : Va) (i : Int) (cs c1 c2 : List Value) (w : World) (ht : smT t) (hv : smV v) (hx : smV x) (h : TyC w t cs) (h1 : VaC w v c1) (h2 : VaC w x c2) :
    Calls Tryz.prog 47 #[.agg cs.toArray, .agg c1.toArray, .int .i64 i, .agg c2.toArray] w (FirstPostP (withR t v i x) (withE t v i x) w) := by
  have h0 := h
  have h10 := h1
  have h20 := h2
  have HP : Hid (∀ z, Below w.heap.size w z → Calls Tryz.prog 45 #[.agg cs.toArray, .agg c1.toArray, .int .i64 i] z (FirstPost (atR t v i) (partE t v i) z)) := fun z hz => rat_any t v i cs c1 z ht hv (TyC.later hz _ _ h0) (VaC.later hz _ _ h10)
  obtain ⟨A, n, c, B, m, d, rfl, hn, hm, hs, hT⟩ := tyC_open h
  obtain ⟨C, y, p, D, z', q, rfl, hy, hz, hb, hxp, hyq, hL⟩ := vaC_open h1
  obtain ⟨C2, y2, p2, D2, z2, q2, rfl, hy2, hz2, hb2, hxp2, hyq2, hL2⟩ := vaC_open h2
  by_cases hE : partE t v i = 0
  · rw [hE] at HP
    obtain ⟨e1, e2, e3, e4⟩ := partE_zero.1 hE
    have HF : ∀ b, hasV (partT t) x = b → Hid (∀ z cs, Below w.heap.size w z → TyC z (partT t) cs → Calls Tryz.prog 31 #[.agg cs.toArray, .agg #[.int .i64 x.kind, .int .i64 x.n, .slice C2 y2 p2, .slice D2 z2 q2]] z fun e w' => e = .returned (.bool b) ∧ Below z.heap.size z w') := fun b hb z cs hz hc => by
      have := rhas_any (partT t) x cs _ z (partT_small hE ht).nm hc (VaC.later hz _ _ h20)
      rw [hasT_flat (partT_good hE), hb] at this
      exact this
    obtain ⟨j, rfl⟩ : ∃ j : Nat, i = j := ⟨i.toNat, by omega⟩
    have HC : Hid (∀ z, Below w.heap.size w z → Calls Tryz.prog 29 #[.agg #[.int .i64 v.kind, .int .i64 v.n, .slice C y p, .slice D z' q]] z (CopyOf z v)) := fun z hz => rcopy_any v _ z hv (VaC.later hz _ _ h10)
    have HD : Hid (∀ z, Below w.heap.size w z → Calls Tryz.prog 29 #[.agg #[.int .i64 x.kind, .int .i64 x.n, .slice C2 y2 p2, .slice D2 z2 q2]] z (CopyOf z x)) := fun z hz => rcopy_any x _ z hx (VaC.later hz _ _ h20)
    by_cases hf : hasV (partT t) x = true
    · have hW : withE t v j x = 0 := by unfold withE; rw [if_pos hE, if_pos hf]
      have hR : withR t v j x = withV v j x := by unfold withR; rw [if_pos hW, Int.toNat_natCast]
      rw [hR, hW]
      rcases two_shapes e1 e2 with ⟨l, bs, rfl, rfl, g1, g2, g3, g4⟩ | ⟨l, e, ls, rfl, rfl, g1, g2, g3, g4, g5⟩
      · have e4 : (j : Int) < (l : Int) := e4
        have hj : j < bs.length := by omega
        have hfx := hf
        obtain ⟨b, rfl, hb3⟩ := has_bitT hfx
        obtain rfl : y2 = 1 := hy2
        obtain ⟨A', c', hsl, k1, k2, k3, k4⟩ := hb2
        injection hsl with f1 f2 f3
        subst f1
        rcases k4 with k4 | ⟨xb, xo, rfl, k4⟩
        · cases k4
        have hw : withV (.mk 4 0 bs []) j (.mk 1 0 [b] []) = .mk 4 0 (bs.set j b) [] := rfl
        rw [hw]
        exact rwith_vec _ l 4 0 1 0 bs j b xb xo p2 hj (by omega) hb3 noName _ _ _ _ _ w (k4 0 (by simp [Va.bits])) HP (HF true hf) HC
      · have e4 : (j : Int) < (l : Int) := e4
        have hj : j < ls.length := by omega
        have hw : withV (.mk 6 0 [] ls) j x = .mk 6 0 [] (ls.set j x) := rfl
        rw [hw]
        obtain rfl : m = 1 := hm
        rcases hT with hT | ⟨b, off, rfl, hT⟩
        · cases hT
        obtain ⟨A1, n1, c1, A2, n2, c2, k1, k5⟩ := one_open hT
        exact rwith_arr _ x l 6 0 x.kind x.n ls j hj (by omega) noName _ _ _ _ _ b off d e _ _ _ A1 A2 n1 c1 n2 c2 w HP k5 k1 (HF true hf) HC HD
    · have hW : withE t v j x = 2 := by unfold withE; rw [if_pos hE, if_neg hf]
      have hR : withR t v j x = zeroV := if_neg (by rw [hW]; decide)
      rw [hR, hW]
      rcases two_shapes e1 e2 with ⟨l, bs, rfl, rfl, g1, g2, g3, g4⟩ | ⟨l, e, ls, rfl, rfl, g1, g2, g3, g4, g5⟩
      · exact rwith_misfit4 _ l j _ _ _ _ noName _ _ _ _ _ _ w HP (HF false (by simpa using hf))
      · obtain rfl : m = 1 := hm
        rcases hT with hT | ⟨b, off, rfl, hT⟩
        · cases hT
        obtain ⟨A1, n1, c1, A2, n2, c2, k1, k5⟩ := one_open hT
        exact rwith_misfit6 _ l j _ _ _ _ noName _ _ _ _ _ b off d e _ _ _ A1 A2 n1 c1 n2 c2 w HP k5 k1 (HF false (by simpa using hf))
  · have hW : withE t v i x = partE t v i := by unfold withE; rw [if_neg hE]
    have hR : withR t v i x = zeroV := if_neg (by rw [hW]; exact hE)
    rw [hR, hW]
    exact rwith_err _ _ ((partE_cases t v i).resolve_left hE) _ _ i _ _ _ _ _ _ _ _ _ _ _ w HP
theorem rwith_any (t : Ty) (v x : Va) (i : Int) (cs c1 c2 : List Value) (w : World) (ht : smT t) (hv : smV v) (hx : smV x) (h : TyC w t cs) (h1 : VaC w v c1) (h2 : VaC w x c2) :
    Calls Tryz.prog 47 #[.agg cs.toArray, .agg c1.toArray, .int .i64 i, .agg c2.toArray] w (FirstPost (withR t v i x) (withE t v i x) w) := (rwithP_any t v x i cs c1 c2 w ht hv hx h h1 h2).mono fun _ _ h => h.c
end Go.Proofs.YtdiagnhdigakpaaGreatDoor
