/- The contract of the program's With. -/
import Derived.Test.YtdiagnhdigakpaaGreatDoorUc
namespace Go.Proofs.YtdiagnhdigakpaaGreatDoor
open Go.RowKit

theorem boxes4 (w : World) (t1 t2 t3 t4 : TypeId) (a b c d : Array Value) : Blk ((((w.alloc (.cells a t1)).alloc (.cells b t2)).alloc (.cells c t3)).alloc (.cells d t4)) w.heap.size t1 a ∧ Blk ((((w.alloc (.cells a t1)).alloc (.cells b t2)).alloc (.cells c t3)).alloc (.cells d t4)) (w.heap.size + 1) t2 b ∧ Blk ((((w.alloc (.cells a t1)).alloc (.cells b t2)).alloc (.cells c t3)).alloc (.cells d t4)) (w.heap.size + 1 + 1) t3 c ∧ Blk ((((w.alloc (.cells a t1)).alloc (.cells b t2)).alloc (.cells c t3)).alloc (.cells d t4)) (w.heap.size + 1 + 1 + 1) t4 d ∧
    Below w.heap.size w ((((w.alloc (.cells a t1)).alloc (.cells b t2)).alloc (.cells c t3)).alloc (.cells d t4)) ∧ w.heap.size + 4 ≤ ((((w.alloc (.cells a t1)).alloc (.cells b t2)).alloc (.cells c t3)).alloc (.cells d t4)).heap.size := by
  obtain ⟨k0, k1, k2, k3, _⟩ := boxes3 w t1 t2 t3 a b c
  have s3 : (((w.alloc (.cells a t1)).alloc (.cells b t2)).alloc (.cells c t3)).heap.size = w.heap.size + 1 + 1 + 1 := by rw [World.size_alloc, World.size_alloc, World.size_alloc]
  have h := below_alloc (((w.alloc (.cells a t1)).alloc (.cells b t2)).alloc (.cells c t3)) (.cells d t4)
  have k4 := Blk.new (((w.alloc (.cells a t1)).alloc (.cells b t2)).alloc (.cells c t3)) t4 d
  rw [s3] at k4
  exact ⟨k0.later h, k1.later h, k2.later h, k4, below_then k3 h, by rw [World.size_alloc, s3]; omega⟩
theorem own_head {w : World} {base : Nat} {v : Value} {zs : List Nat} (h : Lg.Own w base v zs) (h0 : 0 < zs.length) : ∃ g q, v = .slice (some ⟨g, 0, none⟩) zs.length q ∧ base ≤ g ∧ g < w.heap.size := by
  obtain ⟨ho, h2, h3, h4⟩ := h
  rcases ho.2 with ⟨e, e2⟩ | ⟨g, cap, cur, e1, e2, e3, _⟩
  · omega
  · have hl : g < w.heap.size := (Array.getElem?_eq_some_iff.1 e3).1
    exact ⟨g, cap, e1, e2, hl⟩
theorem ownV_head {S : Nat → Prop} {w : World} {base : Nat} {v : Value} {ls : List Va} (h : OwnV S w base v ls) (h0 : 0 < ls.length) : ∃ g q, v = .slice (some ⟨g, 0, none⟩) ls.length q ∧ base ≤ g ∧ g < w.heap.size := by
  obtain ⟨⟨css, ho, h1, h2, h3⟩, hn, hB⟩ := h
  rcases ho.2 with ⟨e, e2⟩ | ⟨g, cap, cur, e1, e2, e3, _⟩
  · omega
  · have hl : g < w.heap.size := (Array.getElem?_eq_some_iff.1 e3).1
    exact ⟨g, cap, e1, e2, hl⟩
theorem vasP_none {S : Nat → Prop} {w : World} (A : Option Addr) (c : Nat) : VasP S w (.slice A 0 c) [] := ⟨A, c, rfl, by simp, by simp, .inl rfl⟩
theorem bitP_none {S : Nat → Prop} {w : World} (A : Option Addr) (c : Nat) : BitP S w (.slice A 0 c) [] := ⟨A, c, rfl, by simp, by simp, by simp, .inl rfl⟩
/-- As FirstPost, of memory that is new. -/
def FirstPostP (v : Va) (E : Nat) (w : World) (e : Ending) (w' : World) : Prop :=
  ∃ (A : Option Addr) (n c : Nat) (B : Option Addr) (m d : Nat), e = .returned (.tuple #[.agg #[.int .i64 v.kind, .int .i64 v.n, .slice A n c, .slice B m d], .int .i64 (E : Nat)]) ∧ VaP (fun b => w.heap.size ≤ b) w' v [.int .i64 v.kind, .int .i64 v.n, .slice A n c, .slice B m d] ∧ Below w.heap.size w w'
theorem FirstPostP.c {v : Va} {E : Nat} {w w' : World} {e : Ending} (h : FirstPostP v E w e w') : FirstPost v E w e w' := by
  obtain ⟨A, n, c, B, m, d, h1, h2, h3⟩ := h
  exact ⟨A, n, c, B, m, d, h1, VaP.toC _ _ h2, h3⟩
theorem zero_p (S : Nat → Prop) (w : World) : VaP S w zeroV [.int .i64 0, .int .i64 0, .slice none 0 0, .slice none 0 0] := by
  unfold zeroV
  exact vaP_iff.2 ⟨_, _, rfl, bitP_nil _, vasP_nil _⟩
set_option maxRecDepth 100000 in
set_option maxHeartbeats 8000000 in
theorem with_err (u : Ty) (E : Nat) (hE : E = 2 ∨ E = 16 ∨ E = 19) (k l i k1 n1 k2 n2 : Int) (nm : ByteArray) (t3 t4 v5 v6 x5 x6 : Value) (w : World)
    (HP : Hid (∀ z, Below w.heap.size w z → Calls Tryz.prog 90 #[.agg #[.int .i64 k, .int .i64 l, .string nm, t3, t4], .agg #[.int .i64 k1, .int .i64 n1, v5, v6], .int .i64 i] z (PartPost u E z))) :
    Calls Tryz.prog 46 #[.agg #[.int .i64 k, .int .i64 l, .string nm, t3, t4], .agg #[.int .i64 k1, .int .i64 n1, v5, v6], .int .i64 i, .agg #[.int .i64 k2, .int .i64 n2, x5, x6]] w (FirstPostP zeroV E w) := by
  have H4 := Lib.hid (boxes4 w 26 38 38 38 #[.int .i64 k, .int .i64 l, .string nm, t3, t4] #[.int .i64 k1, .int .i64 n1, v5, v6] #[.int .i64 k2, .int .i64 n2, x5, x6] #[.int .i64 0, .int .i64 0, .slice none 0 0, .slice none 0 0])
  have B0 := Lib.hid H4.out.2.2.2.2.1
  have T0 := Lib.hid H4.out.1
  have V0 := Lib.hid H4.out.2.1
  have X0 := Lib.hid H4.out.2.2.1
  have R0 := Lib.hid H4.out.2.2.2.1
  have hs : w.heap.size ≤ w.heap.size + 1 + 1 + 1 := by omega
  clear H4
  unfold PartPost at HP
  rcases hE with rfl | rfl | rfl
  all_goals
    go_enter Tryz.func46, Tryz.ntmps46
    go_wp2_with fail
    refine (HP.out _ B0.out).mono ?_
    rintro e w1 ⟨A, n, c, B, m, d, rfl, hty, hb⟩
    have Z1 := Lib.hid (below_alloc w1 (.cells #[.int .i64 u.kind, .int .i64 u.len, .string u.name, .slice A n c, .slice B m d] 26))
    have Y1 := Lib.hid (below_then hb Z1.out)
    have B1 := Lib.hid (below_then B0.out Y1.out)
    have T1 := Lib.hid (T0.out.later Y1.out)
    have V1 := Lib.hid (V0.out.later Y1.out)
    have X1 := Lib.hid (X0.out.later Y1.out)
    have R1 := Lib.hid (R0.out.later Y1.out)
    clear hb hty
    obtain ⟨rc_0, rc_1, rc_2, rc_3⟩ := four R1.out
    have rf_0 := R1.out.free 0
    have rf_1 := R1.out.free 1
    have rf_2 := R1.out.free 2
    have rf_3 := R1.out.free 3
    go_wp2
    refine bodyPost_ret (by simp [results, Tryz.results46, go_sem, rc_0, rc_1, rc_2, rc_3]; try rfl) rfl ?_
    exact ⟨none, 0, 0, none, 0, 0, rfl, zero_p _ _, set4_below B1.out hs _ _ _ _⟩
set_option maxRecDepth 100000 in
set_option maxHeartbeats 8000000 in
theorem with_misfit (u : Ty) (k l i k1 n1 k2 n2 : Int) (nm : ByteArray) (t3 t4 v5 v6 x5 x6 : Value) (w : World)
    (HP : Hid (∀ z, Below w.heap.size w z → Calls Tryz.prog 90 #[.agg #[.int .i64 k, .int .i64 l, .string nm, t3, t4], .agg #[.int .i64 k1, .int .i64 n1, v5, v6], .int .i64 i] z (PartPost u 0 z)))
    (HF : Hid (∀ z cs, Below w.heap.size w z → TyC z u cs → Calls Tryz.prog 74 #[.agg cs.toArray, .agg #[.int .i64 k2, .int .i64 n2, x5, x6]] z fun e w' => e = .returned (.bool false) ∧ Below z.heap.size z w')) :
    Calls Tryz.prog 46 #[.agg #[.int .i64 k, .int .i64 l, .string nm, t3, t4], .agg #[.int .i64 k1, .int .i64 n1, v5, v6], .int .i64 i, .agg #[.int .i64 k2, .int .i64 n2, x5, x6]] w (FirstPostP zeroV 2 w) := by
  have H4 := Lib.hid (boxes4 w 26 38 38 38 #[.int .i64 k, .int .i64 l, .string nm, t3, t4] #[.int .i64 k1, .int .i64 n1, v5, v6] #[.int .i64 k2, .int .i64 n2, x5, x6] #[.int .i64 0, .int .i64 0, .slice none 0 0, .slice none 0 0])
  have B0 := Lib.hid H4.out.2.2.2.2.1
  have T0 := Lib.hid H4.out.1
  have V0 := Lib.hid H4.out.2.1
  have X0 := Lib.hid H4.out.2.2.1
  have R0 := Lib.hid H4.out.2.2.2.1
  have hs : w.heap.size ≤ w.heap.size + 1 + 1 + 1 := by omega
  clear H4
  unfold PartPost at HP
  go_enter Tryz.func46, Tryz.ntmps46
  go_wp2_with fail
  refine (HP.out _ B0.out).mono ?_
  rintro e w1 ⟨A, n, c, B, m, d, rfl, hty, hb⟩
  have Z1 := Lib.hid (below_alloc w1 (.cells #[.int .i64 u.kind, .int .i64 u.len, .string u.name, .slice A n c, .slice B m d] 26))
  have Y1 := Lib.hid (below_then hb Z1.out)
  have B1 := Lib.hid (below_then B0.out Y1.out)
  have T1 := Lib.hid (T0.out.later Y1.out)
  have V1 := Lib.hid (V0.out.later Y1.out)
  have X1 := Lib.hid (X0.out.later Y1.out)
  have R1 := Lib.hid (R0.out.later Y1.out)
  have U1 : Hid (Blk (w1.alloc (.cells #[.int .i64 u.kind, .int .i64 u.len, .string u.name, .slice A n c, .slice B m d] 26)) w1.heap.size 26 #[.int .i64 u.kind, .int .i64 u.len, .string u.name, .slice A n c, .slice B m d]) := Blk.new _ _ _
  have HTu := Lib.hid (TyC.later Z1.out _ _ hty)
  clear hb hty
  obtain ⟨uc_0, uc_1, uc_2, uc_3, uc_4⟩ := fives U1.out
  obtain ⟨xc_0, xc_1, xc_2, xc_3⟩ := four X1.out
  go_wp2_with fail
  refine (HF.out _ _ B1.out HTu.out).mono ?_
  rintro e w2 ⟨rfl, hb⟩
  have B2 := Lib.hid (below_then B1.out hb)
  have T2 := Lib.hid (T1.out.later hb)
  have V2 := Lib.hid (V1.out.later hb)
  have X2 := Lib.hid (X1.out.later hb)
  have R2 := Lib.hid (R1.out.later hb)
  have U2 := Lib.hid (U1.out.later hb)
  clear hb
  clear uc_0 uc_1 uc_2 uc_3 uc_4 xc_0 xc_1 xc_2 xc_3
  obtain ⟨rc_0, rc_1, rc_2, rc_3⟩ := four R2.out
  have rf_0 := R2.out.free 0
  have rf_1 := R2.out.free 1
  have rf_2 := R2.out.free 2
  have rf_3 := R2.out.free 3
  go_wp2
  refine bodyPost_ret (by simp [results, Tryz.results46, go_sem, rc_0, rc_1, rc_2, rc_3]; try rfl) rfl ?_
  exact ⟨none, 0, 0, none, 0, 0, rfl, zero_p _ _, set4_below B2.out hs _ _ _ _⟩
set_option maxRecDepth 100000 in
set_option maxHeartbeats 8000000 in
theorem with_vec (u : Ty) (l k1 n1 k2 n2 : Int) (bs : List Nat) (j z xb xo xd : Nat) (hj : j < bs.length) (hl : bs.length ≤ 10000) (hz3 : z ≤ 3) (nm : ByteArray) (t3 t4 v5 v6 x6 : Value) (w : World) (hz : w.cell? ⟨xb, xo, none⟩ = some (.int .u8 (z : Nat)))
    (HP : Hid (∀ z, Below w.heap.size w z → Calls Tryz.prog 90 #[.agg #[.int .i64 4, .int .i64 l, .string nm, t3, t4], .agg #[.int .i64 k1, .int .i64 n1, v5, v6], .int .i64 (j : Nat)] z (PartPost u 0 z)))
    (HF : Hid (∀ z cs, Below w.heap.size w z → TyC z u cs → Calls Tryz.prog 74 #[.agg cs.toArray, .agg #[.int .i64 k2, .int .i64 n2, .slice (some ⟨xb, xo, none⟩) 1 xd, x6]] z fun e w' => e = .returned (.bool true) ∧ Below z.heap.size z w'))
    (HC : Hid (∀ z, Below w.heap.size w z → Calls Tryz.prog 91 #[.agg #[.int .i64 k1, .int .i64 n1, v5, v6]] z (CopyOf z (.mk k1 n1 bs [])))) :
    Calls Tryz.prog 46 #[.agg #[.int .i64 4, .int .i64 l, .string nm, t3, t4], .agg #[.int .i64 k1, .int .i64 n1, v5, v6], .int .i64 (j : Nat), .agg #[.int .i64 k2, .int .i64 n2, .slice (some ⟨xb, xo, none⟩) 1 xd, x6]] w (FirstPostP (.mk k1 n1 (bs.set j z) []) 0 w) := by
  have H4 := Lib.hid (boxes4 w 26 38 38 38 #[.int .i64 4, .int .i64 l, .string nm, t3, t4] #[.int .i64 k1, .int .i64 n1, v5, v6] #[.int .i64 k2, .int .i64 n2, .slice (some ⟨xb, xo, none⟩) 1 xd, x6] #[.int .i64 0, .int .i64 0, .slice none 0 0, .slice none 0 0])
  have B0 := Lib.hid H4.out.2.2.2.2.1
  have T0 := Lib.hid H4.out.1
  have V0 := Lib.hid H4.out.2.1
  have X0 := Lib.hid H4.out.2.2.1
  have R0 := Lib.hid H4.out.2.2.2.1
  have hs : w.heap.size ≤ w.heap.size + 1 + 1 + 1 := by omega
  clear H4
  unfold PartPost at HP
  have hji : (j : Int) < (bs.length : Int) := by omega
  have hj0 : (0 : Int) ≤ (j : Int) := by omega
  go_enter Tryz.func46, Tryz.ntmps46
  go_wp2_with fail
  refine (HP.out _ B0.out).mono ?_
  rintro e w1 ⟨A, n, c, B, m, d, rfl, hty, hb⟩
  have Z1 := Lib.hid (below_alloc w1 (.cells #[.int .i64 u.kind, .int .i64 u.len, .string u.name, .slice A n c, .slice B m d] 26))
  have Y1 := Lib.hid (below_then hb Z1.out)
  have B1 := Lib.hid (below_then B0.out Y1.out)
  have T1 := Lib.hid (T0.out.later Y1.out)
  have V1 := Lib.hid (V0.out.later Y1.out)
  have X1 := Lib.hid (X0.out.later Y1.out)
  have R1 := Lib.hid (R0.out.later Y1.out)
  have U1 : Hid (Blk (w1.alloc (.cells #[.int .i64 u.kind, .int .i64 u.len, .string u.name, .slice A n c, .slice B m d] 26)) w1.heap.size 26 #[.int .i64 u.kind, .int .i64 u.len, .string u.name, .slice A n c, .slice B m d]) := Blk.new _ _ _
  have HTu := Lib.hid (TyC.later Z1.out _ _ hty)
  clear hb hty
  obtain ⟨uc_0, uc_1, uc_2, uc_3, uc_4⟩ := fives U1.out
  obtain ⟨xc_0, xc_1, xc_2, xc_3⟩ := four X1.out
  go_wp2_with fail
  refine (HF.out _ _ B1.out HTu.out).mono ?_
  rintro e w2 ⟨rfl, hb⟩
  have B2 := Lib.hid (below_then B1.out hb)
  have T2 := Lib.hid (T1.out.later hb)
  have V2 := Lib.hid (V1.out.later hb)
  have X2 := Lib.hid (X1.out.later hb)
  have R2 := Lib.hid (R1.out.later hb)
  have U2 := Lib.hid (U1.out.later hb)
  clear hb
  clear uc_0 uc_1 uc_2 uc_3 uc_4 xc_0 xc_1 xc_2 xc_3
  obtain ⟨vc_0, vc_1, vc_2, vc_3⟩ := four V2.out
  go_wp2_with fail
  refine (HC.out _ B2.out).mono ?_
  rintro e w3 ⟨vb, vl, rfl, ho, hv, hb⟩
  obtain ⟨g, q, hvb, hg1, hg2⟩ := own_head ho (show 0 < bs.length by omega)
  obtain ⟨A4, q4, hvl⟩ := hv.shape
  dsimp only [Va.kind, Va.n, Va.bits, Va.list] at ho hv hvb hvl ⊢
  simp only [List.length_nil] at hvb hvl
  subst hvb
  subst hvl
  obtain ⟨b5, hb5⟩ : ∃ b5, b5 = w3.heap.size := ⟨_, rfl⟩
  have Z3 := Lib.hid (below_alloc w3 (.cells #[.int .i64 k1, .int .i64 n1, .slice (some ⟨g, 0, none⟩) bs.length q, .slice A4 0 q4] 38))
  have Y3 := Lib.hid (below_then hb Z3.out)
  have B3 := Lib.hid (below_then B2.out Y3.out)
  have T3 := Lib.hid (T2.out.later Y3.out)
  have X3 := Lib.hid (X2.out.later Y3.out)
  have R3 := Lib.hid (R2.out.later Y3.out)
  have N3 : Hid (Blk (w3.alloc (.cells #[.int .i64 k1, .int .i64 n1, .slice (some ⟨g, 0, none⟩) bs.length q, .slice A4 0 q4] 38)) w3.heap.size 38 #[.int .i64 k1, .int .i64 n1, .slice (some ⟨g, 0, none⟩) bs.length q, .slice A4 0 q4]) := Blk.new _ _ _
  have O3 := Lib.hid (ho.kept Z3.out)
  have g0 := cell_stays B3.out hz
  obtain ⟨o1, o2⟩ := O3.out.cell j hj
  have hR := R2.out.lt
  have hw3 : (w3.setCell ⟨g, j, none⟩ (.int .u8 (z : Nat))).heap.size = w3.heap.size := by simp [World.setCell]
  have Z5 := Lib.hid (show Below (w3.setCell ⟨g, j, none⟩ (.int .u8 (z : Nat))).heap.size (w3.setCell ⟨g, j, none⟩ (.int .u8 (z : Nat))) ((w3.setCell ⟨g, j, none⟩ (.int .u8 (z : Nat))).alloc (.cells #[.int .i64 k1, .int .i64 n1, .slice (some ⟨g, 0, none⟩) bs.length q, .slice A4 0 q4] 38)).drew from (below_alloc _ _).drew)
  have O5 := Lib.hid ((ho.stored j z (by omega)).1.kept Z5.out)
  have N5 : Hid (Blk ((w3.setCell ⟨g, j, none⟩ (.int .u8 (z : Nat))).alloc (.cells #[.int .i64 k1, .int .i64 n1, .slice (some ⟨g, 0, none⟩) bs.length q, .slice A4 0 q4] 38)).drew w3.heap.size 38 #[.int .i64 k1, .int .i64 n1, .slice (some ⟨g, 0, none⟩) bs.length q, .slice A4 0 q4]) := blk_drew (blk_new _ _ _ _ hw3)
  have R5 := Lib.hid (((R2.out.later hb).other (a := ⟨g, j, none⟩) (show g ≠ w.heap.size + 1 + 1 + 1 by omega) (.int .u8 (z : Nat))).later Z5.out)
  have B5 := Lib.hid (below_then ((below_then B2.out hb).setCell (p := ⟨g, j, none⟩) (show w.heap.size ≤ g by have := B2.out.size; omega) (.int .u8 (z : Nat))) Z5.out)
  clear hw3
  generalize bs[j] = z0 at o1
  clear hb ho hv hz
  clear vc_0 vc_1 vc_2 vc_3
  obtain ⟨tc_0, tc_1, tc_2, tc_3, tc_4⟩ := fives T3.out
  obtain ⟨xc_0, xc_1, xc_2, xc_3⟩ := four X3.out
  obtain ⟨nc_0, nc_1, nc_2, nc_3⟩ := four N3.out
  go_wp2_with fail
  go_region
  clear tc_0 tc_1 tc_2 tc_3 tc_4 xc_0 xc_1 xc_2 xc_3 nc_0 nc_1 nc_2 nc_3
  clear g0 o1 o2
  generalize ((w3.setCell ⟨g, j, none⟩ (.int .u8 (z : Nat))).alloc (.cells #[.int .i64 k1, .int .i64 n1, .slice (some ⟨g, 0, none⟩) bs.length q, .slice A4 0 q4] 38)).drew = W5 at *
  obtain ⟨nc_0, nc_1, nc_2, nc_3⟩ := four N5.out
  obtain ⟨rc_0, rc_1, rc_2, rc_3⟩ := four R5.out
  have rf_0 := R5.out.free 0
  have rf_1 := R5.out.free 1
  have rf_2 := R5.out.free 2
  have rf_3 := R5.out.free 3
  go_wp2
  refine bodyPost_ret (by simp [results, Tryz.results46, go_sem, rc_0, rc_1, rc_2, rc_3]; try rfl) rfl ?_
  exact ⟨_, _, _, _, _, _, rfl, VaP.mono (VaP.set4 (S := fun b => w.heap.size ≤ b ∧ b ≠ w.heap.size + 1 + 1 + 1) (vaP_iff.2 ⟨_, _, rfl, own_bitP O5.out (fun b hb _ => show w.heap.size ≤ b ∧ b ≠ w.heap.size + 1 + 1 + 1 by have := B2.out.size; omega), vasP_none _ _⟩) (fun b hb => hb.2) _ _ _ _) (fun b hb _ => hb.1), set4_below B5.out hs _ _ _ _⟩
set_option maxRecDepth 100000 in
set_option maxHeartbeats 8000000 in
theorem with_arr (u : Ty) (x : Va) (l k1 n1 k2 n2 : Int) (ls : List Va) (j : Nat) (hj : j < ls.length) (hl : ls.length ≤ 10000) (nm : ByteArray) (t3 t4 v5 v6 x5 x6 : Value) (w : World)
    (HP : Hid (∀ z, Below w.heap.size w z → Calls Tryz.prog 90 #[.agg #[.int .i64 6, .int .i64 l, .string nm, t3, t4], .agg #[.int .i64 k1, .int .i64 n1, v5, v6], .int .i64 (j : Nat)] z (PartPost u 0 z)))
    (HF : Hid (∀ z cs, Below w.heap.size w z → TyC z u cs → Calls Tryz.prog 74 #[.agg cs.toArray, .agg #[.int .i64 k2, .int .i64 n2, x5, x6]] z fun e w' => e = .returned (.bool true) ∧ Below z.heap.size z w'))
    (HC : Hid (∀ z, Below w.heap.size w z → Calls Tryz.prog 91 #[.agg #[.int .i64 k1, .int .i64 n1, v5, v6]] z (CopyOf z (.mk k1 n1 [] ls))))
    (HD : Hid (∀ z, Below w.heap.size w z → Calls Tryz.prog 91 #[.agg #[.int .i64 k2, .int .i64 n2, x5, x6]] z (CopyOf z x))) :
    Calls Tryz.prog 46 #[.agg #[.int .i64 6, .int .i64 l, .string nm, t3, t4], .agg #[.int .i64 k1, .int .i64 n1, v5, v6], .int .i64 (j : Nat), .agg #[.int .i64 k2, .int .i64 n2, x5, x6]] w (FirstPostP (.mk k1 n1 [] (ls.set j x)) 0 w) := by
  have H4 := Lib.hid (boxes4 w 26 38 38 38 #[.int .i64 6, .int .i64 l, .string nm, t3, t4] #[.int .i64 k1, .int .i64 n1, v5, v6] #[.int .i64 k2, .int .i64 n2, x5, x6] #[.int .i64 0, .int .i64 0, .slice none 0 0, .slice none 0 0])
  have B0 := Lib.hid H4.out.2.2.2.2.1
  have T0 := Lib.hid H4.out.1
  have V0 := Lib.hid H4.out.2.1
  have X0 := Lib.hid H4.out.2.2.1
  have R0 := Lib.hid H4.out.2.2.2.1
  have hs : w.heap.size ≤ w.heap.size + 1 + 1 + 1 := by omega
  clear H4
  unfold PartPost at HP
  have hji : (j : Int) < (ls.length : Int) := by omega
  have hj0 : (0 : Int) ≤ (j : Int) := by omega
  go_enter Tryz.func46, Tryz.ntmps46
  go_wp2_with fail
  refine (HP.out _ B0.out).mono ?_
  rintro e w1 ⟨A, n, c, B, m, d, rfl, hty, hb⟩
  have Z1 := Lib.hid (below_alloc w1 (.cells #[.int .i64 u.kind, .int .i64 u.len, .string u.name, .slice A n c, .slice B m d] 26))
  have Y1 := Lib.hid (below_then hb Z1.out)
  have B1 := Lib.hid (below_then B0.out Y1.out)
  have T1 := Lib.hid (T0.out.later Y1.out)
  have V1 := Lib.hid (V0.out.later Y1.out)
  have X1 := Lib.hid (X0.out.later Y1.out)
  have R1 := Lib.hid (R0.out.later Y1.out)
  have U1 : Hid (Blk (w1.alloc (.cells #[.int .i64 u.kind, .int .i64 u.len, .string u.name, .slice A n c, .slice B m d] 26)) w1.heap.size 26 #[.int .i64 u.kind, .int .i64 u.len, .string u.name, .slice A n c, .slice B m d]) := Blk.new _ _ _
  have HTu := Lib.hid (TyC.later Z1.out _ _ hty)
  clear hb hty
  obtain ⟨uc_0, uc_1, uc_2, uc_3, uc_4⟩ := fives U1.out
  obtain ⟨xc_0, xc_1, xc_2, xc_3⟩ := four X1.out
  go_wp2_with fail
  refine (HF.out _ _ B1.out HTu.out).mono ?_
  rintro e w2 ⟨rfl, hb⟩
  have B2 := Lib.hid (below_then B1.out hb)
  have T2 := Lib.hid (T1.out.later hb)
  have V2 := Lib.hid (V1.out.later hb)
  have X2 := Lib.hid (X1.out.later hb)
  have R2 := Lib.hid (R1.out.later hb)
  have U2 := Lib.hid (U1.out.later hb)
  clear hb
  clear uc_0 uc_1 uc_2 uc_3 uc_4 xc_0 xc_1 xc_2 xc_3
  obtain ⟨vc_0, vc_1, vc_2, vc_3⟩ := four V2.out
  go_wp2_with fail
  refine (HC.out _ B2.out).mono ?_
  rintro e w3 ⟨vb, vl, rfl, ho, hv, hb⟩
  obtain ⟨g, q, hvl, hg1, hg2⟩ := ownV_head hv (show 0 < ls.length by omega)
  obtain ⟨A4, q4, hvb, -⟩ := ho.sl
  dsimp only [Va.kind, Va.n, Va.bits, Va.list] at ho hv hvb hvl ⊢
  simp only [List.length_nil] at hvb hvl
  subst hvb
  subst hvl
  have Z3 := Lib.hid (below_alloc w3 (.cells #[.int .i64 k1, .int .i64 n1, .slice A4 0 q4, .slice (some ⟨g, 0, none⟩) ls.length q] 38))
  have Y3 := Lib.hid (below_then hb Z3.out)
  have B3 := Lib.hid (below_then B2.out Y3.out)
  have T3 := Lib.hid (T2.out.later Y3.out)
  have X3 := Lib.hid (X2.out.later Y3.out)
  have R3 := Lib.hid (R2.out.later Y3.out)
  have N3 : Hid (Blk (w3.alloc (.cells #[.int .i64 k1, .int .i64 n1, .slice A4 0 q4, .slice (some ⟨g, 0, none⟩) ls.length q] 38)) w3.heap.size 38 #[.int .i64 k1, .int .i64 n1, .slice A4 0 q4, .slice (some ⟨g, 0, none⟩) ls.length q]) := Blk.new _ _ _
  have O3 := Lib.hid (hv.kept Z3.out)
  have hR := R2.out.lt
  have HX := Lib.hid (HD.out ((w3.alloc (.cells #[.int .i64 k1, .int .i64 n1, .slice A4 0 q4, .slice (some ⟨g, 0, none⟩) ls.length q] 38)).drewN 1) (below_drewN B3.out 1))
  have hbd := Lib.hid (below_drewN (Below.refl (w3.alloc (.cells #[.int .i64 k1, .int .i64 n1, .slice A4 0 q4, .slice (some ⟨g, 0, none⟩) ls.length q] 38)).heap.size (w3.alloc (.cells #[.int .i64 k1, .int .i64 n1, .slice A4 0 q4, .slice (some ⟨g, 0, none⟩) ls.length q] 38))) 1)
  clear hb ho hv
  clear vc_0 vc_1 vc_2 vc_3
  obtain ⟨tc_0, tc_1, tc_2, tc_3, tc_4⟩ := fives T3.out
  obtain ⟨xc_0, xc_1, xc_2, xc_3⟩ := four X3.out
  obtain ⟨nc_0, nc_1, nc_2, nc_3⟩ := four N3.out
  go_wp2_with fail
  go_region_with (go_at_call 91; refine (HX.out).mono ?_; rintro e w4 hc; obtain ⟨A, n, c, B, m, dd, rfl, hvp, hb3⟩ := copy_vaP hc; have HBb := Lib.hid (below_then hbd.out hb3); have N4 := Lib.hid (N3.out.later HBb.out); have X4 := Lib.hid (X3.out.later HBb.out); have O4 := Lib.hid (O3.out.kept HBb.out); have R4 := Lib.hid (R3.out.later HBb.out); have B4 := Lib.hid (below_then B3.out HBb.out); have VP := Lib.hid (hvp.mono (S' := fun b => w2.heap.size ≤ b ∧ b ≠ g) (fun b hb _ => by have hb : (w3.alloc (.cells #[.int .i64 k1, .int .i64 n1, .slice A4 0 q4, .slice (some ⟨g, 0, none⟩) ls.length q] 38)).heap.size ≤ b := hb; rw [World.size_alloc] at hb; omega)); obtain ⟨s0, s1, s2, s3⟩ := four N4.out; obtain ⟨y0, y1, y2, y3⟩ := four X4.out; obtain ⟨u0, o0, f0⟩ := O4.out.cell4 j hj 0 (by omega); obtain ⟨u1, o1, f1⟩ := O4.out.cell4 j hj 1 (by omega); obtain ⟨u2, o2, f2⟩ := O4.out.cell4 j hj 2 (by omega); obtain ⟨u3, o3, f3⟩ := O4.out.cell4 j hj 3 (by omega); rw [Nat.add_zero] at o0 f0; clear hc hvp hb3)
  all_goals
    have O5 := Lib.hid (O4.out.stored4 VP.out j hj)
    have N5 := Lib.hid ((((N4.out.other (a := ⟨g, j * 4, none⟩) (show g ≠ w3.heap.size by omega) (.int .i64 x.kind)).other (a := ⟨g, j * 4 + 1, none⟩) (show g ≠ w3.heap.size by omega) (.int .i64 x.n)).other (a := ⟨g, j * 4 + 2, none⟩) (show g ≠ w3.heap.size by omega) (.slice A n c)).other (a := ⟨g, j * 4 + 3, none⟩) (show g ≠ w3.heap.size by omega) (.slice B m dd))
    have R5 := Lib.hid ((((R4.out.other (a := ⟨g, j * 4, none⟩) (show g ≠ w.heap.size + 1 + 1 + 1 by omega) (.int .i64 x.kind)).other (a := ⟨g, j * 4 + 1, none⟩) (show g ≠ w.heap.size + 1 + 1 + 1 by omega) (.int .i64 x.n)).other (a := ⟨g, j * 4 + 2, none⟩) (show g ≠ w.heap.size + 1 + 1 + 1 by omega) (.slice A n c)).other (a := ⟨g, j * 4 + 3, none⟩) (show g ≠ w.heap.size + 1 + 1 + 1 by omega) (.slice B m dd))
    have hwg : w.heap.size ≤ g := by have := B2.out.size; omega
    have B5 := Lib.hid ((((B4.out.setCell (p := ⟨g, j * 4, none⟩) hwg (.int .i64 x.kind)).setCell (p := ⟨g, j * 4 + 1, none⟩) hwg (.int .i64 x.n)).setCell (p := ⟨g, j * 4 + 2, none⟩) hwg (.slice A n c)).setCell (p := ⟨g, j * 4 + 3, none⟩) hwg (.slice B m dd))
    clear s0 s1 s2 s3 y0 y1 y2 y3 o0 o1 o2 o3 f0 f1 f2 f3
    obtain ⟨nc_0, nc_1, nc_2, nc_3⟩ := four N5.out
    obtain ⟨rc_0, rc_1, rc_2, rc_3⟩ := four R5.out
    have rf_0 := R5.out.free 0
    have rf_1 := R5.out.free 1
    have rf_2 := R5.out.free 2
    have rf_3 := R5.out.free 3
    go_wp2
    refine bodyPost_ret (by simp [results, Tryz.results46, go_sem, rc_0, rc_1, rc_2, rc_3]; try rfl) rfl ?_
    exact ⟨_, _, _, _, _, _, rfl, VaP.mono (VaP.set4 (S := fun b => w.heap.size ≤ b ∧ b ≠ w.heap.size + 1 + 1 + 1) (vaP_iff.2 ⟨_, _, rfl, bitP_none _ _, O5.out.vas (fun b hb _ => show w.heap.size ≤ b ∧ b ≠ w.heap.size + 1 + 1 + 1 by have := B2.out.size; omega) (fun b hb _ => show w.heap.size ≤ b ∧ b ≠ w.heap.size + 1 + 1 + 1 by have := B2.out.size; omega)⟩) (fun b hb => hb.2) _ _ _ _) (fun b hb _ => hb.1), set4_below B5.out hs _ _ _ _⟩
end Go.Proofs.YtdiagnhdigakpaaGreatDoor
