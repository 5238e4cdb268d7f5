/- The contract of the program's At. -/
import Derived.Test.YtdiagnhdigakpaaGreatDoorUb
namespace Go.Proofs.YtdiagnhdigakpaaGreatDoor
open Go.RowKit

set_option maxRecDepth 100000 in
set_option maxHeartbeats 8000000 in
theorem at_err (u : Ty) (E : Nat) (hE : E = 2 ∨ E = 16 ∨ E = 19) (k l i k1 n1 : Int) (nm : ByteArray) (t3 t4 v5 v6 : Value) (w : World)
    (HP : Hid (∀ z, Below w.heap.size w z → Calls Tryz.prog 90 #[.agg #[.int .i64 k, .int .i64 l, .string nm, t3, t4], .agg #[.int .i64 k1, .int .i64 n1, v5, v6], .int .i64 i] z (PartPost u E z))) :
    Calls Tryz.prog 44 #[.agg #[.int .i64 k, .int .i64 l, .string nm, t3, t4], .agg #[.int .i64 k1, .int .i64 n1, v5, v6], .int .i64 i] w (FirstPost zeroV E w) := by
  have H3 := Lib.hid (boxes3 w 26 38 38 #[.int .i64 k, .int .i64 l, .string nm, t3, t4] #[.int .i64 k1, .int .i64 n1, v5, v6] #[.int .i64 0, .int .i64 0, .slice none 0 0, .slice none 0 0])
  have B0 := Lib.hid H3.out.2.2.2.1
  have T0 := Lib.hid H3.out.1
  have V0 := Lib.hid H3.out.2.1
  have R0 := Lib.hid H3.out.2.2.1
  have hs : w.heap.size ≤ w.heap.size + 1 + 1 := by omega
  have hs4 : w.heap.size + 3 ≤ _ := H3.out.2.2.2.2
  clear H3
  unfold PartPost at HP
  rcases hE with rfl | rfl | rfl
  all_goals
    go_enter Tryz.func44, Tryz.ntmps44
    go_wp2_with fail
    refine (HP.out _ B0.out).mono ?_
    rintro e w1 ⟨A, n, c, B, m, d, rfl, -, hb⟩
    have Z1 := Lib.hid (below_then hb (below_alloc w1 (.cells #[.int .i64 u.kind, .int .i64 u.len, .string u.name, .slice A n c, .slice B m d] 26)))
    have B1 := Lib.hid (below_then B0.out Z1.out)
    have T1 := Lib.hid (T0.out.later Z1.out)
    have V1 := Lib.hid (V0.out.later Z1.out)
    have R1 := Lib.hid (R0.out.later Z1.out)
    clear hb
    obtain ⟨rc_0, rc_1, rc_2, rc_3⟩ := four R1.out
    have rf_0 := R1.out.free 0
    have rf_1 := R1.out.free 1
    have rf_2 := R1.out.free 2
    have rf_3 := R1.out.free 3
    go_wp2
    refine bodyPost_ret (by simp [results, Tryz.results44, go_sem, rc_0, rc_1, rc_2, rc_3]; try rfl) rfl ?_
    exact ⟨none, 0, 0, none, 0, 0, rfl, zero_c _, set4_below B1.out hs _ _ _ _⟩
theorem bitValue_ex (b : Nat) (w : World) : Calls Tryz.prog 69 #[.int .u8 b] w fun e w' => ∃ n : Nat, w.heap.size ≤ n ∧ e = .returned (.agg #[.int .i64 1, .int .i64 0, .slice (some ⟨n, 0, none⟩) 1 1, .slice none 0 0]) ∧ Blk w' n 72 #[.int .u8 b] ∧ Below w.heap.size w w' := by
  refine (bitValue_any b w).mono ?_
  rintro e w' ⟨rfl, h1, h2⟩
  exact ⟨_, Nat.le_succ _, rfl, h1, h2⟩
theorem Blk.set4 {w : World} {g h : Nat} {t : TypeId} {cs : Array Value} (k : Blk w h t cs) (hne : g ≠ h) (a b c d : Value) : Blk ((((w.setCell ⟨g, 0, none⟩ a).setCell ⟨g, 1, none⟩ b).setCell ⟨g, 2, none⟩ c).setCell ⟨g, 3, none⟩ d) h t cs :=
  (((k.other (a := ⟨g, 0, none⟩) hne a).other (a := ⟨g, 1, none⟩) hne b).other (a := ⟨g, 2, none⟩) hne c).other (a := ⟨g, 3, none⟩) hne d
theorem bitVa_c {w : World} {g : Nat} (z : Nat) (hz : z ≤ 3) (h : Blk w g 72 #[.int .u8 (z : Nat)]) : VaC w (.mk 1 0 [z] []) [.int .i64 1, .int .i64 0, .slice (some ⟨g, 0, none⟩) 1 1, .slice none 0 0] := by
  rw [VaC]
  refine ⟨_, none, 0, rfl, ⟨_, 1, rfl, by simp, by simp, by simp; omega, .inr ⟨g, 0, rfl, ?_⟩⟩, by simp, by simp, .inl rfl⟩
  intro k hk
  have hk0 : k = 0 := by simp at hk; omega
  subst hk0
  exact h.cell 0
set_option maxRecDepth 100000 in
set_option maxHeartbeats 8000000 in
theorem at_vec (u : Ty) (l : Int) (j vb vo vn vd z : Nat) (hj : j < vn) (_hv : vn ≤ 9223372036854775807) (hz3 : z ≤ 3) (k1 n1 : Int) (nm : ByteArray) (t3 t4 v6 : Value) (w : World) (hz : w.cell? ⟨vb, vo + j, none⟩ = some (.int .u8 (z : Nat)))
    (HP : Hid (∀ z, Below w.heap.size w z → Calls Tryz.prog 90 #[.agg #[.int .i64 4, .int .i64 l, .string nm, t3, t4], .agg #[.int .i64 k1, .int .i64 n1, .slice (some ⟨vb, vo, none⟩) vn vd, v6], .int .i64 (j : Nat)] z (PartPost u 0 z))) :
    Calls Tryz.prog 44 #[.agg #[.int .i64 4, .int .i64 l, .string nm, t3, t4], .agg #[.int .i64 k1, .int .i64 n1, .slice (some ⟨vb, vo, none⟩) vn vd, v6], .int .i64 (j : Nat)] w (FirstPost (.mk 1 0 [z] []) 0 w) := by
  have H3 := Lib.hid (boxes3 w 26 38 38 #[.int .i64 4, .int .i64 l, .string nm, t3, t4] #[.int .i64 k1, .int .i64 n1, .slice (some ⟨vb, vo, none⟩) vn vd, v6] #[.int .i64 0, .int .i64 0, .slice none 0 0, .slice none 0 0])
  have B0 := Lib.hid H3.out.2.2.2.1
  have T0 := Lib.hid H3.out.1
  have V0 := Lib.hid H3.out.2.1
  have R0 := Lib.hid H3.out.2.2.1
  have hs : w.heap.size ≤ w.heap.size + 1 + 1 := by omega
  have hs4 : w.heap.size + 3 ≤ _ := H3.out.2.2.2.2
  clear H3
  unfold PartPost at HP
  have hji : (j : Int) < (vn : Int) := by omega
  have hj0 : (0 : Int) ≤ (j : Int) := by omega
  go_enter Tryz.func44, Tryz.ntmps44
  go_wp2_with fail
  refine (HP.out _ B0.out).mono ?_
  rintro e w1 ⟨A, n, c, B, m, d, rfl, -, hb⟩
  have Z1 := Lib.hid (below_then hb (below_alloc w1 (.cells #[.int .i64 u.kind, .int .i64 u.len, .string u.name, .slice A n c, .slice B m d] 26)))
  have B1 := Lib.hid (below_then B0.out Z1.out)
  have T1 := Lib.hid (T0.out.later Z1.out)
  have V1 := Lib.hid (V0.out.later Z1.out)
  have R1 := Lib.hid (R0.out.later Z1.out)
  clear hb
  obtain ⟨tc_0, tc_1, tc_2, tc_3, tc_4⟩ := fives T1.out
  obtain ⟨vc_0, vc_1, vc_2, vc_3⟩ := four V1.out
  have g := cell_stays B1.out hz
  clear hz
  go_wp2_with fail
  refine (bitValue_ex z _).mono ?_
  rintro e w2 ⟨n5, hn5, rfl, hk, hb⟩
  have B2 := Lib.hid (below_then B1.out hb)
  have R2 := Lib.hid (R1.out.later hb)
  have K2 := Lib.hid hk
  have hlt := R1.out.lt
  have HN5 := Lib.hid (show w.heap.size + 1 + 1 ≠ n5 by omega)
  clear hlt hn5
  clear hb hk g
  clear tc_0 tc_1 tc_2 tc_3 tc_4 vc_0 vc_1 vc_2 vc_3
  obtain ⟨rc_0, rc_1, rc_2, rc_3⟩ := four R2.out
  have rf_0 := R2.out.free 0
  have rf_1 := R2.out.free 1
  have rf_2 := R2.out.free 2
  have rf_3 := R2.out.free 3
  go_wp2
  refine bodyPost_ret (by simp [results, Tryz.results44, go_sem, rc_0, rc_1, rc_2, rc_3]; try rfl) rfl ?_
  exact ⟨_, _, _, none, 0, 0, rfl, bitVa_c z hz3 (K2.out.set4 HN5.out _ _ _ _), set4_below B2.out hs _ _ _ _⟩
set_option maxRecDepth 100000 in
set_option maxHeartbeats 8000000 in
theorem at_arr (u : Ty) (x : Va) (l : Int) (j vb vo vn vd : Nat) (hj : j < vn) (_hv : vn ≤ 9223372036854775807) (k1 n1 kk2 nn2 : Int) (A2 A3 : Option Addr) (m2 c2 m3 c3 : Nat) (nm : ByteArray) (t3 t4 v5 : Value) (w : World)
    (hz : Hid (w.cell? ⟨vb, vo + j * 4, none⟩ = some (.int .i64 kk2) ∧ w.cell? ⟨vb, vo + j * 4 + 1, none⟩ = some (.int .i64 nn2) ∧ w.cell? ⟨vb, vo + j * 4 + 2, none⟩ = some (.slice A2 m2 c2) ∧ w.cell? ⟨vb, vo + j * 4 + 3, none⟩ = some (.slice A3 m3 c3) ∧ VaC w x [.int .i64 kk2, .int .i64 nn2, .slice A2 m2 c2, .slice A3 m3 c3]))
    (HC : Hid (∀ z, Below w.heap.size w z → VaC z x [.int .i64 kk2, .int .i64 nn2, .slice A2 m2 c2, .slice A3 m3 c3] → Calls Tryz.prog 91 #[.agg #[.int .i64 kk2, .int .i64 nn2, .slice A2 m2 c2, .slice A3 m3 c3]] z (CopyOf z x)))
    (HP : Hid (∀ z, Below w.heap.size w z → Calls Tryz.prog 90 #[.agg #[.int .i64 6, .int .i64 l, .string nm, t3, t4], .agg #[.int .i64 k1, .int .i64 n1, v5, .slice (some ⟨vb, vo, none⟩) vn vd], .int .i64 (j : Nat)] z (PartPost u 0 z))) :
    Calls Tryz.prog 44 #[.agg #[.int .i64 6, .int .i64 l, .string nm, t3, t4], .agg #[.int .i64 k1, .int .i64 n1, v5, .slice (some ⟨vb, vo, none⟩) vn vd], .int .i64 (j : Nat)] w (FirstPost x 0 w) := by
  have H3 := Lib.hid (boxes3 w 26 38 38 #[.int .i64 6, .int .i64 l, .string nm, t3, t4] #[.int .i64 k1, .int .i64 n1, v5, .slice (some ⟨vb, vo, none⟩) vn vd] #[.int .i64 0, .int .i64 0, .slice none 0 0, .slice none 0 0])
  have B0 := Lib.hid H3.out.2.2.2.1
  have T0 := Lib.hid H3.out.1
  have V0 := Lib.hid H3.out.2.1
  have R0 := Lib.hid H3.out.2.2.1
  have hs : w.heap.size ≤ w.heap.size + 1 + 1 := by omega
  have hs4 : w.heap.size + 3 ≤ _ := H3.out.2.2.2.2
  clear H3
  unfold PartPost at HP
  have hji : (j : Int) < (vn : Int) := by omega
  have hj0 : (0 : Int) ≤ (j : Int) := by omega
  go_enter Tryz.func44, Tryz.ntmps44
  go_wp2_with fail
  refine (HP.out _ B0.out).mono ?_
  rintro e w1 ⟨A, n, c, B, m, d, rfl, -, hb⟩
  have Z1 := Lib.hid (below_then hb (below_alloc w1 (.cells #[.int .i64 u.kind, .int .i64 u.len, .string u.name, .slice A n c, .slice B m d] 26)))
  have B1 := Lib.hid (below_then B0.out Z1.out)
  have T1 := Lib.hid (T0.out.later Z1.out)
  have V1 := Lib.hid (V0.out.later Z1.out)
  have R1 := Lib.hid (R0.out.later Z1.out)
  clear hb
  obtain ⟨tc_0, tc_1, tc_2, tc_3, tc_4⟩ := fives T1.out
  obtain ⟨vc_0, vc_1, vc_2, vc_3⟩ := four V1.out
  have g0 := cell_stays B1.out hz.out.1
  have g1 := cell_stays B1.out hz.out.2.1
  have g2 := cell_stays B1.out hz.out.2.2.1
  have g3 := cell_stays B1.out hz.out.2.2.2.1
  go_wp2_with fail
  refine (HC.out _ B1.out (VaC.later B1.out _ _ hz.out.2.2.2.2)).mono ?_
  rintro e w2 hc
  obtain ⟨A4, n4, c4, B4, m4, d4, rfl, hvp, hb⟩ := copy_vaP hc
  have VP := Lib.hid (hvp.mono (S' := fun b => b ≠ w.heap.size + 1 + 1) (fun b hb _ => by have h1 := R1.out.lt; have hb : _ ≤ b := hb; omega))
  have B2 := Lib.hid (below_then B1.out hb)
  have R2 := Lib.hid (R1.out.later hb)
  clear hb hc hvp g0 g1 g2 g3
  clear tc_0 tc_1 tc_2 tc_3 tc_4 vc_0 vc_1 vc_2 vc_3
  obtain ⟨rc_0, rc_1, rc_2, rc_3⟩ := four R2.out
  have rf_0 := R2.out.free 0
  have rf_1 := R2.out.free 1
  have rf_2 := R2.out.free 2
  have rf_3 := R2.out.free 3
  go_wp2
  refine bodyPost_ret (by simp [results, Tryz.results44, go_sem, rc_0, rc_1, rc_2, rc_3]; try rfl) rfl ?_
  exact ⟨A4, n4, c4, B4, m4, d4, rfl, VaP.toC _ _ (VP.out.set4 (fun b hb => hb) _ _ _ _), set4_below B2.out hs _ _ _ _⟩
end Go.Proofs.YtdiagnhdigakpaaGreatDoor
