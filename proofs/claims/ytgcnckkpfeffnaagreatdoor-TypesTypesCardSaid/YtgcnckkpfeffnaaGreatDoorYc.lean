/- The contract of the reference's First. -/
import Derived.Test.YtgcnckkpfeffnaaGreatDoorUu
import Derived.Test.YtgcnckkpfeffnaaGreatDoorYb
namespace Go.Proofs.YtgcnckkpfeffnaaGreatDoor
open Go.RowKit

theorem bitP_one {S : Nat → Prop} {w : World} {n b : Nat} (h : Blk w n 72 #[.int .u8 (b : Nat)]) (hS : S n) (hb : b < 256) : BitP S w (.slice (some ⟨n, 0, none⟩) 1 1) [b] :=
  ⟨_, 1, rfl, Nat.le_refl _, by simp, by simpa using hb, .inr ⟨n, 0, rfl, hS, fun k hk => by
    have : k = 0 := by simp at hk; omega
    subst this
    exact h.cell 0⟩⟩
set_option maxRecDepth 100000 in
set_option maxHeartbeats 8000000 in
theorem rfir_bad (k l : Int) (nm : ByteArray) (v3 v4 : Value) (w : World)
    (HV : Hid (∀ u, Below w.heap.size w u → Calls Tryz.prog 17 #[.agg #[.int .i64 k, .int .i64 l, .string nm, v3, v4]] u fun e w' => e = .returned (.bool false) ∧ Below u.heap.size u w')) :
    Calls Tryz.prog 23 #[.agg #[.int .i64 k, .int .i64 l, .string nm, v3, v4]] w (FirstPostP zeroV 2 w) := by
  have H2 := Lib.hid (boxes2 w 26 38 #[.int .i64 k, .int .i64 l, .string nm, v3, v4] #[.int .i64 0, .int .i64 0, .slice none 0 0, .slice none 0 0])
  have B0 := Lib.hid H2.out.2.2.1
  have T0 := Lib.hid H2.out.1
  have R0 := Lib.hid H2.out.2.1
  have hs : w.heap.size ≤ w.heap.size + 1 := by omega
  clear H2
  go_enter Tryz.func23, Tryz.ntmps23
  obtain ⟨tc_0, tc_1, tc_2, tc_3, tc_4⟩ := fives T0.out
  go_wp2_with fail
  refine (HV.out _ B0.out).mono ?_
  rintro e w1 ⟨rfl, hb⟩
  have B1 := Lib.hid (below_then B0.out hb)
  have T1 := Lib.hid (T0.out.later hb)
  have R1 := Lib.hid (R0.out.later hb)
  clear hb
  clear tc_0 tc_1 tc_2 tc_3 tc_4
  obtain ⟨rc_0, rc_1, rc_2, rc_3⟩ := four R1.out
  have rf_0 := R1.out.free 0
  have rf_1 := R1.out.free 1
  have rf_2 := R1.out.free 2
  have rf_3 := R1.out.free 3
  go_wp2
  refine bodyPost_ret (by simp [results, Tryz.results23, go_sem, rc_0, rc_1, rc_2, rc_3]; try rfl) rfl ?_
  exact ⟨none, 0, 0, none, 0, 0, rfl, zero_p _ _, set4_below B1.out hs _ _ _ _⟩
set_option maxRecDepth 100000 in
set_option maxHeartbeats 8000000 in
theorem rfir_2 (l : Int) (nm : ByteArray) (v3 v4 : Value) (w : World)
    (HV : Hid (∀ u, Below w.heap.size w u → Calls Tryz.prog 17 #[.agg #[.int .i64 2, .int .i64 l, .string nm, v3, v4]] u fun e w' => e = .returned (.bool true) ∧ Below u.heap.size u w')) :
    Calls Tryz.prog 23 #[.agg #[.int .i64 2, .int .i64 l, .string nm, v3, v4]] w (FirstPostP (.mk 2 0 [] []) 0 w) := by
  have H2 := Lib.hid (boxes2 w 26 38 #[.int .i64 2, .int .i64 l, .string nm, v3, v4] #[.int .i64 0, .int .i64 0, .slice none 0 0, .slice none 0 0])
  have B0 := Lib.hid H2.out.2.2.1
  have T0 := Lib.hid H2.out.1
  have R0 := Lib.hid H2.out.2.1
  have hs : w.heap.size ≤ w.heap.size + 1 := by omega
  clear H2
  go_enter Tryz.func23, Tryz.ntmps23
  obtain ⟨tc_0, tc_1, tc_2, tc_3, tc_4⟩ := fives T0.out
  go_wp2_with fail
  refine (HV.out _ B0.out).mono ?_
  rintro e w1 ⟨rfl, hb⟩
  have B1 := Lib.hid (below_then B0.out hb)
  have T1 := Lib.hid (T0.out.later hb)
  have R1 := Lib.hid (R0.out.later hb)
  clear hb
  clear tc_0 tc_1 tc_2 tc_3 tc_4
  obtain ⟨tc_0, tc_1, tc_2, tc_3, tc_4⟩ := fives T1.out
  have Y2 := Lib.hid (below_alloc w1 (.cells #[.int .i64 2, .int .i64 0, .slice none 0 0, .slice none 0 0] 38))
  have B2 := Lib.hid (below_then B1.out Y2.out)
  have T2 := Lib.hid (T1.out.later Y2.out)
  have R2 := Lib.hid (R1.out.later Y2.out)
  have N2 : Hid (Blk (w1.alloc (.cells #[.int .i64 2, .int .i64 0, .slice none 0 0, .slice none 0 0] 38)) w1.heap.size 38 #[.int .i64 2, .int .i64 0, .slice none 0 0, .slice none 0 0]) := Blk.new _ _ _
  obtain ⟨ta_0, ta_1, ta_2, ta_3, ta_4⟩ := fives T2.out
  obtain ⟨na_0, na_1, na_2, na_3⟩ := four N2.out
  obtain ⟨rc_0, rc_1, rc_2, rc_3⟩ := four R2.out
  have rf_0 := R2.out.free 0
  have rf_1 := R2.out.free 1
  have rf_2 := R2.out.free 2
  have rf_3 := R2.out.free 3
  go_wp2
  refine bodyPost_ret (by simp [results, Tryz.results23, go_sem, rc_0, rc_1, rc_2, rc_3]; try rfl) rfl ?_
  exact ⟨none, 0, 0, none, 0, 0, rfl, vaP_iff.2 ⟨_, _, rfl, bitP_nil _, vasP_nil _⟩, set4_below B2.out hs _ _ _ _⟩
set_option maxRecDepth 100000 in
set_option maxHeartbeats 8000000 in
theorem rfir_3 (l : Int) (nm : ByteArray) (v3 v4 : Value) (w : World)
    (HV : Hid (∀ u, Below w.heap.size w u → Calls Tryz.prog 17 #[.agg #[.int .i64 3, .int .i64 l, .string nm, v3, v4]] u fun e w' => e = .returned (.bool true) ∧ Below u.heap.size u w')) :
    Calls Tryz.prog 23 #[.agg #[.int .i64 3, .int .i64 l, .string nm, v3, v4]] w (FirstPostP (.mk 3 0 [] []) 0 w) := by
  have H2 := Lib.hid (boxes2 w 26 38 #[.int .i64 3, .int .i64 l, .string nm, v3, v4] #[.int .i64 0, .int .i64 0, .slice none 0 0, .slice none 0 0])
  have B0 := Lib.hid H2.out.2.2.1
  have T0 := Lib.hid H2.out.1
  have R0 := Lib.hid H2.out.2.1
  have hs : w.heap.size ≤ w.heap.size + 1 := by omega
  clear H2
  go_enter Tryz.func23, Tryz.ntmps23
  obtain ⟨tc_0, tc_1, tc_2, tc_3, tc_4⟩ := fives T0.out
  go_wp2_with fail
  refine (HV.out _ B0.out).mono ?_
  rintro e w1 ⟨rfl, hb⟩
  have B1 := Lib.hid (below_then B0.out hb)
  have T1 := Lib.hid (T0.out.later hb)
  have R1 := Lib.hid (R0.out.later hb)
  clear hb
  clear tc_0 tc_1 tc_2 tc_3 tc_4
  obtain ⟨tc_0, tc_1, tc_2, tc_3, tc_4⟩ := fives T1.out
  have Y2 := Lib.hid (below_alloc w1 (.cells #[.int .i64 3, .int .i64 0, .slice none 0 0, .slice none 0 0] 38))
  have B2 := Lib.hid (below_then B1.out Y2.out)
  have T2 := Lib.hid (T1.out.later Y2.out)
  have R2 := Lib.hid (R1.out.later Y2.out)
  have N2 : Hid (Blk (w1.alloc (.cells #[.int .i64 3, .int .i64 0, .slice none 0 0, .slice none 0 0] 38)) w1.heap.size 38 #[.int .i64 3, .int .i64 0, .slice none 0 0, .slice none 0 0]) := Blk.new _ _ _
  obtain ⟨ta_0, ta_1, ta_2, ta_3, ta_4⟩ := fives T2.out
  obtain ⟨na_0, na_1, na_2, na_3⟩ := four N2.out
  obtain ⟨rc_0, rc_1, rc_2, rc_3⟩ := four R2.out
  have rf_0 := R2.out.free 0
  have rf_1 := R2.out.free 1
  have rf_2 := R2.out.free 2
  have rf_3 := R2.out.free 3
  go_wp2
  refine bodyPost_ret (by simp [results, Tryz.results23, go_sem, rc_0, rc_1, rc_2, rc_3]; try rfl) rfl ?_
  exact ⟨none, 0, 0, none, 0, 0, rfl, vaP_iff.2 ⟨_, _, rfl, bitP_nil _, vasP_nil _⟩, set4_below B2.out hs _ _ _ _⟩
set_option maxRecDepth 100000 in
set_option maxHeartbeats 8000000 in
theorem rfir_5 (l : Int) (nm : ByteArray) (v3 v4 : Value) (w : World)
    (HV : Hid (∀ u, Below w.heap.size w u → Calls Tryz.prog 17 #[.agg #[.int .i64 5, .int .i64 l, .string nm, v3, v4]] u fun e w' => e = .returned (.bool true) ∧ Below u.heap.size u w')) :
    Calls Tryz.prog 23 #[.agg #[.int .i64 5, .int .i64 l, .string nm, v3, v4]] w (FirstPostP (.mk 5 0 [] []) 0 w) := by
  have H2 := Lib.hid (boxes2 w 26 38 #[.int .i64 5, .int .i64 l, .string nm, v3, v4] #[.int .i64 0, .int .i64 0, .slice none 0 0, .slice none 0 0])
  have B0 := Lib.hid H2.out.2.2.1
  have T0 := Lib.hid H2.out.1
  have R0 := Lib.hid H2.out.2.1
  have hs : w.heap.size ≤ w.heap.size + 1 := by omega
  clear H2
  go_enter Tryz.func23, Tryz.ntmps23
  obtain ⟨tc_0, tc_1, tc_2, tc_3, tc_4⟩ := fives T0.out
  go_wp2_with fail
  refine (HV.out _ B0.out).mono ?_
  rintro e w1 ⟨rfl, hb⟩
  have B1 := Lib.hid (below_then B0.out hb)
  have T1 := Lib.hid (T0.out.later hb)
  have R1 := Lib.hid (R0.out.later hb)
  clear hb
  clear tc_0 tc_1 tc_2 tc_3 tc_4
  obtain ⟨tc_0, tc_1, tc_2, tc_3, tc_4⟩ := fives T1.out
  have Y2 := Lib.hid (below_alloc w1 (.cells #[.int .i64 5, .int .i64 0, .slice none 0 0, .slice none 0 0] 38))
  have B2 := Lib.hid (below_then B1.out Y2.out)
  have T2 := Lib.hid (T1.out.later Y2.out)
  have R2 := Lib.hid (R1.out.later Y2.out)
  have N2 : Hid (Blk (w1.alloc (.cells #[.int .i64 5, .int .i64 0, .slice none 0 0, .slice none 0 0] 38)) w1.heap.size 38 #[.int .i64 5, .int .i64 0, .slice none 0 0, .slice none 0 0]) := Blk.new _ _ _
  obtain ⟨ta_0, ta_1, ta_2, ta_3, ta_4⟩ := fives T2.out
  obtain ⟨na_0, na_1, na_2, na_3⟩ := four N2.out
  obtain ⟨rc_0, rc_1, rc_2, rc_3⟩ := four R2.out
  have rf_0 := R2.out.free 0
  have rf_1 := R2.out.free 1
  have rf_2 := R2.out.free 2
  have rf_3 := R2.out.free 3
  go_wp2
  refine bodyPost_ret (by simp [results, Tryz.results23, go_sem, rc_0, rc_1, rc_2, rc_3]; try rfl) rfl ?_
  exact ⟨none, 0, 0, none, 0, 0, rfl, vaP_iff.2 ⟨_, _, rfl, bitP_nil _, vasP_nil _⟩, set4_below B2.out hs _ _ _ _⟩
set_option maxRecDepth 100000 in
set_option maxHeartbeats 8000000 in
theorem rfir_1 (l : Int) (nm : ByteArray) (v3 v4 : Value) (w : World)
    (HV : Hid (∀ u, Below w.heap.size w u → Calls Tryz.prog 17 #[.agg #[.int .i64 1, .int .i64 l, .string nm, v3, v4]] u fun e w' => e = .returned (.bool true) ∧ Below u.heap.size u w')) :
    Calls Tryz.prog 23 #[.agg #[.int .i64 1, .int .i64 l, .string nm, v3, v4]] w (FirstPostP (.mk 1 0 [2] []) 0 w) := by
  have H2 := Lib.hid (boxes2 w 26 38 #[.int .i64 1, .int .i64 l, .string nm, v3, v4] #[.int .i64 0, .int .i64 0, .slice none 0 0, .slice none 0 0])
  have B0 := Lib.hid H2.out.2.2.1
  have T0 := Lib.hid H2.out.1
  have R0 := Lib.hid H2.out.2.1
  have hs : w.heap.size ≤ w.heap.size + 1 := by omega
  clear H2
  go_enter Tryz.func23, Tryz.ntmps23
  obtain ⟨tc_0, tc_1, tc_2, tc_3, tc_4⟩ := fives T0.out
  go_wp2_with fail
  refine (HV.out _ B0.out).mono ?_
  rintro e w1 ⟨rfl, hb⟩
  have B1 := Lib.hid (below_then B0.out hb)
  have T1 := Lib.hid (T0.out.later hb)
  have R1 := Lib.hid (R0.out.later hb)
  clear hb
  clear tc_0 tc_1 tc_2 tc_3 tc_4
  obtain ⟨tc_0, tc_1, tc_2, tc_3, tc_4⟩ := fives T1.out
  have Y2 := Lib.hid (below_alloc w1 (.cells #[.int .i64 1, .int .i64 0, .slice none 0 0, .slice none 0 0] 38))
  have B2 := Lib.hid (below_then B1.out Y2.out)
  have T2 := Lib.hid (T1.out.later Y2.out)
  have R2 := Lib.hid (R1.out.later Y2.out)
  have N2 : Hid (Blk (w1.alloc (.cells #[.int .i64 1, .int .i64 0, .slice none 0 0, .slice none 0 0] 38)) w1.heap.size 38 #[.int .i64 1, .int .i64 0, .slice none 0 0, .slice none 0 0]) := Blk.new _ _ _
  obtain ⟨ta_0, ta_1, ta_2, ta_3, ta_4⟩ := fives T2.out
  go_wp2_with fail
  refine (refBit_ex 2 _).mono ?_
  rintro e w3 ⟨n, hn, rfl, hk, hb⟩
  have B3 := Lib.hid (below_then B2.out hb)
  have T3 := Lib.hid (T2.out.later hb)
  have R3 := Lib.hid (R2.out.later hb)
  have hR := R2.out.lt
  have BN := Lib.hid (bitP_one (S := fun b => w.heap.size ≤ b ∧ b ≠ w.heap.size + 1) hk (show w.heap.size ≤ n ∧ n ≠ w.heap.size + 1 by have := B2.out.size; omega) (by decide))
  clear hb hk
  clear tc_0 tc_1 tc_2 tc_3 tc_4 ta_0 ta_1 ta_2 ta_3 ta_4
  obtain ⟨rc_0, rc_1, rc_2, rc_3⟩ := four R3.out
  have rf_0 := R3.out.free 0
  have rf_1 := R3.out.free 1
  have rf_2 := R3.out.free 2
  have rf_3 := R3.out.free 3
  go_wp2
  refine bodyPost_ret (by simp [results, Tryz.results23, go_sem, rc_0, rc_1, rc_2, rc_3]; try rfl) rfl ?_
  exact ⟨_, _, _, _, _, _, rfl, VaP.mono (VaP.set4 (S := fun b => w.heap.size ≤ b ∧ b ≠ w.heap.size + 1) (vaP_iff.2 ⟨_, _, rfl, BN.out, vasP_nil _⟩) (fun b hb => hb.2) _ _ _ _) (fun b hb _ => hb.1), set4_below B3.out hs _ _ _ _⟩
set_option maxRecDepth 100000 in
set_option maxHeartbeats 8000000 in
theorem rfir_4 (l : Nat) (h64 : l ≤ 64) (nm : ByteArray) (v3 v4 : Value) (w : World)
    (HV : Hid (∀ u, Below w.heap.size w u → Calls Tryz.prog 17 #[.agg #[.int .i64 4, .int .i64 (l : Nat), .string nm, v3, v4]] u fun e w' => e = .returned (.bool true) ∧ Below u.heap.size u w')) :
    Calls Tryz.prog 23 #[.agg #[.int .i64 4, .int .i64 (l : Nat), .string nm, v3, v4]] w (FirstPostP (.mk 4 0 (List.replicate l 2) []) 0 w) := by
  have H2 := Lib.hid (boxes2 w 26 38 #[.int .i64 4, .int .i64 (l : Nat), .string nm, v3, v4] #[.int .i64 0, .int .i64 0, .slice none 0 0, .slice none 0 0])
  have B0 := Lib.hid H2.out.2.2.1
  have T0 := Lib.hid H2.out.1
  have R0 := Lib.hid H2.out.2.1
  have hs : w.heap.size ≤ w.heap.size + 1 := by omega
  clear H2
  go_enter Tryz.func23, Tryz.ntmps23
  obtain ⟨tc_0, tc_1, tc_2, tc_3, tc_4⟩ := fives T0.out
  go_wp2_with fail
  refine (HV.out _ B0.out).mono ?_
  rintro e w1 ⟨rfl, hb⟩
  have B1 := Lib.hid (below_then B0.out hb)
  have T1 := Lib.hid (T0.out.later hb)
  have R1 := Lib.hid (R0.out.later hb)
  clear hb
  clear tc_0 tc_1 tc_2 tc_3 tc_4
  obtain ⟨tc_0, tc_1, tc_2, tc_3, tc_4⟩ := fives T1.out
  have Y2 := Lib.hid (below_alloc w1 (.cells #[.int .i64 4, .int .i64 0, .slice none 0 0, .slice none 0 0] 38))
  have B2 := Lib.hid (below_then B1.out Y2.out)
  have T2 := Lib.hid (T1.out.later Y2.out)
  have R2 := Lib.hid (R1.out.later Y2.out)
  have N2 : Hid (Blk (w1.alloc (.cells #[.int .i64 4, .int .i64 0, .slice none 0 0, .slice none 0 0] 38)) w1.heap.size 38 #[.int .i64 4, .int .i64 0, .slice none 0 0, .slice none 0 0]) := Blk.new _ _ _
  obtain ⟨ta_0, ta_1, ta_2, ta_3, ta_4⟩ := fives T2.out
  obtain ⟨G, hG⟩ : ∃ G, G = w1.heap.size + 1 := ⟨_, rfl⟩
  have HG := Lib.hid hG
  have hsz : (w1.alloc (.cells #[.int .i64 4, .int .i64 0, .slice none 0 0, .slice none 0 0] 38)).heap.size = G := by rw [hG, World.size_alloc]
  have O2 : Hid (Lg.Own (w1.alloc (.cells #[.int .i64 4, .int .i64 0, .slice none 0 0, .slice none 0 0] 38)) G (.slice none 0 0) (List.replicate 0 2)) := Lg.Own.nil _ (by omega)
  have hRw := R1.out.lt
  have hw1 := B1.out.size
  clear hG hsz
  go_wp2_with fail
  clear tc_0 tc_1 tc_2 tc_3 tc_4 ta_0 ta_1 ta_2 ta_3 ta_4
  go_loopw [23] (fun i wr => ∃ (k : Nat) (vb : Value), k ≤ l ∧ i = .int .i64 k ∧ Hid (Blk wr w1.heap.size 38 #[.int .i64 4, .int .i64 0, vb, .slice none 0 0]) ∧ Hid (Blk wr (w.heap.size + 1) 38 #[.int .i64 0, .int .i64 0, .slice none 0 0, .slice none 0 0]) ∧ Hid (Lg.Own wr G vb (List.replicate k 2)) ∧ Hid (Below w.heap.size w wr)) (fun i _ => l - (intOf i).toNat)
  case atStart => exact ⟨0, .slice none 0 0, Nat.zero_le _, rfl, N2, R2, O2, B2⟩
  case round =>
    obtain ⟨k, vb, hk, rfl, NV, NR, NO, NB⟩ := hrel
    clear B0 B1 B2 T0 T1 T2 R0 R1 R2 N2 O2 Y2
    by_cases hlt : k < l
    · have d1 : decide ((k : Int) < (l : Int)) = true := by rw [decide_eq_true_eq]; omega
      have hba := below_alloc wr (.cells #[.int .u8 (2 : Nat)] 72)
      obtain ⟨e0, e1, e2, e3⟩ := four NV.out
      have VA := Lib.hid (NV.out.later hba)
      have RA := Lib.hid (NR.out.later hba)
      have BA := Lib.hid (below_then NB.out hba)
      have HL := Lib.hid (show (List.replicate k 2).length + [2].length ≤ 140737488355328 by rw [List.length_replicate, List.length_singleton]; omega)
      have HS := Lib.hid (List.replicate_succ' (n := k) (a := 2)).symm
      have HL5 := Lib.hid (show (List.replicate k 2 ++ [2]).length = k + 1 by rw [List.length_append, List.length_replicate, List.length_singleton])
      clear hba
      go_wp2_with (at_builtin; refine Lg.wpList_append_sl rfl _ _ rfl G _ _ (List.replicate k 2) [2] rfl rfl (NO.out.alloc _) (Lg.Sl.one _ 2 (by decide)) HL.out ?_; intro v5 w5 hown5 hb5; obtain ⟨A5, q5, hv5, -⟩ := hown5.sl; rw [HL5.out] at hv5; subst hv5; have hg5 : w1.heap.size < G := (by have h := HG.out; omega); have V5 := Lib.hid (VA.out.keep (hb5 _ (Nat.le_refl _)) hg5); have R5 := Lib.hid (RA.out.keep (hb5 _ (Nat.le_refl _)) (by omega)); obtain ⟨s0, s1, s2, s3⟩ := four V5.out; have sf := V5.out.free 2; have O5 := Lib.hid hown5; have B5 := Lib.hid (BA.out.trans ((hb5 _ (Nat.le_refl _)).mono (show w.heap.size ≤ G by omega))); clear hown5 hb5)
      go_wp2
      go_roundw
      case rel =>
        refine ⟨k + 1, _, by omega, by go_num, V5.out.set 2 _, R5.out.other (show w1.heap.size ≠ w.heap.size + 1 by omega) _, ?_, B5.out.setCell (show w.heap.size ≤ w1.heap.size by omega) _⟩
        rw [← HS.out]
        show Lg.Own _ _ _ _
        exact own_setLow (a := ⟨w1.heap.size, 2, none⟩) O5.out hg5 _
      case measure => simp [intOf]; omega
    · obtain rfl : k = l := by omega
      have d1 : decide ((k : Int) < (k : Int)) = false := by rw [decide_eq_false_iff_not]; omega
      obtain ⟨e0, e1, e2, e3⟩ := four NV.out
      obtain ⟨rc_0, rc_1, rc_2, rc_3⟩ := four NR.out
      have rf_0 := NR.out.free 0
      have rf_1 := NR.out.free 1
      have rf_2 := NR.out.free 2
      have rf_3 := NR.out.free 3
      obtain ⟨A6, q6, hv6, -⟩ := NO.out.sl
      rw [List.length_replicate] at hv6
      subst hv6
      go_wp2
      refine bodyPost_ret (by simp [results, Tryz.results23, go_sem, rc_0, rc_1, rc_2, rc_3]; try rfl) rfl ?_
      have hg := HG.out
      exact ⟨_, _, _, _, _, _, rfl, VaP.mono (VaP.set4 (S := fun b => w.heap.size ≤ b ∧ b ≠ w.heap.size + 1) (vaP_iff.2 ⟨_, _, rfl, own_bitP NO.out (fun b hb _ => show w.heap.size ≤ b ∧ b ≠ w.heap.size + 1 by omega), vasP_nil _⟩) (fun b hb => hb.2) _ _ _ _) (fun b hb _ => hb.1), set4_below NB.out hs _ _ _ _⟩
set_option maxRecDepth 100000 in
set_option maxHeartbeats 8000000 in
theorem rfir_6 (x : Va) (l : Nat) (h64 : l ≤ 64) (nm : ByteArray) (v3 : Value) (b off d : Nat) (k1 l1 : Int) (nm1 : ByteArray) (A1 A2 : Option Addr) (n1 c1 n2 c2 : Nat) (w : World)
    (HV : Hid (∀ u, Below w.heap.size w u → Calls Tryz.prog 17 #[.agg #[.int .i64 6, .int .i64 (l : Nat), .string nm, v3, .slice (some ⟨b, off, none⟩) 1 d]] u fun e w' => e = .returned (.bool true) ∧ Below u.heap.size u w'))
    (h5 : Hid (Ty5 w b off k1 l1 nm1 (.slice A1 n1 c1) (.slice A2 n2 c2)))
    (HR : Hid (∀ u, Below w.heap.size w u → Calls Tryz.prog 23 #[.agg #[.int .i64 k1, .int .i64 l1, .string nm1, .slice A1 n1 c1, .slice A2 n2 c2]] u (FirstPostP x 0 u))) :
    Calls Tryz.prog 23 #[.agg #[.int .i64 6, .int .i64 (l : Nat), .string nm, v3, .slice (some ⟨b, off, none⟩) 1 d]] w (FirstPostP (.mk 6 0 [] (List.replicate l x)) 0 w) := by
  have H2 := Lib.hid (boxes2 w 26 38 #[.int .i64 6, .int .i64 (l : Nat), .string nm, v3, .slice (some ⟨b, off, none⟩) 1 d] #[.int .i64 0, .int .i64 0, .slice none 0 0, .slice none 0 0])
  have B0 := Lib.hid H2.out.2.2.1
  have T0 := Lib.hid H2.out.1
  have R0 := Lib.hid H2.out.2.1
  have hs : w.heap.size ≤ w.heap.size + 1 := by omega
  clear H2
  go_enter Tryz.func23, Tryz.ntmps23
  obtain ⟨tc_0, tc_1, tc_2, tc_3, tc_4⟩ := fives T0.out
  go_wp2_with fail
  refine (HV.out _ B0.out).mono ?_
  rintro e w1 ⟨rfl, hb⟩
  have B1 := Lib.hid (below_then B0.out hb)
  have T1 := Lib.hid (T0.out.later hb)
  have R1 := Lib.hid (R0.out.later hb)
  clear hb
  clear tc_0 tc_1 tc_2 tc_3 tc_4
  obtain ⟨tc_0, tc_1, tc_2, tc_3, tc_4⟩ := fives T1.out
  have Y2 := Lib.hid (below_alloc w1 (.cells #[.int .i64 6, .int .i64 0, .slice none 0 0, .slice none 0 0] 38))
  have B2 := Lib.hid (below_then B1.out Y2.out)
  have T2 := Lib.hid (T1.out.later Y2.out)
  have R2 := Lib.hid (R1.out.later Y2.out)
  have N2 : Hid (Blk (w1.alloc (.cells #[.int .i64 6, .int .i64 0, .slice none 0 0, .slice none 0 0] 38)) w1.heap.size 38 #[.int .i64 6, .int .i64 0, .slice none 0 0, .slice none 0 0]) := Blk.new _ _ _
  obtain ⟨ta_0, ta_1, ta_2, ta_3, ta_4⟩ := fives T2.out
  obtain ⟨G, hG⟩ : ∃ G, G = w1.heap.size + 1 := ⟨_, rfl⟩
  have HG := Lib.hid hG
  have hsz : (w1.alloc (.cells #[.int .i64 6, .int .i64 0, .slice none 0 0, .slice none 0 0] 38)).heap.size = G := by rw [hG, World.size_alloc]
  have O2 : Hid (OwnV (fun b => w.heap.size + 2 ≤ b ∧ b ≠ w1.heap.size) (w1.alloc (.cells #[.int .i64 6, .int .i64 0, .slice none 0 0, .slice none 0 0] 38)) G (.slice none 0 0) (List.replicate 0 x)) := OwnV.nil _ (by omega)
  have hRw := R1.out.lt
  have hw1 := B1.out.size
  clear hG hsz
  go_wp2_with fail
  clear tc_0 tc_1 tc_2 tc_3 tc_4 ta_0 ta_1 ta_2 ta_3 ta_4
  go_loopw [35] (fun i wr => ∃ (k : Nat) (vl : Value), k ≤ l ∧ i = .int .i64 k ∧ Hid (Blk wr w1.heap.size 38 #[.int .i64 6, .int .i64 0, .slice none 0 0, vl]) ∧ Hid (Blk wr (w.heap.size + 1) 38 #[.int .i64 0, .int .i64 0, .slice none 0 0, .slice none 0 0]) ∧ Hid (Blk wr w.heap.size 26 #[.int .i64 6, .int .i64 (l : Nat), .string nm, v3, .slice (some ⟨b, off, none⟩) 1 d]) ∧ Hid (OwnV (fun b => w.heap.size + 2 ≤ b ∧ b ≠ w1.heap.size) wr G vl (List.replicate k x)) ∧ Hid (Below w.heap.size w wr)) (fun i _ => l - (intOf i).toNat)
  case atStart => exact ⟨0, .slice none 0 0, Nat.zero_le _, rfl, N2, R2, T2, O2, B2⟩
  case round =>
    obtain ⟨k, vl, hk, rfl, NV, NR, NT, NO, NB⟩ := hrel
    clear B0 B1 B2 T0 T1 T2 R0 R1 R2 N2 O2 Y2
    by_cases hlt : k < l
    · have d1 : decide ((k : Int) < (l : Int)) = true := by rw [decide_eq_true_eq]; omega
      obtain ⟨e0, e1, e2, e3, e4⟩ := fives NT.out
      obtain ⟨ec_0, ec_1, ec_2, ec_3, ec_4⟩ := h5.out.later NB.out
      have HL := Lib.hid (show (List.replicate k x).length < 100000 by rw [List.length_replicate]; omega)
      have HS := Lib.hid (List.replicate_succ' (n := k) (a := x)).symm
      have HL5 := Lib.hid (show (List.replicate k x ++ [x]).length = k + 1 by rw [List.length_append, List.length_replicate, List.length_singleton])
      go_wp2_with fail
      refine (HR.out _ NB.out).mono ?_
      rintro e w3 ⟨A3, n3, c3, A4, n4, c4, rfl, hvp, hb⟩
      clear e0 e1 e2 e3 e4 ec_0 ec_1 ec_2 ec_3 ec_4
      have Z3 := Lib.hid (below_alloc w3 (.cells #[.int .i64 x.kind, .int .i64 x.n, .slice A3 n3 c3, .slice A4 n4 c4] 38))
      have HB3 := Lib.hid (below_then hb Z3.out)
      have Z4 := Lib.hid (below_then Z3.out (below_alloc (w3.alloc (.cells #[.int .i64 x.kind, .int .i64 x.n, .slice A3 n3 c3, .slice A4 n4 c4] 38)) (.cells #[.int .i64 x.kind, .int .i64 x.n, .slice A3 n3 c3, .slice A4 n4 c4] 38)))
      have HB4 := Lib.hid (below_then hb Z4.out)
      have hsz := NO.out.2.2
      have HP4 := Lib.hid (VaP.later (VaP.mono (S' := fun b => (w.heap.size + 2 ≤ b ∧ b ≠ w1.heap.size) ∧ vl.ownBlock ≠ some b) hvp (fun b hb1 _ => ⟨show w.heap.size + 2 ≤ b ∧ b ≠ w1.heap.size by (have hb1 : wr.heap.size ≤ b := hb1; have h2 := HG.out; omega), fun e => by (have hb1 : wr.heap.size ≤ b := hb1; have h3 := (NO.out.lt b e).2; omega)⟩)) Z4.out)
      have V3 := Lib.hid (NV.out.later HB3.out)
      have V4 := Lib.hid (NV.out.later HB4.out)
      have R4 := Lib.hid (NR.out.later HB4.out)
      have T4 := Lib.hid (NT.out.later HB4.out)
      have B4 := Lib.hid (below_then NB.out HB4.out)
      have XN : Hid (Blk (w3.alloc (.cells #[.int .i64 x.kind, .int .i64 x.n, .slice A3 n3 c3, .slice A4 n4 c4] 38)) w3.heap.size 38 #[.int .i64 x.kind, .int .i64 x.n, .slice A3 n3 c3, .slice A4 n4 c4]) := Blk.new _ _ _
      obtain ⟨a0, a1, a2, a3⟩ := four V3.out
      obtain ⟨x0, x1, x2, x3⟩ := four XN.out
      have hg5 : w1.heap.size < G := by rw [HG.out]; exact Nat.lt_succ_self _
      have hnc := new_cells (w3.alloc (.cells #[.int .i64 x.kind, .int .i64 x.n, .slice A3 n3 c3, .slice A4 n4 c4] 38)) 38 (.int .i64 x.kind) (.int .i64 x.n) (.slice A3 n3 c3) (.slice A4 n4 c4)
      rw [World.size_alloc] at hnc
      have HNC := Lib.hid hnc
      clear hb hvp hnc
      go_wp2_with (at_builtin; refine wpList_append_va rfl _ _ rfl G vl (List.replicate k x) x _ _ _ _ rfl rfl (NO.out.kept HB4.out) HP4.out HNC.out HL.out ?_; intro v5 w5 hown5 hb5 _ _; obtain ⟨A5, q5, hv5⟩ := hown5.shape; rw [HL5.out] at hv5; subst hv5; have V5 := Lib.hid (V4.out.keep (hb5 _ (Nat.le_refl _)) hg5); have R5 := Lib.hid (R4.out.keep (hb5 _ (Nat.le_refl _)) (by omega)); have T5 := Lib.hid (T4.out.keep (hb5 _ (Nat.le_refl _)) (by omega)); obtain ⟨s0, s1, s2, s3⟩ := four V5.out; have sf := V5.out.free 3; have O5 := Lib.hid hown5; have B5 := Lib.hid (B4.out.trans ((hb5 _ (Nat.le_refl _)).mono (show w.heap.size ≤ G by omega))); clear hown5 hb5)
      go_wp2
      go_roundw
      case rel =>
        refine ⟨k + 1, _, by omega, by go_num, V5.out.set 3 _, R5.out.other (show w1.heap.size ≠ w.heap.size + 1 by omega) _, T5.out.other (show w1.heap.size ≠ w.heap.size by omega) _, ?_, B5.out.setCell (show w.heap.size ≤ w1.heap.size by omega) _⟩
        rw [← HS.out]
        show OwnV _ _ _ _ _
        exact O5.out.setLow (a := ⟨w1.heap.size, 3, none⟩) hg5 (fun b hb => hb.2) _
      case measure => simp [intOf]; omega
    · obtain rfl : k = l := by omega
      have d1 : decide ((k : Int) < (k : Int)) = false := by rw [decide_eq_false_iff_not]; omega
      obtain ⟨e0, e1, e2, e3⟩ := four NV.out
      obtain ⟨rc_0, rc_1, rc_2, rc_3⟩ := four NR.out
      have rf_0 := NR.out.free 0
      have rf_1 := NR.out.free 1
      have rf_2 := NR.out.free 2
      have rf_3 := NR.out.free 3
      obtain ⟨A6, q6, hv6⟩ := NO.out.shape
      rw [List.length_replicate] at hv6
      subst hv6
      go_wp2
      refine bodyPost_ret (by simp [results, Tryz.results23, go_sem, rc_0, rc_1, rc_2, rc_3]; try rfl) rfl ?_
      have hg := HG.out
      exact ⟨_, _, _, _, _, _, rfl, VaP.mono (VaP.set4 (S := fun b => w.heap.size ≤ b ∧ b ≠ w.heap.size + 1) (vaP_iff.2 ⟨_, _, rfl, bitP_nil _, NO.out.vas (fun b hb _ => show w.heap.size ≤ b ∧ b ≠ w.heap.size + 1 by omega) (fun b hb _ => show w.heap.size ≤ b ∧ b ≠ w.heap.size + 1 by omega)⟩) (fun b hb => hb.2) _ _ _ _) (fun b hb _ => hb.1), set4_below NB.out hs _ _ _ _⟩
end Go.Proofs.YtgcnckkpfeffnaaGreatDoor
