/- The contract of the reference's written. -/
import Derived.Test.YtdiagnhdigakpaaGreatDoorKi
import Derived.Test.YtdiagnhdigakpaaGreatDoorDc
import Derived.Test.YtdiagnhdigakpaaGreatDoorKh
import Derived.Deep.RegionWith
namespace Go.Proofs.YtdiagnhdigakpaaGreatDoor
open Go.RowKit

theorem join_snoc (x : List UInt8) : ∀ xs : List (List UInt8), [44].intercalate (xs ++ [x]) = if xs = [] then x else [44].intercalate xs ++ 44 :: x
  | [] => by simp
  | [y] => by simp
  | y :: z :: r => by
    have ih := join_snoc x (z :: r)
    rw [if_neg (by simp)] at ih ⊢
    rw [List.cons_append, List.cons_append, join_two, ← List.cons_append, ih, join_two]
    simp
theorem txt_zero {zs : List Nat} (h1 : 1 ≤ zs.length) (h2 : zs.length ≤ 64) (h3 : ∀ z ∈ zs, z ≤ 3) : Lg.txtE zs = 0 := by
  have hv : Lg.isV zs = true := by
    unfold Lg.isV
    simp only [Bool.and_eq_true, decide_eq_true_eq]
    refine ⟨⟨h1, h2⟩, ?_⟩
    unfold Lg.bitsB
    rw [List.all_eq_true]
    intro z hz
    rw [decide_eq_true_eq]
    exact h3 z hz
  unfold Lg.txtE
  rw [if_pos hv]
set_option maxRecDepth 100000 in
set_option maxHeartbeats 8000000 in
theorem rwri_bit (l n k : Int) (nm : ByteArray) (v3 v4 u4 : Value) (A : Option Addr) (m c : Nat) (bs : List Nat) (hb : bs.length ≤ 64) (w : World)
    (HL : Hid (∀ u, Below w.heap.size w u → Calls Tryz.prog 117 #[.slice A m c] u fun e w' => e = .returned (.tuple #[.string (sb (lettersL bs)), .int .i64 (0 : Nat)]) ∧ Below u.heap.size u w')) :
    Calls Tryz.prog 79 #[.agg #[.int .i64 1, .int .i64 l, .string nm, v3, v4], .agg #[.int .i64 k, .int .i64 n, .slice A m c, u4]] w (WriPost (39 :: (lettersL bs ++ [39])) w) := by
  have H2 := Lib.hid (boxes2 w 26 38 #[.int .i64 1, .int .i64 l, .string nm, v3, v4] #[.int .i64 k, .int .i64 n, .slice A m c, u4])
  have B0 := Lib.hid H2.out.2.2.1
  have T0 := Lib.hid H2.out.1
  have V0 := Lib.hid H2.out.2.1
  clear H2
  unfold WriPost
  have hz := letters_size hb
  have HR : Hid ((⟨#[39]⟩ : ByteArray) ++ sb (lettersL bs) ++ ⟨#[39]⟩ = sb (39 :: (lettersL bs ++ [39]))) := by
    show _ = _
    apply bl_inj
    rw [bl_append, bl_append, bl_sb, bl_sb]
    rfl
  have hz1 : (⟨#[39]⟩ : ByteArray).size = 1 := rfl
  have hz2 : (⟨#[39]⟩ : ByteArray).size = 1 := rfl
  generalize sb (lettersL bs) = x at *
  clear hb
  go_enter Tryz.func79, Tryz.ntmps79
  obtain ⟨tc_0, tc_1, tc_2, tc_3, tc_4⟩ := fives T0.out
  obtain ⟨vc_0, vc_1, vc_2, vc_3⟩ := four V0.out
  go_wp2_with fail
  refine (HL.out _ B0.out).mono ?_
  rintro e w1 ⟨rfl, hb⟩
  have B1 := Lib.hid (below_then B0.out hb)
  clear hb
  clear tc_0 tc_1 tc_2 tc_3 tc_4 vc_0 vc_1 vc_2 vc_3
  go_wp2
  go_ret
  exact ⟨by rw [← HR.out]; rfl, B1.out⟩
set_option maxRecDepth 100000 in
set_option maxHeartbeats 8000000 in
theorem rwri_vec (l n k : Int) (nm : ByteArray) (v3 v4 u4 : Value) (A : Option Addr) (m c : Nat) (bs : List Nat) (hb : bs.length ≤ 64) (w : World)
    (HL : Hid (∀ u, Below w.heap.size w u → Calls Tryz.prog 117 #[.slice A m c] u fun e w' => e = .returned (.tuple #[.string (sb (lettersL bs)), .int .i64 (0 : Nat)]) ∧ Below u.heap.size u w')) :
    Calls Tryz.prog 79 #[.agg #[.int .i64 4, .int .i64 l, .string nm, v3, v4], .agg #[.int .i64 k, .int .i64 n, .slice A m c, u4]] w (WriPost (98 :: 34 :: (lettersL bs ++ [34])) w) := by
  have H2 := Lib.hid (boxes2 w 26 38 #[.int .i64 4, .int .i64 l, .string nm, v3, v4] #[.int .i64 k, .int .i64 n, .slice A m c, u4])
  have B0 := Lib.hid H2.out.2.2.1
  have T0 := Lib.hid H2.out.1
  have V0 := Lib.hid H2.out.2.1
  clear H2
  unfold WriPost
  have hz := letters_size hb
  have HR : Hid ((⟨#[98, 34]⟩ : ByteArray) ++ sb (lettersL bs) ++ ⟨#[34]⟩ = sb (98 :: 34 :: (lettersL bs ++ [34]))) := by
    show _ = _
    apply bl_inj
    rw [bl_append, bl_append, bl_sb, bl_sb]
    rfl
  have hz1 : (⟨#[98, 34]⟩ : ByteArray).size = 2 := rfl
  have hz2 : (⟨#[34]⟩ : ByteArray).size = 1 := rfl
  generalize sb (lettersL bs) = x at *
  clear hb
  go_enter Tryz.func79, Tryz.ntmps79
  obtain ⟨tc_0, tc_1, tc_2, tc_3, tc_4⟩ := fives T0.out
  obtain ⟨vc_0, vc_1, vc_2, vc_3⟩ := four V0.out
  go_wp2_with fail
  refine (HL.out _ B0.out).mono ?_
  rintro e w1 ⟨rfl, hb⟩
  have B1 := Lib.hid (below_then B0.out hb)
  clear hb
  clear tc_0 tc_1 tc_2 tc_3 tc_4 vc_0 vc_1 vc_2 vc_3
  go_wp2
  go_ret
  exact ⟨by rw [← HR.out]; rfl, B1.out⟩
set_option maxRecDepth 100000 in
set_option maxHeartbeats 8000000 in
theorem rwri_true (l k : Int) (nm : ByteArray) (v3 v4 u3 u4 : Value) (w : World) :
    Calls Tryz.prog 79 #[.agg #[.int .i64 2, .int .i64 l, .string nm, v3, v4], .agg #[.int .i64 k, .int .i64 1, u3, u4]] w (WriPost trueL w) := by
  have H2 := Lib.hid (boxes2 w 26 38 #[.int .i64 2, .int .i64 l, .string nm, v3, v4] #[.int .i64 k, .int .i64 1, u3, u4])
  have B0 := Lib.hid H2.out.2.2.1
  have T0 := Lib.hid H2.out.1
  have V0 := Lib.hid H2.out.2.1
  clear H2
  unfold WriPost
  go_enter Tryz.func79, Tryz.ntmps79
  obtain ⟨tc_0, tc_1, tc_2, tc_3, tc_4⟩ := fives T0.out
  obtain ⟨vc_0, vc_1, vc_2, vc_3⟩ := four V0.out
  have Y := Lib.hid (below_alloc ((w.alloc (.cells #[.int .i64 2, .int .i64 l, .string nm, v3, v4] 26)).alloc (.cells #[.int .i64 k, .int .i64 1, u3, u4] 38)) (.cells #[.string ⟨#[102, 97, 108, 115, 101]⟩, .string ⟨#[116, 114, 117, 101]⟩] 9))
  have V1 := Lib.hid (V0.out.later Y.out)
  obtain ⟨vd_0, vd_1, vd_2, vd_3⟩ := four V1.out
  have N1 := Blk.new ((w.alloc (.cells #[.int .i64 2, .int .i64 l, .string nm, v3, v4] 26)).alloc (.cells #[.int .i64 k, .int .i64 1, u3, u4] 38)) 9 #[.string ⟨#[102, 97, 108, 115, 101]⟩, .string ⟨#[116, 114, 117, 101]⟩]
  have n0 := N1.cell 0
  have n1 := N1.cell 1
  clear N1
  go_wp2
  go_ret
  exact ⟨rfl, below_then B0.out Y.out⟩
set_option maxRecDepth 100000 in
set_option maxHeartbeats 8000000 in
theorem rwri_false (l k : Int) (nm : ByteArray) (v3 v4 u3 u4 : Value) (w : World) :
    Calls Tryz.prog 79 #[.agg #[.int .i64 2, .int .i64 l, .string nm, v3, v4], .agg #[.int .i64 k, .int .i64 0, u3, u4]] w (WriPost falseL w) := by
  have H2 := Lib.hid (boxes2 w 26 38 #[.int .i64 2, .int .i64 l, .string nm, v3, v4] #[.int .i64 k, .int .i64 0, u3, u4])
  have B0 := Lib.hid H2.out.2.2.1
  have T0 := Lib.hid H2.out.1
  have V0 := Lib.hid H2.out.2.1
  clear H2
  unfold WriPost
  go_enter Tryz.func79, Tryz.ntmps79
  obtain ⟨tc_0, tc_1, tc_2, tc_3, tc_4⟩ := fives T0.out
  obtain ⟨vc_0, vc_1, vc_2, vc_3⟩ := four V0.out
  have Y := Lib.hid (below_alloc ((w.alloc (.cells #[.int .i64 2, .int .i64 l, .string nm, v3, v4] 26)).alloc (.cells #[.int .i64 k, .int .i64 0, u3, u4] 38)) (.cells #[.string ⟨#[102, 97, 108, 115, 101]⟩, .string ⟨#[116, 114, 117, 101]⟩] 9))
  have V1 := Lib.hid (V0.out.later Y.out)
  obtain ⟨vd_0, vd_1, vd_2, vd_3⟩ := four V1.out
  have N1 := Blk.new ((w.alloc (.cells #[.int .i64 2, .int .i64 l, .string nm, v3, v4] 26)).alloc (.cells #[.int .i64 k, .int .i64 0, u3, u4] 38)) 9 #[.string ⟨#[102, 97, 108, 115, 101]⟩, .string ⟨#[116, 114, 117, 101]⟩]
  have n0 := N1.cell 0
  have n1 := N1.cell 1
  clear N1
  go_wp2
  go_ret
  exact ⟨rfl, below_then B0.out Y.out⟩
set_option maxRecDepth 100000 in
set_option maxHeartbeats 8000000 in
theorem rwri_enum (l k : Int) (nm s : ByteArray) (v4 u3 u4 : Value) (b off m c i : Nat) (hi : i < m) (w : World) (hc : w.cell? ⟨b, off + i, none⟩ = some (.string s)) :
    Calls Tryz.prog 79 #[.agg #[.int .i64 5, .int .i64 l, .string nm, .slice (some ⟨b, off, none⟩) m c, v4], .agg #[.int .i64 k, .int .i64 (i : Nat), u3, u4]] w (WriPost (bl s) w) := by
  have H2 := Lib.hid (boxes2 w 26 38 #[.int .i64 5, .int .i64 l, .string nm, .slice (some ⟨b, off, none⟩) m c, v4] #[.int .i64 k, .int .i64 (i : Nat), u3, u4])
  have B0 := Lib.hid H2.out.2.2.1
  have T0 := Lib.hid H2.out.1
  have V0 := Lib.hid H2.out.2.1
  clear H2
  unfold WriPost
  have g := cell_stays B0.out hc
  have hi0 : (0 : Int) ≤ (i : Int) := by omega
  have hi1 : (i : Int) < (m : Int) := by omega
  clear hc
  rw [sb_bl]
  go_enter Tryz.func79, Tryz.ntmps79
  obtain ⟨tc_0, tc_1, tc_2, tc_3, tc_4⟩ := fives T0.out
  obtain ⟨vc_0, vc_1, vc_2, vc_3⟩ := four V0.out
  go_wp2
  go_ret
  exact ⟨rfl, B0.out⟩
set_option maxRecDepth 100000 in
set_option maxHeartbeats 8000000 in
theorem rwri_pos (l k : Int) (nm : ByteArray) (v3 v4 u3 u4 : Value) (n : Nat) (h2 : n ≤ 2147483648) (w : World) :
    Calls Tryz.prog 79 #[.agg #[.int .i64 3, .int .i64 l, .string nm, v3, v4], .agg #[.int .i64 k, .int .i64 (n : Nat), u3, u4]] w (WriPost (decL n) w) := by
  have H2 := Lib.hid (boxes2 w 26 38 #[.int .i64 3, .int .i64 l, .string nm, v3, v4] #[.int .i64 k, .int .i64 (n : Nat), u3, u4])
  have B0 := Lib.hid H2.out.2.2.1
  have T0 := Lib.hid H2.out.1
  have V0 := Lib.hid H2.out.2.1
  clear H2
  unfold WriPost
  have HD := Lib.hid (decimal_any n (by omega) ((w.alloc (.cells #[.int .i64 3, .int .i64 l, .string nm, v3, v4] 26)).alloc (.cells #[.int .i64 k, .int .i64 (n : Nat), u3, u4] 38)))
  have d1 : decide ((n : Int) < 0) = false := by rw [decide_eq_false_iff_not]; omega
  generalize sb (decL n) = x at *
  go_enter Tryz.func79, Tryz.ntmps79
  obtain ⟨tc_0, tc_1, tc_2, tc_3, tc_4⟩ := fives T0.out
  obtain ⟨vc_0, vc_1, vc_2, vc_3⟩ := four V0.out
  go_wp2_with fail
  refine (HD.out).mono ?_
  rintro e w1 ⟨rfl, hb⟩
  have B1 := Lib.hid (below_then B0.out hb)
  clear hb
  clear tc_0 tc_1 tc_2 tc_3 tc_4 vc_0 vc_1 vc_2 vc_3
  go_wp2
  go_ret
  exact ⟨rfl, B1.out⟩
set_option maxRecDepth 100000 in
set_option maxHeartbeats 8000000 in
theorem rwri_neg (l k : Int) (nm : ByteArray) (v3 v4 u3 u4 : Value) (n : Nat) (z : Int) (hz9 : z = -(n : Int)) (h1 : 1 ≤ n) (h2 : n ≤ 2147483648) (w : World) :
    Calls Tryz.prog 79 #[.agg #[.int .i64 3, .int .i64 l, .string nm, v3, v4], .agg #[.int .i64 k, .int .i64 z, u3, u4]] w (WriPost (45 :: decL n) w) := by
  have H2 := Lib.hid (boxes2 w 26 38 #[.int .i64 3, .int .i64 l, .string nm, v3, v4] #[.int .i64 k, .int .i64 z, u3, u4])
  have B0 := Lib.hid H2.out.2.2.1
  have T0 := Lib.hid H2.out.1
  have V0 := Lib.hid H2.out.2.1
  clear H2
  unfold WriPost
  have HD := Lib.hid (decimal_any n (by omega) ((w.alloc (.cells #[.int .i64 3, .int .i64 l, .string nm, v3, v4] 26)).alloc (.cells #[.int .i64 k, .int .i64 z, u3, u4] 38)))
  have d1 : decide (z < 0) = true := by rw [decide_eq_true_eq]; omega
  have e1 : -z = (n : Int) := by omega
  have e2 : -2147483648 ≤ z := by omega
  have e3 : z < 0 := by omega
  have HR : Hid ((⟨#[45]⟩ : ByteArray) ++ sb (decL n) = sb (45 :: decL n)) := by
    show _ = _
    apply bl_inj
    rw [bl_append, bl_sb, bl_sb]
    rfl
  have hz : (sb (decL n)).size ≤ 1000 := by rw [sb_size]; have := dec_len (k := 10) (n := n) (by omega) (by omega); omega
  have hz1 : (⟨#[45]⟩ : ByteArray).size = 1 := rfl
  have hn9 : (n : Int) ≤ 2147483648 := by omega
  generalize sb (decL n) = x at *
  clear h1 hz9
  go_enter Tryz.func79, Tryz.ntmps79
  obtain ⟨tc_0, tc_1, tc_2, tc_3, tc_4⟩ := fives T0.out
  obtain ⟨vc_0, vc_1, vc_2, vc_3⟩ := four V0.out
  go_wp2_with fail
  refine (HD.out).mono ?_
  rintro e w1 ⟨rfl, hb⟩
  have B1 := Lib.hid (below_then B0.out hb)
  clear hb
  clear tc_0 tc_1 tc_2 tc_3 tc_4 vc_0 vc_1 vc_2 vc_3
  go_wp2
  go_ret
  exact ⟨by rw [← HR.out]; rfl, B1.out⟩
set_option maxRecDepth 100000 in
set_option maxHeartbeats 8000000 in
theorem rwri_arr (l n : Int) (nm : ByteArray) (v3 u3 : Value) (b off d q b' o' : Nat) (D : Option Addr) (k1 l1 : Int) (nm1 : ByteArray) (A1 A2 : Option Addr) (n1 c1 n2 c2 : Nat) (ls : List Va) (xs : List (List UInt8)) (h64 : ls.length ≤ 64) (hxn : xs.length = ls.length) (hxl : ∀ (k : Nat) (h : k < ls.length), (xs[k]'(by omega)).length ≤ 1000) (w : World)
    (h5 : Hid (Ty5 w b off k1 l1 nm1 (.slice A1 n1 c1) (.slice A2 n2 c2))) (HD : Hid (ls.length = 0 ∨ D = some ⟨b', o', none⟩)) (HV : Hid (VaAt w ls b' o' ∨ ls.length = 0))
    (HS : Hid (∀ (k : Nat) (hk : k < ls.length) (u : World) (cs : List Value), Below w.heap.size w u → VaC u ls[k] cs → Calls Tryz.prog 79 #[.agg #[.int .i64 k1, .int .i64 l1, .string nm1, .slice A1 n1 c1, .slice A2 n2 c2], .agg cs.toArray] u (WriPost (xs[k]'(by omega)) u))) :
    Calls Tryz.prog 79 #[.agg #[.int .i64 6, .int .i64 l, .string nm, v3, .slice (some ⟨b, off, none⟩) 1 d], .agg #[.int .i64 6, .int .i64 n, u3, .slice D ls.length q]] w (WriPost (91 :: ([44].intercalate xs ++ [93])) w) := by
  have H2 := Lib.hid (boxes2 w 26 38 #[.int .i64 6, .int .i64 l, .string nm, v3, .slice (some ⟨b, off, none⟩) 1 d] #[.int .i64 6, .int .i64 n, u3, .slice D ls.length q])
  have B0 := Lib.hid H2.out.2.2.1
  have T0 := Lib.hid H2.out.1
  have V0 := Lib.hid H2.out.2.1
  clear H2
  unfold WriPost
  go_enter Tryz.func79, Tryz.ntmps79
  obtain ⟨tc_0, tc_1, tc_2, tc_3, tc_4⟩ := fives T0.out
  obtain ⟨vc_0, vc_1, vc_2, vc_3⟩ := four V0.out
  go_wp2_with fail
  clear tc_0 tc_1 tc_2 tc_3 tc_4 vc_0 vc_1 vc_2 vc_3
  go_loopw [9, 67] (fun s i wr => ∃ k : Nat, k ≤ ls.length ∧ i = .int .i64 k ∧ (∃ x : ByteArray, s = .string x ∧ Hid (x = sb (91 :: [44].intercalate (xs.take k))) ∧ x.size ≤ 1 + 1001 * k) ∧ Hid (Blk wr w.heap.size 26 #[.int .i64 6, .int .i64 l, .string nm, v3, .slice (some ⟨b, off, none⟩) 1 d]) ∧ Hid (Below w.heap.size w wr)) (fun _ i _ => ls.length - (intOf i).toNat)
  case atStart => exact ⟨0, Nat.zero_le _, rfl, ⟨_, rfl, (by show _ = _; rfl), (by decide)⟩, T0, B0⟩
  case round =>
    obtain ⟨k, hk, rfl, ⟨x, rfl, HX0, hxs⟩, NT, NB⟩ := hrel
    clear B0 T0 V0
    by_cases hlt : k < ls.length
    · have hD : D = some ⟨b', o', none⟩ := HD.out.resolve_left (by omega)
      subst hD
      obtain ⟨kk2, nn2, A9, m9, c9, A8, m8, c8, hva, g0, g1, g2, g3⟩ := row_at ls o' (HV.out.resolve_right (by omega)) k hlt
      replace g0 := cell_stays NB.out g0
      replace g1 := cell_stays NB.out g1
      replace g2 := cell_stays NB.out g2
      replace g3 := cell_stays NB.out g3
      have hbb := below_alloc wr (.cells #[.int .i64 kk2, .int .i64 nn2, .slice A9 m9 c9, .slice A8 m8 c8] 38)
      have BB := Lib.hid (below_drewN (below_then NB.out hbb) 1)
      have TT := Lib.hid (NT.out.later (below_drewN hbb 1))
      have TA := Lib.hid (NT.out.later hbb)
      obtain ⟨ec_0, ec_1, ec_2, ec_3, ec_4⟩ := h5.out.later (below_then NB.out hbb)
      obtain ⟨p0, p1, p2, p3, p4⟩ := fives TA.out
      obtain ⟨q0, q1, q2, q3⟩ := four (Blk.new wr 38 #[.int .i64 kk2, .int .i64 nn2, .slice A9 m9 c9, .slice A8 m8 c8])
      have HX := Lib.hid (HS.out k hlt ((wr.alloc (.cells #[.int .i64 kk2, .int .i64 nn2, .slice A9 m9 c9, .slice A8 m8 c8] 38)).drewN 1) _ BB.out (VaC.later BB.out _ _ hva))
      unfold WriPost at HX
      have hy := hxl k hlt
      have HJ := Lib.hid (join_snoc xs[k] (xs.take k))
      have HTk := Lib.hid (List.take_succ_eq_append_getElem (show k < xs.length by omega))
      obtain ⟨y, hye⟩ : ∃ y, y = sb xs[k] := ⟨_, rfl⟩
      rw [← hye] at HX
      have HY := Lib.hid hye
      have hys : y.size ≤ 1000 := by rw [hye, sb_size]; exact hy
      clear hye hy
      have hc1 : (⟨#[44]⟩ : ByteArray).size = 1 := rfl
      have hks : 1001 * k ≤ 100000 := by omega
      have d1 : decide ((k : Int) < (ls.length : Int)) = true := by rw [decide_eq_true_eq]; omega
      have d2 : decide (k < ls.length) = true := by rw [decide_eq_true_eq]; omega
      have hki : (k : Int) < (ls.length : Int) := by omega
      have hk0 : (0 : Int) ≤ (k : Int) := by omega
      clear hva hbb
      by_cases h0 : k = 0
      · have HK0 := Lib.hid h0
        have HT0 := Lib.hid (show xs.take k = [] by rw [h0]; rfl)
        clear h0
        go_wp2_with fail
        all_goals first | (exfalso; have h9 := HK0.out; omega) | skip
        go_region_with (go_at_call 79; refine (HX.out).mono ?_; rintro e w3 ⟨rfl, hb3⟩; have B3 := Lib.hid (below_then BB.out hb3); have T3 := Lib.hid (TT.out.later hb3); clear hb3)
        all_goals
          go_wp2
          go_roundw
          case rel => exact ⟨k + 1, by omega, by go_num, ⟨_, rfl, (by show _ = _; rw [HX0.out, HY.out, HTk.out, HJ.out, if_pos HT0.out, HT0.out, sb_add]; rfl), by simp only [ByteArray.size_append]; omega⟩, T3, B3⟩
          case measure => simp [intOf]; omega
      · have d3 : decide ((k : Int) > 0) = true := by rw [decide_eq_true_eq]; omega
        have d4 : decide ((0 : Int) < (k : Int)) = true := by rw [decide_eq_true_eq]; omega
        go_wp2_with fail
        go_region_with (go_at_call 79; refine (HX.out).mono ?_; rintro e w3 ⟨rfl, hb3⟩; have B3 := Lib.hid (below_then BB.out hb3); have T3 := Lib.hid (TT.out.later hb3); clear hb3)
        all_goals
          go_wp2
          go_roundw
          case rel => exact ⟨k + 1, by omega, by go_num, ⟨_, rfl, (by show _ = _; rw [HX0.out, HY.out, HTk.out, HJ.out, if_neg (by intro h9; have := congrArg List.length h9; rw [List.length_take, List.length_nil] at this; omega), show (⟨#[44]⟩ : ByteArray) = sb [44] from rfl, sb_add, sb_add]; simp), by simp only [ByteArray.size_append]; omega⟩, T3, B3⟩
          case measure => simp [intOf]; omega
    · obtain rfl : k = ls.length := by omega
      have d1 : decide ((ls.length : Int) < (ls.length : Int)) = false := by rw [decide_eq_false_iff_not]; omega
      have d2 : decide (ls.length < ls.length) = false := by rw [decide_eq_false_iff_not]; omega
      have hc1 : (⟨#[93]⟩ : ByteArray).size = 1 := rfl
      have hks : 1001 * ls.length ≤ 100000 := by omega
      go_wp2
      go_ret
      exact ⟨by rw [HX0.out, ← hxn, List.take_length, show (⟨#[93]⟩ : ByteArray) = sb [93] from rfl, sb_add]; rfl, NB.out⟩
theorem rwritten_flat {t : Ty} {v : Va} {w : World} {cs c1 : List Value} (ht : Flat isNameL t) (hv : HasF t v) (h : TyC w t cs) (h1 : VaC w v c1) :
    Calls Tryz.prog 79 #[.agg cs.toArray, .agg c1.toArray] w (WriPost (textV t v) w) := by
  obtain ⟨A, n, c, B, m, d, rfl, hn, -, hs, -⟩ := tyC_open h
  obtain ⟨C, x, p, D, y, q, rfl, hx, -, hb, -⟩ := vaC_open h1
  have key : ∀ (bs : List Nat), 1 ≤ bs.length → bs.length ≤ 64 → (∀ b ∈ bs, b ≤ 3) → BitS w (.slice C x p) bs → ∀ u, Below w.heap.size w u → Calls Tryz.prog 117 #[.slice C x p] u fun e w' => e = .returned (.tuple #[.string (sb (lettersL bs)), .int .i64 (0 : Nat)]) ∧ Below u.heap.size u w' := by
    intro bs g1 g2 g3 g4 u hu
    have := Lg.refText_any _ bs u (bitS_sl (g4.later hu) (by omega))
    rw [txt_letters g1 g2 g3, txt_zero g1 g2 g3] at this
    exact this.mono fun _ _ ⟨e1, e2⟩ => ⟨e1, e2 ▸ Below.refl _ _⟩
  cases ht with
  | sc k hk =>
    rcases hk with rfl | rfl | rfl
    · cases hv with
      | bit _ _ _ _ z hz =>
      rw [textV_bit]
      exact rwri_bit 0 0 1 noName _ _ _ C x p [z] (by simp) w (key [z] (by simp) (by simp) (by simpa using hz) hb)
    · cases hv with
      | bool _ _ _ _ z hz =>
      rw [textV_bool]
      rcases hz with rfl | rfl
      · exact rwri_false 0 2 noName _ _ _ _ w
      · exact rwri_true 0 2 noName _ _ _ _ w
    · cases hv with
      | int _ _ _ _ z g1 g2 =>
      rw [textV_int]
      rcases ito_cases z with ⟨k, rfl, h⟩ | ⟨k, hk, rfl, h⟩
      · rw [h]; exact rwri_pos 0 3 noName _ _ _ _ k (by omega) w
      · rw [h]; exact rwri_neg 0 3 noName _ _ _ _ k _ rfl hk (by omega) w
  | vec l h1 h2 =>
    cases hv with
    | vec _ _ _ _ bs hl hb3 =>
    rw [textV_vec]
    exact rwri_vec (l : Int) 0 4 noName _ _ _ C x p bs (by omega) w (key bs (by omega) (by omega) hb3 hb)
  | en nm ns hp hns =>
    cases hv with
    | en _ _ _ _ i hi =>
    rw [textV_enum]
    obtain ⟨A', c', e', hc1, hc2, hc⟩ := hs
    injection e' with e1 e2 e3
    subst e1
    subst e2
    subst e3
    rcases hc with hc | ⟨b, off, rfl, hc⟩
    · have hc : ns = [] := hc
      rw [hc] at hi
      exact absurd hi (Nat.not_lt_zero _)
    have hi' : i < ns.length := hi
    have hg : ns.getD (i : Int).toNat noName = ns[i] := by
      rw [Int.toNat_natCast, List.getD_eq_getElem?_getD, List.getElem?_eq_getElem hi']
      rfl
    rw [hg]
    exact rwri_enum 0 5 nm ns[i] _ _ _ b off _ _ i hi' w (hc i hi')
theorem rwritten_any {t : Ty} {v : Va} {w : World} {cs c1 : List Value} (ht : Good isNameL t) (hsm : smT t) (hv : HasG t v) (h : TyC w t cs) (h1 : VaC w v c1) :
    Calls Tryz.prog 79 #[.agg cs.toArray, .agg c1.toArray] w (WriPost (textV t v) w) := by
  cases ht with
  | flat t ht =>
    cases hv with
    | flat _ _ hv => exact rwritten_flat ht hv h h1
    | arr l nm ns e ls hl hv => exact absurd rfl (flat_kind ht).1
  | arr l e g1 g2 he =>
    cases hv with
    | flat _ _ hv => cases hv
    | arr _ _ _ _ ls hl hv =>
    have hse : smT e := ((smT_def _ _ _ _ _).1 hsm).2.2.2.2 e (by simp)
    obtain ⟨A, n, c, B, m, d, rfl, hn, rfl, hs, hT⟩ := tyC_open h
    rcases hT with hT | ⟨b, off, rfl, hT⟩
    · cases hT
    obtain ⟨A1, n1, c1, A2, n2, c2, k1, k5⟩ := one_open hT
    obtain ⟨C, x, p, D, y, q, rfl, hx, hy, hb, hyq, -, hL⟩ := vaC_open h1
    obtain ⟨b', o', hD, hV⟩ := va_rows hL
    obtain rfl : y = ls.length := hy
    rw [textV_arr]
    exact rwri_arr (l : Int) 0 noName _ _ b off d q b' o' D e.kind e.len e.name A1 A2 n1 c1 n2 c2 ls (ls.map fun v => textV e v) (by omega) (by rw [List.length_map]) (fun k hk => by rw [List.getElem_map]; exact flat_text_len he hse (hv _ (List.getElem_mem hk))) w k5 hD hV (fun k hk u cs hu hva => by
      rw [List.getElem_map]
      exact rwritten_flat (t := e) he (hv _ (List.getElem_mem hk)) (TyC.later hu _ _ k1) hva)
end Go.Proofs.YtdiagnhdigakpaaGreatDoor
