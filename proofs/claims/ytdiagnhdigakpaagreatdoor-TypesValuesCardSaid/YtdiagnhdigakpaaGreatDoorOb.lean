/- The contracts of Bits, of both sides. -/
import Derived.Test.YtdiagnhdigakpaaGreatDoorOa
import Derived.Test.YtdiagnhdigakpaaGreatDoorZd
import Derived.Test.YtdiagnhdigakpaaGreatDoorUx
namespace Go.Proofs.YtdiagnhdigakpaaGreatDoor
open Go.RowKit

theorem scalar_three {t : Ty} (ht : Flat isNameL t) (h : (scalarT t).kind ≠ 3) : t.kind ≠ 3 := by
  intro h3
  obtain ⟨k, l, nm, ns, es⟩ := t
  have h3 : k = 3 := h3
  rw [scalarT_mk _ _ _ _ _ (by omega) (by omega)] at h
  exact h h3
theorem rbits_good {t : Ty} {v : Va} (ht : Good isNameL t) (h3 : (scalarT t).kind ≠ 3) (hh : HasG t v) (hsm : smT t) {ct cs : List Value} {w : World} (hT : TyC w t ct) (hv : VaC w v cs) :
    Calls Tryz.prog 83 #[.agg ct.toArray, .agg cs.toArray] w (BitsPost (bitsV t v) w) := by
  cases ht with
  | flat t ht =>
    cases hh with
    | arr l nm ns e ls hl h => exact absurd rfl (flat_kind ht).1
    | flat _ _ hf => exact rbits_flat ht (scalar_three ht h3) hf hsm.nm hT hv
  | arr l e h1 h2 he =>
    cases hh with
    | flat _ _ hf => cases hf
    | arr _ _ _ _ ls hls hh =>
      have hse : smT e := ((smT_def _ _ _ _ _).1 hsm).2.2.2.2 e (by simp)
      obtain ⟨A, n, c, B, m, d, rfl, hn, rfl, hs, hTT⟩ := tyC_open hT
      rcases hTT with hTT | ⟨b, off, rfl, hTT⟩
      · cases hTT
      obtain ⟨A1, n1, m1, A2, n2, m2, k1, k5⟩ := one_open hTT
      obtain ⟨C, x, p, D, y, q, rfl, g1, g2, g3, g4, g5, g6⟩ := vaC_open hv
      obtain rfl : y = ls.length := g2
      obtain ⟨b', o', d1, d2⟩ := va_rows (ls := ls) g6
      rw [scalarT_arr] at h3
      rw [bitsV_arr]
      exact rbit_arr _ _ _ _ _ b off d q b' o' D e.kind e.len e.name A1 A2 n1 m1 n2 m2 ls (fun v => bitsV e v) (by omega) (fun x hx => flat_bits_len he (hh x hx)) w k5 d1 d2
        (fun k hk u cs hu hva => rbits_flat he (scalar_three he h3) (hh _ (List.getElem_mem hk)) hse.nm (TyC.later hu _ _ k1) hva)
set_option maxRecDepth 100000 in
set_option maxHeartbeats 8000000 in
theorem rbts_bad (k l k1 n1 : Int) (nm : ByteArray) (t3 t4 v5 v6 : Value) (w : World)
    (HH : Hid (∀ u, Below w.heap.size w u → Calls Tryz.prog 31 #[.agg #[.int .i64 k, .int .i64 l, .string nm, t3, t4], .agg #[.int .i64 k1, .int .i64 n1, v5, v6]] u fun e w' => e = .returned (.bool false) ∧ Below u.heap.size u w')) :
    Calls Tryz.prog 37 #[.agg #[.int .i64 k, .int .i64 l, .string nm, t3, t4], .agg #[.int .i64 k1, .int .i64 n1, v5, v6]] w (BitsPostE [] 2 w) := by
  have H2 := Lib.hid (boxes2 w 26 38 #[.int .i64 k, .int .i64 l, .string nm, t3, t4] #[.int .i64 k1, .int .i64 n1, v5, v6])
  have B0 := Lib.hid H2.out.2.2.1
  have T0 := Lib.hid H2.out.1
  have V0 := Lib.hid H2.out.2.1
  clear H2
  unfold BitsPostE
  go_enter Tryz.func37, Tryz.ntmps37
  obtain ⟨tc_0, tc_1, tc_2, tc_3, tc_4⟩ := fives T0.out
  obtain ⟨vc_0, vc_1, vc_2, vc_3⟩ := four V0.out
  go_wp2_with fail
  refine (HH.out _ B0.out).mono ?_
  rintro e w1 ⟨rfl, hb⟩
  have B1 := Lib.hid (below_then B0.out hb)
  have T1 := Lib.hid (T0.out.later hb)
  have V1 := Lib.hid (V0.out.later hb)
  clear hb
  clear tc_0 tc_1 tc_2 tc_3 tc_4 vc_0 vc_1 vc_2 vc_3
  go_wp2
  go_ret2
  exact ⟨_, rfl, Lg.sl_nil _, B1.out⟩
set_option maxRecDepth 100000 in
set_option maxHeartbeats 8000000 in
theorem rbts_int (k l k1 n1 : Int) (nm : ByteArray) (t3 t4 v5 v6 : Value) (wn : Nat) (w : World)
    (HH : Hid (∀ u, Below w.heap.size w u → Calls Tryz.prog 31 #[.agg #[.int .i64 k, .int .i64 l, .string nm, t3, t4], .agg #[.int .i64 k1, .int .i64 n1, v5, v6]] u fun e w' => e = .returned (.bool true) ∧ Below u.heap.size u w'))
    (HW : Hid (∀ u, Below w.heap.size w u → Calls Tryz.prog 26 #[.agg #[.int .i64 k, .int .i64 l, .string nm, t3, t4]] u fun e w' => e = .returned (.tuple #[.int .i64 (wn : Nat), .int .i64 (16 : Nat)]) ∧ Below u.heap.size u w')) :
    Calls Tryz.prog 37 #[.agg #[.int .i64 k, .int .i64 l, .string nm, t3, t4], .agg #[.int .i64 k1, .int .i64 n1, v5, v6]] w (BitsPostE [] 16 w) := by
  have H2 := Lib.hid (boxes2 w 26 38 #[.int .i64 k, .int .i64 l, .string nm, t3, t4] #[.int .i64 k1, .int .i64 n1, v5, v6])
  have B0 := Lib.hid H2.out.2.2.1
  have T0 := Lib.hid H2.out.1
  have V0 := Lib.hid H2.out.2.1
  clear H2
  unfold BitsPostE
  go_enter Tryz.func37, Tryz.ntmps37
  obtain ⟨tc_0, tc_1, tc_2, tc_3, tc_4⟩ := fives T0.out
  obtain ⟨vc_0, vc_1, vc_2, vc_3⟩ := four V0.out
  go_wp2_with fail
  refine (HH.out _ B0.out).mono ?_
  rintro e w1 ⟨rfl, hb⟩
  have B1 := Lib.hid (below_then B0.out hb)
  have T1 := Lib.hid (T0.out.later hb)
  have V1 := Lib.hid (V0.out.later hb)
  clear hb
  clear tc_0 tc_1 tc_2 tc_3 tc_4 vc_0 vc_1 vc_2 vc_3
  obtain ⟨tc_0, tc_1, tc_2, tc_3, tc_4⟩ := fives T1.out
  go_wp2_with fail
  refine (HW.out _ B1.out).mono ?_
  rintro e w2 ⟨rfl, hb⟩
  have B2 := Lib.hid (below_then B1.out hb)
  have T2 := Lib.hid (T1.out.later hb)
  have V2 := Lib.hid (V1.out.later hb)
  clear hb
  clear tc_0 tc_1 tc_2 tc_3 tc_4
  go_wp2
  go_ret2
  exact ⟨_, rfl, Lg.sl_nil _, B2.out⟩
set_option maxRecDepth 100000 in
set_option maxHeartbeats 8000000 in
theorem rbts_ok (k l k1 n1 : Int) (nm : ByteArray) (t3 t4 v5 v6 : Value) (wn : Nat) (bs : List Nat) (w : World)
    (HH : Hid (∀ u, Below w.heap.size w u → Calls Tryz.prog 31 #[.agg #[.int .i64 k, .int .i64 l, .string nm, t3, t4], .agg #[.int .i64 k1, .int .i64 n1, v5, v6]] u fun e w' => e = .returned (.bool true) ∧ Below u.heap.size u w'))
    (HW : Hid (∀ u, Below w.heap.size w u → Calls Tryz.prog 26 #[.agg #[.int .i64 k, .int .i64 l, .string nm, t3, t4]] u fun e w' => e = .returned (.tuple #[.int .i64 (wn : Nat), .int .i64 (0 : Nat)]) ∧ Below u.heap.size u w'))
    (HB : Hid (∀ u, Below w.heap.size w u → Calls Tryz.prog 83 #[.agg #[.int .i64 k, .int .i64 l, .string nm, t3, t4], .agg #[.int .i64 k1, .int .i64 n1, v5, v6]] u (BitsPost bs u))) :
    Calls Tryz.prog 37 #[.agg #[.int .i64 k, .int .i64 l, .string nm, t3, t4], .agg #[.int .i64 k1, .int .i64 n1, v5, v6]] w (BitsPostE bs 0 w) := by
  have H2 := Lib.hid (boxes2 w 26 38 #[.int .i64 k, .int .i64 l, .string nm, t3, t4] #[.int .i64 k1, .int .i64 n1, v5, v6])
  have B0 := Lib.hid H2.out.2.2.1
  have T0 := Lib.hid H2.out.1
  have V0 := Lib.hid H2.out.2.1
  clear H2
  unfold BitsPostE
  unfold BitsPost at HB
  go_enter Tryz.func37, Tryz.ntmps37
  obtain ⟨tc_0, tc_1, tc_2, tc_3, tc_4⟩ := fives T0.out
  obtain ⟨vc_0, vc_1, vc_2, vc_3⟩ := four V0.out
  go_wp2_with fail
  refine (HH.out _ B0.out).mono ?_
  rintro e w1 ⟨rfl, hb⟩
  have B1 := Lib.hid (below_then B0.out hb)
  have T1 := Lib.hid (T0.out.later hb)
  have V1 := Lib.hid (V0.out.later hb)
  clear hb
  clear tc_0 tc_1 tc_2 tc_3 tc_4 vc_0 vc_1 vc_2 vc_3
  obtain ⟨tc_0, tc_1, tc_2, tc_3, tc_4⟩ := fives T1.out
  go_wp2_with fail
  refine (HW.out _ B1.out).mono ?_
  rintro e w2 ⟨rfl, hb⟩
  have B2 := Lib.hid (below_then B1.out hb)
  have T2 := Lib.hid (T1.out.later hb)
  have V2 := Lib.hid (V1.out.later hb)
  clear hb
  clear tc_0 tc_1 tc_2 tc_3 tc_4
  obtain ⟨tc_0, tc_1, tc_2, tc_3, tc_4⟩ := fives T2.out
  obtain ⟨vc_0, vc_1, vc_2, vc_3⟩ := four V2.out
  go_wp2_with fail
  refine (HB.out _ B2.out).mono ?_
  rintro e w3 ⟨u, rfl, hsl, hb⟩
  have B3 := Lib.hid (below_then B2.out hb)
  have S3 := Lib.hid hsl
  clear hb hsl tc_0 tc_1 tc_2 tc_3 tc_4 vc_0 vc_1 vc_2 vc_3
  go_wp2
  go_ret2
  exact ⟨_, rfl, S3.out, B3.out⟩
set_option maxRecDepth 100000 in
set_option maxHeartbeats 8000000 in
theorem scalarBits_1 (n : Int) (v2 u4 : Value) (wd : Nat) (bs : List Nat) (hbs : bs.length ≤ 100000) (w : World) (hv : Hid (BitS w v2 bs)) :
    Calls Tryz.prog 82 #[.agg #[.int .i64 1, .int .i64 n, v2, u4], .int .i64 (wd : Nat)] w (BitsPost bs w) := by
  have B0 := Lib.hid (below_alloc w (.cells #[.int .i64 1, .int .i64 n, v2, u4] 38))
  have V0 := Lib.hid (box1 w 38 #[.int .i64 1, .int .i64 n, v2, u4])
  unfold BitsPost
  go_enter Tryz.func82, Tryz.ntmps82
  obtain ⟨vc_0, vc_1, vc_2, vc_3⟩ := four V0.out
  go_wp2
  go_ret
  exact ⟨_, rfl, bitS_sl (hv.out.later B0.out) (by omega), B0.out⟩
set_option maxRecDepth 100000 in
set_option maxHeartbeats 8000000 in
theorem scalarBits_n (k n : Int) (hk : (k == 1) = false) (v2 u4 : Value) (wd : Nat) (w : World) :
    Calls Tryz.prog 82 #[.agg #[.int .i64 k, .int .i64 n, v2, u4], .int .i64 (wd : Nat)] w (BitsPost (Lg.ofV n wd) w) := by
  have B0 := Lib.hid (below_alloc w (.cells #[.int .i64 k, .int .i64 n, v2, u4] 38))
  have V0 := Lib.hid (box1 w 38 #[.int .i64 k, .int .i64 n, v2, u4])
  have HO := Lib.hid (fun (u : World) => Lg.vof_any n wd u)
  unfold BitsPost
  go_enter Tryz.func82, Tryz.ntmps82
  obtain ⟨vc_0, vc_1, vc_2, vc_3⟩ := four V0.out
  go_wp2_with fail
  refine (HO.out _).mono ?_
  rintro e w2 ⟨u, rfl, hsl, hb⟩
  have B2 := Lib.hid (below_then B0.out hb)
  have S2 := Lib.hid hsl
  clear hb hsl vc_0 vc_1 vc_2 vc_3
  go_wp2
  go_ret
  exact ⟨_, rfl, S2.out, B2.out⟩
theorem scalarBits_any (x : Va) (cs : List Value) (wd : Nat) (hb : x.bits.length ≤ 64) (w : World) (hx : VaC w x cs) :
    Calls Tryz.prog 82 #[.agg cs.toArray, .int .i64 (wd : Nat)] w (BitsPost (scBits wd x) w) := by
  obtain ⟨C, y, p, D, z, q, rfl, _, _, hbs, _⟩ := vaC_open hx
  unfold scBits
  by_cases h1 : x.kind = 1
  · rw [if_pos h1, h1]
    exact scalarBits_1 _ _ _ wd x.bits (by omega) w hbs
  · rw [if_neg h1]
    exact scalarBits_n _ _ (by rw [beq_eq_false_iff_ne]; exact h1) _ _ wd w
/-- What Bits' variables hold: a row of the call's own, and the width. -/
def BtSt (p q base wd : Nat) (ls : List Va) (u : World) : Prop := ∃ v, Blk u p 35 #[v] ∧ Blk u q 3 #[.int .i64 (wd : Nat)] ∧ Lg.Own u base v ((ls.map (scBits wd)).flatten) ∧ ((ls.map (scBits wd)).flatten).length ≤ 64 * ls.length
theorem btSt_lasts (p q base wd : Nat) : Lasts (BtSt p q base wd) := fun _ _ _ ⟨v, h1, h2, h3, h4⟩ hb => ⟨v, h1.later hb, h2.later hb, h3.kept hb, h4⟩
theorem sc_len (wd : Nat) (h : wd ≤ 64) (x : Va) (hx : x.bits.length ≤ 64) : (scBits wd x).length ≤ 64 := by
  unfold scBits
  split
  · exact hx
  · exact ofV_len _ _ h
set_option maxRecDepth 100000 in
set_option maxHeartbeats 8000000 in
theorem bits1_at (p q base wd : Nat) (hpb : p < base) (hqb : q < base) (hpq : p ≠ q) (ls : List Va) (x : Va) (hl : ls.length < 4096) (hlf : ((ls.map (scBits wd)).flatten).length ≤ 64 * ls.length) (hxl : (scBits wd x).length ≤ 64) (hxb : x.bits.length ≤ 64) (v : Value) (A B : Option Addr) (n c m d : Nat) (w0 u : World) (hw0 : w0.heap.size ≤ p) (hbs : base ≤ u.heap.size)
    (hP : Hid (Blk u p 35 #[v])) (hQ : Hid (Blk u q 3 #[.int .i64 (wd : Nat)])) (hO : Hid (Lg.Own u base v ((ls.map (scBits wd)).flatten))) (hX : Hid (VaC u x [.int .i64 x.kind, .int .i64 x.n, .slice A n c, .slice B m d])) (hB : Hid (Below w0.heap.size w0 u)) :
    Calls Tryz.prog 81 #[.agg #[.int .i64 x.kind, .int .i64 x.n, .slice A n c, .slice B m d], .pointer (some ⟨p, 0, none⟩), .pointer (some ⟨q, 0, none⟩)] u (EachPost w0 (BtSt p q base wd) (ls ++ [x])) := by
  have hba := below_alloc u (.cells #[.int .i64 x.kind, .int .i64 x.n, .slice A n c, .slice B m d] 38)
  have V1 := Lib.hid (box1 u 38 #[.int .i64 x.kind, .int .i64 x.n, .slice A n c, .slice B m d])
  have P1 := Lib.hid (hP.out.later hba)
  have Q1 := Lib.hid (hQ.out.later hba)
  have O1 := Lib.hid (hO.out.kept hba)
  have B1 := Lib.hid (below_then hB.out hba)
  have HX := Lib.hid (scalarBits_any x _ wd hxb ((u.alloc (.cells #[.int .i64 x.kind, .int .i64 x.n, .slice A n c, .slice B m d] 38)).drewN 1) (VaC.later (below_drewN hba 1) _ _ hX.out))
  have HBD := Lib.hid (below_drewN (Below.refl (u.alloc (.cells #[.int .i64 x.kind, .int .i64 x.n, .slice A n c, .slice B m d] 38)).heap.size (u.alloc (.cells #[.int .i64 x.kind, .int .i64 x.n, .slice A n c, .slice B m d] 38))) 1)
  unfold BitsPost at HX
  have HQ : Hid (((ls ++ [x]).map (scBits wd)).flatten = ((ls.map (scBits wd)).flatten) ++ scBits wd x) := by
    show _ = _
    rw [List.map_append, List.flatten_append]
    simp
  have HL := Lib.hid (show ((ls.map (scBits wd)).flatten).length + (scBits wd x).length ≤ 140737488355328 by omega)
  have HL2 : Hid (((ls ++ [x]).map (scBits wd)).flatten.length ≤ 64 * (ls ++ [x]).length) := by
    show _ ≤ _
    rw [HQ.out, List.length_append, List.length_append, List.length_singleton]
    omega
  have hsz : base ≤ (u.alloc (.cells #[.int .i64 x.kind, .int .i64 x.n, .slice A n c, .slice B m d] 38)).heap.size := Nat.le_trans hbs hba.size
  generalize scBits wd x = ys at HX HQ HL
  generalize ((ls.map (scBits wd)).flatten) = xs at O1 HQ HL
  clear hP hQ hO hX hB hba hl hlf hxl
  go_enter Tryz.func81, Tryz.ntmps81
  go_upto_region 1 with fail
  generalize u.alloc (.cells #[.int .i64 x.kind, .int .i64 x.n, .slice A n c, .slice B m d] 38) = W at *
  obtain ⟨w0_, w1_, w2_, w3_⟩ := four V1.out
  have p0_ := P1.out.cell 0
  have q0_ := Q1.out.cell 0
  go_region_law (first | (refine step_append_bits rfl _ _ rfl base v _ xs ys rfl rfl O3.out S3.out HL.out ?_; intro v5 w5 hown5 hg5 _; obtain ⟨A5, q5, hv5, -⟩ := hown5.sl; rw [List.length_append] at hv5; subst hv5; have O5 := Lib.hid hown5; have Z5 := Lib.hid (own_grown O3.out hg5); have P5 := Lib.hid (P3.out.keep Z5.out hpb); have Q5 := Lib.hid (Q3.out.keep Z5.out hqb); have B5 := Lib.hid (B3.out.trans (Z5.out.mono (by omega))); have p5_ := P5.out.cell 0; have f5_ := P5.out.free 0; clear hown5 hg5) | (go_simp; go_at_call 82; refine (HX.out).mono ?_; rintro e w3 ⟨y, rfl, hsl, hb⟩; have S3 := Lib.hid hsl; have Y3 := Lib.hid (below_then HBD.out hb); have O3 := Lib.hid (O1.out.kept Y3.out); have P3 := Lib.hid (P1.out.later Y3.out); have Q3 := Lib.hid (Q1.out.later Y3.out); have B3 := Lib.hid (below_then B1.out Y3.out); have p3_ := P3.out.cell 0; have q3_ := Q3.out.cell 0; clear hsl hb))
  all_goals
    go_wp2
    go_returns
    exact ⟨rfl, ⟨_, P5.out.set 0 _, Q5.out.other (a := ⟨p, 0, none⟩) hpq _, by rw [HQ.out]; exact own_setLow (a := ⟨p, 0, none⟩) O5.out hpb _, HL2.out⟩, B5.out.setCell (p := ⟨p, 0, none⟩) hw0 _⟩
theorem b1_enters : ∀ args w, (callFunc 81 args).run Tryz.prog w = .ok (.enter 81 args) w := enters Tryz.func81 (by kernel_rfl) (by kernel_rfl)
theorem bits1_takes (w0 : World) (p q base wd : Nat) (hpb : p < base) (hqb : q < base) (hpq : p ≠ q) (hwd : wd ≤ 64) (hw0 : w0.heap.size ≤ p) : Takes2 w0 (fun x => x.bits.length ≤ 64) (BtSt p q base wd) 81 (.pointer (some ⟨p, 0, none⟩)) (.pointer (some ⟨q, 0, none⟩)) := by
  rintro ls x cs u0 u hl hX ⟨v, hk, hq, ho, hlf⟩ hB hb hx
  have hx0 := VaP.toC _ _ hx
  obtain ⟨A, n, c, B, m, d, rfl, -⟩ := vaC_open hx0
  exact bits1_at p q base wd hpb hqb hpq ls x hl hlf (sc_len wd hwd x hX) hX v A B n c m d w0 u hw0 (Nat.le_trans ho.2.2.2 hb.size) (hk.later hb) (hq.later hb) (ho.kept hb) hx0 (below_then hB hb)
theorem hasF_bs {t : Ty} {v : Va} (ht : Flat isNameL t) (h : HasF t v) : ∀ x ∈ splitV v, x.bits.length ≤ 64 := by
  intro x hx
  cases h with
  | vec nm ns es l bs hl hb =>
    rw [show splitV (.mk 4 0 bs []) = bs.map bitVa by rw [splitV_def, if_pos rfl], List.mem_map] at hx
    obtain ⟨b, _, rfl⟩ := hx
    show [b].length ≤ 64
    simp
  | bit nm ns es l b h =>
    rw [splitV_def, if_neg (by omega), if_neg (by omega), List.mem_singleton] at hx
    subst hx
    show [b].length ≤ 64
    simp
  | bool nm ns es l n h =>
    rw [splitV_def, if_neg (by omega), if_neg (by omega), List.mem_singleton] at hx
    subst hx
    show ([] : List Nat).length ≤ 64
    simp
  | int nm ns es l n h1 h2 =>
    rw [splitV_def, if_neg (by omega), if_neg (by omega), List.mem_singleton] at hx
    subst hx
    show ([] : List Nat).length ≤ 64
    simp
  | en nm ns es l i h =>
    rw [splitV_def, if_neg (by omega), if_neg (by omega), List.mem_singleton] at hx
    subst hx
    show ([] : List Nat).length ≤ 64
    simp
theorem hasG_bs {t : Ty} {v : Va} (ht : Good isNameL t) (h : HasG t v) : ∀ x ∈ splitV v, x.bits.length ≤ 64 := by
  cases ht with
  | flat t ht =>
    cases h with
    | flat _ _ h => exact hasF_bs ht h
    | arr l nm ns e ls hl hh => exact absurd rfl (flat_kind ht).1
  | arr l e h1 h2 he =>
    cases h with
    | flat _ _ h => cases h
    | arr _ _ _ _ ls hl hh =>
      intro x hx
      rw [splitV_def, if_neg (by omega), if_pos rfl, splitVs_eq, List.mem_flatten] at hx
      obtain ⟨y, hy, hx⟩ := hx
      obtain ⟨z, hz, rfl⟩ := List.mem_map.1 hy
      exact hasF_bs he (hh z hz) x hx
theorem each_bits {t : Ty} {v : Va} (ht : Good isNameL t) (hh : HasG t v) (hsm : smV v) (w0 : World) (cs : List Value) (hv : VaC w0 v cs) (p q base wd : Nat) (hpb : p < base) (hqb : q < base) (hpq : p ≠ q) (hwd : wd ≤ 64) (hw0 : w0.heap.size ≤ p) (u : World) (hst : BtSt p q base wd [] u) (hB : Below w0.heap.size w0 u) :
    Calls Tryz.prog 80 #[.agg cs.toArray, .func (.func 81) #[] #[.pointer (some ⟨p, 0, none⟩), .pointer (some ⟨q, 0, none⟩)]] u (EachPost w0 (BtSt p q base wd) (splitV v)) := by
  have hc := (good_count ht).2
  exact each_good2 ht hh hsm w0 (fun x => x.bits.length ≤ 64) (BtSt p q base wd) 81 _ _ [] cs u (by simpa using hc) (hasG_bs ht hh) hv b1_enters (bits1_takes w0 p q base wd hpb hqb hpq hwd hw0) (btSt_lasts p q base wd) hst hB
set_option maxRecDepth 100000 in
set_option maxHeartbeats 8000000 in
theorem pbts_bad (k l k1 n1 : Int) (nm : ByteArray) (t3 t4 v5 v6 : Value) (w : World)
    (HH : Hid (∀ u, Below w.heap.size w u → Calls Tryz.prog 30 #[.agg #[.int .i64 k, .int .i64 l, .string nm, t3, t4], .agg #[.int .i64 k1, .int .i64 n1, v5, v6]] u fun e w' => e = .returned (.bool false) ∧ Below u.heap.size u w')) :
    Calls Tryz.prog 36 #[.agg #[.int .i64 k, .int .i64 l, .string nm, t3, t4], .agg #[.int .i64 k1, .int .i64 n1, v5, v6]] w (BitsPostE [] 2 w) := by
  have H2 := Lib.hid (boxes2 w 26 38 #[.int .i64 k, .int .i64 l, .string nm, t3, t4] #[.int .i64 k1, .int .i64 n1, v5, v6])
  have B0 := Lib.hid H2.out.2.2.1
  have T0 := Lib.hid H2.out.1
  have V0 := Lib.hid H2.out.2.1
  clear H2
  unfold BitsPostE
  go_enter Tryz.func36, Tryz.ntmps36
  obtain ⟨tc_0, tc_1, tc_2, tc_3, tc_4⟩ := fives T0.out
  obtain ⟨vc_0, vc_1, vc_2, vc_3⟩ := four V0.out
  go_wp2_with fail
  refine (HH.out _ B0.out).mono ?_
  rintro e w1 ⟨rfl, hb⟩
  have B1 := Lib.hid (below_then B0.out hb)
  have T1 := Lib.hid (T0.out.later hb)
  have V1 := Lib.hid (V0.out.later hb)
  clear hb
  clear tc_0 tc_1 tc_2 tc_3 tc_4 vc_0 vc_1 vc_2 vc_3
  go_wp2
  go_ret2
  exact ⟨_, rfl, Lg.sl_nil _, B1.out⟩
set_option maxRecDepth 100000 in
set_option maxHeartbeats 8000000 in
theorem pbts_int (k l k1 n1 : Int) (nm : ByteArray) (t3 t4 v5 v6 : Value) (wn : Nat) (w : World)
    (HH : Hid (∀ u, Below w.heap.size w u → Calls Tryz.prog 30 #[.agg #[.int .i64 k, .int .i64 l, .string nm, t3, t4], .agg #[.int .i64 k1, .int .i64 n1, v5, v6]] u fun e w' => e = .returned (.bool true) ∧ Below u.heap.size u w'))
    (HW : Hid (∀ u, Below w.heap.size w u → Calls Tryz.prog 25 #[.agg #[.int .i64 k, .int .i64 l, .string nm, t3, t4]] u fun e w' => e = .returned (.tuple #[.int .i64 (wn : Nat), .int .i64 (16 : Nat)]) ∧ Below u.heap.size u w')) :
    Calls Tryz.prog 36 #[.agg #[.int .i64 k, .int .i64 l, .string nm, t3, t4], .agg #[.int .i64 k1, .int .i64 n1, v5, v6]] w (BitsPostE [] 16 w) := by
  have H2 := Lib.hid (boxes2 w 26 38 #[.int .i64 k, .int .i64 l, .string nm, t3, t4] #[.int .i64 k1, .int .i64 n1, v5, v6])
  have B0 := Lib.hid H2.out.2.2.1
  have T0 := Lib.hid H2.out.1
  have V0 := Lib.hid H2.out.2.1
  clear H2
  unfold BitsPostE
  go_enter Tryz.func36, Tryz.ntmps36
  obtain ⟨tc_0, tc_1, tc_2, tc_3, tc_4⟩ := fives T0.out
  obtain ⟨vc_0, vc_1, vc_2, vc_3⟩ := four V0.out
  go_wp2_with fail
  refine (HH.out _ B0.out).mono ?_
  rintro e w1 ⟨rfl, hb⟩
  have B1 := Lib.hid (below_then B0.out hb)
  have T1 := Lib.hid (T0.out.later hb)
  have V1 := Lib.hid (V0.out.later hb)
  clear hb
  clear tc_0 tc_1 tc_2 tc_3 tc_4 vc_0 vc_1 vc_2 vc_3
  obtain ⟨tc_0, tc_1, tc_2, tc_3, tc_4⟩ := fives T1.out
  go_wp2_with fail
  refine (HW.out _ B1.out).mono ?_
  rintro e w2 ⟨rfl, hb⟩
  have B2 := Lib.hid (below_then B1.out hb)
  have T2 := Lib.hid (T1.out.later hb)
  have V2 := Lib.hid (V1.out.later hb)
  clear hb
  clear tc_0 tc_1 tc_2 tc_3 tc_4
  go_wp2
  go_ret2
  exact ⟨_, rfl, Lg.sl_nil _, B2.out⟩
set_option maxRecDepth 100000 in
set_option maxHeartbeats 8000000 in
theorem pbts_ok (k l k1 n1 : Int) (nm : ByteArray) (t3 t4 v5 v6 : Value) (wn sn : Nat) (st : Ty) (ls : List Va) (w : World)
    (HH : Hid (∀ u, Below w.heap.size w u → Calls Tryz.prog 30 #[.agg #[.int .i64 k, .int .i64 l, .string nm, t3, t4], .agg #[.int .i64 k1, .int .i64 n1, v5, v6]] u fun e w' => e = .returned (.bool true) ∧ Below u.heap.size u w'))
    (HW : Hid (∀ u, Below w.heap.size w u → Calls Tryz.prog 25 #[.agg #[.int .i64 k, .int .i64 l, .string nm, t3, t4]] u fun e w' => e = .returned (.tuple #[.int .i64 (wn : Nat), .int .i64 (0 : Nat)]) ∧ Below u.heap.size u w'))
    (HS : Hid (∀ u, Below w.heap.size w u → Calls Tryz.prog 66 #[.agg #[.int .i64 k, .int .i64 l, .string nm, t3, t4]] u (ScalarPost u st)))
    (HC : Hid (∀ u cs, Below w.heap.size w u → TyC u st cs → Calls Tryz.prog 72 #[.agg cs.toArray] u fun e w' => e = .returned (.int .i64 (sn : Nat)) ∧ Below u.heap.size u w'))
    (HE : Hid (∀ p q base, p < base → q < base → p ≠ q → w.heap.size ≤ p → ∀ u, BtSt p q base sn [] u → Below w.heap.size w u → Calls Tryz.prog 80 #[.agg #[.int .i64 k1, .int .i64 n1, v5, v6], .func (.func 81) #[] #[.pointer (some ⟨p, 0, none⟩), .pointer (some ⟨q, 0, none⟩)]] u (EachPost w (BtSt p q base sn) ls))) :
    Calls Tryz.prog 36 #[.agg #[.int .i64 k, .int .i64 l, .string nm, t3, t4], .agg #[.int .i64 k1, .int .i64 n1, v5, v6]] w (BitsPostE ((ls.map (scBits sn)).flatten) 0 w) := by
  have H2 := Lib.hid (boxes2 w 26 38 #[.int .i64 k, .int .i64 l, .string nm, t3, t4] #[.int .i64 k1, .int .i64 n1, v5, v6])
  have B0 := Lib.hid H2.out.2.2.1
  have T0 := Lib.hid H2.out.1
  have V0 := Lib.hid H2.out.2.1
  clear H2
  unfold BitsPostE
  unfold ScalarPost at HS
  go_enter Tryz.func36, Tryz.ntmps36
  obtain ⟨tc_0, tc_1, tc_2, tc_3, tc_4⟩ := fives T0.out
  obtain ⟨vc_0, vc_1, vc_2, vc_3⟩ := four V0.out
  go_wp2_with fail
  refine (HH.out _ B0.out).mono ?_
  rintro e w1 ⟨rfl, hb⟩
  have B1 := Lib.hid (below_then B0.out hb)
  have T1 := Lib.hid (T0.out.later hb)
  have V1 := Lib.hid (V0.out.later hb)
  clear hb
  clear tc_0 tc_1 tc_2 tc_3 tc_4 vc_0 vc_1 vc_2 vc_3
  obtain ⟨tc_0, tc_1, tc_2, tc_3, tc_4⟩ := fives T1.out
  go_wp2_with fail
  refine (HW.out _ B1.out).mono ?_
  rintro e w2 ⟨rfl, hb⟩
  have B2 := Lib.hid (below_then B1.out hb)
  have T2 := Lib.hid (T1.out.later hb)
  have V2 := Lib.hid (V1.out.later hb)
  clear hb
  clear tc_0 tc_1 tc_2 tc_3 tc_4
  have Y3 := Lib.hid (below_alloc w2 (.cells #[.slice none 0 0] 35))
  have B3 := Lib.hid (below_then B2.out Y3.out)
  have T3 := Lib.hid (T2.out.later Y3.out)
  have V3 := Lib.hid (V2.out.later Y3.out)
  have P3 : Hid (Blk (w2.alloc (.cells #[.slice none 0 0] 35)) w2.heap.size 35 #[.slice none 0 0]) := Blk.new _ _ _
  obtain ⟨tc_0, tc_1, tc_2, tc_3, tc_4⟩ := fives T3.out
  go_wp2_with fail
  refine (HS.out _ B3.out).mono ?_
  rintro e w4 ⟨A9, n9, c9, B9, m9, d9, rfl, hst, hb⟩
  have B4 := Lib.hid (below_then B3.out hb)
  have V4 := Lib.hid (V3.out.later hb)
  have P4 := Lib.hid (P3.out.later hb)
  have HC4 := Lib.hid (HC.out _ _ B4.out hst)
  clear hb hst tc_0 tc_1 tc_2 tc_3 tc_4
  go_wp2_with fail
  refine (HC4.out).mono ?_
  rintro e w5 ⟨rfl, hb⟩
  have Y6 := Lib.hid (below_then hb (below_alloc w5 (.cells #[.int .i64 (sn : Nat)] 3)))
  have B6 := Lib.hid (below_then B4.out Y6.out)
  have V6 := Lib.hid (V4.out.later Y6.out)
  have P6 := Lib.hid (P4.out.later Y6.out)
  have Q6 : Hid (Blk (w5.alloc (.cells #[.int .i64 (sn : Nat)] 3)) w5.heap.size 3 #[.int .i64 (sn : Nat)]) := Blk.new _ _ _
  have hq5 := (P4.out.later hb).lt
  have hw2 := B2.out.size
  have ST : Hid (BtSt w2.heap.size w5.heap.size (w5.heap.size + 1) sn [] (w5.alloc (.cells #[.int .i64 (sn : Nat)] 3))) := ⟨_, P6.out, Q6.out, Lg.Own.nil _ (by rw [World.size_alloc]; omega), by simp⟩
  have HX := Lib.hid (HE.out w2.heap.size w5.heap.size (w5.heap.size + 1) (by omega) (Nat.lt_succ_self _) (by omega) hw2 _ ST.out B6.out)
  unfold EachPost BtSt at HX
  clear hb ST
  obtain ⟨vc_0, vc_1, vc_2, vc_3⟩ := four V6.out
  go_wp2_with fail
  refine (HX.out).mono ?_
  rintro e w7 ⟨rfl, ⟨v7, hk7, -, ho7, -⟩, hb7⟩
  have k7 := hk7.cell 0
  have O7 := Lib.hid ho7
  have B7 := Lib.hid hb7
  clear hk7 ho7 hb7 vc_0 vc_1 vc_2 vc_3
  go_wp2
  go_ret2
  exact ⟨_, rfl, O7.out.sl, B7.out⟩
/-- What Bits returns: bits, an error. -/
def bitR (t : Ty) (v : Va) : List Nat := if hasT t v then (if (scalarT t).kind = 3 then [] else bitsV t v) else []
def bitE (t : Ty) (v : Va) : Nat := if hasT t v then (if (scalarT t).kind = 3 then 16 else 0) else 2
theorem width_cases {t : Ty} (ht : Good isNameL t) : ((scalarT t).kind = 3 ∧ widE t = 16) ∨ (¬ (scalarT t).kind = 3 ∧ widE t = 0) := by
  unfold widE
  rw [good_valid ht, if_pos rfl]
  rcases good_width ht with ⟨a, b⟩ | ⟨a, b⟩
  · exact .inl ⟨a, by rw [b]; rfl⟩
  · exact .inr ⟨a, by rw [b]; rfl⟩
theorem rbits_any (t : Ty) (v : Va) (cs c1 : List Value) (w : World) (ht : smT t) (h : TyC w t cs) (h1 : VaC w v c1) :
    Calls Tryz.prog 37 #[.agg cs.toArray, .agg c1.toArray] w (BitsPostE (bitR t v) (bitE t v) w) := by
  have h0 := h
  have h10 := h1
  have HH : ∀ b, hasT t v = b → ∀ u, Below w.heap.size w u → Calls Tryz.prog 31 #[.agg cs.toArray, .agg c1.toArray] u fun e w' => e = .returned (.bool b) ∧ Below u.heap.size u w' := fun b hb u hu => by
    have := rhas_any t v cs c1 u ht.nm (TyC.later hu _ _ h0) (VaC.later hu _ _ h10)
    rwa [hb] at this
  have HW := fun (u : World) (hu : Below w.heap.size w u) => rwidth_any t cs u ht (TyC.later hu _ _ h0)
  unfold PairPost at HW
  unfold bitR bitE
  obtain ⟨A, n, c, B, m, d, rfl, _⟩ := tyC_open h
  obtain ⟨C, y, p, D, z, q, rfl, _⟩ := vaC_open h1
  cases hb : hasT t v with
  | false => exact rbts_bad _ _ _ _ _ _ _ _ _ w (HH false hb)
  | true =>
    have hg := hb
    unfold hasT at hg
    rw [Bool.and_eq_true] at hg
    rw [if_pos rfl, if_pos rfl]
    rcases width_cases (valid_good hg.1) with ⟨a, b⟩ | ⟨a, b⟩
    · rw [b] at HW
      rw [if_pos a, if_pos a]
      exact rbts_int _ _ _ _ _ _ _ _ _ _ w (HH true hb) HW
    · rw [b] at HW
      rw [if_neg a, if_neg a]
      exact rbts_ok _ _ _ _ _ _ _ _ _ _ (bitsV t v) w (HH true hb) HW (fun u hu => rbits_good (valid_good hg.1) a (hasG_of (valid_good hg.1) hg.2) ht (TyC.later hu _ _ h0) (VaC.later hu _ _ h10))
theorem pbits_any (t : Ty) (v : Va) (cs c1 : List Value) (w : World) (ht : smT t) (hsm : smV v) (h : TyC w t cs) (h1 : VaC w v c1) :
    Calls Tryz.prog 36 #[.agg cs.toArray, .agg c1.toArray] w (BitsPostE (bitR t v) (bitE t v) w) := by
  have h0 := h
  have h10 := h1
  have HH : ∀ b, hasT t v = b → ∀ u, Below w.heap.size w u → Calls Tryz.prog 30 #[.agg cs.toArray, .agg c1.toArray] u fun e w' => e = .returned (.bool b) ∧ Below u.heap.size u w' := fun b hb u hu => by
    have := phas_any t v cs c1 u ht (TyC.later hu _ _ h0) (VaC.later hu _ _ h10)
    rwa [hb] at this
  have HW := fun (u : World) (hu : Below w.heap.size w u) => width_any t cs u ht (TyC.later hu _ _ h0)
  unfold bitR bitE
  obtain ⟨A, n, c, B, m, d, rfl, _⟩ := tyC_open h
  obtain ⟨C, y, p, D, z, q, rfl, _⟩ := vaC_open h1
  cases hb : hasT t v with
  | false => exact pbts_bad _ _ _ _ _ _ _ _ _ w (HH false hb)
  | true =>
    have hg := hb
    unfold hasT at hg
    rw [Bool.and_eq_true] at hg
    rw [if_pos rfl, if_pos rfl]
    have hG := valid_good hg.1
    rcases width_cases hG with ⟨a, b⟩ | ⟨a, b⟩
    · rw [b] at HW
      rw [if_pos a, if_pos a]
      exact pbts_int _ _ _ _ _ _ _ _ _ _ w (HH true hb) HW
    · rw [b] at HW
      rw [if_neg a, if_neg a]
      have hs4 := (sw_le (scalarT t)).2
      exact pbts_ok _ _ _ _ _ _ _ _ _ _ (swT (scalarT t)) (scalarT t) (splitV v) w (HH true hb) HW (fun u hu => pscalar_any hG (TyC.later hu _ _ h0)) (fun u cs hu hc => swidth_any (good_scalar_names hG) hc)
        (fun p q base hp hq hpq hw u hst hu => each_bits hG (hasG_of hG hg.2) hsm w _ h10 p q base _ hp hq hpq (by omega) hw u hst hu)
end Go.Proofs.YtdiagnhdigakpaaGreatDoor
