/- The law TypesReads: the walk, and its contracts put together. -/
import Derived.Test.YtdiagnhdigakpaaGreatDoorRd
import Derived.Test.YtdiagnhdigakpaaGreatDoorUs
import Derived.Test.YtdiagnhdigakpaaGreatDoorKn
namespace Go.Proofs.YtdiagnhdigakpaaGreatDoor
open Go.RowKit

theorem parsed_same {t : Ty} {s : List UInt8} {v v' : Va} {E E' : Nat} (h : ParsedAs (validT isNameL t) t s v E) (h' : ParsedAs (validT isNameL t) t s v' E') : v = v' ∧ E = E' := by
  rcases h with ⟨a, rfl, rfl⟩ | ⟨a, b, c, rfl⟩ | ⟨a, b, rfl, rfl⟩
  · rcases h' with ⟨a', rfl, rfl⟩ | ⟨a', b', c', rfl⟩ | ⟨a', b', rfl, rfl⟩
    · exact ⟨rfl, rfl⟩
    · rw [a] at a'; cases a'
    · rw [a] at a'; cases a'
  · rcases h' with ⟨a', rfl, rfl⟩ | ⟨a', b', c', rfl⟩ | ⟨a', b', rfl, rfl⟩
    · rw [a] at a'; cases a'
    · exact ⟨text_inj (valid_good a) (hasG_of (valid_good a) b) (hasG_of (valid_good a) b') (c.trans c'.symm), rfl⟩
    · exact absurd c (b' v b)
  · rcases h' with ⟨a', rfl, rfl⟩ | ⟨a', b', c', rfl⟩ | ⟨a', b', rfl, rfl⟩
    · rw [a] at a'; cases a'
    · exact absurd c' (b v' b')
    · exact ⟨rfl, rfl⟩
theorem hasF_small {t : Ty} {v : Va} (ht : Flat isNameL t) (h : HasF t v) : smV v := by
  cases h with
  | bit nm ns es l b h => exact (smV_def _ _ _ _).2 ⟨by simp, by simp, by simp⟩
  | bool nm ns es l n h => exact (smV_def _ _ _ _).2 ⟨by simp, by simp, by simp⟩
  | int nm ns es l n h1 h2 => exact (smV_def _ _ _ _).2 ⟨by simp, by simp, by simp⟩
  | vec nm ns es l bs hl hb =>
    cases ht with
    | sc k hk => omega
    | vec l h1 h2 => exact (smV_def _ _ _ _).2 ⟨by omega, by simp, by simp⟩
  | en nm ns es l i h => exact (smV_def _ _ _ _).2 ⟨by simp, by simp, by simp⟩
theorem hasG_small {t : Ty} {v : Va} (ht : Good isNameL t) (h : HasG t v) : smV v := by
  cases ht with
  | flat t ht =>
    cases h with
    | flat _ _ h => exact hasF_small ht h
    | arr l nm ns e ls hl hh => exact absurd rfl (flat_kind ht).1
  | arr l e h1 h2 he =>
    cases h with
    | flat _ _ h => cases h
    | arr _ _ _ _ ls hl hh => exact (smV_def _ _ _ _).2 ⟨by simp, by omega, fun v hv => hasF_small he (hh v hv)⟩
theorem zeroV_small : smV zeroV := by
  unfold zeroV
  exact (smV_def _ _ _ _).2 ⟨by simp, by simp, by simp⟩
theorem ralike_eq (y : Va) (hy : smV y) (ca cb : List Value) (z : World) (h : VaC z y ca) (h' : VaC z y cb) : Calls Tryz.prog 24 #[.agg ca.toArray, .agg cb.toArray] z fun e w' => e = .returned (.bool true) ∧ Below z.heap.size z w' := by
  have := ralike_any y y ca cb z hy hy h h'
  rwa [alikeV_refl] at this
theorem parsed_small {a : Bool} {t : Ty} {s : List UInt8} {v : Va} {E : Nat} (ha : a = validT isNameL t) (h : ParsedAs a t s v E) : smV v := by
  rcases h with ⟨_, rfl, _⟩ | ⟨b, c, _, _⟩ | ⟨_, _, rfl, _⟩
  · exact zeroV_small
  · have hv : validT isNameL t = true := by rw [← ha, b]
    exact hasG_small (valid_good hv) (hasG_of (valid_good hv) c)
  · exact zeroV_small
set_option maxRecDepth 100000 in
set_option maxHeartbeats 16000000 in
theorem reads_small (k l : Int) (nm : ByteArray) (TA TB : Option Addr) (tn tc tm td : Nat) (s : ByteArray) (w : World)
    (HAw : Hid (∀ z, Below w.heap.size w z → Calls Tryz.prog 14 #[] z (fun e w' => e = .returned (.bool true) ∧ Below z.heap.size z w')))
    (HSm : Hid (∀ z, Below w.heap.size w z → Calls Tryz.prog 13 #[.agg #[.int .i64 k, .int .i64 l, .string nm, .slice TA tn tc, .slice TB tm td], .slice none 0 0] z (fun e w' => e = .returned (.bool false) ∧ Below z.heap.size z w'))) :
    Calls Tryz.prog 5 #[.agg #[.int .i64 k, .int .i64 l, .string nm, .slice TA tn tc, .slice TB tm td], .string s] w fun e w' => e = .returned (.bool true) ∧ Below w.heap.size w w' := by
  have B0 := Lib.hid (below_alloc w (.cells #[.int .i64 k, .int .i64 l, .string nm, .slice TA tn tc, .slice TB tm td] 26))
  have T0 := Lib.hid (box1 w 26 #[.int .i64 k, .int .i64 l, .string nm, .slice TA tn tc, .slice TB tm td])
  go_enter Tryz.func5, Tryz.ntmps5
  obtain ⟨t0, t1, t2, t3, t4⟩ := fives T0.out
  go_wp2_with fail
  refine (HSm.out _ B0.out).mono ?_
  rintro e w1 ⟨rfl, hb⟩
  have B1 := Lib.hid (below_then B0.out hb)
  have T1 := Lib.hid (T0.out.later hb)
  clear hb t0 t1 t2 t3 t4
  go_wp2_with fail
  refine (HAw.out _ B1.out).mono ?_
  rintro e w9 ⟨rfl, hb⟩
  have B9 := Lib.hid (below_then B1.out hb)
  clear hb
  go_wp2
  go_ret
  exact ⟨rfl, B9.out⟩
set_option maxRecDepth 100000 in
set_option maxHeartbeats 16000000 in
theorem reads_long (k l : Int) (nm : ByteArray) (TA TB : Option Addr) (tn tc tm td : Nat) (s : ByteArray) (w : World) (h6 : ¬ s.size ≤ 6000)
    (HAw : Hid (∀ z, Below w.heap.size w z → Calls Tryz.prog 14 #[] z (fun e w' => e = .returned (.bool true) ∧ Below z.heap.size z w')))
    (HSm : Hid (∀ z, Below w.heap.size w z → Calls Tryz.prog 13 #[.agg #[.int .i64 k, .int .i64 l, .string nm, .slice TA tn tc, .slice TB tm td], .slice none 0 0] z (fun e w' => e = .returned (.bool true) ∧ Below z.heap.size z w'))) :
    Calls Tryz.prog 5 #[.agg #[.int .i64 k, .int .i64 l, .string nm, .slice TA tn tc, .slice TB tm td], .string s] w fun e w' => e = .returned (.bool true) ∧ Below w.heap.size w w' := by
  have d1 : decide ((s.size : Int) > 6000) = true := by rw [decide_eq_true_eq]; omega
  have d2 : decide ((6000 : Int) < (s.size : Int)) = true := by rw [decide_eq_true_eq]; omega
  clear h6
  have B0 := Lib.hid (below_alloc w (.cells #[.int .i64 k, .int .i64 l, .string nm, .slice TA tn tc, .slice TB tm td] 26))
  have T0 := Lib.hid (box1 w 26 #[.int .i64 k, .int .i64 l, .string nm, .slice TA tn tc, .slice TB tm td])
  go_enter Tryz.func5, Tryz.ntmps5
  obtain ⟨t0, t1, t2, t3, t4⟩ := fives T0.out
  go_wp2_with fail
  refine (HSm.out _ B0.out).mono ?_
  rintro e w1 ⟨rfl, hb⟩
  have B1 := Lib.hid (below_then B0.out hb)
  have T1 := Lib.hid (T0.out.later hb)
  clear hb t0 t1 t2 t3 t4
  go_wp2_with fail
  refine (HAw.out _ B1.out).mono ?_
  rintro e w9 ⟨rfl, hb⟩
  have B9 := Lib.hid (below_then B1.out hb)
  clear hb
  go_wp2
  go_ret
  exact ⟨rfl, B9.out⟩
set_option maxRecDepth 100000 in
set_option maxHeartbeats 16000000 in
theorem reads_all (k l : Int) (nm : ByteArray) (TA TB : Option Addr) (tn tc tm td : Nat) (s : ByteArray) (w : World) (t : Ty) (h6 : s.size ≤ 6000)
    (HAw : Hid (∀ z, Below w.heap.size w z → Calls Tryz.prog 14 #[] z (fun e w' => e = .returned (.bool true) ∧ Below z.heap.size z w')))
    (HSm : Hid (∀ z, Below w.heap.size w z → Calls Tryz.prog 13 #[.agg #[.int .i64 k, .int .i64 l, .string nm, .slice TA tn tc, .slice TB tm td], .slice none 0 0] z (fun e w' => e = .returned (.bool true) ∧ Below z.heap.size z w')))
    (HCt : Hid (∀ z, Below w.heap.size w z → Calls Tryz.prog 15 #[.agg #[.int .i64 k, .int .i64 l, .string nm, .slice TA tn tc, .slice TB tm td]] z (CopyTyOf z t)))
    (HP : Hid (∀ z cs, Below w.heap.size w z → TyC z t cs → Calls Tryz.prog 42 #[.agg cs.toArray, .string s] z (ParsePost (validT isNameL t) t (bl s) z)))
    (HR : Hid (∀ z, Below w.heap.size w z → Calls Tryz.prog 43 #[.agg #[.int .i64 k, .int .i64 l, .string nm, .slice TA tn tc, .slice TB tm td], .string s] z (ParsePostP (validT isNameL t) t (bl s) z)))
    (HX : Hid (∀ z v cs, Below w.heap.size w z → VaC z v cs → Calls Tryz.prog 34 #[.agg #[.int .i64 k, .int .i64 l, .string nm, .slice TA tn tc, .slice TB tm td], .agg cs.toArray] z fun e w' => e = .returned (.tuple #[.string (sb (textR t v)), .int .i64 (hasE t v : Nat)]) ∧ Below z.heap.size z w')) :
    Calls Tryz.prog 5 #[.agg #[.int .i64 k, .int .i64 l, .string nm, .slice TA tn tc, .slice TB tm td], .string s] w fun e w' => e = .returned (.bool true) ∧ Below w.heap.size w w' := by
  have d1 : decide ((s.size : Int) > 6000) = false := by rw [decide_eq_false_iff_not]; omega
  have d2 : decide ((6000 : Int) < (s.size : Int)) = false := by rw [decide_eq_false_iff_not]; omega
  clear h6
  have B0 := Lib.hid (below_alloc w (.cells #[.int .i64 k, .int .i64 l, .string nm, .slice TA tn tc, .slice TB tm td] 26))
  have T0 := Lib.hid (box1 w 26 #[.int .i64 k, .int .i64 l, .string nm, .slice TA tn tc, .slice TB tm td])
  go_enter Tryz.func5, Tryz.ntmps5
  obtain ⟨t0, t1, t2, t3, t4⟩ := fives T0.out
  go_wp2_with fail
  refine (HSm.out _ B0.out).mono ?_
  rintro e w1 ⟨rfl, hb⟩
  have B1 := Lib.hid (below_then B0.out hb)
  have T1 := Lib.hid (T0.out.later hb)
  clear hb t0 t1 t2 t3 t4
  obtain ⟨t0, t1, t2, t3, t4⟩ := fives T1.out
  go_wp2_with fail
  refine (HCt.out _ B1.out).mono ?_
  rintro e w2 hc
  obtain ⟨A5, n5, c5, B5, m5, d5, rfl, hct, hb⟩ := copyTy_c hc
  have B2 := Lib.hid (below_then B1.out hb)
  have T2 := Lib.hid (T1.out.later hb)
  have HP2 := Lib.hid (HP.out _ _ B2.out hct)
  unfold ParsePost at HP2
  clear hb hc hct t0 t1 t2 t3 t4 HP
  obtain ⟨t0, t1, t2, t3, t4⟩ := fives T2.out
  go_wp2_with fail
  refine (HP2.out).mono ?_
  rintro e w3 ⟨v, E, A6, n6, c6, B6, m6, d6, rfl, hvc, hpa, hb⟩
  have Z3 := Lib.hid (below_alloc w3 (.cells #[.int .i64 v.kind, .int .i64 v.n, .slice A6 n6 c6, .slice B6 m6 d6] 38))
  have Y3 := Lib.hid (below_then hb Z3.out)
  have B3 := Lib.hid (below_then B2.out Y3.out)
  have T3 := Lib.hid (T2.out.later Y3.out)
  have V3 : Hid (Blk (w3.alloc (.cells #[.int .i64 v.kind, .int .i64 v.n, .slice A6 n6 c6, .slice B6 m6 d6] 38)) w3.heap.size 38 #[.int .i64 v.kind, .int .i64 v.n, .slice A6 n6 c6, .slice B6 m6 d6]) := Blk.new _ _ _
  have CV3 := Lib.hid (VaC.later Z3.out _ _ hvc)
  have HPA := Lib.hid hpa
  have HR3 := Lib.hid (HR.out _ B3.out)
  unfold ParsePostP at HR3
  clear hb hvc hpa t0 t1 t2 t3 t4 HR
  obtain ⟨t0, t1, t2, t3, t4⟩ := fives T3.out
  go_wp2_with fail
  refine (HR3.out).mono ?_
  rintro e w4 ⟨v', E', A7, n7, c7, B7, m7, d7, rfl, hvp, hpb, hb⟩
  obtain ⟨e1, e2⟩ := parsed_same hpb HPA.out
  subst e1
  subst e2
  have Z4 := Lib.hid (below_alloc w4 (.cells #[.int .i64 v'.kind, .int .i64 v'.n, .slice A7 n7 c7, .slice B7 m7 d7] 38))
  have Y4 := Lib.hid (below_then hb Z4.out)
  have B4 := Lib.hid (below_then B3.out Y4.out)
  have T4 := Lib.hid (T3.out.later Y4.out)
  have V4 := Lib.hid (V3.out.later Y4.out)
  have U4 : Hid (Blk (w4.alloc (.cells #[.int .i64 v'.kind, .int .i64 v'.n, .slice A7 n7 c7, .slice B7 m7 d7] 38)) w4.heap.size 38 #[.int .i64 v'.kind, .int .i64 v'.n, .slice A7 n7 c7, .slice B7 m7 d7]) := Blk.new _ _ _
  have CV4 := Lib.hid (VaC.later Y4.out _ _ CV3.out)
  have CU4 := Lib.hid (VaP.toC _ _ (hvp.later Z4.out))
  have HL4 := Lib.hid (ralike_eq v' (parsed_small rfl HPA.out) _ _ _ CV4.out CU4.out)
  clear hb hvp hpb t0 t1 t2 t3 t4
  obtain ⟨v0, v1, v2, v3⟩ := four V4.out
  obtain ⟨x0, x1, x2, x3⟩ := four U4.out
  rcases HPA.out with ⟨ha, -, rfl⟩ | ⟨ha, hh, ht, rfl⟩ | ⟨ha, -, -, rfl⟩
  case inr.inl =>
    have HT4 : Hid (∀ z, Below (w4.alloc (.cells #[.int .i64 v'.kind, .int .i64 v'.n, .slice A7 n7 c7, .slice B7 m7 d7] 38)).heap.size (w4.alloc (.cells #[.int .i64 v'.kind, .int .i64 v'.n, .slice A7 n7 c7, .slice B7 m7 d7] 38)) z → Calls Tryz.prog 34 #[.agg #[.int .i64 k, .int .i64 l, .string nm, .slice TA tn tc, .slice TB tm td], .agg #[.int .i64 v'.kind, .int .i64 v'.n, .slice A6 n6 c6, .slice B6 m6 d6]] z fun e w' => e = .returned (.tuple #[.string s, .int .i64 0]) ∧ Below z.heap.size z w') := fun z hz => by
      have := HX.out z v' _ (below_then B4.out hz) (VaC.later hz _ _ CV4.out)
      unfold textR hasE hasT at this
      rw [ha, hh, Bool.true_and, if_pos rfl, if_pos rfl, ht, sb_bl] at this
      exact this
    clear ha hh ht HPA HX
    have hss : (s.toList == s.toList) = true := beq_self_eq_true _
    go_wp2_with fail
    refine (HL4.out).mono ?_
    rintro e w5 ⟨rfl, hb⟩
    have HB5 := Lib.hid hb
    have B5' := Lib.hid (below_then B4.out hb)
    have T5 := Lib.hid (T4.out.later hb)
    have V5 := Lib.hid (V4.out.later hb)
    clear hb v0 v1 v2 v3 x0 x1 x2 x3
    obtain ⟨t0, t1, t2, t3, t4⟩ := fives T5.out
    obtain ⟨v0, v1, v2, v3⟩ := four V5.out
    go_wp2_with fail
    refine (HT4.out _ HB5.out).mono ?_
    rintro e w6 ⟨rfl, hb⟩
    have B6' := Lib.hid (below_then B5'.out hb)
    clear hb t0 t1 t2 t3 t4 v0 v1 v2 v3
    go_wp2_with fail
    refine (HAw.out _ B6'.out).mono ?_
    rintro e w9 ⟨rfl, hb⟩
    have B9 := Lib.hid (below_then B6'.out hb)
    clear hb
    go_wp2
    go_ret
    exact ⟨rfl, B9.out⟩
  all_goals
    clear ha HPA HX
    go_wp2_with fail
    refine (HL4.out).mono ?_
    rintro e w5 ⟨rfl, hb⟩
    have B5' := Lib.hid (below_then B4.out hb)
    clear hb v0 v1 v2 v3 x0 x1 x2 x3
    go_wp2_with fail
    refine (HAw.out _ B5'.out).mono ?_
    rintro e w9 ⟨rfl, hb⟩
    have B9 := Lib.hid (below_then B5'.out hb)
    clear hb
    go_wp2
    go_ret
    exact ⟨rfl, B9.out⟩
theorem lawReads_any (t : Ty) (s : ByteArray) (cs : List Value) (w : World) (hw : Std w) (h : TyC w t cs) :
    Calls Tryz.prog 5 #[.agg cs.toArray, .string s] w fun e w' => e = .returned (.bool true) ∧ Below w.heap.size w w' := by
  have h0 := h
  obtain ⟨A, n, c, B, m, d, rfl, _⟩ := tyC_open h
  have HAw : Hid (∀ z, Below w.heap.size w z → Calls Tryz.prog 14 #[] z fun e w' => e = .returned (.bool true) ∧ Below z.heap.size z w') := fun z hz => awake_true z (hw.later hz)
  have HSm : ∀ b, smallB t [] = b → Hid (∀ u, Below w.heap.size w u → Calls Tryz.prog 13 #[.agg #[.int .i64 t.kind, .int .i64 t.len, .string t.name, .slice A n c, .slice B m d], .slice none 0 0] u fun e w' => e = .returned (.bool b) ∧ Below u.heap.size u w') := fun b hb u hu => by
    have := small_any t _ _ [] u (TyC.later hu _ _ h0) (vas_nil u)
    rwa [hb] at this
  cases hs : smallB t [] with
  | false => exact reads_small _ _ _ A B n c m d s w HAw (HSm false hs)
  | true =>
    have hst : smT t := by
      unfold smallB at hs
      rw [Bool.and_eq_true] at hs
      exact small_smT hs.1
    by_cases h6 : s.size ≤ 6000
    · exact reads_all _ _ _ A B n c m d s w t h6 HAw (HSm true hs)
        (fun u hu => copyType_any t _ u hst (TyC.later hu _ _ h0))
        (fun u cs hu h1 => pparse_any t s cs u hst (by omega) (hw.later hu) h1)
        (fun u hu => rparse_any t s _ u hst (by omega) (TyC.later hu _ _ h0))
        (fun u v cs hu h1 => ptext_any t v _ cs u hst (hw.later hu) (TyC.later hu _ _ h0) h1)
    · exact reads_long _ _ _ A B n c m d s w h6 HAw (HSm true hs)
end Go.Proofs.YtdiagnhdigakpaaGreatDoor
