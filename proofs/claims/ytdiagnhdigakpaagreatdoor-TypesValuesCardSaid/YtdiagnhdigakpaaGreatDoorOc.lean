/- The contracts of the reference's Equal, Text and All. -/
import Derived.Test.YtdiagnhdigakpaaGreatDoorZr
import Derived.Test.YtdiagnhdigakpaaGreatDoorZs
import Derived.Test.YtdiagnhdigakpaaGreatDoorKf
import Derived.Test.YtdiagnhdigakpaaGreatDoorKg
namespace Go.Proofs.YtdiagnhdigakpaaGreatDoor
open Go.RowKit

set_option maxRecDepth 100000 in
set_option maxHeartbeats 8000000 in
theorem rEqual_gen (k l k1 n1 k2 n2 : Int) (nm : ByteArray) (t3 t4 v5 v6 u5 u6 : Value) (a b z : Bool) (w : World)
    (HA : Hid (∀ u, Below w.heap.size w u → Calls Tryz.prog 31 #[.agg #[.int .i64 k, .int .i64 l, .string nm, t3, t4], .agg #[.int .i64 k1, .int .i64 n1, v5, v6]] u fun e w' => e = .returned (.bool a) ∧ Below u.heap.size u w'))
    (HB : Hid (∀ u, Below w.heap.size w u → Calls Tryz.prog 31 #[.agg #[.int .i64 k, .int .i64 l, .string nm, t3, t4], .agg #[.int .i64 k2, .int .i64 n2, u5, u6]] u fun e w' => e = .returned (.bool b) ∧ Below u.heap.size u w'))
    (HX : Hid (a = true → b = true → ∀ u, Below w.heap.size w u → Calls Tryz.prog 24 #[.agg #[.int .i64 k1, .int .i64 n1, v5, v6], .agg #[.int .i64 k2, .int .i64 n2, u5, u6]] u fun e w' => e = .returned (.bool z) ∧ Below u.heap.size u w')) :
    Calls Tryz.prog 33 #[.agg #[.int .i64 k, .int .i64 l, .string nm, t3, t4], .agg #[.int .i64 k1, .int .i64 n1, v5, v6], .agg #[.int .i64 k2, .int .i64 n2, u5, u6]] w fun e w' => e = .returned (.tuple #[.bool (a && (b && z)), .int .i64 ((if a && b then 0 else 2 : Nat) : Int)]) ∧ Below w.heap.size w w' := by
  have H3 := Lib.hid (boxes3 w 26 38 38 #[.int .i64 k, .int .i64 l, .string nm, t3, t4] #[.int .i64 k1, .int .i64 n1, v5, v6] #[.int .i64 k2, .int .i64 n2, u5, u6])
  have H0 := Lib.hid H3.out.2.2.2.1
  cases a
  · clear HB HX
    go_enter Tryz.func33, Tryz.ntmps33
    go_wp2_with fail
    refine (HA.out _ H0.out).mono ?_
    rintro e w1 ⟨rfl, hb1⟩
    have H1 := Lib.hid (below_then H0.out hb1)
    clear hb1
    go_wp2
    go_ret2
    exact ⟨rfl, H1.out⟩
  cases b
  · clear HX
    go_enter Tryz.func33, Tryz.ntmps33
    go_wp2_with fail
    refine (HA.out _ H0.out).mono ?_
    rintro e w1 ⟨rfl, hb1⟩
    have H1 := Lib.hid (below_then H0.out hb1)
    obtain ⟨p0, p1, p2, p3, p4⟩ := fives (H3.out.1.later hb1)
    obtain ⟨q0, q1, q2, q3⟩ := four (H3.out.2.1.later hb1)
    obtain ⟨r0, r1, r2, r3⟩ := four (H3.out.2.2.1.later hb1)
    clear hb1
    go_wp2_with fail
    refine (HB.out _ H1.out).mono ?_
    rintro e w2 ⟨rfl, hb2⟩
    have H2 := Lib.hid (below_then H1.out hb2)
    clear hb2 p0 p1 p2 p3 p4 q0 q1 q2 q3 r0 r1 r2 r3
    go_wp2
    go_ret2
    exact ⟨rfl, H2.out⟩
  · have HY := Lib.hid (HX.out rfl rfl)
    clear HX
    go_enter Tryz.func33, Tryz.ntmps33
    go_wp2_with fail
    refine (HA.out _ H0.out).mono ?_
    rintro e w1 ⟨rfl, hb1⟩
    have H1 := Lib.hid (below_then H0.out hb1)
    have HC := Lib.hid hb1
    obtain ⟨p0, p1, p2, p3, p4⟩ := fives (H3.out.1.later hb1)
    obtain ⟨q0, q1, q2, q3⟩ := four (H3.out.2.1.later hb1)
    obtain ⟨r0, r1, r2, r3⟩ := four (H3.out.2.2.1.later hb1)
    clear hb1
    go_wp2_with fail
    refine (HB.out _ H1.out).mono ?_
    rintro e w2 ⟨rfl, hb2⟩
    have H2 := Lib.hid (below_then H1.out hb2)
    clear p0 p1 p2 p3 p4 q0 q1 q2 q3 r0 r1 r2 r3
    obtain ⟨q0, q1, q2, q3⟩ := four (H3.out.2.1.later (below_then HC.out hb2))
    obtain ⟨r0, r1, r2, r3⟩ := four (H3.out.2.2.1.later (below_then HC.out hb2))
    clear hb2
    go_wp2_with fail
    refine (HY.out _ H2.out).mono ?_
    rintro e w3 ⟨rfl, hb3⟩
    have HB3 := Lib.hid (below_then H2.out hb3)
    clear hb3 q0 q1 q2 q3 r0 r1 r2 r3
    go_wp2
    go_ret2
    exact ⟨rfl, HB3.out⟩
set_option maxRecDepth 100000 in
set_option maxHeartbeats 4000000 in
theorem rtext_gen (k l k1 n1 : Int) (nm : ByteArray) (t3 t4 v5 v6 : Value) (a : Bool) (s : List UInt8) (w : World)
    (HA : Hid (∀ u, Below w.heap.size w u → Calls Tryz.prog 31 #[.agg #[.int .i64 k, .int .i64 l, .string nm, t3, t4], .agg #[.int .i64 k1, .int .i64 n1, v5, v6]] u fun e w' => e = .returned (.bool a) ∧ Below u.heap.size u w'))
    (HX : Hid (a = true → ∀ u, Below w.heap.size w u → Calls Tryz.prog 79 #[.agg #[.int .i64 k, .int .i64 l, .string nm, t3, t4], .agg #[.int .i64 k1, .int .i64 n1, v5, v6]] u (WriPost s u))) :
    Calls Tryz.prog 35 #[.agg #[.int .i64 k, .int .i64 l, .string nm, t3, t4], .agg #[.int .i64 k1, .int .i64 n1, v5, v6]] w fun e w' => e = .returned (.tuple #[.string (sb (if a then s else [])), .int .i64 (if a then 0 else 2 : Nat)]) ∧ Below w.heap.size w w' := by
  have H2 := Lib.hid (boxes2 w 26 38 #[.int .i64 k, .int .i64 l, .string nm, t3, t4] #[.int .i64 k1, .int .i64 n1, v5, v6])
  have H0 := Lib.hid H2.out.2.2.1
  cases a
  · clear HX
    go_enter Tryz.func35, Tryz.ntmps35
    go_wp2_with fail
    refine (HA.out _ H0.out).mono ?_
    rintro e w1 ⟨rfl, hb1⟩
    have H1 := Lib.hid (below_then H0.out hb1)
    clear hb1
    go_wp2
    go_ret2
    exact ⟨rfl, H1.out⟩
  · have HY := Lib.hid (HX.out rfl)
    clear HX
    rw [if_pos rfl, if_pos rfl]
    unfold WriPost at HY
    generalize sb s = x at *
    go_enter Tryz.func35, Tryz.ntmps35
    go_wp2_with fail
    refine (HA.out _ H0.out).mono ?_
    rintro e w1 ⟨rfl, hb1⟩
    have H1 := Lib.hid (below_then H0.out hb1)
    obtain ⟨p0, p1, p2, p3, p4⟩ := fives (H2.out.1.later hb1)
    obtain ⟨q0, q1, q2, q3⟩ := four (H2.out.2.1.later hb1)
    clear hb1
    go_wp2_with fail
    refine (HY.out _ H1.out).mono ?_
    rintro e w2 ⟨rfl, hb2⟩
    have H3 := Lib.hid (below_then H1.out hb2)
    clear hb2 p0 p1 p2 p3 p4 q0 q1 q2 q3
    go_wp2
    go_ret2
    exact ⟨rfl, H3.out⟩
theorem rEqual_any (t : Ty) (v u : Va) (cs c1 c2 : List Value) (w : World) (ht : smT t) (hv : smV v) (hu : smV u) (h : TyC w t cs) (h1 : VaC w v c1) (h2 : VaC w u c2) :
    Calls Tryz.prog 33 #[.agg cs.toArray, .agg c1.toArray, .agg c2.toArray] w fun e w' => e = .returned (.tuple #[.bool (eqR t v u), .int .i64 (eqE t v u : Nat)]) ∧ Below w.heap.size w w' := by
  have h0 := h
  have h10 := h1
  have h20 := h2
  obtain ⟨A, n, c, B, m, d, rfl, _⟩ := tyC_open h
  obtain ⟨C, x, p, D, y, q, rfl, _⟩ := vaC_open h1
  obtain ⟨C', x', p', D', y', q', rfl, _⟩ := vaC_open h2
  exact rEqual_gen _ _ _ _ _ _ _ _ _ _ _ _ _ (hasT t v) (hasT t u) (alikeV v u) w (fun z hz => rhas_any t v _ _ z ht.nm (TyC.later hz _ _ h0) (VaC.later hz _ _ h10)) (fun z hz => rhas_any t u _ _ z ht.nm (TyC.later hz _ _ h0) (VaC.later hz _ _ h20))
    (fun _ _ z hz => ralike_any v u _ _ z hv hu (VaC.later hz _ _ h10) (VaC.later hz _ _ h20))
theorem rtext_any (t : Ty) (v : Va) (cs c1 : List Value) (w : World) (ht : smT t) (h : TyC w t cs) (h1 : VaC w v c1) :
    Calls Tryz.prog 35 #[.agg cs.toArray, .agg c1.toArray] w fun e w' => e = .returned (.tuple #[.string (sb (textR t v)), .int .i64 (hasE t v : Nat)]) ∧ Below w.heap.size w w' := by
  have h0 := h
  have h10 := h1
  obtain ⟨A, n, c, B, m, d, rfl, _⟩ := tyC_open h
  obtain ⟨C, x, p, D, y, q, rfl, _⟩ := vaC_open h1
  exact rtext_gen _ _ _ _ _ _ _ _ _ (hasT t v) (textV t v) w (fun z hz => rhas_any t v _ _ z ht.nm (TyC.later hz _ _ h0) (VaC.later hz _ _ h10))
    (fun ha z hz => rwritten_any (hasT_good ha).1 ht (hasT_good ha).2 (TyC.later hz _ _ h0) (VaC.later hz _ _ h10))
theorem hasF_sm {t : Ty} {v : Va} (ht : Flat isNameL t) (h : HasF t v) : smV v := by
  cases h with
  | bit nm ns es l b h => exact (smV_def _ _ _ _).2 ⟨by simp, by simp, by simp⟩
  | bool nm ns es l n h => exact (smV_def _ _ _ _).2 ⟨by simp, by simp, by simp⟩
  | int nm ns es l n h1 h2 => exact (smV_def _ _ _ _).2 ⟨by simp, by simp, by simp⟩
  | vec nm ns es l bs hl hb =>
    cases ht with
    | sc k hk => omega
    | vec l h1 h2 => exact (smV_def _ _ _ _).2 ⟨by omega, by simp, by simp⟩
  | en nm ns es l i h => exact (smV_def _ _ _ _).2 ⟨by simp, by simp, by simp⟩
theorem split_small {t : Ty} {v : Va} (h : hasT t v = true) : (splitV v).length ≤ 4096 ∧ ∀ x ∈ splitV v, smV x := by
  obtain ⟨h1, h2⟩ := hasT_good h
  have g := good_split h1 h2
  refine ⟨by rw [g.1]; exact (good_count h1).2, fun x hx => ?_⟩
  exact hasF_sm (scalarT_good h1).1 (g.2.2 x hx)
theorem vas_va {w : World} {u : Value} {ls : List Va} (h : VasC w u ls) : VaC w (.mk 0 0 [] ls) [.int .i64 0, .int .i64 0, .slice none 0 0, u] := by
  obtain ⟨A, c, rfl, h1, h2, h3⟩ := h
  rw [VaC]
  exact ⟨_, A, c, rfl, ⟨none, 0, rfl, by simp, by simp, by simp, .inl rfl⟩, h1, h2, h3⟩
set_option maxRecDepth 100000 in
set_option maxHeartbeats 4000000 in
theorem rall_same (ls : List Va) (hl : ls.length ≤ 10000) (hs : ∀ x ∈ ls, smV x) (u1 u2 : Value) (w : World) (h1 : VasC w u1 ls) (h2 : VasC w u2 ls) :
    Calls Tryz.prog 41 #[u1, u2] w fun e w' => e = .returned (.bool true) ∧ Below w.heap.size w w' := by
  have HX := ralike_any (.mk 0 0 [] ls) (.mk 0 0 [] ls) _ _ w ((smV_def _ _ _ _).2 ⟨by simp, hl, hs⟩) ((smV_def _ _ _ _).2 ⟨by simp, hl, hs⟩) (vas_va h1) (vas_va h2)
  rw [alikeV_refl] at HX
  obtain ⟨A, c, rfl, -⟩ := h1
  obtain ⟨B, d, rfl, -⟩ := h2
  have HY := Lib.hid HX
  clear HX
  go_enter Tryz.func41, Tryz.ntmps41
  go_wp2_with fail
  refine (HY.out).mono ?_
  rintro e w1 ⟨rfl, hb⟩
  have B1 := Lib.hid hb
  clear hb
  go_wp2
  go_ret
  exact ⟨rfl, B1.out⟩
end Go.Proofs.YtdiagnhdigakpaaGreatDoor
