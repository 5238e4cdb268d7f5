/- The contracts of Split, of both sides. -/
import Derived.Test.YtdiagnhdigakpaaGreatDoorZf
import Derived.Test.YtdiagnhdigakpaaGreatDoorZs
import Derived.Test.YtdiagnhdigakpaaGreatDoorUx
import Derived.Test.YtdiagnhdigakpaaGreatDoorKf
namespace Go.Proofs.YtdiagnhdigakpaaGreatDoor
open Go.RowKit

/-- What Split returns: a row of the call's own, and an error. -/
def SplitPost (ls : List Va) (E : Nat) (w : World) (e : Ending) (w' : World) : Prop := ∃ u, e = .returned (.tuple #[u, .int .i64 (E : Nat)]) ∧ OwnV (fun b => w.heap.size ≤ b) w' w.heap.size u ls ∧ Below w.heap.size w w'
theorem s1_enters : ∀ args w, (callFunc 84 args).run Tryz.prog w = .ok (.enter 84 args) w := enters Tryz.func84 (by kernel_rfl) (by kernel_rfl)
theorem split1_takes (w0 : World) (p base : Nat) (hpb : p < base) (hw0 : w0.heap.size ≤ p) : Takes1 w0 (fun _ => True) (SplSt p base) 84 (.pointer (some ⟨p, 0, none⟩)) := by
  rintro ls x cs u0 u hl _ ⟨v, hk, ho⟩ hB hb hx
  obtain ⟨A, n, c, B, m, d, rfl, -⟩ := vaC_open (VaP.toC _ _ hx)
  have hs := ho.2.2
  exact split1_at p base hpb ls hl x v A B n c m d w0 u hw0 (Nat.le_trans hs hb.size) (hk.later hb) (ho.kept hb) (hx.mono fun b hb1 _ => by
    have hb1 : u0.heap.size ≤ b := hb1
    exact ⟨by omega, fun e => by have := (ho.lt b e).2; omega⟩) (below_then hB hb)
theorem each_split {t : Ty} {v : Va} (ht : Good isNameL t) (hh : HasG t v) (hsm : smV v) (w0 : World) (cs : List Value) (hv : VaC w0 v cs) (p base : Nat) (hpb : p < base) (hw0 : w0.heap.size ≤ p) (u : World) (hst : SplSt p base [] u) (hB : Below w0.heap.size w0 u) :
    Calls Tryz.prog 80 #[.agg cs.toArray, .func (.func 84) #[] #[.pointer (some ⟨p, 0, none⟩)]] u (EachPost w0 (SplSt p base) (splitV v)) := by
  have hc := (good_count ht).2
  exact each_good1 ht hh hsm w0 (fun _ => True) (SplSt p base) 84 _ [] cs u (by simpa using hc) (fun _ _ => trivial) hv s1_enters (split1_takes w0 p base hpb hw0) (splSt_lasts p base) hst hB
set_option maxRecDepth 100000 in
set_option maxHeartbeats 8000000 in
theorem pspt_bad (k l k1 n1 : Int) (nm : ByteArray) (t3 t4 v5 v6 : Value) (w : World)
    (HH : Hid (∀ u, Below w.heap.size w u → Calls Tryz.prog 30 #[.agg #[.int .i64 k, .int .i64 l, .string nm, t3, t4], .agg #[.int .i64 k1, .int .i64 n1, v5, v6]] u fun e w' => e = .returned (.bool false) ∧ Below u.heap.size u w')) :
    Calls Tryz.prog 39 #[.agg #[.int .i64 k, .int .i64 l, .string nm, t3, t4], .agg #[.int .i64 k1, .int .i64 n1, v5, v6]] w (SplitPost [] 2 w) := by
  have H2 := Lib.hid (boxes2 w 26 38 #[.int .i64 k, .int .i64 l, .string nm, t3, t4] #[.int .i64 k1, .int .i64 n1, v5, v6])
  have B0 := Lib.hid H2.out.2.2.1
  have T0 := Lib.hid H2.out.1
  have V0 := Lib.hid H2.out.2.1
  clear H2
  unfold SplitPost
  go_enter Tryz.func39, Tryz.ntmps39
  obtain ⟨tc_0, tc_1, tc_2, tc_3, tc_4⟩ := fives T0.out
  obtain ⟨vc_0, vc_1, vc_2, vc_3⟩ := four V0.out
  go_wp2_with fail
  refine (HH.out _ B0.out).mono ?_
  rintro e w1 ⟨rfl, hb⟩
  have B1 := Lib.hid (below_then B0.out hb)
  have T1 := Lib.hid (T0.out.later hb)
  have V1 := Lib.hid (V0.out.later hb)
  clear hb
  clear tc_0 tc_1 tc_2 tc_3 tc_4 vc_0 vc_1 vc_2 vc_3
  go_wp2
  go_ret2
  exact ⟨_, rfl, OwnV.nil _ B1.out.size, B1.out⟩
set_option maxRecDepth 100000 in
set_option maxHeartbeats 8000000 in
theorem pspt_ok (ls : List Va) (k l k1 n1 : Int) (nm : ByteArray) (t3 t4 v5 v6 : Value) (w : World)
    (HH : Hid (∀ u, Below w.heap.size w u → Calls Tryz.prog 30 #[.agg #[.int .i64 k, .int .i64 l, .string nm, t3, t4], .agg #[.int .i64 k1, .int .i64 n1, v5, v6]] u fun e w' => e = .returned (.bool true) ∧ Below u.heap.size u w'))
    (HE : Hid (∀ p base, p < base → w.heap.size ≤ p → ∀ u, SplSt p base [] u → Below w.heap.size w u → Calls Tryz.prog 80 #[.agg #[.int .i64 k1, .int .i64 n1, v5, v6], .func (.func 84) #[] #[.pointer (some ⟨p, 0, none⟩)]] u (EachPost w (SplSt p base) ls))) :
    Calls Tryz.prog 39 #[.agg #[.int .i64 k, .int .i64 l, .string nm, t3, t4], .agg #[.int .i64 k1, .int .i64 n1, v5, v6]] w (SplitPost ls 0 w) := by
  have H2 := Lib.hid (boxes2 w 26 38 #[.int .i64 k, .int .i64 l, .string nm, t3, t4] #[.int .i64 k1, .int .i64 n1, v5, v6])
  have B0 := Lib.hid H2.out.2.2.1
  have T0 := Lib.hid H2.out.1
  have V0 := Lib.hid H2.out.2.1
  clear H2
  unfold SplitPost
  go_enter Tryz.func39, Tryz.ntmps39
  obtain ⟨tc_0, tc_1, tc_2, tc_3, tc_4⟩ := fives T0.out
  obtain ⟨vc_0, vc_1, vc_2, vc_3⟩ := four V0.out
  go_wp2_with fail
  refine (HH.out _ B0.out).mono ?_
  rintro e w1 ⟨rfl, hb⟩
  have B1 := Lib.hid (below_then B0.out hb)
  have T1 := Lib.hid (T0.out.later hb)
  have V1 := Lib.hid (V0.out.later hb)
  clear hb
  clear tc_0 tc_1 tc_2 tc_3 tc_4 vc_0 vc_1 vc_2 vc_3
  have Y2 := Lib.hid (below_alloc w1 (.cells #[.slice none 0 0] 36))
  have B2 := Lib.hid (below_then B1.out Y2.out)
  have V2 := Lib.hid (V1.out.later Y2.out)
  have ST : Hid (SplSt w1.heap.size (w1.heap.size + 1) [] (w1.alloc (.cells #[.slice none 0 0] 36))) := ⟨_, Blk.new _ _ _, OwnV.nil _ (by rw [World.size_alloc]; omega)⟩
  have HX := Lib.hid (HE.out w1.heap.size (w1.heap.size + 1) (Nat.lt_succ_self _) B1.out.size _ ST.out B2.out)
  unfold EachPost SplSt at HX
  clear ST
  obtain ⟨va_0, va_1, va_2, va_3⟩ := four V2.out
  have hsz := B1.out.size
  go_wp2_with fail
  refine (HX.out).mono ?_
  rintro e w3 ⟨rfl, ⟨v3, hk3, ho3⟩, hb3⟩
  have k3 := hk3.cell 0
  have O3 := Lib.hid ho3
  have B3 := Lib.hid hb3
  clear hk3 ho3 hb3 va_0 va_1 va_2 va_3
  go_wp2
  go_ret2
  exact ⟨_, rfl, O3.out.weak (by omega) (fun b (hb : w1.heap.size + 1 ≤ b) => by omega), B3.out⟩
set_option maxRecDepth 100000 in
set_option maxHeartbeats 8000000 in
theorem rspt_bad (k l k1 n1 : Int) (nm : ByteArray) (t3 t4 v5 v6 : Value) (w : World)
    (HH : Hid (∀ u, Below w.heap.size w u → Calls Tryz.prog 31 #[.agg #[.int .i64 k, .int .i64 l, .string nm, t3, t4], .agg #[.int .i64 k1, .int .i64 n1, v5, v6]] u fun e w' => e = .returned (.bool false) ∧ Below u.heap.size u w')) :
    Calls Tryz.prog 40 #[.agg #[.int .i64 k, .int .i64 l, .string nm, t3, t4], .agg #[.int .i64 k1, .int .i64 n1, v5, v6]] w (SplitPost [] 2 w) := by
  have H2 := Lib.hid (boxes2 w 26 38 #[.int .i64 k, .int .i64 l, .string nm, t3, t4] #[.int .i64 k1, .int .i64 n1, v5, v6])
  have B0 := Lib.hid H2.out.2.2.1
  have T0 := Lib.hid H2.out.1
  have V0 := Lib.hid H2.out.2.1
  clear H2
  unfold SplitPost
  go_enter Tryz.func40, Tryz.ntmps40
  obtain ⟨tc_0, tc_1, tc_2, tc_3, tc_4⟩ := fives T0.out
  obtain ⟨vc_0, vc_1, vc_2, vc_3⟩ := four V0.out
  go_wp2_with fail
  refine (HH.out _ B0.out).mono ?_
  rintro e w1 ⟨rfl, hb⟩
  have B1 := Lib.hid (below_then B0.out hb)
  have T1 := Lib.hid (T0.out.later hb)
  have V1 := Lib.hid (V0.out.later hb)
  clear hb
  clear tc_0 tc_1 tc_2 tc_3 tc_4 vc_0 vc_1 vc_2 vc_3
  go_wp2
  go_ret2
  exact ⟨_, rfl, OwnV.nil _ B1.out.size, B1.out⟩
set_option maxRecDepth 100000 in
set_option maxHeartbeats 8000000 in
theorem rspt_ok (ls : List Va) (k l k1 n1 : Int) (nm : ByteArray) (t3 t4 v5 v6 : Value) (w : World)
    (HH : Hid (∀ u, Below w.heap.size w u → Calls Tryz.prog 31 #[.agg #[.int .i64 k, .int .i64 l, .string nm, t3, t4], .agg #[.int .i64 k1, .int .i64 n1, v5, v6]] u fun e w' => e = .returned (.bool true) ∧ Below u.heap.size u w'))
    (HE : Hid (∀ u, Below w.heap.size w u → Calls Tryz.prog 85 #[.agg #[.int .i64 k1, .int .i64 n1, v5, v6]] u (SplPost ls u))) :
    Calls Tryz.prog 40 #[.agg #[.int .i64 k, .int .i64 l, .string nm, t3, t4], .agg #[.int .i64 k1, .int .i64 n1, v5, v6]] w (SplitPost ls 0 w) := by
  have H2 := Lib.hid (boxes2 w 26 38 #[.int .i64 k, .int .i64 l, .string nm, t3, t4] #[.int .i64 k1, .int .i64 n1, v5, v6])
  have B0 := Lib.hid H2.out.2.2.1
  have T0 := Lib.hid H2.out.1
  have V0 := Lib.hid H2.out.2.1
  clear H2
  unfold SplitPost
  go_enter Tryz.func40, Tryz.ntmps40
  obtain ⟨tc_0, tc_1, tc_2, tc_3, tc_4⟩ := fives T0.out
  obtain ⟨vc_0, vc_1, vc_2, vc_3⟩ := four V0.out
  go_wp2_with fail
  refine (HH.out _ B0.out).mono ?_
  rintro e w1 ⟨rfl, hb⟩
  have B1 := Lib.hid (below_then B0.out hb)
  have T1 := Lib.hid (T0.out.later hb)
  have V1 := Lib.hid (V0.out.later hb)
  clear hb
  clear tc_0 tc_1 tc_2 tc_3 tc_4 vc_0 vc_1 vc_2 vc_3
  unfold SplPost at HE
  obtain ⟨vc_0, vc_1, vc_2, vc_3⟩ := four V1.out
  go_wp2_with fail
  refine (HE.out _ B1.out).mono ?_
  rintro e w2 ⟨u, rfl, hown, hb⟩
  have B2 := Lib.hid (below_then B1.out hb)
  have T2 := Lib.hid (T1.out.later hb)
  have V2 := Lib.hid (V1.out.later hb)
  have O2 := Lib.hid hown
  clear hown
  clear hb
  clear vc_0 vc_1 vc_2 vc_3
  have hsz := B1.out.size
  go_wp2
  go_ret2
  exact ⟨_, rfl, O2.out.weak hsz (fun b (hb : w1.heap.size ≤ b) => by omega), B2.out⟩
/-- The scalars of a value of a type, or none. -/
def spltR (t : Ty) (v : Va) : List Va := if hasT t v then splitV v else []
theorem psplit_any (t : Ty) (v : Va) (cs c1 : List Value) (w : World) (ht : smT t) (hv : smV v) (h : TyC w t cs) (h1 : VaC w v c1) :
    Calls Tryz.prog 39 #[.agg cs.toArray, .agg c1.toArray] w (SplitPost (spltR t v) (hasE t v) w) := by
  have h0 := h
  have h10 := h1
  have HH : ∀ b, hasT t v = b → ∀ u, Below w.heap.size w u → Calls Tryz.prog 30 #[.agg cs.toArray, .agg c1.toArray] u fun e w' => e = .returned (.bool b) ∧ Below u.heap.size u w' := fun b hb u hu => by
    have := phas_any t v cs c1 u ht (TyC.later hu _ _ h0) (VaC.later hu _ _ h10)
    rwa [hb] at this
  unfold spltR hasE
  obtain ⟨A, n, c, B, m, d, rfl, _⟩ := tyC_open h
  obtain ⟨C, y, p, D, z, q, rfl, _⟩ := vaC_open h1
  cases hb : hasT t v with
  | false => exact pspt_bad _ _ _ _ _ _ _ _ _ w (HH false hb)
  | true =>
    have hg := hb
    unfold hasT at hg
    rw [Bool.and_eq_true] at hg
    exact pspt_ok (splitV v) _ _ _ _ _ _ _ _ _ w (HH true hb) (fun p base hp hw u hst hu => each_split (valid_good hg.1) (hasG_of (valid_good hg.1) hg.2) hv w _ h10 p base hp hw u hst hu)
theorem rsplit_any (t : Ty) (v : Va) (cs c1 : List Value) (w : World) (ht : smT t) (hv : smV v) (h : TyC w t cs) (h1 : VaC w v c1) :
    Calls Tryz.prog 40 #[.agg cs.toArray, .agg c1.toArray] w (SplitPost (spltR t v) (hasE t v) w) := by
  have h0 := h
  have h10 := h1
  have HH : ∀ b, hasT t v = b → ∀ u, Below w.heap.size w u → Calls Tryz.prog 31 #[.agg cs.toArray, .agg c1.toArray] u fun e w' => e = .returned (.bool b) ∧ Below u.heap.size u w' := fun b hb u hu => by
    have := rhas_any t v cs c1 u ht.nm (TyC.later hu _ _ h0) (VaC.later hu _ _ h10)
    rwa [hb] at this
  unfold spltR hasE
  obtain ⟨A, n, c, B, m, d, rfl, _⟩ := tyC_open h
  obtain ⟨C, y, p, D, z, q, rfl, _⟩ := vaC_open h1
  cases hb : hasT t v with
  | false => exact rspt_bad _ _ _ _ _ _ _ _ _ w (HH false hb)
  | true =>
    have hg := hb
    unfold hasT at hg
    rw [Bool.and_eq_true] at hg
    exact rspt_ok (splitV v) _ _ _ _ _ _ _ _ _ w (HH true hb) (fun u hu => rspl_good (valid_good hg.1) (hasG_of (valid_good hg.1) hg.2) hv (VaC.later hu _ _ h10))
end Go.Proofs.YtdiagnhdigakpaaGreatDoor
