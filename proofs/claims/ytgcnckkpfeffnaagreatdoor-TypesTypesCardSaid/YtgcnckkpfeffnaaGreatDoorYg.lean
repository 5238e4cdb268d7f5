/- The reference's places and Places of any type. -/
import Derived.Test.YtgcnckkpfeffnaaGreatDoorYf
import Derived.Test.YtgcnckkpfeffnaaGreatDoorZa
namespace Go.Proofs.YtgcnckkpfeffnaaGreatDoor
open Go.RowKit

theorem flat_single {α : Type} (l : Nat) (x : α) : (List.replicate l [x]).flatten = List.replicate l x := by
  rw [show [x] = List.replicate 1 x from rfl, List.flatten_replicate_replicate, Nat.mul_one]
theorem rplc_flat {S : Nat → Prop} {t : Ty} {cs : List Value} {w : World} (hf : Flat isNameL t) (hS : ∀ b, S b → b < w.heap.size) (h : TyP S w t cs) : Calls Tryz.prog 73 #[.agg cs.toArray] w (PlcPost S (placesT t) w) := by
  have h0 := h
  obtain ⟨A, n, c, B, m, d, rfl, _⟩ := tyC_open (TyP.toC _ _ h)
  cases hf with
  | sc k hk =>
    rw [placesT_mk _ _ _ _ _ (by omega) (by omega)]
    exact rplc_o S _ _ _ _ _ _ w (by rw [beq_eq_false_iff_ne]; show ¬ k = 4; omega) (by rw [beq_eq_false_iff_ne]; show ¬ k = 6; omega) hS h0
  | vec l h1 h2 =>
    have e : placesT (.mk 4 (l : Int) noName [] []) = (List.replicate l [bitT]).flatten := by rw [placesT_vec, Int.toNat_natCast, flat_single]
    rw [e]
    exact rplc_4 S l h2 _ _ _ w
  | en nm ns h1 h2 =>
    rw [placesT_mk _ _ _ _ _ (by omega) (by omega)]
    exact rplc_o S _ _ _ _ _ _ w rfl rfl hS h0
theorem rplc_good {S : Nat → Prop} {t : Ty} {cs : List Value} {w : World} (ht : Good isNameL t) (hS : ∀ b, S b → b < w.heap.size) (h : TyP S w t cs) : Calls Tryz.prog 73 #[.agg cs.toArray] w (PlcPost S (placesT t) w) := by
  cases ht with
  | flat t hf => exact rplc_flat hf hS h
  | arr l e h1 h2 he =>
    rw [TyP] at h
    obtain ⟨vn, A, c, rfl, hs, g1, g2, hc⟩ := h
    rcases hc with hc | ⟨b, off, rfl, hSb, hc⟩
    · cases hc
    rw [TyPAt] at hc
    obtain ⟨⟨ce, k1, k2⟩, _⟩ := hc
    have k1' := k1
    obtain ⟨A1, n1, c1, A2, n2, c2, rfl, _⟩ := tyC_open (TyP.toC _ _ k1)
    have h5 : Ty5 w b off e.kind e.len e.name (.slice A1 n1 c1) (.slice A2 n2 c2) := ⟨k2 0 (by omega), k2 1 (by omega), k2 2 (by omega), k2 3 (by omega), k2 4 (by omega)⟩
    have hfc := flat_count he
    have hpl : (placesT e).length = countT e := by rw [flat_places he, List.length_replicate]
    rw [placesT_arr, Int.toNat_natCast]
    exact rplc_6 S (placesT e) (by omega) (by omega) l h2 noName vn b off c e.kind e.len e.name A1 A2 n1 c1 n2 c2 w hS h5 (fun u hu => rplc_flat he (fun b hb => Nat.lt_of_lt_of_le (hS b hb) hu.size) (k1'.later hu))
set_option maxRecDepth 100000 in
set_option maxHeartbeats 8000000 in
theorem rpla_bad (k l : Int) (nm : ByteArray) (v3 v4 : Value) (w : World)
    (HV : Hid (∀ u, Below w.heap.size w u → Calls Tryz.prog 17 #[.agg #[.int .i64 k, .int .i64 l, .string nm, v3, v4]] u fun e w' => e = .returned (.bool false) ∧ Below u.heap.size u w')) :
    Calls Tryz.prog 28 #[.agg #[.int .i64 k, .int .i64 l, .string nm, v3, v4]] w (PairPost (.int .i64 (0 : Nat)) 2 w) := by
  have B0 := Lib.hid (below_alloc w (.cells #[.int .i64 k, .int .i64 l, .string nm, v3, v4] 26))
  have T0 := Lib.hid (box1 w 26 #[.int .i64 k, .int .i64 l, .string nm, v3, v4])
  unfold PairPost
  go_enter Tryz.func28, Tryz.ntmps28
  obtain ⟨tc_0, tc_1, tc_2, tc_3, tc_4⟩ := fives T0.out
  go_wp2_with fail
  refine (HV.out _ B0.out).mono ?_
  rintro e w1 ⟨rfl, hb⟩
  have B1 := Lib.hid (below_then B0.out hb)
  clear hb
  clear tc_0 tc_1 tc_2 tc_3 tc_4
  go_wp2
  go_ret2
  exact ⟨rfl, B1.out⟩
set_option maxRecDepth 100000 in
set_option maxHeartbeats 8000000 in
theorem rpla_ok (S : Nat → Prop) (ls : List Ty) (k l : Int) (nm : ByteArray) (v3 v4 : Value) (w : World)
    (HV : Hid (∀ u, Below w.heap.size w u → Calls Tryz.prog 17 #[.agg #[.int .i64 k, .int .i64 l, .string nm, v3, v4]] u fun e w' => e = .returned (.bool true) ∧ Below u.heap.size u w'))
    (HP : Hid (∀ u, Below w.heap.size w u → Calls Tryz.prog 73 #[.agg #[.int .i64 k, .int .i64 l, .string nm, v3, v4]] u (PlcPost S ls u))) :
    Calls Tryz.prog 28 #[.agg #[.int .i64 k, .int .i64 l, .string nm, v3, v4]] w (PairPost (.int .i64 (ls.length : Nat)) 0 w) := by
  have B0 := Lib.hid (below_alloc w (.cells #[.int .i64 k, .int .i64 l, .string nm, v3, v4] 26))
  have T0 := Lib.hid (box1 w 26 #[.int .i64 k, .int .i64 l, .string nm, v3, v4])
  unfold PairPost
  unfold PlcPost at HP
  go_enter Tryz.func28, Tryz.ntmps28
  obtain ⟨tc_0, tc_1, tc_2, tc_3, tc_4⟩ := fives T0.out
  go_wp2_with fail
  refine (HV.out _ B0.out).mono ?_
  rintro e w1 ⟨rfl, hb⟩
  have B1 := Lib.hid (below_then B0.out hb)
  have T1 := Lib.hid (T0.out.later hb)
  clear hb
  clear tc_0 tc_1 tc_2 tc_3 tc_4
  obtain ⟨tc_0, tc_1, tc_2, tc_3, tc_4⟩ := fives T1.out
  go_wp2_with fail
  refine (HP.out _ B1.out).mono ?_
  rintro e w2 ⟨v, rfl, hown, hb⟩
  obtain ⟨A, c, rfl⟩ := hown.shape
  have B2 := Lib.hid (below_then B1.out hb)
  clear hb hown
  clear tc_0 tc_1 tc_2 tc_3 tc_4
  go_wp2
  go_ret2
  exact ⟨rfl, B2.out⟩
theorem rplaces_any (t : Ty) (cs : List Value) (w : World) (ht : smT t) (h : TyC w t cs) : Calls Tryz.prog 28 #[.agg cs.toArray] w (PairPost (.int .i64 (plcV t : Nat)) (valE t) w) := by
  have h0 := h
  unfold plcV valE
  cases hv : validT isNameL t with
  | false =>
    have hvh := hv_of false hv ht.nm h
    obtain ⟨A, n, c, B, m, d, rfl, _⟩ := tyC_open h
    exact rpla_bad _ _ _ _ _ w hvh
  | true =>
    have hg := valid_good hv
    have hvh := hv_of true hv ht.nm h
    obtain ⟨A, n, c, B, m, d, rfl, _⟩ := tyC_open h
    have := rpla_ok (fun b => b < w.heap.size) (placesT t) t.kind t.len t.name _ _ w hvh (fun u hu => rplc_good hg (fun b hb => Nat.lt_of_lt_of_le hb hu.size) ((TyC.old h0).later hu))
    rwa [places_len hg] at this
end Go.Proofs.YtgcnckkpfeffnaaGreatDoor
