/- VecMoves: Left is a product by a power of 2; Right of Left keeps the lowest bits; no condition. -/
import Derived.Test.YtkapephlfbabjaaLaw
import Derived.Test.YtkapephlfbabjaaAwake
import Derived.Test.YtkapephlfbabjaaTwo
namespace Go.Proofs.Ytkapephlfbabjaa
open Go.ChangeShapes Go.WideShapes Go.ChangeAt Go.WideMaps Go.WideElems Go.RowKit
open Go.ChangeMaps (open_string)

set_option maxRecDepth 100000 in
set_option maxHeartbeats 8000000 in
theorem moves_at (b off n c : Nat) (k : Int) (m p : Nat) (w : World) (zs L R M : List Nat) (kv : Bool) (hn : n ≤ 64) (h1 : 1 ≤ n) (hk0 : decide (k < 0) = false) (hrem : k.tmod (n : Int) = (m : Int)) (hmn : Hid (m < n))
    (hp : Hid (p + m = n)) (_hpw : wrap64 ((n : Int) - (m : Int)) = (p : Int)) (hzl : zs.length = n)
    (HV : Hid (Sl w (.slice (some ⟨b, off, none⟩) n c) zs)) (HVc : Hid (∀ (j : Nat) (h : j < zs.length), w.cell? ⟨b, off + j, none⟩ = some (.int .u8 (zs[j] : Nat))))
    (HI : Hid (∀ v w, Sl w v zs → Calls Try.prog 53 #[v] w fun e w' => e = .returned (.bool true) ∧ w = w'))
    (HKv : Hid (∀ v w, Sl w v zs → Calls Try.prog 54 #[v] w fun e w' => e = .returned (.bool kv) ∧ w = w'))
    (HLe : Hid (∀ v w, Sl w v zs → Calls Try.prog 41 #[v, .int .i64 (m : Nat)] w fun e w' => ∃ x, e = .returned (.tuple #[x, .int .i64 0]) ∧ Sl w' x L ∧ Below w.heap.size w w')) (HRi : Hid (∀ v w, Sl w v L → Calls Try.prog 43 #[v, .int .i64 (m : Nat)] w fun e w' => ∃ x, e = .returned (.tuple #[x, .int .i64 0]) ∧ Sl w' x R ∧ Below w.heap.size w w'))
    (HM : Hid (∀ u v w, Sl w u zs → Sl w v (unit n m) → Calls Try.prog 33 #[u, v] w fun e w' => ∃ x, e = .returned (.tuple #[x, .int .i64 0]) ∧ Sl w' x M ∧ Below w.heap.size w w')) (HE : Ends kv (M = L)) (HRl : Hid (R.length = n)) (HRg : Hid (∀ j (h : j < R.length), R[j] = if j < p then zs.getD j 0 else 0)) :
    Calls Try.prog 9 #[.slice (some ⟨b, off, none⟩) n c, .int .i64 k] w fun e w' => e = .returned (.bool true) ∧ Below w.heap.size w w' := by
  go_enter Try.func9, Try.ntmps9
  go_wp2_with fail
  refine (HI.out _ _ HV.out).mono ?_
  rintro e w' ⟨rfl, rfl⟩
  go_wp2_with fail
  refine (HLe.out _ _ HV.out).mono ?_
  rintro e v1 ⟨x, rfl, sx, hb1⟩
  have HB1 := Lib.hid hb1
  have Hv1 := Lib.hid (HV.out.later hb1)
  have Hx1 := Lib.hid sx
  clear hb1 sx HV
  go_wp2_with fail
  refine (HRi.out _ _ Hx1.out).mono ?_
  rintro e v2 ⟨y, rfl, sy, hb2⟩
  have HB2 := Lib.hid (below_then HB1.out hb2)
  have Hv2 := Lib.hid (Hv1.out.later hb2)
  have Hx2 := Lib.hid (Hx1.out.later hb2)
  have Hy2 := Lib.hid sy
  clear hb2 sy Hv1 Hx1 HB1
  obtain ⟨b1, off1, cy, rfl, ⟨hny, hqy⟩, _, hcy⟩ := Hy2.out.cells (by have := HRl.out; omega)
  have HCY := Lib.hid hcy
  have hcv := HVc.out
  have hcv2 : Hid (∀ (j : Nat) (h : j < n), v2.cell? ⟨b, off + j, none⟩ = some (.int .u8 (zs[j]'(by omega) : Nat))) := fun j h => (HB2.out.cell (block_lt_of_cell (hcv j (by omega)))).trans (hcv j (by omega))
  have HYl := Lib.hid hqy
  clear hqy
  rw [HRl.out] at HYl ⊢
  clear hcy hcv hny
  go_wp2_with fail
  go_loopw [52] (fun i wr => ∃ j : Nat, j ≤ n ∧ i = .int .i64 j ∧ Below v2.heap.size v2 wr) (fun i _ => n - (intOf i).toNat)
  case atStart => exact ⟨0, Nat.zero_le _, rfl, Below.refl _ _⟩
  case round =>
    obtain ⟨j, hj, rfl, hb3⟩ := hrel
    have hpw2 : IntKind.i64.wrap ((n : Int) - (m : Int)) = (p : Int) := by rw [show (n : Int) - (m : Int) = (p : Int) by have := hp.out; omega]; exact wrap_i64 (by have := hp.out; omega)
    have hj0 : (0 : Int) ≤ (j : Int) := by omega
    by_cases hlt : j < n
    · have hjR : j < R.length := by have := HRl.out; omega
      have hji : (j : Int) < (n : Int) := by omega
      have hjz : j < zs.length := by omega
      have g1 := (hb3.cell (block_lt_of_cell (HCY.out j hjR))).trans (HCY.out j hjR)
      have g2 := (hb3.cell (block_lt_of_cell (hcv2.out j hlt))).trans (hcv2.out j hlt)
      have HB3 := Lib.hid hb3
      clear hb3
      by_cases hp : j < p
      · have d1 : decide ((j : Int) < (p : Int)) = true := by rw [decide_eq_true_eq]; omega
        have d2 : decide ((p : Int) ≤ (j : Int)) = false := by rw [decide_eq_false_iff_not]; omega
        have d3 : decide (j < p) = true := by rw [decide_eq_true_eq]; omega
        have d4 : decide (p ≤ j) = false := by rw [decide_eq_false_iff_not]; omega
        rw [HRg.out j hjR, if_pos hp, getD_at hjz] at g1
        generalize zs[j] = z at g1 g2
        clear hp hjR hjz
        go_wp2
        go_quiet (fail)
        go_wp2
        go_roundw
        case rel => exact ⟨j + 1, by omega, by go_num, below_drewN HB3.out _⟩
        case measure => simp [intOf]; omega
      · have d1 : decide ((j : Int) < (p : Int)) = false := by rw [decide_eq_false_iff_not]; omega
        have d2 : decide ((p : Int) ≤ (j : Int)) = true := by rw [decide_eq_true_eq]; omega
        have d3 : decide (j < p) = false := by rw [decide_eq_false_iff_not]; omega
        have d4 : decide (p ≤ j) = true := by rw [decide_eq_true_eq]; omega
        rw [HRg.out j hjR, if_neg hp] at g1
        generalize zs[j] = z at g2
        clear hp hjR hjz
        go_wp2
        go_quiet (fail)
        go_wp2
        go_roundw
        case rel => exact ⟨j + 1, by omega, by go_num, below_drewN HB3.out _⟩
        case measure => simp [intOf]; omega
    · skip
      have HB3 := Lib.hid (below_then HB2.out hb3)
      have Hv3 := Lib.hid (Hv2.out.later hb3)
      have Hx3 := Lib.hid (Hx2.out.later hb3)
      clear hb3 Hv2 Hx2 HB2
      rcases kv with _ | _
      · skip
        go_wp2_with fail
        refine (HKv.out _ _ Hv3.out).mono ?_
        rintro e w' ⟨rfl, rfl⟩
        go_wp2_with fail
        refine (awake_any _).mono ?_
        rintro e v4 ⟨rfl, hb4⟩
        have HB4 := Lib.hid (below_then HB3.out hb4)
        have Hv4 := Lib.hid (Hv3.out.later hb4)
        have Hx4 := Lib.hid (Hx3.out.later hb4)
        clear hb4 Hv3 Hx3 HB3
        go_wp2
        go_ret
        exact ⟨rfl, HB4.out⟩
      · skip
        go_wp2_with fail
        refine (HKv.out _ _ Hv3.out).mono ?_
        rintro e w' ⟨rfl, rfl⟩
        obtain rfl := HE rfl
        have hm : (m : Int) < (n : Int) := by have := hmn.out; omega
        go_wp2_with (first | (refine wpList_make_bits rfl _ _ rfl n rfl rfl (by omega) ?_; intro w4 hown4 hb4; have HO4 := Lib.hid hown4; clear hown4; obtain ⟨gc4, gf4⟩ := HO4.out.cell m (by rw [List.length_replicate]; exact hmn.out); have HB44 := Lib.hid hb4; clear hb4))
        have hbs := HO4.out.stored m 1 (by decide)
        have HO5 := Lib.hid hbs.1
        have hb5 := HB44.out.trans (hbs.2 _ (Nat.le_refl _))
        clear hbs
        have HB5 := Lib.hid (below_then HB3.out hb5)
        have Hv5 := Lib.hid (Hv3.out.later hb5)
        have Hx5 := Lib.hid (Hx3.out.later hb5)
        clear hb5 HB44 HB3 Hv3 Hx3
        refine (HM.out _ _ _ Hv5.out HO5.out.sl).mono ?_
        rintro e v6 ⟨z6, rfl, sz, hb6⟩
        have HB6 := Lib.hid (below_then HB5.out hb6)
        have Hv6 := Lib.hid (Hv5.out.later hb6)
        have Hx6 := Lib.hid (Hx5.out.later hb6)
        have Hz6 := Lib.hid sz
        clear hb6 Hv5 Hx5 HB5
        clear sz
        go_wp2_with fail
        refine (same_at _ _ _ _ Hx6.out Hz6.out).mono ?_
        rintro e v7 ⟨rfl, hb7⟩
        have HB7 := Lib.hid (below_then HB6.out hb7)
        have Hv7 := Lib.hid (Hv6.out.later hb7)
        have Hx7 := Lib.hid (Hx6.out.later hb7)
        have Hz7 := Lib.hid (Hz6.out.later hb7)
        clear hb7 Hv6 Hx6 Hz6 HB6
        go_wp2_with fail
        refine (awake_any _).mono ?_
        rintro e v8 ⟨rfl, hb8⟩
        have HB8 := Lib.hid (below_then HB7.out hb8)
        have Hv8 := Lib.hid (Hv7.out.later hb8)
        have Hx8 := Lib.hid (Hx7.out.later hb8)
        have Hz8 := Lib.hid (Hz7.out.later hb8)
        clear hb8 Hv7 Hx7 Hz7 HB7
        go_wp2
        go_ret
        exact ⟨rfl, HB8.out⟩
set_option maxRecDepth 100000 in
set_option maxHeartbeats 2000000 in
theorem moves_no (A : Option Addr) (n c : Nat) (k : Int) (w : World) (zs : List Nat) (HV : Hid (Sl w (.slice A n c) zs)) (HI : Hid (∀ v w, Sl w v zs → Calls Try.prog 53 #[v] w fun e w' => e = .returned (.bool false) ∧ w = w')) :
    Calls Try.prog 9 #[.slice A n c, .int .i64 k] w fun e w' => e = .returned (.bool true) ∧ Below w.heap.size w w' := by
  skip
  go_enter Try.func9, Try.ntmps9
  go_wp2_with fail
  refine (HI.out _ _ HV.out).mono ?_
  rintro e w' ⟨rfl, rfl⟩
  go_wp2_with fail
  refine (awake_any _).mono ?_
  rintro e v1 ⟨rfl, hb1⟩
  have HB1 := Lib.hid hb1
  have Hv1 := Lib.hid (HV.out.later hb1)
  clear hb1 HV
  go_wp2
  go_ret
  exact ⟨rfl, HB1.out⟩
set_option maxRecDepth 100000 in
set_option maxHeartbeats 2000000 in
theorem moves_neg (A : Option Addr) (n c : Nat) (k : Int) (w : World) (zs : List Nat) (HV : Hid (Sl w (.slice A n c) zs)) (HI : Hid (∀ v w, Sl w v zs → Calls Try.prog 53 #[v] w fun e w' => e = .returned (.bool true) ∧ w = w')) (hk : decide (k < 0) = true) :
    Calls Try.prog 9 #[.slice A n c, .int .i64 k] w fun e w' => e = .returned (.bool true) ∧ Below w.heap.size w w' := by
  skip
  go_enter Try.func9, Try.ntmps9
  go_wp2_with fail
  refine (HI.out _ _ HV.out).mono ?_
  rintro e w' ⟨rfl, rfl⟩
  go_wp2_with fail
  refine (awake_any _).mono ?_
  rintro e v1 ⟨rfl, hb1⟩
  have HB1 := Lib.hid hb1
  have Hv1 := Lib.hid (HV.out.later hb1)
  clear hb1 HV
  go_wp2
  go_ret
  exact ⟨rfl, HB1.out⟩
theorem vecMoves_walk (v : Value) (zs : List Nat) (k : Int) (w : World) (h : Sl w v zs) :
    Calls Try.prog 9 #[v, .int .i64 k] w fun e w' => e = .returned (.bool true) ∧ Below w.heap.size w w' := by
  cases hv : isV zs
  · have h0 := h
    obtain ⟨A, c, rfl, _, _⟩ := h0
    exact moves_no A _ c k w zs h (isF hv)
  · obtain ⟨hb, h1, h64⟩ := isV_bits hv
    have h0 := h
    obtain ⟨b, off, c, rfl, _, _, hc⟩ := h0.cells h1
    by_cases hk : k < 0
    · exact moves_neg _ _ c k w zs h (isF hv) (decide_eq_true hk)
    · obtain ⟨K, rfl⟩ : ∃ K : Nat, k = K := ⟨k.toNat, by omega⟩
      have hm : K % zs.length < zs.length := Nat.mod_lt _ (by omega)
      have e : (K : Int).tmod (zs.length : Int) = ((K % zs.length : Nat) : Int) := by rw [Int.tmod_eq_emod_of_nonneg (by omega)]; exact (Int.natCast_emod _ _).symm
      generalize hM : K % zs.length = m at hm e
      clear hM
      have hd : (zs.length : Int) - (m : Int) = ((zs.length - m : Nat) : Int) := by omega
      refine moves_at b off zs.length c K m (zs.length - m) w zs (shl zs m) (shr (shl zs m) m) (calV mulO zs (unit zs.length m)) (knB zs) h64 h1 (decide_eq_false hk) e hm (by show _ + _ = _; omega) (by rw [hd]; exact wrap64_in (by omega) (by omega)) rfl h hc (isF hv) ?_
        (fun _ _ h => left_at hv h) (fun _ _ h => right_at (shl_isV hv) h) (mulF (two_of hv (unit_isV h1 h64) (unit_len _ _)) rfl) (fun hk => shl_mul hv hk hm) (by show _ = _; rw [shr_len, shl_len]) ?_
      · rw [← knV_of hv]
        exact fun v w h => sure_any v zs w h
      · intro j hj
        rw [back_get hj]
        by_cases hp : j < zs.length - m
        · rw [if_pos hp, if_pos (by omega)]
        · rw [if_neg hp, if_neg (by omega)]

set_option maxRecDepth 100000 in
theorem vecMoves_lifted (os : Os) (started : os.Started) (H : Type) (enc : TypeId × Value → H) :
    ReturnsInHanded {} Try.checked os 9 .any (Rows.vecMovesSpec.pre6 enc Try.prog Try.f9 [] false) (Rows.vecMovesSpec.post enc Try.prog Try.f9 false true false false) := by
  refine returnsInHanded_of_change_sized (C := Try.checked) own started (by kernel_rfl) Try.func9
    (ChangeSpec.witness6 (enc := enc) (C := Try.checked) false ⟨#[], #[.slice none 0 0, .int .i64 0], []⟩ 8 (by kernel_rfl) (by kernel_rfl) (by kernel_rfl) (by kernel_rfl)) ?_
  intro W base args ds gs before hval0 hW _ hsz0 _
  have hval : ∀ (j : Nat) t v, Try.f9.params[j]? = some t → args[j]? = some v → Value.okWide Try.prog W .any base t v := hval0
  have hsz : (DataW.weightsEach Try.prog (Try.f9.params.toList ++ Rows.vecMovesSpec.plain.varTypes Try.prog) (ds ++ gs)).all (· ≤ reachBytes) = true := hsz0
  have hW' := hW
  obtain ⟨p, q, hA0, hV, rfl, hfz, hnd⟩ := hW
  have hA1 := hA0
  have hA : DataW.TrodAll enc Try.prog W 0 (fun _ => true) true Try.f9.params.toList args.toList ds p := hA0
  rw [Try.params9] at hA hval hsz
  obtain ⟨v0, v1, d0, d1, p0, p1, rfl, rfl, rfl, h0, h1⟩ := trodAll_two hA
  obtain ⟨rfl, rfl⟩ := trodVars_none hV
  obtain ⟨zs, hzs⟩ := sl_open (hval 0 22 v0 rfl rfl) h0 (fun elems spare hd => sized_slice hsz (j := 0) rfl (by rw [hd]; rfl) Try.underlying22)
  obtain ⟨k, rfl, rfl, rfl, wk⟩ := open_int Try.underlying3 (hval 1 3 v1 rfl rfl) h1
  have bk := bounds_i64 wk

  clear hval0 hsz0
  simp only [List.append_nil] at hW' hA1
  refine (vecMoves_walk v0 zs k W hzs).mono fun e W' ⟨he, hb⟩ => ?_
  subst he
  exact ⟨_, rfl, law_post (by rw [Try.params9]; exact types_ok [22, 3] (by kernel_rfl)) (by kernel_rfl) rfl rfl hA1 hW' hb⟩

theorem vecMoves_holds : Rows.VecMovesSaid :=
  OpenClaim.holds_of_wide 9 Try.f9 rfl rfl rfl rfl rfl rfl rfl ⟨rfl, rfl, rfl, rfl, rfl⟩ rfl rfl rfl rfl rfl (by kernel_rfl) Try.func9 (by kernel_rfl)
    (of_decide_eq_true (by kernel_rfl)) (by unfold Func.isWrapper; first | (rw [if_pos (by decide +kernel)]; kernel_rfl) | (rw [if_neg (by decide +kernel)]; exact ⟨rfl, rfl⟩))
    (fun os started H enc _ => vecMoves_lifted os started H enc)
#print axioms vecMoves_holds
end Go.Proofs.Ytkapephlfbabjaa
