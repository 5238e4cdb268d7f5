/- The contracts of the reference's sum, Add, Sub, Mul, before, Less, Signed and Equal. -/
import Derived.Test.YtkapephlfbabjaaRefA
import Derived.Test.YtkapephlfbabjaaCmp
namespace Go.Proofs.Ytkapephlfbabjaa
open Go.RowKit

theorem num_known_take {zs : List Nat} {k : Nat} (h : k < zs.length) (hz : zs[k] ≤ 1) : num (zs.take (k + 1)) = num (zs.take k) + zs[k] * 2 ^ k := by
  rw [num_take h]
  obtain e | e : zs[k] = 0 ∨ zs[k] = 1 := by omega
  · rw [e]; simp
  · rw [e]; simp
/-- What is summed up after k bits. -/
def sumK (a b : List Nat) (c k : Nat) : Nat := num (a.take k) + num (b.take k) + c
theorem sumK_le {a b : List Nat} {c : Nat} (hc : c ≤ 1) (k : Nat) : sumK a b c k / 2 ^ k ≤ 1 := by
  have h1 := num_take_lt a k
  have h2 := num_take_lt b k
  have h3 : sumK a b c k < 2 * 2 ^ k := by unfold sumK; omega
  have := (Nat.div_lt_iff_lt_mul (Nat.two_pow_pos k)).2 h3
  omega
theorem sumK_succ {a b : List Nat} {c k : Nat} (ha : k < a.length) (hb : k < b.length) (za : a[k] ≤ 1) (zb : b[k] ≤ 1) :
    sumK a b c (k + 1) = sumK a b c k + (a[k] + b[k]) * 2 ^ k := by
  unfold sumK
  rw [num_known_take ha za, num_known_take hb zb, Nat.add_mul]
  omega
theorem sumK_div {a b : List Nat} {c k : Nat} (ha : k < a.length) (hb : k < b.length) (za : a[k] ≤ 1) (zb : b[k] ≤ 1) :
    sumK a b c (k + 1) / 2 ^ k = sumK a b c k / 2 ^ k + (a[k] + b[k]) := by
  rw [sumK_succ ha hb za zb, Nat.add_mul_div_right _ _ (Nat.two_pow_pos k)]
theorem sumK_bits {a b : List Nat} {c k : Nat} (ha : k < a.length) (hb : k < b.length) (za : a[k] ≤ 1) (zb : b[k] ≤ 1) :
    bitsL (sumK a b c (k + 1)) (k + 1) = bitsL (sumK a b c k) k ++ [(a[k] + b[k] + sumK a b c k / 2 ^ k) % 2] := by
  rw [bitsL_succ, sumK_div ha hb za zb]
  congr 1
  · apply bitsL_congr
    rw [sumK_succ ha hb za zb, Nat.add_mul_mod_self_right]
  · rw [Nat.add_comm]
theorem sumK_carry {a b : List Nat} {c k : Nat} (ha : k < a.length) (hb : k < b.length) (za : a[k] ≤ 1) (zb : b[k] ≤ 1) :
    sumK a b c (k + 1) / 2 ^ (k + 1) = (a[k] + b[k] + sumK a b c k / 2 ^ k) / 2 := by
  rw [Nat.pow_succ, ← Nat.div_div_eq_div_mul, sumK_div ha hb za zb, Nat.add_comm]

set_option maxHeartbeats 2000000 in
theorem sum_any (u v : Value) (a b : List Nat) (c0 : Nat) (w : World) (hu : Sl w u a) (hv : Sl w v b) (hl : a.length = b.length) (h64 : a.length ≤ 64) (ka : knB a = true) (kb : knB b = true) (hc0 : c0 ≤ 1) :
    Calls Try.prog 68 #[u, v, .int .u8 (c0 : Nat)] w fun e w' => ∃ x, e = .returned x ∧ Sl w' x (bitsL (num a + num b + c0) a.length) ∧ Below w.heap.size w w' := by
  obtain ⟨A, c, rfl, hn, hz, hq, hc⟩ := hu
  obtain ⟨A', c', rfl, hn', hz', hq', hc'⟩ := hv
  have HL := Lib.hid hl
  have KA := Lib.hid ka
  have KB := Lib.hid kb
  have HE : Hid (sumK a b c0 a.length = num a + num b + c0) := by
    show _ = _
    unfold sumK
    rw [List.take_of_length_le (Nat.le_refl _), List.take_of_length_le (by omega)]
  have H0 : Hid (sumK a b c0 0 / 2 ^ 0 = c0) := by show _ = _; simp [sumK, num]
  have HC := Lib.hid hc0
  clear hz hz' hq hq' ka kb hl hc0
  go_enter Try.func68, Try.ntmps68
  go_wp2_with fail
  go_loopw [2, 7, 12] (fun r t i wr => ∃ k : Nat, k ≤ a.length ∧ i = .int .i64 k ∧ r = .int .u8 (sumK a b c0 k / 2 ^ k : Nat) ∧ Own wr w.heap.size t (bitsL (sumK a b c0 k) k) ∧ Below w.heap.size w wr) (fun _ _ i _ => a.length - (intOf i).toNat)
  case atStart => exact ⟨0, Nat.zero_le _, rfl, by rw [H0.out], Own.nil w (Nat.le_refl _), Below.refl _ _⟩
  case round =>
    obtain ⟨k, hk, rfl, rfl, hown, hb⟩ := hrel
    have HO := Lib.hid hown
    have Hb := Lib.hid hb
    clear hown hb
    by_cases hlt : k < a.length
    · have hlt' : k < b.length := by have := HL.out; omega
      rcases hc with rfl | ⟨g, off, rfl, hc⟩
      · exact absurd hlt (by simp)
      rcases hc' with rfl | ⟨g', off', rfl, hc'⟩
      · exact absurd hlt' (by simp)
      have q1 := (Hb.out.cell (block_lt_of_cell (hc k hlt))).trans (hc k hlt)
      have q2 := (Hb.out.cell (block_lt_of_cell (hc' k hlt'))).trans (hc' k hlt')
      have za := knB_at KA.out hlt
      have zb := knB_at KB.out hlt'
      have zc := sumK_le (a := a) (b := b) HC.out k
      have HR1 := Lib.hid (sumK_bits (c := c0) hlt hlt' za zb)
      have HR2 := Lib.hid (sumK_carry (c := c0) hlt hlt' za zb)
      have HLn := Lib.hid (bitsL_len (sumK a b c0 k) k)
      clear hc hc'
      generalize a[k] = x at q1 za HR1 HR2
      generalize b[k] = y at q2 zb HR1 HR2
      generalize sumK a b c0 k / 2 ^ k = r at zc HR1 HR2
      obtain rfl | rfl : x = 0 ∨ x = 1 := by omega
      · obtain rfl | rfl : y = 0 ∨ y = 1 := by omega
        · obtain rfl | rfl : r = 0 ∨ r = 1 := by omega
          · go_wp2
            go_quiet (fail)
            go_wp2_with (at_builtin; refine wpList_append_sl rfl _ _ rfl w.heap.size _ _ _ [_] rfl rfl ((HO.out.drewN _).alloc _) (Sl.one _ 0 (by decide)) (by rw [HLn.out, List.length_singleton]; omega) ?_; intro v' w2 hown2 hb2)
            have HO2 := Lib.hid hown2
            have HB2 := Lib.hid hb2
            clear hown2 hb2
            go_wp2
            go_roundw
            case rel => exact ⟨k + 1, by omega, by go_num, by rw [HR2.out]; rfl, by rw [HR1.out]; exact HO2.out, ((below_drewN Hb.out _).alloc (HO.out.drewN _).2.2.2 _).trans (HB2.out _ (Nat.le_refl _))⟩
            case measure => simp [intOf]; omega
          · go_wp2
            go_quiet (fail)
            go_wp2_with (at_builtin; refine wpList_append_sl rfl _ _ rfl w.heap.size _ _ _ [_] rfl rfl ((HO.out.drewN _).alloc _) (Sl.one _ 1 (by decide)) (by rw [HLn.out, List.length_singleton]; omega) ?_; intro v' w2 hown2 hb2)
            have HO2 := Lib.hid hown2
            have HB2 := Lib.hid hb2
            clear hown2 hb2
            go_wp2
            go_roundw
            case rel => exact ⟨k + 1, by omega, by go_num, by rw [HR2.out]; rfl, by rw [HR1.out]; exact HO2.out, ((below_drewN Hb.out _).alloc (HO.out.drewN _).2.2.2 _).trans (HB2.out _ (Nat.le_refl _))⟩
            case measure => simp [intOf]; omega
        · obtain rfl | rfl : r = 0 ∨ r = 1 := by omega
          · go_wp2
            go_quiet (fail)
            go_wp2_with (at_builtin; refine wpList_append_sl rfl _ _ rfl w.heap.size _ _ _ [_] rfl rfl ((HO.out.drewN _).alloc _) (Sl.one _ 1 (by decide)) (by rw [HLn.out, List.length_singleton]; omega) ?_; intro v' w2 hown2 hb2)
            have HO2 := Lib.hid hown2
            have HB2 := Lib.hid hb2
            clear hown2 hb2
            go_wp2
            go_roundw
            case rel => exact ⟨k + 1, by omega, by go_num, by rw [HR2.out]; rfl, by rw [HR1.out]; exact HO2.out, ((below_drewN Hb.out _).alloc (HO.out.drewN _).2.2.2 _).trans (HB2.out _ (Nat.le_refl _))⟩
            case measure => simp [intOf]; omega
          · go_wp2
            go_quiet (fail)
            go_wp2_with (at_builtin; refine wpList_append_sl rfl _ _ rfl w.heap.size _ _ _ [_] rfl rfl ((HO.out.drewN _).alloc _) (Sl.one _ 0 (by decide)) (by rw [HLn.out, List.length_singleton]; omega) ?_; intro v' w2 hown2 hb2)
            have HO2 := Lib.hid hown2
            have HB2 := Lib.hid hb2
            clear hown2 hb2
            go_wp2
            go_roundw
            case rel => exact ⟨k + 1, by omega, by go_num, by rw [HR2.out]; rfl, by rw [HR1.out]; exact HO2.out, ((below_drewN Hb.out _).alloc (HO.out.drewN _).2.2.2 _).trans (HB2.out _ (Nat.le_refl _))⟩
            case measure => simp [intOf]; omega
      · obtain rfl | rfl : y = 0 ∨ y = 1 := by omega
        · obtain rfl | rfl : r = 0 ∨ r = 1 := by omega
          · go_wp2
            go_quiet (fail)
            go_wp2_with (at_builtin; refine wpList_append_sl rfl _ _ rfl w.heap.size _ _ _ [_] rfl rfl ((HO.out.drewN _).alloc _) (Sl.one _ 1 (by decide)) (by rw [HLn.out, List.length_singleton]; omega) ?_; intro v' w2 hown2 hb2)
            have HO2 := Lib.hid hown2
            have HB2 := Lib.hid hb2
            clear hown2 hb2
            go_wp2
            go_roundw
            case rel => exact ⟨k + 1, by omega, by go_num, by rw [HR2.out]; rfl, by rw [HR1.out]; exact HO2.out, ((below_drewN Hb.out _).alloc (HO.out.drewN _).2.2.2 _).trans (HB2.out _ (Nat.le_refl _))⟩
            case measure => simp [intOf]; omega
          · go_wp2
            go_quiet (fail)
            go_wp2_with (at_builtin; refine wpList_append_sl rfl _ _ rfl w.heap.size _ _ _ [_] rfl rfl ((HO.out.drewN _).alloc _) (Sl.one _ 0 (by decide)) (by rw [HLn.out, List.length_singleton]; omega) ?_; intro v' w2 hown2 hb2)
            have HO2 := Lib.hid hown2
            have HB2 := Lib.hid hb2
            clear hown2 hb2
            go_wp2
            go_roundw
            case rel => exact ⟨k + 1, by omega, by go_num, by rw [HR2.out]; rfl, by rw [HR1.out]; exact HO2.out, ((below_drewN Hb.out _).alloc (HO.out.drewN _).2.2.2 _).trans (HB2.out _ (Nat.le_refl _))⟩
            case measure => simp [intOf]; omega
        · obtain rfl | rfl : r = 0 ∨ r = 1 := by omega
          · go_wp2
            go_quiet (fail)
            go_wp2_with (at_builtin; refine wpList_append_sl rfl _ _ rfl w.heap.size _ _ _ [_] rfl rfl ((HO.out.drewN _).alloc _) (Sl.one _ 0 (by decide)) (by rw [HLn.out, List.length_singleton]; omega) ?_; intro v' w2 hown2 hb2)
            have HO2 := Lib.hid hown2
            have HB2 := Lib.hid hb2
            clear hown2 hb2
            go_wp2
            go_roundw
            case rel => exact ⟨k + 1, by omega, by go_num, by rw [HR2.out]; rfl, by rw [HR1.out]; exact HO2.out, ((below_drewN Hb.out _).alloc (HO.out.drewN _).2.2.2 _).trans (HB2.out _ (Nat.le_refl _))⟩
            case measure => simp [intOf]; omega
          · go_wp2
            go_quiet (fail)
            go_wp2_with (at_builtin; refine wpList_append_sl rfl _ _ rfl w.heap.size _ _ _ [_] rfl rfl ((HO.out.drewN _).alloc _) (Sl.one _ 1 (by decide)) (by rw [HLn.out, List.length_singleton]; omega) ?_; intro v' w2 hown2 hb2)
            have HO2 := Lib.hid hown2
            have HB2 := Lib.hid hb2
            clear hown2 hb2
            go_wp2
            go_roundw
            case rel => exact ⟨k + 1, by omega, by go_num, by rw [HR2.out]; rfl, by rw [HR1.out]; exact HO2.out, ((below_drewN Hb.out _).alloc (HO.out.drewN _).2.2.2 _).trans (HB2.out _ (Nat.le_refl _))⟩
            case measure => simp [intOf]; omega
    · have hkn : k = a.length := by omega
      subst hkn
      have hO := HO.out
      rw [HE.out] at hO
      have HO2 := Lib.hid hO
      clear hO HO
      go_wp2
      go_ret
      exact ⟨_, rfl, HO2.out.sl, Hb.out⟩

theorem toU_nat_lt (x : Nat) : toU (x : Int) = x % 18446744073709551616 := by unfold toU; omega
theorem mod_64 {x n : Nat} (h : n ≤ 64) : bitsL (x % 18446744073709551616) n = bitsL x n := bitsL_mod (m := 64) h
theorem addO_bits {x y n : Nat} (h : n ≤ 64) : bitsL (addO x y) n = bitsL (x + y + 0) n := by
  unfold addO
  rw [show ((x : Int) + (y : Int)) = ((x + y : Nat) : Int) by omega, toU_nat_lt, mod_64 h, Nat.add_zero]
/-- The number of the opposite bits. -/
theorem num_not {zs : List Nat} (h : knB zs = true) : num (zs.map notN) + num zs + 1 = 2 ^ zs.length := by
  induction zs with
  | nil => rfl
  | cons z zs ih =>
    unfold knB at h
    rw [List.all_cons, Bool.and_eq_true] at h
    have hz : z ≤ 1 := by simpa using h.1
    have := ih h.2
    rw [List.map_cons, num, num, List.length_cons, Nat.pow_succ]
    obtain rfl | rfl : z = 0 ∨ z = 1 := by omega
    · simp [notN]; omega
    · simp [notN]; omega
theorem not_known {zs : List Nat} (h : knB zs = true) : knB (zs.map notN) = true := by
  unfold knB at *
  rw [List.all_eq_true] at *
  intro z hz
  obtain ⟨y, hy, rfl⟩ := List.mem_map.1 hz
  have := h y hy
  simp at this
  obtain rfl | rfl : y = 0 ∨ y = 1 := by omega
  · rfl
  · rfl
theorem subO_bits {a b : List Nat} (kb : knB b = true) (hl : a.length = b.length) (h : a.length ≤ 64) : bitsL (subO (num a) (num b)) a.length = bitsL (num a + num (b.map notN) + 1) a.length := by
  have h1 := num_not kb
  rw [← hl] at h1
  have ha := num_lt a
  obtain ⟨m, hm⟩ : ∃ m, 18446744073709551616 = 2 ^ a.length * m := ⟨2 ^ (64 - a.length), by rw [← Nat.pow_add, show a.length + (64 - a.length) = 64 by omega]⟩
  have hp : 2 ^ a.length ≤ 18446744073709551616 := pow_64 h
  apply bitsL_congr
  unfold subO toU
  have e : (((num a : Int) - (num b : Int)) % 18446744073709551616).toNat = (num a + (18446744073709551616 - num b)) % 18446744073709551616 := by omega
  rw [e, Nat.mod_mod_of_dvd _ ⟨m, hm⟩]
  have hm1 : 1 ≤ m := by
    rcases Nat.eq_zero_or_pos m with h0 | h0
    · rw [h0] at hm; simp at hm
    · exact h0
  have e2 : 18446744073709551616 - num b = (num (b.map notN) + 1) + 2 ^ a.length * (m - 1) := by
    rw [Nat.mul_sub, Nat.mul_one, ← hm]
    omega
  rw [e2, ← Nat.add_assoc, ← Nat.add_assoc, Nat.add_mul_mod_self_left]
theorem sl_map_len (zs : List Nat) : (zs.map notN).length = zs.length := by simp

set_option maxHeartbeats 2000000 in
theorem refAdd_any (u v : Value) (a b : List Nat) (w : World) (hu : Sl w u a) (hv : Sl w v b) :
    Calls Try.prog 30 #[u, v] w fun e w' => ∃ x, e = .returned (.tuple #[x, .int .i64 (calE a b : Nat)]) ∧ Sl w' x (calV addO a b) ∧ Below w.heap.size w w' := by
  have hP := pair_any u v a b w hu hv
  have hA := refKn_any u a w hu
  have hB := refKn_any v b w hv
  have HU := Lib.hid hu
  have HV := Lib.hid hv
  obtain ⟨A, c, rfl, hn, _⟩ := hu
  obtain ⟨A', c', rfl, hn', _⟩ := hv
  by_cases ht : two a b = true
  · obtain ⟨va, vb, hl⟩ := two_yes ht
    have h64 := (isV_bits va).2.2
    rw [ht] at hP
    have HP := Lib.hid hP
    by_cases ka : knB a = true
    · rw [show knV a = true by unfold knV; rw [va, ka]; rfl] at hA
      have HA := Lib.hid hA
      by_cases kb : knB b = true
      · have hb : both a b = true := by unfold both; rw [ka, kb]; rfl
        rw [show knV b = true by unfold knV; rw [vb, kb]; rfl] at hB
        have HB := Lib.hid hB
        rw [(cal_yes (op := addO) ht hb).1, (cal_yes (op := addO) ht hb).2]
        rw [addO_bits h64]
        have HS := Lib.hid (sum_any _ _ a b 0 w HU.out HV.out hl h64 ka kb (by omega))
        clear hP hA hB ht va vb ka kb hb hl h64
        go_enter Try.func30, Try.ntmps30
        go_wp2_with fail
        refine (HP.out).mono ?_
        rintro e w' ⟨rfl, rfl⟩
        go_wp2_with fail
        refine (HA.out).mono ?_
        rintro e w' ⟨rfl, rfl⟩
        go_wp2_with fail
        refine (HB.out).mono ?_
        rintro e w' ⟨rfl, rfl⟩
        go_wp2_with fail
        refine (HS.out).mono ?_
        rintro e w2 ⟨x, rfl, ho, hb⟩
        have HO := Lib.hid ho
        have HB2 := Lib.hid hb
        clear ho hb
        go_wp2
        go_ret2
        exact ⟨_, rfl, HO.out, HB2.out⟩
      · have kb' : knB b = false := by simpa using kb
        have hb : both a b = false := by unfold both; rw [ka, kb']; rfl
        rw [show knV b = false by unfold knV; rw [vb, kb']; rfl] at hB
        have HB := Lib.hid hB
        rw [(cal_unk (op := addO) ht hb).1, (cal_unk (op := addO) ht hb).2]
        have HR := Lib.hid (fun w => all_any 2 a.length w (by omega) h64)
        clear hP hA hB ht va vb ka kb kb' hb hl h64
        go_enter Try.func30, Try.ntmps30
        go_wp2_with fail
        refine (HP.out).mono ?_
        rintro e w' ⟨rfl, rfl⟩
        go_wp2_with fail
        refine (HA.out).mono ?_
        rintro e w' ⟨rfl, rfl⟩
        go_wp2_with fail
        refine (HB.out).mono ?_
        rintro e w' ⟨rfl, rfl⟩
        go_wp2_with fail
        refine (HR.out _).mono ?_
        rintro e w2 ⟨x, rfl, ho, hb⟩
        have HO := Lib.hid ho
        have HB2 := Lib.hid hb
        clear ho hb
        go_wp2
        go_ret2
        exact ⟨_, rfl, HO.out.sl, HB2.out⟩
    · have ka' : knB a = false := by simpa using ka
      have hb : both a b = false := by unfold both; rw [ka']; rfl
      rw [show knV a = false by unfold knV; rw [va, ka']; rfl] at hA
      have HA := Lib.hid hA
      rw [(cal_unk (op := addO) ht hb).1, (cal_unk (op := addO) ht hb).2]
      have HR := Lib.hid (fun w => all_any 2 a.length w (by omega) h64)
      clear hP hA hB ht va vb ka ka' hb hl h64
      go_enter Try.func30, Try.ntmps30
      go_wp2_with fail
      refine (HP.out).mono ?_
      rintro e w' ⟨rfl, rfl⟩
      go_wp2_with fail
      refine (HA.out).mono ?_
      rintro e w' ⟨rfl, rfl⟩
      go_wp2_with fail
      refine (HR.out _).mono ?_
      rintro e w2 ⟨x, rfl, ho, hb⟩
      have HO := Lib.hid ho
      have HB2 := Lib.hid hb
      clear ho hb
      go_wp2
      go_ret2
      exact ⟨_, rfl, HO.out.sl, HB2.out⟩
  · have ht' : two a b = false := by simpa using ht
    rw [ht'] at hP
    have HP := Lib.hid hP
    rw [(cal_no (op := addO) ht').1, (cal_no (op := addO) ht').2]
    clear hP hA hB ht ht'
    go_enter Try.func30, Try.ntmps30
    go_wp2_with fail
    refine (HP.out).mono ?_
    rintro e w' ⟨rfl, rfl⟩
    go_wp2
    go_ret2
    exact ⟨_, rfl, sl_nil _, Below.refl _ _⟩

set_option maxHeartbeats 2000000 in
theorem refSub_any (u v : Value) (a b : List Nat) (w : World) (hu : Sl w u a) (hv : Sl w v b) :
    Calls Try.prog 32 #[u, v] w fun e w' => ∃ x, e = .returned (.tuple #[x, .int .i64 (calE a b : Nat)]) ∧ Sl w' x (calV subO a b) ∧ Below w.heap.size w w' := by
  have hP := pair_any u v a b w hu hv
  have hA := refKn_any u a w hu
  have hB := refKn_any v b w hv
  have HU := Lib.hid hu
  have HV := Lib.hid hv
  obtain ⟨A, c, rfl, hn, _⟩ := hu
  obtain ⟨A', c', rfl, hn', _⟩ := hv
  by_cases ht : two a b = true
  · obtain ⟨va, vb, hl⟩ := two_yes ht
    have h64 := (isV_bits va).2.2
    rw [ht] at hP
    have HP := Lib.hid hP
    by_cases ka : knB a = true
    · rw [show knV a = true by unfold knV; rw [va, ka]; rfl] at hA
      have HA := Lib.hid hA
      by_cases kb : knB b = true
      · have hb : both a b = true := by unfold both; rw [ka, kb]; rfl
        rw [show knV b = true by unfold knV; rw [vb, kb]; rfl] at hB
        have HB := Lib.hid hB
        rw [(cal_yes (op := subO) ht hb).1, (cal_yes (op := subO) ht hb).2]
        rw [subO_bits kb hl h64]
        have hI := refInverse_any _ b w HV.out
        rw [txtE_yes vb, invV_yes vb] at hI
        have HI := Lib.hid hI
        have HS : Hid (∀ w1 y, Below w.heap.size w w1 → Sl w1 y (b.map notN) → Calls Try.prog 68 #[.slice A a.length c, y, .int .u8 ((1 : Nat) : Int)] w1 fun e w' => ∃ x, e = .returned x ∧ Sl w' x (bitsL (num a + num (b.map notN) + 1) a.length) ∧ Below w1.heap.size w1 w') :=
          fun w1 y hb hs => sum_any _ _ a (b.map notN) 1 w1 (HU.out.later hb) hs (by rw [sl_map_len]; exact hl) h64 ka (not_known kb) (by omega)
        clear hP hA hB ht va vb ka kb hb hl h64 hI
        go_enter Try.func32, Try.ntmps32
        go_wp2_with fail
        refine (HP.out).mono ?_
        rintro e w' ⟨rfl, rfl⟩
        go_wp2_with fail
        refine (HA.out).mono ?_
        rintro e w' ⟨rfl, rfl⟩
        go_wp2_with fail
        refine (HB.out).mono ?_
        rintro e w' ⟨rfl, rfl⟩
        go_wp2_with fail
        refine (HI.out).mono ?_
        rintro e w1 ⟨y, rfl, sy, hb1⟩
        have HB1 := Lib.hid hb1
        have HY := Lib.hid sy
        clear hb1 sy
        go_wp2_with fail
        refine (HS.out w1 _ HB1.out HY.out).mono ?_
        rintro e w2 ⟨x, rfl, ho, hb⟩
        have HO := Lib.hid ho
        have HB2 := Lib.hid (below_then HB1.out hb)
        clear ho hb
        go_wp2
        go_ret2
        exact ⟨_, rfl, HO.out, HB2.out⟩
      · have kb' : knB b = false := by simpa using kb
        have hb : both a b = false := by unfold both; rw [ka, kb']; rfl
        rw [show knV b = false by unfold knV; rw [vb, kb']; rfl] at hB
        have HB := Lib.hid hB
        rw [(cal_unk (op := subO) ht hb).1, (cal_unk (op := subO) ht hb).2]
        have HR := Lib.hid (fun w => all_any 2 a.length w (by omega) h64)
        clear hP hA hB ht va vb ka kb kb' hb hl h64
        go_enter Try.func32, Try.ntmps32
        go_wp2_with fail
        refine (HP.out).mono ?_
        rintro e w' ⟨rfl, rfl⟩
        go_wp2_with fail
        refine (HA.out).mono ?_
        rintro e w' ⟨rfl, rfl⟩
        go_wp2_with fail
        refine (HB.out).mono ?_
        rintro e w' ⟨rfl, rfl⟩
        go_wp2_with fail
        refine (HR.out _).mono ?_
        rintro e w2 ⟨x, rfl, ho, hb⟩
        have HO := Lib.hid ho
        have HB2 := Lib.hid hb
        clear ho hb
        go_wp2
        go_ret2
        exact ⟨_, rfl, HO.out.sl, HB2.out⟩
    · have ka' : knB a = false := by simpa using ka
      have hb : both a b = false := by unfold both; rw [ka']; rfl
      rw [show knV a = false by unfold knV; rw [va, ka']; rfl] at hA
      have HA := Lib.hid hA
      rw [(cal_unk (op := subO) ht hb).1, (cal_unk (op := subO) ht hb).2]
      have HR := Lib.hid (fun w => all_any 2 a.length w (by omega) h64)
      clear hP hA hB ht va vb ka ka' hb hl h64
      go_enter Try.func32, Try.ntmps32
      go_wp2_with fail
      refine (HP.out).mono ?_
      rintro e w' ⟨rfl, rfl⟩
      go_wp2_with fail
      refine (HA.out).mono ?_
      rintro e w' ⟨rfl, rfl⟩
      go_wp2_with fail
      refine (HR.out _).mono ?_
      rintro e w2 ⟨x, rfl, ho, hb⟩
      have HO := Lib.hid ho
      have HB2 := Lib.hid hb
      clear ho hb
      go_wp2
      go_ret2
      exact ⟨_, rfl, HO.out.sl, HB2.out⟩
  · have ht' : two a b = false := by simpa using ht
    rw [ht'] at hP
    have HP := Lib.hid hP
    rw [(cal_no (op := subO) ht').1, (cal_no (op := subO) ht').2]
    clear hP hA hB ht ht'
    go_enter Try.func32, Try.ntmps32
    go_wp2_with fail
    refine (HP.out).mono ?_
    rintro e w' ⟨rfl, rfl⟩
    go_wp2
    go_ret2
    exact ⟨_, rfl, sl_nil _, Below.refl _ _⟩

theorem toU_wraps (z : Int) : toU (wrap64 (IntKind.u64.wrap z)) = toU z := by rw [IntKind.wrap_u64]; unfold toU wrap64; omega
theorem wrap64_bounds (z : Int) : -9223372036854775808 ≤ wrap64 z ∧ wrap64 z ≤ 9223372036854775807 := by unfold wrap64; omega
set_option maxHeartbeats 2000000 in
theorem refMul_any (u v : Value) (a b : List Nat) (w : World) (hu : Sl w u a) (hv : Sl w v b) :
    Calls Try.prog 34 #[u, v] w fun e w' => ∃ x, e = .returned (.tuple #[x, .int .i64 (calE a b : Nat)]) ∧ Sl w' x (calV mulO a b) ∧ Below w.heap.size w w' := by
  have hP := pair_any u v a b w hu hv
  have hA := refKn_any u a w hu
  have hB := refKn_any v b w hv
  have HU := Lib.hid hu
  have HV := Lib.hid hv
  obtain ⟨A, c, rfl, hn, _⟩ := hu
  obtain ⟨A', c', rfl, hn', _⟩ := hv
  by_cases ht : two a b = true
  · obtain ⟨va, vb, hl⟩ := two_yes ht
    have h64 := (isV_bits va).2.2
    rw [ht] at hP
    have HP := Lib.hid hP
    by_cases ka : knB a = true
    · rw [show knV a = true by unfold knV; rw [va, ka]; rfl] at hA
      have HA := Lib.hid hA
      by_cases kb : knB b = true
      · have hb : both a b = true := by unfold both; rw [ka, kb]; rfl
        rw [show knV b = true by unfold knV; rw [vb, kb]; rfl] at hB
        have HB := Lib.hid hB
        rw [(cal_yes (op := mulO) ht hb).1, (cal_yes (op := mulO) ht hb).2]
        have hNa := refNumber_any _ a w HU.out
        have hNb := refNumber_any _ b w HV.out
        rw [(num_yes va ka).1, (num_yes va ka).2] at hNa
        rw [(num_yes vb kb).1, (num_yes vb kb).2] at hNb
        have HNa := Lib.hid hNa
        have HNb := Lib.hid hNb
        have hS := fun w => refBits_any (wrap64 (IntKind.u64.wrap ((num a : Int) * (num b : Int)))) a.length w (wrap64_bounds _).1 (wrap64_bounds _).2 h64
        rw [toU_wraps] at hS
        have HS := Lib.hid hS
        clear hP hA hB ht va vb ka kb hb hl h64 hNa hNb hS
        go_enter Try.func34, Try.ntmps34
        go_wp2_with fail
        refine (HP.out).mono ?_
        rintro e w' ⟨rfl, rfl⟩
        go_wp2_with fail
        refine (HA.out).mono ?_
        rintro e w' ⟨rfl, rfl⟩
        go_wp2_with fail
        refine (HB.out).mono ?_
        rintro e w' ⟨rfl, rfl⟩
        go_wp2_with fail
        refine (HNa.out).mono ?_
        rintro e w' ⟨rfl, rfl⟩
        go_wp2_with fail
        refine (HNb.out).mono ?_
        rintro e w' ⟨rfl, rfl⟩
        go_wp2_with fail
        refine (HS.out _).mono ?_
        rintro e w2 ⟨x, rfl, ho, hb⟩
        have HO := Lib.hid ho
        have HB2 := Lib.hid hb
        clear ho hb
        go_wp2
        go_ret2
        exact ⟨_, rfl, HO.out.sl, HB2.out⟩
      · have kb' : knB b = false := by simpa using kb
        have hb : both a b = false := by unfold both; rw [ka, kb']; rfl
        rw [show knV b = false by unfold knV; rw [vb, kb']; rfl] at hB
        have HB := Lib.hid hB
        rw [(cal_unk (op := mulO) ht hb).1, (cal_unk (op := mulO) ht hb).2]
        have HR := Lib.hid (fun w => all_any 2 a.length w (by omega) h64)
        clear hP hA hB ht va vb ka kb kb' hb hl h64
        go_enter Try.func34, Try.ntmps34
        go_wp2_with fail
        refine (HP.out).mono ?_
        rintro e w' ⟨rfl, rfl⟩
        go_wp2_with fail
        refine (HA.out).mono ?_
        rintro e w' ⟨rfl, rfl⟩
        go_wp2_with fail
        refine (HB.out).mono ?_
        rintro e w' ⟨rfl, rfl⟩
        go_wp2_with fail
        refine (HR.out _).mono ?_
        rintro e w2 ⟨x, rfl, ho, hb⟩
        have HO := Lib.hid ho
        have HB2 := Lib.hid hb
        clear ho hb
        go_wp2
        go_ret2
        exact ⟨_, rfl, HO.out.sl, HB2.out⟩
    · have ka' : knB a = false := by simpa using ka
      have hb : both a b = false := by unfold both; rw [ka']; rfl
      rw [show knV a = false by unfold knV; rw [va, ka']; rfl] at hA
      have HA := Lib.hid hA
      rw [(cal_unk (op := mulO) ht hb).1, (cal_unk (op := mulO) ht hb).2]
      have HR := Lib.hid (fun w => all_any 2 a.length w (by omega) h64)
      clear hP hA hB ht va vb ka ka' hb hl h64
      go_enter Try.func34, Try.ntmps34
      go_wp2_with fail
      refine (HP.out).mono ?_
      rintro e w' ⟨rfl, rfl⟩
      go_wp2_with fail
      refine (HA.out).mono ?_
      rintro e w' ⟨rfl, rfl⟩
      go_wp2_with fail
      refine (HR.out _).mono ?_
      rintro e w2 ⟨x, rfl, ho, hb⟩
      have HO := Lib.hid ho
      have HB2 := Lib.hid hb
      clear ho hb
      go_wp2
      go_ret2
      exact ⟨_, rfl, HO.out.sl, HB2.out⟩
  · have ht' : two a b = false := by simpa using ht
    rw [ht'] at hP
    have HP := Lib.hid hP
    rw [(cal_no (op := mulO) ht').1, (cal_no (op := mulO) ht').2]
    clear hP hA hB ht ht'
    go_enter Try.func34, Try.ntmps34
    go_wp2_with fail
    refine (HP.out).mono ?_
    rintro e w' ⟨rfl, rfl⟩
    go_wp2
    go_ret2
    exact ⟨_, rfl, sl_nil _, Below.refl _ _⟩

end Go.Proofs.Ytkapephlfbabjaa
