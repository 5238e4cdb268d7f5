/- The contracts of the reference's known, all, pair, Number, ToInt, bits, Of and ToVec. -/
import Derived.Test.YtdiagnhdigakpaaGreatDoorKg
namespace Go.Proofs.YtdiagnhdigakpaaGreatDoor.Lg
open Go.RowKit

theorem refKn_any (v : Value) (zs : List Nat) (w : World) (h : Sl w v zs) :
    Calls Tryz.prog 128 #[v] w fun e w' => e = .returned (.bool (knV zs)) ∧ w = w' := by
  have HK := Lib.hid (refKnown_any v zs w h)
  obtain ⟨A, c, rfl, hn, _⟩ := h
  go_enter Tryz.func128, Tryz.ntmps128
  go_wp2_with fail
  refine (HK.out).mono ?_
  rintro e w' ⟨rfl, rfl⟩
  go_wp2
  go_ret
  exact ⟨rfl, rfl⟩

theorem num_drop {zs : List Nat} {k : Nat} (h : k < zs.length) (hz : zs[zs.length - 1 - k]'(by omega) ≤ 1) : num (zs.drop (zs.length - (k + 1))) = 2 * num (zs.drop (zs.length - k)) + zs[zs.length - 1 - k]'(by omega) := by
  have e : zs.length - (k + 1) = zs.length - 1 - k := by omega
  rw [e, List.drop_eq_getElem_cons (by omega), num]
  rw [show zs.length - 1 - k + 1 = zs.length - k by omega]
  split <;> omega
theorem num_drop_int {zs : List Nat} {k : Nat} (h : k < zs.length) : num (zs.drop (zs.length - (k + 1))) = 2 * num (zs.drop (zs.length - k)) + (if zs[zs.length - 1 - k]'(by omega) = 1 then 1 else 0) := by
  have e : zs.length - (k + 1) = zs.length - 1 - k := by omega
  rw [e, List.drop_eq_getElem_cons (by omega), num]
  rw [show zs.length - 1 - k + 1 = zs.length - k by omega]
  omega
theorem num_drop_lt {zs : List Nat} {k : Nat} (h : k ≤ zs.length) : num (zs.drop (zs.length - k)) < 2 ^ k := by
  have := num_lt (zs.drop (zs.length - k))
  rwa [List.length_drop, show zs.length - (zs.length - k) = k by omega] at this
theorem knB_at {zs : List Nat} (h : knB zs = true) {k : Nat} (hk : k < zs.length) : zs[k] ≤ 1 := by
  unfold knB at h
  simpa using List.all_eq_true.1 h zs[k] (List.getElem_mem hk)

set_option maxHeartbeats 1000000 in
theorem refNumber_any (v : Value) (zs : List Nat) (w : World) (h : Sl w v zs) :
    Calls Tryz.prog 93 #[v] w fun e w' => e = .returned (.tuple #[.int .u64 (numV zs : Nat), .int .i64 (numE zs : Nat)]) ∧ w = w' := by
  have hI := refIs_any v zs w h
  have hK := refKn_any v zs w h
  obtain ⟨A, c, rfl, hn, hz, hq, hc⟩ := h
  clear hz
  by_cases hv : isV zs = true
  · have h64 := (isV_bits hv).2.2
    rw [hv] at hI
    have HI := Lib.hid hI
    by_cases hk : knB zs = true
    · rw [show knV zs = true by unfold knV; rw [hv, hk]; rfl] at hK
      rw [(num_yes hv hk).1, (num_yes hv hk).2]
      have HK := Lib.hid hK
      have HKn := Lib.hid hk
      clear hK hI hv hk
      go_enter Tryz.func93, Tryz.ntmps93
      go_wp2_with fail
      refine (HI.out).mono ?_
      rintro e w' ⟨rfl, rfl⟩
      go_wp2_with fail
      refine (HK.out).mono ?_
      rintro e w' ⟨rfl, rfl⟩
      go_wp2_with fail
      go_loop [4, 16] (fun s i => ∃ k : Nat, k ≤ zs.length ∧ i = .int .i64 k ∧ s = .int .u64 (num (zs.drop (zs.length - k)) : Nat)) (fun _ i => zs.length - (intOf i).toNat)
      case atStart => exact ⟨0, Nat.zero_le _, rfl, by rw [Nat.sub_zero, List.drop_length]; rfl⟩
      case round =>
        obtain ⟨k, hk, rfl, rfl⟩ := hrel
        by_cases hlt : k < zs.length
        · rcases hc with rfl | ⟨b, off, rfl, hc⟩
          · exact absurd hlt (by simp)
          have g := hc (zs.length - 1 - k) (by omega)
          have hz1 := knB_at HKn.out (show zs.length - 1 - k < zs.length by omega)
          have HR := Lib.hid (num_drop hlt hz1)
          have hp := num_drop_lt hk
          have hp1 : 2 ^ (k + 1) ≤ 18446744073709551616 := pow_64 (by omega)
          rw [Nat.pow_succ] at hp1
          clear hc
          generalize num (zs.drop (zs.length - k)) = s at HR hp
          generalize zs[zs.length - 1 - k] = z at g HR hz1
          have hs : 2 * s + z < 18446744073709551616 := by omega
          have w1 : IntKind.u64.wrap (2 * (s : Int)) = 2 * (s : Int) := by rw [IntKind.wrap_u64]; omega
          have w2 : IntKind.u64.wrap (2 * (s : Int) + (z : Int)) = ((2 * s + z : Nat) : Int) := by rw [IntKind.wrap_u64]; omega
          have w3 : IntKind.u64.wrap (z : Int) = (z : Int) := by rw [IntKind.wrap_u64]; omega
          clear hp hp1 hz1
          go_wp2
          go_round
          case rel => exact ⟨k + 1, by omega, by go_num, by rw [HR.out]; exact congrArg (Value.int .u64) (by omega)⟩
          case measure => simp [intOf]; omega
        · have hkn : k = zs.length := by omega
          have HR : Hid (num (zs.drop (zs.length - k)) = num zs) := by rw [show zs.length - k = 0 by omega]; exact rfl
          clear hc
          go_wp2
          go_ret2
          exact ⟨ret_uu (by first | rfl | rw [HR.out]) rfl, rfl⟩
    · have hk' : knB zs = false := by simpa using hk
      rw [show knV zs = false by unfold knV; rw [hv, hk']; rfl] at hK
      rw [(num_unk hv hk').1, (num_unk hv hk').2]
      have HK := Lib.hid hK
      clear hK hI hv hk hk' hc
      go_enter Tryz.func93, Tryz.ntmps93
      go_wp2_with fail
      refine (HI.out).mono ?_
      rintro e w' ⟨rfl, rfl⟩
      go_wp2_with fail
      refine (HK.out).mono ?_
      rintro e w' ⟨rfl, rfl⟩
      go_wp2
      go_ret2
      exact ⟨rfl, rfl⟩
  · have hv' : isV zs = false := by simpa using hv
    rw [hv'] at hI
    have HI := Lib.hid hI
    rw [(num_no hv').1, (num_no hv').2]
    clear hK hI hv hv' hc
    go_enter Tryz.func93, Tryz.ntmps93
    go_wp2_with fail
    refine (HI.out).mono ?_
    rintro e w' ⟨rfl, rfl⟩
    go_wp2
    go_ret2
    exact ⟨rfl, rfl⟩

/-- The lowest n bits of a number of any sign. -/
def bitsI (k : Int) (n : Nat) : List Nat := (List.range n).map fun i => (k / 2 ^ i % 2).toNat
theorem bitsI_len (k : Int) (n : Nat) : (bitsI k n).length = n := by simp [bitsI]
theorem bitsI_succ (k : Int) (n : Nat) : bitsI k (n + 1) = bitsI k n ++ [(k / 2 ^ n % 2).toNat] := by simp [bitsI, List.range_succ]
theorem bitsI_toU (k : Int) {n : Nat} (hn : n ≤ 64) : bitsI k n = bitsL (toU k) n := by
  unfold bitsI bitsL
  apply List.map_congr_left
  intro i hi
  have hi' : i < n := List.mem_range.1 hi
  have hk : k = (toU k : Int) + 18446744073709551616 * (k / 18446744073709551616) := by unfold toU; omega
  generalize toU k = u at hk
  generalize k / 18446744073709551616 = m at hk
  subst hk
  have e : (18446744073709551616 : Int) = 2 ^ i * (2 * 2 ^ (63 - i)) := by
    have : (2 : Int) ^ i * (2 * 2 ^ (63 - i)) = 2 ^ (i + (1 + (63 - i))) := by rw [Int.pow_add, Int.pow_add]; rfl
    rw [this, show i + (1 + (63 - i)) = 64 by omega]; rfl
  rw [e, Int.mul_assoc, Int.add_mul_ediv_left _ _ (Int.pow_ne_zero (by decide)), Int.mul_assoc, Int.add_mul_emod_self_left]
  have e2 : ((u : Int) / 2 ^ i % 2) = ((u / 2 ^ i % 2 : Nat) : Int) := by rw [cast_pow]; rfl
  rw [e2, Int.toNat_natCast]

theorem half_facts {K : Int} (h1 : -9223372036854775808 ≤ K) (h2 : K ≤ 9223372036854775807) :
    wrap64 (K.tmod 2 + 2) = K.tmod 2 + 2 ∧ (K.tmod 2 + 2).tmod 2 = K % 2 ∧ wrap64 (K - K % 2) = K - K % 2 ∧ (K - K % 2).tdiv 2 = K / 2 ∧ wrap64 (K / 2) = K / 2 := by
  have hr : (0 ≤ K → K.tmod 2 = K % 2) ∧ (K < 0 → K.tmod 2 = -((-K) % 2)) := by
    refine ⟨fun h => Int.tmod_eq_emod_of_nonneg h, fun h => ?_⟩
    have := Int.tmod_eq_emod_of_nonneg (a := -K) (b := 2) (by omega)
    rw [Int.neg_tmod] at this
    omega
  have hr2 := hr
  have hb : -1 ≤ K.tmod 2 ∧ K.tmod 2 ≤ 1 := by
    by_cases h : 0 ≤ K
    · rw [hr.1 h]; omega
    · rw [hr.2 (by omega)]; omega
  refine ⟨wrap64_in (by omega) (by omega), ?_, wrap64_in (by omega) (by omega), ?_, wrap64_in (by omega) (by omega)⟩
  · rw [Int.tmod_eq_emod_of_nonneg (by omega)]
    by_cases h : 0 ≤ K
    · rw [hr.1 h]; omega
    · rw [hr.2 (by omega)]; omega
  · rw [show K - K % 2 = 2 * (K / 2) by omega]
    exact Int.mul_tdiv_cancel_left _ (by decide)
theorem quot_bound {k : Int} (h1 : -9223372036854775808 ≤ k) (h2 : k ≤ 9223372036854775807) (j : Nat) : -9223372036854775808 ≤ k / 2 ^ j ∧ k / 2 ^ j ≤ 9223372036854775807 := by
  have hp : (1 : Int) ≤ 2 ^ j := Int.pow_pos (by decide)
  constructor
  · apply (Int.le_ediv_iff_mul_le (by omega)).2
    have : -9223372036854775808 * (2 : Int) ^ j ≤ -9223372036854775808 * 1 := Int.mul_le_mul_of_nonpos_left (by decide) hp
    omega
  · have h3 : k / 2 ^ j < 9223372036854775808 := by
      apply (Int.ediv_lt_iff_lt_mul (by omega)).2
      have : 9223372036854775808 * (1 : Int) ≤ 9223372036854775808 * 2 ^ j := Int.mul_le_mul_of_nonneg_left hp (by decide)
      omega
    omega

set_option maxHeartbeats 1000000 in
theorem refBits_any (k : Int) (n : Nat) (w : World) (h1 : -9223372036854775808 ≤ k) (h2 : k ≤ 9223372036854775807) (h64 : n ≤ 64) :
    Calls Tryz.prog 146 #[.int .i64 k, .int .i64 (n : Nat)] w fun e w' => ∃ u, e = .returned u ∧ Own w' w.heap.size u (bitsL (toU k) n) ∧ Below w.heap.size w w' := by
  rw [← bitsI_toU k h64]
  have HQ := Lib.hid (fun j => half_facts (quot_bound h1 h2 j).1 (quot_bound h1 h2 j).2)
  clear h1 h2
  go_enter Tryz.func146, Tryz.ntmps146
  go_wp2_with fail
  go_loopw [0, 5, 8] (fun q v i wr => ∃ j : Nat, j ≤ n ∧ i = .int .i64 j ∧ q = .int .i64 (k / 2 ^ j) ∧ Own wr w.heap.size v (bitsI k j) ∧ Below w.heap.size w wr) (fun _ _ i _ => n - (intOf i).toNat)
  case atStart => exact ⟨0, Nat.zero_le _, rfl, by simp, Own.nil w (Nat.le_refl _), Below.refl _ _⟩
  case round =>
    obtain ⟨j, hj, rfl, rfl, hown, hb⟩ := hrel
    have HO := Lib.hid hown
    have Hb := Lib.hid hb
    clear hown hb
    by_cases hlt : j < n
    · have HR := Lib.hid (bitsI_succ k j)
      have HL := Lib.hid (bitsI_len k j)
      have HN : Hid (k / 2 ^ (j + 1) = k / 2 ^ j / 2) := by
        show _ = _
        rw [Int.ediv_ediv_of_nonneg (Int.pow_nonneg (by decide)), Int.pow_succ]
      obtain ⟨f1, f2, f3, f4, f5⟩ := HQ.out j
      generalize k / 2 ^ j = K at f1 f2 f3 f4 f5 HR HN
      obtain ⟨z, hz, hz2⟩ : ∃ z : Nat, K % 2 = z ∧ z < 2 := ⟨(K % 2).toNat, by omega, by omega⟩
      rw [hz] at f2 f3 f4 HR
      rw [Int.toNat_natCast] at HR
      have hz3 : (z : Int) % 256 = z := by omega
      clear hz
      go_wp2_with (at_builtin; refine wpList_append_sl rfl _ _ rfl w.heap.size _ _ _ [z] rfl rfl (HO.out.alloc _) (Sl.one _ _ (by omega)) (by rw [HL.out, List.length_singleton]; omega) ?_; intro v' w2 hown2 hb2)
      have HO2 := Lib.hid hown2
      have HB2 := Lib.hid hb2
      clear hown2 hb2
      go_wp2
      go_roundw
      case rel => exact ⟨j + 1, by omega, by go_num, by rw [HN.out, f5], by rw [HR.out]; exact HO2.out, (Hb.out.alloc HO.out.2.2.2 _).trans (HB2.out _ (Nat.le_refl _))⟩
      case measure => simp [intOf]; omega
    · have hjn : j = n := by omega
      subst hjn
      clear HQ
      go_wp2
      go_ret
      exact ⟨_, rfl, HO.out, Hb.out⟩

theorem refOf_any (k n : Int) (w : World) (b1 : -9223372036854775808 ≤ k) (b2 : k ≤ 9223372036854775807) :
    Calls Tryz.prog 119 #[.int .i64 k, .int .i64 n] w fun e w' => ∃ u, e = .returned (.tuple #[u, .int .i64 (ofE 2 n : Nat)]) ∧ Sl w' u (ofV k n) ∧ Below w.heap.size w w' := by
  by_cases h : okN n = true
  · have hV : ofV k n = bitsL (toU k) n.toNat := by unfold ofV; rw [h]; rfl
    have hE : ofE 2 n = 0 := by unfold ofE; rw [h]; rfl
    rw [hV, hE]
    obtain ⟨m, rfl, h1, h64⟩ := okN_nat h
    have HB := Lib.hid (refBits_any k m w b1 b2 h64)
    have d1 : decide ((m : Int) < 1) = false := by rw [decide_eq_false_iff_not]; omega
    have d2 : decide (64 < (m : Int)) = false := by rw [decide_eq_false_iff_not]; omega
    clear h hV hE h1 h64 b1 b2
    rw [Int.toNat_natCast]
    go_enter Tryz.func119, Tryz.ntmps119
    go_wp2_with fail
    refine (HB.out).mono ?_
    rintro e w2 ⟨u, rfl, ho, hb⟩
    have HO := Lib.hid ho
    have HB2 := Lib.hid hb
    clear ho hb
    go_wp2
    go_ret2
    exact ⟨_, rfl, HO.out.sl, HB2.out⟩
  · have h' : okN n = false := by simpa using h
    have hV : ofV k n = [] := by unfold ofV; rw [h']; rfl
    have hE : ofE 2 n = 2 := by unfold ofE; rw [h']; rfl
    rw [hV, hE]
    by_cases h1 : n < 1
    · have d1 : decide (n < 1) = true := by simpa using h1
      clear h h' hV hE h1 b1 b2
      go_enter Tryz.func119, Tryz.ntmps119
      go_wp2
      go_ret2
      exact ⟨_, rfl, sl_nil _, Below.refl _ _⟩
    · have d1 : decide (n < 1) = false := by simpa using h1
      have d2 : decide (64 < n) = true := by
        unfold okN at h'
        rw [decide_eq_true (show 1 ≤ n by omega), Bool.true_and, decide_eq_false_iff_not] at h'
        rw [decide_eq_true_eq]; omega
      clear h h' hV hE h1 b1 b2
      go_enter Tryz.func119, Tryz.ntmps119
      go_wp2
      go_ret2
      exact ⟨_, rfl, sl_nil _, Below.refl _ _⟩

end Go.Proofs.YtdiagnhdigakpaaGreatDoor.Lg
