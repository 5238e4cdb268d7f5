/- The contracts of sumOfOnes, bitsOf, Number. -/
import Derived.Test.YtkapephlfbabjaaNum
import Derived.WalkSmall
import Derived.Laws.CopyOwn
namespace Go.Proofs.Ytkapephlfbabjaa
open Go.RowKit

theorem pow_64 {k : Nat} (h : k ≤ 64) : 2 ^ k ≤ 18446744073709551616 := Nat.pow_le_pow_right (n := 2) (by omega) h

theorem wrap_nat {a : Nat} (h : a < 18446744073709551616) : IntKind.u64.wrap (a : Int) = (a : Int) := by rw [IntKind.wrap_u64]; omega
theorem wrap64_in {n : Int} (h1 : -9223372036854775808 ≤ n) (h2 : n ≤ 9223372036854775807) : wrap64 n = n := by unfold wrap64; omega
theorem cast_pow (k : Nat) : ((2 : Int) ^ k) = ((2 ^ k : Nat) : Int) := by rw [Int.natCast_pow]; rfl
theorem or_bit {a k : Nat} (h : a < 2 ^ k) (hk : k < 64) : bits .or .u64 (a : Int) (IntKind.u64.wrap (2 ^ k)) = ((a + 2 ^ k : Nat) : Int) := by
  have h1 : 2 ^ k ≤ 2 ^ 63 := Nat.pow_le_pow_right (by omega) (by omega)
  rw [cast_pow, wrap_nat (by omega), bits_or_u64_nat _ _ (by omega) (by omega)]
  have := Nat.two_pow_add_eq_or_of_lt h 1
  rw [Nat.mul_one] at this
  rw [Nat.or_comm, ← this, Nat.add_comm]

set_option maxHeartbeats 1000000 in
theorem sumOfOnes_any (v : Value) (zs : List Nat) (w : World) (h : Sl w v zs) (h64 : zs.length ≤ 64) :
    Calls Try.prog 58 #[v] w fun e w' => e = .returned (.int .u64 (num zs : Nat)) ∧ w = w' := by
  obtain ⟨A, c, rfl, hn, hz, hq, hc⟩ := h
  clear hz
  go_enter Try.func58, Try.ntmps58
  go_wp2_with fail
  go_loop [3, 8] (fun s i => ∃ k : Nat, k ≤ zs.length ∧ i = .int .i64 k ∧ s = .int .u64 (num (zs.take k) : Nat)) (fun _ i => zs.length - (intOf i).toNat)
  case atStart => exact ⟨0, Nat.zero_le _, rfl, rfl⟩
  case round =>
    obtain ⟨k, hk, rfl, rfl⟩ := hrel
    by_cases hlt : k < zs.length
    · rcases hc with rfl | ⟨b, off, rfl, hc⟩
      · exact absurd hlt (by simp)
      have g := hc k hlt
      clear hc
      by_cases h1 : zs[k] = 1
      · have HR : Hid (num (zs.take (k + 1)) = num (zs.take k) + 2 ^ k) := by rw [num_take hlt, if_pos h1]; exact rfl
        have HO := Lib.hid (or_bit (num_take_lt zs k) (show k < 64 by omega))
        rw [h1] at g
        clear h1
        generalize num (zs.take k) = s at HR HO
        go_wp2
        go_round
        case rel => exact ⟨k + 1, by omega, by go_num, by rw [HR.out, HO.out]⟩
        case measure => simp [intOf]; omega
      · have HR : Hid (num (zs.take (k + 1)) = num (zs.take k)) := by rw [num_take hlt, if_neg h1]; exact rfl
        have hne := beq_nat_no h1
        generalize zs[k] = z at g hne
        clear h1
        generalize num (zs.take k) = s at HR
        go_wp2
        go_round
        case rel => exact ⟨k + 1, by omega, by go_num, by rw [HR.out]⟩
        case measure => simp [intOf]; omega
    · clear hc
      have HR : Hid (num (zs.take k) = num zs) := by rw [List.take_of_length_le (by omega)]; exact rfl
      go_wp2
      go_ret
      exact ⟨by rw [HR.out]; rfl, rfl⟩

theorem shr_bit {x k : Nat} (hx : x < 18446744073709551616) : bits .and .u64 ((x : Int) / 2 ^ k) 1 % 256 = ((x / 2 ^ k % 2 : Nat) : Int) := by
  have h1 : ((x : Int) / 2 ^ k) = ((x / 2 ^ k : Nat) : Int) := by rw [cast_pow]; rfl
  have h2 : x / 2 ^ k ≤ x := Nat.div_le_self _ _
  rw [h1]
  generalize x / 2 ^ k = q at h2
  rw [and_one_u64 _ (by omega) (by omega)]
  omega

set_option maxHeartbeats 1000000 in
theorem bitsOf_any (x n : Nat) (w : World) (hx : x < 18446744073709551616) (h64 : n ≤ 64) :
    Calls Try.prog 62 #[.int .u64 (x : Nat), .int .i64 (n : Nat)] w fun e w' => ∃ u, e = .returned u ∧ Own w' w.heap.size u (bitsL x n) ∧ Below w.heap.size w w' := by
  go_enter Try.func62, Try.ntmps62
  go_wp2_with (first | (refine wpList_make_bits rfl _ _ rfl n rfl rfl (by omega) ?_; intro wm hm hbm) | fail)
  have HM := Lib.hid hm
  have HBM := Lib.hid hbm
  clear hm hbm
  go_wp2_with fail
  go_loopw [10] (fun i wr => ∃ k : Nat, k ≤ n ∧ i = .int .i64 k ∧ Own wr w.heap.size (.slice (some ⟨w.heap.size, 0, none⟩) n n) (fillF n (bitsL x k)) ∧ Below w.heap.size w wr) (fun i _ => n - (intOf i).toNat)
  case atStart => exact ⟨0, Nat.zero_le _, rfl, by simpa [fillF, bitsL] using HM.out, HBM.out⟩
  case round =>
    obtain ⟨k, hk, rfl, hown, hb⟩ := hrel
    have HO := Lib.hid hown
    have Hb := Lib.hid hb
    clear hown hb
    by_cases hlt : k < n
    · have hfl := fillF_len (n := n) (ys := bitsL x k) (by rw [bitsL_len]; exact hk)
      obtain ⟨gc, gf⟩ := HO.out.cell k (by rw [hfl]; exact hlt)
      have HS := Lib.hid (HO.out.stored k (x / 2 ^ k % 2) (by omega))
      rw [fillF_set (bitsL_len x k) hlt, ← bitsL_succ, ← shr_bit hx] at HS
      generalize (fillF n (bitsL x k))[k] = y at gc
      clear hfl
      go_wp2
      go_roundw
      case rel => exact ⟨k + 1, by omega, by go_num, HS.out.1, Hb.out.trans (HS.out.2 _ (Nat.le_refl _))⟩
      case measure => simp [intOf]; omega
    · have hkn : k = n := by omega
      subst hkn
      have hO := HO.out
      rw [fillF_end (bitsL_len x k)] at hO
      have HO' := Lib.hid hO
      clear hO
      go_wp2
      go_ret
      exact ⟨_, rfl, HO'.out, Hb.out⟩
end Go.Proofs.Ytkapephlfbabjaa
