/- The contract of slices.Repeat of one bit, with math/bits' Mul. -/
import Derived.Test.YtkapephlfbabjaaMov
namespace Go.Proofs.Ytkapephlfbabjaa
open Go.RowKit

theorem mask32 {a : Nat} (ha : a < 4294967296) : bits .and .u64 (a : Int) 4294967295 = (a : Int) := by
  have h := bits_and_u64_nat a 4294967295 (by omega) (by omega)
  have e : a &&& 4294967295 = a % 4294967296 := Nat.and_two_pow_sub_one_eq_mod a 32
  rw [e, Nat.mod_eq_of_lt ha] at h
  exact h

set_option maxHeartbeats 1000000 in
theorem mul64_any (n : Nat) (w : World) (h : n ≤ 64) :
    Calls Try.prog 96 #[.int .u64 1, .int .u64 (n : Nat)] w fun e w' => e = .returned (.tuple #[.int .u64 0, .int .u64 (n : Nat)]) ∧ w = w' := by
  have m0 : bits .and .u64 1 4294967295 = 1 := by decide
  have m2 : bits .and .u64 0 4294967295 = 0 := by decide
  have w0 : IntKind.u64.wrap 0 = 0 := by decide
  have m1 := mask32 (show n < 4294967296 by omega)
  have d1 : (n : Int) / 4294967296 = 0 := by omega
  have w1 := wrap_nat (show n < 18446744073709551616 by omega)
  go_enter Try.func96, Try.ntmps96
  go_wp2
  go_ret2
  exact ⟨by first | rfl | simp [m0, m1, m2, d1, w0, w1], rfl⟩
theorem mulB_any (n : Nat) (w : World) (h : n ≤ 64) :
    Calls Try.prog 93 #[.int .u64 1, .int .u64 (n : Nat)] w fun e w' => e = .returned (.tuple #[.int .u64 0, .int .u64 (n : Nat)]) ∧ w = w' := by
  go_enter Try.func93, Try.ntmps93
  go_wp2_with (go_at_call 96; refine (mul64_any n _ h).mono ?_; rintro e w' ⟨rfl, rfl⟩)
  go_ret2
  exact ⟨by first | rfl | simp, rfl⟩

/-- The row after k bits are laid. -/
def repK (n k : Nat) : List Nat := List.replicate k 2 ++ List.replicate (n - k) 0
theorem repK_len {n k : Nat} (h : k ≤ n) : (repK n k).length = n := by unfold repK; simp; omega
theorem repK_256 (n k : Nat) : ∀ z ∈ repK n k, z < 256 := by
  intro z hz
  unfold repK at hz
  rcases List.mem_append.1 hz with h | h
  · have := List.eq_of_mem_replicate h; omega
  · have := List.eq_of_mem_replicate h; omega
theorem repK_get {n k j : Nat} (h : j < k) (h' : j < (repK n k).length) : (repK n k)[j] = 2 := by
  simp [repK, h]
theorem repK_splice {n k m : Nat} (_h : k + m ≤ n) : splice (repK n k) k (List.replicate m 2) = repK n (k + m) := by
  unfold splice repK
  rw [List.take_append_of_le_length (by simp), List.take_of_length_le (by simp), List.length_replicate, List.drop_append]
  simp [List.drop_eq_nil_of_le, ← List.append_assoc, List.replicate_append_replicate]
  omega
theorem repK_zero {n : Nat} (_h : 1 ≤ n) : splice (List.replicate n 0) 0 [2] = repK n 1 := by
  unfold splice repK
  simp
theorem repK_end (n : Nat) : repK n n = List.replicate n 2 := by simp [repK]

theorem rep_cell {w : World} {g n k : Nat} (h : Raw w g (repK n k)) (hk : k ≤ n) {j : Nat} (hj : j < (List.replicate (min k (n - k)) 2).length) :
    w.cell? ⟨g, 0 + j, none⟩ = some (.int .u8 ((List.replicate (min k (n - k)) 2)[j] : Nat)) := by
  have h1 := h.cell j (by rw [repK_len hk]; simp at hj; omega)
  rw [repK_get (by simp at hj; omega)] at h1
  simpa using h1

set_option maxHeartbeats 1000000 in
theorem repeat_any (v : Value) (n : Nat) (w : World) (h : Sl w v [2]) (h1 : 1 ≤ n) (h64 : n ≤ 64) :
    Calls Try.prog 89 #[v, .int .i64 (n : Nat)] w fun e w' => ∃ u, e = .returned u ∧ Sl w' u (List.replicate n 2) ∧ Below w.heap.size w w' := by
  obtain ⟨b, off, c, rfl, ⟨hn, hq⟩, hz, hc⟩ := h.cells (by simp)
  have HC := Lib.hid hc
  have hw := wrap_nat (show n < 18446744073709551616 by omega)
  have hw' := wrap_i64 (show n < 9223372036854775808 by omega)
  have hd : decide ((9223372036854775807 : Int) < (n : Int)) = false := by rw [decide_eq_false_iff_not]; omega
  have hd0 : decide ((n : Int) < 0) = false := by rw [decide_eq_false_iff_not]; omega
  clear hz hc h
  simp only [List.length_singleton] at hn hq ⊢
  go_enter Try.func89, Try.ntmps89
  go_wp2_with fail
  refine (mulB_any n _ h64).mono ?_
  rintro e w' ⟨rfl, rfl⟩
  go_wp2_with (first | (refine wpList_make_bits rfl _ _ rfl n rfl rfl (by omega) ?_; intro w1 hown1 hb1; have HO1 := Lib.hid hown1; have HB1 := Lib.hid hb1; clear hown1 hb1) | (refine wpList_copy_bits rfl _ _ rfl _ _ _ _ _ _ rfl rfl w.heap.size 0 (List.replicate n 0) [2] HO1.out.raw.1 (by show _ = min _ _; simp only [List.length_singleton]; omega) (fun _ => ⟨rfl, b, off, rfl, fun j hj => (HB1.out.cell (block_lt_of_cell (HC.out j hj))).trans (HC.out j hj)⟩) (by simp; omega) w.heap.size w HB1.out (Nat.le_refl _) ?_; intro w2 HR2 hb2; have HB2 := Lib.hid hb2; clear hb2))
  rw [repK_zero h1] at HR2
  go_loopw [8] (fun i wr => ∃ k : Nat, 1 ≤ k ∧ k ≤ n ∧ i = .int .i64 k ∧ Hid (Raw wr w.heap.size (repK n k)) ∧ Below w.heap.size w wr) (fun i _ => n - (intOf i).toNat)
  case atStart => exact ⟨1, Nat.le_refl _, h1, rfl, HR2, HB2.out⟩
  case round =>
    obtain ⟨k, hk1, hk, rfl, HR, hb⟩ := hrel
    have HB := Lib.hid hb
    clear hb
    by_cases hlt : k < n
    · have hw2 : Hid (IntKind.i64.wrap ((k : Int) + ((min k (n - k) : Nat) : Int)) = ((k + min k (n - k) : Nat) : Int)) := by
        have := wrap_i64 (a := k + min k (n - k)) (by omega)
        rw [← this]
        exact congrArg _ (by omega)
      have HRn : Hid (splice (repK n k) k (List.replicate (min k (n - k)) 2) = repK n (k + min k (n - k))) := repK_splice (by omega)
      go_wp2_with fail
      go_region_law (refine step_copy_bits rfl (.tmp 41) (.tmp 44) rfl (some ⟨w.heap.size, k, none⟩) (some ⟨w.heap.size, 0, none⟩) (n - k) (n - k) k n (by simp [Act.eval, Act.put] <;> omega) (by simp [Act.eval, Act.put]) w.heap.size k (repK n k) (List.replicate (min k (n - k)) 2) HR.out (by show _ = min _ _; simp) (fun _ => ⟨rfl, w.heap.size, 0, rfl, fun j hj => rep_cell HR.out hk hj⟩) (by rw [repK_len hk]; simp; omega) w.heap.size w (HB.out.trans ⟨rfl, rfl, rfl, Nat.le_refl _, fun _ _ => rfl⟩) (Nat.le_refl _) ?_; intro w4 HR4 hb4)
      all_goals
        go_wp2
        go_roundw
        case rel =>
          rw [HRn.out] at HR4
          first
            | exact ⟨k + min k (n - k), by omega, by omega, hw2.out, HR4⟩
            | exact ⟨k + min k (n - k), by omega, by omega, hw2.out, HR4, hb4⟩
            | exact ⟨k + min k (n - k), by omega, by omega, congrArg _ hw2.out, HR4, hb4⟩
        case measure =>
          rw [hw2.out]
          simp only [intOf, Int.toNat_natCast]
          omega
    · have hkn : k = n := by omega
      subst hkn
      rw [repK_end] at HR
      go_wp2
      go_ret
      exact ⟨_, rfl, HR.out.sl (by simp) (by omega) (fun z hz => by have := List.eq_of_mem_replicate hz; omega), HB.out⟩
end Go.Proofs.Ytkapephlfbabjaa
