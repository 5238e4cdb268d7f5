/- Plain facts on vectors as numbers. No program stands here. -/
import Derived.Test.YtkapephlfbabjaaMap
namespace Go.Proofs.Ytkapephlfbabjaa
open Go.RowKit

/-- The number of a vector: the bits that are 1. -/
def num : List Nat → Nat
  | [] => 0
  | z :: zs => (if z = 1 then 1 else 0) + 2 * num zs
theorem num_lt (zs : List Nat) : num zs < 2 ^ zs.length := by
  induction zs with
  | nil => simp [num]
  | cons z zs ih =>
    rw [num, List.length_cons, Nat.pow_succ]
    split <;> omega
theorem num_append (zs ys : List Nat) : num (zs ++ ys) = num zs + 2 ^ zs.length * num ys := by
  induction zs with
  | nil => simp [num]
  | cons z zs ih =>
    rw [List.cons_append, num, ih, num, List.length_cons, Nat.pow_succ, Nat.mul_add, Nat.mul_comm _ 2, Nat.mul_assoc]
    omega
theorem num_take {zs : List Nat} {k : Nat} (h : k < zs.length) : num (zs.take (k + 1)) = num (zs.take k) + (if zs[k] = 1 then 2 ^ k else 0) := by
  rw [List.take_succ_eq_append_getElem h, num_append, List.length_take, Nat.min_eq_left (by omega)]
  simp only [num, Nat.mul_zero, Nat.add_zero]
  split <;> simp
theorem num_take_lt (zs : List Nat) (k : Nat) : num (zs.take k) < 2 ^ k :=
  Nat.lt_of_lt_of_le (num_lt _) (Nat.pow_le_pow_right (by omega) (List.length_take_le _ _))
theorem num_replicate_zero (n : Nat) : num (List.replicate n 0) = 0 := by
  induction n with
  | zero => rfl
  | succ n ih => rw [List.replicate_succ, num, ih]; rfl

/-- The lowest n bits of a number. -/
def bitsL (k n : Nat) : List Nat := (List.range n).map fun i => k / 2 ^ i % 2
theorem bitsL_len (k n : Nat) : (bitsL k n).length = n := by simp [bitsL]
theorem bitsL_get {k n i : Nat} (h : i < (bitsL k n).length) : (bitsL k n)[i] = k / 2 ^ i % 2 := by simp [bitsL]
theorem bitsL_succ (k n : Nat) : bitsL k (n + 1) = bitsL k n ++ [k / 2 ^ n % 2] := by simp [bitsL, List.range_succ]
theorem bitsL_cons (k n : Nat) : bitsL k (n + 1) = k % 2 :: bitsL (k / 2) n := by
  unfold bitsL
  rw [List.range_succ_eq_map]
  simp [Nat.pow_succ, Nat.div_div_eq_div_mul, Nat.mul_comm 2]
theorem bitsL_le {k n z : Nat} (h : z ∈ bitsL k n) : z ≤ 1 := by
  unfold bitsL at h
  obtain ⟨i, _, rfl⟩ := List.mem_map.1 h
  omega
theorem bitsL_bits (k n : Nat) : bitsB (bitsL k n) = true := bitsB_of fun z hz => by have := bitsL_le hz; omega
theorem bitsL_known (k n : Nat) : knB (bitsL k n) = true := by
  unfold knB
  rw [List.all_eq_true]
  intro z hz
  simpa using bitsL_le hz
theorem num_bitsL (k n : Nat) : num (bitsL k n) = k % 2 ^ n := by
  induction n generalizing k with
  | zero => simp [bitsL, num, Nat.mod_one]
  | succ n ih =>
    rw [bitsL_cons, num, ih, Nat.pow_succ, Nat.mul_comm _ 2, Nat.mod_mul]
    split <;> omega
theorem bitsL_num {zs : List Nat} (h : knB zs = true) : bitsL (num zs) zs.length = zs := by
  induction zs with
  | nil => rfl
  | cons z zs ih =>
    unfold knB at h
    rw [List.all_cons, Bool.and_eq_true] at h
    have hz : z ≤ 1 := by simpa using h.1
    rw [List.length_cons, bitsL_cons, num]
    have e1 : ((if z = 1 then 1 else 0) + 2 * num zs) % 2 = z := by split <;> omega
    have e2 : ((if z = 1 then 1 else 0) + 2 * num zs) / 2 = num zs := by split <;> omega
    rw [e1, e2, ih h.2]
theorem bitsL_congr {a b n : Nat} (h : a % 2 ^ n = b % 2 ^ n) : bitsL a n = bitsL b n := by
  have h1 := bitsL_num (bitsL_known a n)
  have h2 := bitsL_num (bitsL_known b n)
  rw [bitsL_len, num_bitsL] at h1 h2
  rw [← h1, ← h2, h]
theorem bitsL_mod {k m n : Nat} (h : n ≤ m) : bitsL (k % 2 ^ m) n = bitsL k n :=
  bitsL_congr (Nat.mod_mod_of_dvd _ (Nat.pow_dvd_pow 2 h))
theorem num_inj {a b : List Nat} (ha : knB a = true) (hb : knB b = true) (hl : a.length = b.length) (h : num a = num b) : a = b := by
  rw [← bitsL_num ha, ← bitsL_num hb, h, hl]
end Go.Proofs.Ytkapephlfbabjaa
