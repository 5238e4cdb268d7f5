/- What sums, differences and products of vectors are to each other, as lists. No program stands here. -/
import Derived.Test.YtkapephlfbabjaaAwake
namespace Go.Proofs.Ytkapephlfbabjaa
open Go.RowKit

theorem isV_of {zs : List Nat} (h1 : 1 ≤ zs.length) (h2 : zs.length ≤ 64) (hb : bitsB zs = true) : isV zs = true := by rw [isV_fits h1 h2]; exact hb
theorem isV_bitsL (k : Nat) {n : Nat} (h1 : 1 ≤ n) (h2 : n ≤ 64) : isV (bitsL k n) = true :=
  isV_of (by rw [bitsL_len]; exact h1) (by rw [bitsL_len]; exact h2) (bitsL_bits k n)
theorem isV_xs {n : Nat} (h1 : 1 ≤ n) (h2 : n ≤ 64) : isV (List.replicate n 2) = true :=
  isV_of (by simpa using h1) (by simpa using h2) (bitsB_of fun z hz => by have := List.eq_of_mem_replicate hz; omega)
theorem kn_xs {n : Nat} (h1 : 1 ≤ n) : knB (List.replicate n 2) = false := by
  unfold knB
  rw [List.all_eq_false]
  exact ⟨2, List.mem_replicate.2 ⟨by omega, rfl⟩, by simp⟩
theorem two_of {a b : List Nat} (ha : isV a = true) (hb : isV b = true) (hl : b.length = a.length) : two a b = true := by unfold two; rw [ha, hb, hl]; simp

theorem cal_len {op : Nat → Nat → Nat} {a b : List Nat} (h : two a b = true) : (calV op a b).length = a.length := by
  cases h' : both a b
  · rw [(cal_unk h h').1, List.length_replicate]
  · rw [(cal_yes h h').1, bitsL_len]
theorem cal_isV {op : Nat → Nat → Nat} {a b : List Nat} (h : two a b = true) : isV (calV op a b) = true := by
  obtain ⟨ha, _, _⟩ := two_yes h
  obtain ⟨_, h1, h2⟩ := isV_bits ha
  cases h' : both a b
  · rw [(cal_unk h h').1]; exact isV_xs h1 h2
  · rw [(cal_yes h h').1]; exact isV_bitsL _ h1 h2
theorem cal_kn {op : Nat → Nat → Nat} {a b : List Nat} (h : two a b = true) : knB (calV op a b) = both a b := by
  obtain ⟨ha, _, _⟩ := two_yes h
  obtain ⟨_, h1, h2⟩ := isV_bits ha
  cases h' : both a b
  · rw [(cal_unk h h').1]; exact kn_xs h1
  · rw [(cal_yes h h').1]; exact bitsL_known _ _
theorem cal_num {op : Nat → Nat → Nat} {a b : List Nat} (h : two a b = true) (h' : both a b = true) : num (calV op a b) = op (num a) (num b) % 2 ^ a.length := by rw [(cal_yes h h').1, num_bitsL]
theorem two_comm {a b : List Nat} (h : two a b = true) : two b a = true := by
  obtain ⟨ha, hb, hl⟩ := two_yes h
  exact two_of hb ha hl
theorem both_comm (a b : List Nat) : both a b = both b a := by unfold both; exact Bool.and_comm _ _
theorem two_cal {op : Nat → Nat → Nat} {a b c : List Nat} (h : two a b = true) (hc : two a c = true) : two (calV op a b) c = true :=
  two_of (cal_isV h) (two_yes hc).2.1 (by rw [cal_len h]; exact (two_yes hc).2.2.symm)
theorem cal_two {op : Nat → Nat → Nat} {a b c : List Nat} (h : two a b = true) (hc : two a c = true) : two a (calV op b c) = true := by
  have hbc : two b c = true := two_of (two_yes h).2.1 (two_yes hc).2.1 (by rw [← (two_yes hc).2.2, (two_yes h).2.2])
  exact two_of (two_yes h).1 (cal_isV hbc) (by rw [cal_len hbc]; exact (two_yes h).2.2.symm)
theorem two_snd {a b c : List Nat} (h : two a b = true) (hc : two a c = true) : two b c = true :=
  two_of (two_yes h).2.1 (two_yes hc).2.1 (by rw [← (two_yes hc).2.2, (two_yes h).2.2])

theorem cal_comm {op : Nat → Nat → Nat} {a b : List Nat} (h : two a b = true) (ho : ∀ x y, op x y = op y x) : calV op a b = calV op b a := by
  have hl := (two_yes h).2.2
  cases h' : both a b
  · rw [(cal_unk h h').1, (cal_unk (two_comm h) (by rw [both_comm]; exact h')).1, hl]
  · rw [(cal_yes h h').1, (cal_yes (two_comm h) (by rw [both_comm]; exact h')).1, hl, ho]
/-- Two of three, each way. -/
theorem cal_turn {op op' o o' : Nat → Nat → Nat} {a b c : List Nat} (h : two a b = true) (hc : two a c = true)
    (ho : ∀ x y z : Nat, o (op x y % 2 ^ a.length) z % 2 ^ a.length = o' x (op' y z % 2 ^ a.length) % 2 ^ a.length) : calV o (calV op a b) c = calV o' a (calV op' b c) := by
  have hbc := two_snd h hc
  have hl := (two_yes h).2.2
  have h1 := two_cal (op := op) h hc
  have h2 := cal_two (op := op') h hc
  have k1 : both (calV op a b) c = (both a b && knB c) := by unfold both; rw [cal_kn h]; rfl
  have k2 : both a (calV op' b c) = (knB a && both b c) := by unfold both; rw [cal_kn hbc]; rfl
  have k3 : (both a b && knB c) = (knB a && both b c) := by unfold both; exact Bool.and_assoc _ _ _
  cases h' : (knB a && both b c)
  · rw [(cal_unk h1 (by rw [k1, k3]; exact h')).1, (cal_unk h2 (by rw [k2]; exact h')).1, cal_len h]
  · have ha : knB a = true := by rw [Bool.and_eq_true] at h'; exact h'.1
    have hb : both b c = true := by rw [Bool.and_eq_true] at h'; exact h'.2
    have hb1 : knB b = true := by unfold both at hb; rw [Bool.and_eq_true] at hb; exact hb.1
    have hab : both a b = true := by unfold both; rw [ha, hb1]; rfl
    rw [(cal_yes h1 (by rw [k1, k3]; exact h')).1, (cal_yes h2 (by rw [k2]; exact h')).1, cal_len h, cal_num h hab, cal_num hbc hb, ← hl]
    exact bitsL_congr (ho _ _ _)

theorem two_mod {k n : Nat} (h : n ≤ 64) : k % 18446744073709551616 % 2 ^ n = k % 2 ^ n := Nat.mod_mod_of_dvd _ (Nat.pow_dvd_pow 2 h)
theorem addO_mod {x y n : Nat} (h : n ≤ 64) : addO x y % 2 ^ n = (x + y) % 2 ^ n := by
  rw [show addO x y = (x + y) % 18446744073709551616 by unfold addO toU; omega]
  exact two_mod h
theorem mulO_mod {x y n : Nat} (h : n ≤ 64) : mulO x y % 2 ^ n = (x * y) % 2 ^ n := by
  rw [show mulO x y = (x * y) % 18446744073709551616 by unfold mulO toU; rw [← Int.natCast_mul]; omega]
  exact two_mod h
theorem addO_comm (x y : Nat) : addO x y = addO y x := by unfold addO; rw [Int.add_comm]
theorem mulO_comm (x y : Nat) : mulO x y = mulO y x := by unfold mulO; rw [Int.mul_comm]
theorem addO_turn {n : Nat} (h : n ≤ 64) (x y z : Nat) : addO (addO x y % 2 ^ n) z % 2 ^ n = addO x (addO y z % 2 ^ n) % 2 ^ n := by
  rw [addO_mod h, addO_mod h, addO_mod h, addO_mod h, Nat.mod_add_mod, Nat.add_mod_mod, Nat.add_assoc]
theorem mulO_turn {n : Nat} (h : n ≤ 64) (x y z : Nat) : mulO (mulO x y % 2 ^ n) z % 2 ^ n = mulO x (mulO y z % 2 ^ n) % 2 ^ n := by
  rw [mulO_mod h, mulO_mod h, mulO_mod h, mulO_mod h, Nat.mod_mul_mod, Nat.mul_mod_mod, Nat.mul_assoc]
/-- A product over a sum. -/
theorem cal_over {a b c : List Nat} (h : two a b = true) (hc : two a c = true) (ka : knB a = true) (kb : knB b = true) (kc : knB c = true) :
    calV mulO a (calV addO b c) = calV addO (calV mulO a b) (calV mulO a c) := by
  obtain ⟨_, h1, h64⟩ := isV_bits (two_yes h).1
  have hbc := two_snd h hc
  have bb : both b c = true := by unfold both; rw [kb, kc]; rfl
  have ab : both a b = true := by unfold both; rw [ka, kb]; rfl
  have ac : both a c = true := by unfold both; rw [ka, kc]; rfl
  have t1 := cal_two (op := addO) h hc
  have t2 : two (calV mulO a b) (calV mulO a c) = true := two_of (cal_isV h) (cal_isV hc) (by rw [cal_len h, cal_len hc])
  have b1 : both a (calV addO b c) = true := by unfold both; rw [ka, cal_kn hbc, bb]; rfl
  have b2 : both (calV mulO a b) (calV mulO a c) = true := by unfold both; rw [cal_kn h, cal_kn hc, ab, ac]; rfl
  rw [(cal_yes t1 b1).1, (cal_yes t2 b2).1, cal_len h, cal_num hbc bb, cal_num h ab, cal_num hc ac, ← (two_yes h).2.2]
  refine bitsL_congr ?_
  rw [mulO_mod h64, addO_mod h64, addO_mod h64, mulO_mod h64, mulO_mod h64, Nat.mul_mod_mod, ← Nat.add_mod, Nat.mul_add]
theorem subO_back {x y n : Nat} (h : n ≤ 64) (hx : x < 2 ^ n) : subO (addO x y % 2 ^ n) y % 2 ^ n = x := by
  have e1 : (subO (addO x y % 2 ^ n) y : Int) % 2 ^ n = (((addO x y % 2 ^ n : Nat) : Int) - y) % 2 ^ n := by
    unfold subO toU
    rw [Int.toNat_of_nonneg (Int.emod_nonneg _ (by omega))]
    exact Int.emod_emod_of_dvd _ (by rw [cast_pow]; exact Int.natCast_dvd_natCast.2 (Nat.pow_dvd_pow 2 h))
  rw [addO_mod h, Int.natCast_emod, ← cast_pow, Int.emod_sub_emod, Int.natCast_add, Int.add_sub_cancel, cast_pow, ← Int.natCast_emod, ← Int.natCast_emod, Nat.mod_eq_of_lt hx] at e1
  rw [addO_mod h]
  exact_mod_cast e1
/-- What was added is taken away again. -/
theorem cal_away {a b : List Nat} (h : two a b = true) (ka : knB a = true) (kb : knB b = true) : calV subO (calV addO a b) b = a := by
  obtain ⟨_, h1, h64⟩ := isV_bits (two_yes h).1
  have ab : both a b = true := by unfold both; rw [ka, kb]; rfl
  have t1 : two (calV addO a b) b = true := two_cal h h
  have b1 : both (calV addO a b) b = true := by unfold both; rw [cal_kn h, ab, kb]; rfl
  rw [(cal_yes t1 b1).1, cal_len h, cal_num h ab]
  apply num_inj (bitsL_known _ _) ka (bitsL_len _ _)
  rw [num_bitsL]
  exact subO_back h64 (num_lt a)
end Go.Proofs.Ytkapephlfbabjaa
