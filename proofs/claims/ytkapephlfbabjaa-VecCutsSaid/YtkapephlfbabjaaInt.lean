/- The contracts of Int, and the reference's Fits and Int. -/
import Derived.Test.YtkapephlfbabjaaSum
namespace Go.Proofs.Ytkapephlfbabjaa
open Go.RowKit

/-- Whether a number is an int of the language. -/
def fits (n : Int) : Bool := decide (-2147483648 ≤ n) && decide (n ≤ 2147483647)
theorem fits_yes {n : Int} (h : fits n = true) : -2147483648 ≤ n ∧ n ≤ 2147483647 := by unfold fits at h; simpa using h
theorem fits_no {n : Int} (h : fits n = false) : ¬ (-2147483648 ≤ n ∧ n ≤ 2147483647) := by
  intro h'
  unfold fits at h
  rw [decide_eq_true h'.1, decide_eq_true h'.2] at h
  cases h

theorem isInt_any (n : Int) (w : World) : Calls Try.prog 80 #[.int .i64 n] w fun e w' => e = .returned (.bool (fits n)) ∧ w = w' := by
  unfold fits
  by_cases h1 : -2147483648 ≤ n
  · have d1 : decide (-2147483648 ≤ n) = true := by simpa using h1
    rw [d1]
    clear h1
    go_enter Try.func80, Try.ntmps80
    go_wp2
    go_ret
    exact ⟨ret_bool (by simp), rfl⟩
  · have d1 : decide (-2147483648 ≤ n) = false := by simpa using h1
    rw [d1]
    clear h1
    go_enter Try.func80, Try.ntmps80
    go_wp2
    go_ret
    exact ⟨rfl, rfl⟩
theorem refFits_any (n : Int) (w : World) : Calls Try.prog 56 #[.int .i64 n] w fun e w' => e = .returned (.bool (fits n)) ∧ w = w' := by
  unfold fits
  by_cases h1 : -2147483648 ≤ n
  · have d1 : decide (-2147483648 ≤ n) = true := by simpa using h1
    rw [d1]
    clear h1
    go_enter Try.func56, Try.ntmps56
    go_wp2
    go_ret
    exact ⟨ret_bool (by simp), rfl⟩
  · have d1 : decide (-2147483648 ≤ n) = false := by simpa using h1
    rw [d1]
    clear h1
    go_enter Try.func56, Try.ntmps56
    go_wp2
    go_ret
    exact ⟨rfl, rfl⟩
theorem isInt_at {n : Int} {b : Bool} (h : fits n = b) (w : World) : Calls Try.prog 80 #[.int .i64 n] w fun e w' => e = .returned (.bool b) ∧ w = w' := by subst h; exact isInt_any n w
theorem refFits_at {n : Int} {b : Bool} (h : fits n = b) (w : World) : Calls Try.prog 56 #[.int .i64 n] w fun e w' => e = .returned (.bool b) ∧ w = w' := by subst h; exact refFits_any n w

/-- The quotient rounded down, and what is left, from the quotient rounded towards 0. -/
def adj (a b : Int) : Bool := (a.tmod b != 0) && (decide (a.tmod b < 0) != decide (b < 0))
def divQ (a b : Int) : Int := if adj a b then a.tdiv b - 1 else a.tdiv b
def divR (a b : Int) : Int := if adj a b then a.tmod b + b else a.tmod b

theorem tmod_bounds (a : Int) {b : Int} (_h0 : b ≠ 0) : (0 < b → -b < a.tmod b ∧ a.tmod b < b) ∧ (b < 0 → b < a.tmod b ∧ a.tmod b < -b) := by
  have key : ∀ c : Int, 0 < c → -c < a.tmod c ∧ a.tmod c < c := by
    intro c hc
    refine ⟨?_, Int.tmod_lt_of_pos a hc⟩
    have h1 := Int.tmod_lt_of_pos (-a) hc
    rw [Int.neg_tmod] at h1
    omega
  refine ⟨key b, fun hb => ?_⟩
  have := key (-b) (by omega)
  rw [Int.tmod_neg] at this
  omega
theorem div_sum (a b : Int) : b * divQ a b + divR a b = a := by
  have h := Int.mul_tdiv_add_tmod a b
  unfold divQ divR
  split
  · rw [Int.mul_sub, Int.mul_one]; omega
  · exact h
theorem div_left (a : Int) {b : Int} (h0 : b ≠ 0) : (0 < b → 0 ≤ divR a b ∧ divR a b < b) ∧ (b < 0 → b < divR a b ∧ divR a b ≤ 0) := by
  obtain ⟨h1, h2⟩ := tmod_bounds a h0
  unfold divR adj
  generalize a.tmod b = r at h1 h2
  refine ⟨fun hb => ?_, fun hb => ?_⟩
  · have := h1 hb
    have d1 : decide (b < 0) = false := by rw [decide_eq_false_iff_not]; omega
    rw [d1]
    by_cases hr : r < 0
    · have d2 : decide (r < 0) = true := by simpa using hr
      have d3 : (r != 0) = true := by rw [bne_iff_ne]; omega
      rw [d2, d3]; simp; omega
    · have d2 : decide (r < 0) = false := by simpa using hr
      rw [d2]; simp; omega
  · have := h2 hb
    have d1 : decide (b < 0) = true := by simpa using hb
    rw [d1]
    by_cases hr : r < 0
    · have d2 : decide (r < 0) = true := by simpa using hr
      rw [d2]; simp; omega
    · have d2 : decide (r < 0) = false := by simpa using hr
      rw [d2]
      by_cases hr0 : r = 0
      · subst hr0; simp; omega
      · have d3 : (r != 0) = true := by rw [bne_iff_ne]; exact hr0
        rw [d3]; simp; omega
theorem tdiv_bound {a b : Int} (ha : fits a = true) : -2147483648 ≤ a.tdiv b ∧ a.tdiv b ≤ 2147483648 := by
  obtain ⟨a1, a2⟩ := fits_yes ha
  have h := Int.natAbs_tdiv_le_natAbs a b
  omega
theorem ret_jj {a b c d : Int} (h : a = b) (h' : c = d) : Ending.returned (.tuple #[.int .i64 a, .int .i64 c]) = .returned (.tuple #[.int .i64 b, .int .i64 d]) := by rw [h, h']

set_option maxHeartbeats 1000000 in
theorem divide_any (a b : Int) (w : World) (ha : fits a = true) (hb : fits b = true) (h0 : b ≠ 0) :
    Calls Try.prog 81 #[.int .i64 a, .int .i64 b] w fun e w' => e = .returned (.tuple #[.int .i64 (divQ a b), .int .i64 (divR a b)]) ∧ Below w.heap.size w w' := by
  obtain ⟨b1, b2⟩ := fits_yes hb
  obtain ⟨q1, q2⟩ := tdiv_bound (b := b) ha
  obtain ⟨t1, t2⟩ := tmod_bounds a h0
  have hz : (b == 0) = false := by rw [beq_eq_false_iff_ne]; exact h0
  have hw : wrap64 (a.tdiv b) = a.tdiv b := wrap64_in (by omega) (by omega)
  have hw1 : wrap64 (a.tdiv b - 1) = a.tdiv b - 1 := wrap64_in (by omega) (by omega)
  have hw2 : wrap64 (a.tmod b + b) = a.tmod b + b := wrap64_in (by omega) (by omega)
  have hQ : Hid (∀ t, adj a b = t → divQ a b = if t then a.tdiv b - 1 else a.tdiv b) := fun t ht => by unfold divQ; rw [ht]
  have hR : Hid (∀ t, adj a b = t → divR a b = if t then a.tmod b + b else a.tmod b) := fun t ht => by unfold divR; rw [ht]
  have hA : Hid (adj a b = ((a.tmod b != 0) && (decide (a.tmod b < 0) != decide (b < 0)))) := rfl
  clear ha hb b1 b2 q1 q2 t1 t2
  by_cases hr0 : a.tmod b = 0
  · have hA' := hA.out
    have d3 : (a.tmod b != 0) = false := by rw [hr0]; rfl
    rw [d3, Bool.false_and] at hA'
    rw [hQ.out _ hA', hR.out _ hA']
    clear hA hQ hR hA' hr0
    go_enter Try.func81, Try.ntmps81
    go_wp2
    go_quiet (fail)
    go_wp2
    go_ret2
    exact ⟨ret_jj (by simp) (by simp), below_drewN (Below.refl _ _) _⟩
  · have d3 : (a.tmod b != 0) = true := by rw [bne_iff_ne]; exact hr0
    by_cases hr : a.tmod b < 0
    · have e1 : decide (a.tmod b < 0) = true := by simpa using hr
      by_cases hb : b < 0
      · have e2 : decide (b < 0) = true := by simpa using hb
        have hA' := hA.out
        rw [d3, e1, e2] at hA'
        rw [hQ.out _ hA', hR.out _ hA']
        clear hA hQ hR hA' hr0 hr hb
        go_enter Try.func81, Try.ntmps81
        go_wp2
        go_quiet (fail)
        go_wp2
        go_ret2
        exact ⟨ret_jj (by first | rfl | simp [hw]) (by first | rfl | simp), below_drewN (Below.refl _ _) _⟩
      · have e2 : decide (b < 0) = false := by simpa using hb
        have hA' := hA.out
        rw [d3, e1, e2] at hA'
        rw [hQ.out _ hA', hR.out _ hA']
        clear hA hQ hR hA' hr0 hr hb
        go_enter Try.func81, Try.ntmps81
        go_wp2
        go_quiet (fail)
        go_wp2
        go_ret2
        exact ⟨ret_jj (by first | rfl | simp [hw1]) (by first | rfl | simp [hw2]), below_drewN (Below.refl _ _) _⟩
    · have e1 : decide (a.tmod b < 0) = false := by simpa using hr
      by_cases hb : b < 0
      · have e2 : decide (b < 0) = true := by simpa using hb
        have hA' := hA.out
        rw [d3, e1, e2] at hA'
        rw [hQ.out _ hA', hR.out _ hA']
        clear hA hQ hR hA' hr0 hr hb
        go_enter Try.func81, Try.ntmps81
        go_wp2
        go_quiet (fail)
        go_wp2
        go_ret2
        exact ⟨ret_jj (by first | rfl | simp [hw1]) (by first | rfl | simp [hw2]), below_drewN (Below.refl _ _) _⟩
      · have e2 : decide (b < 0) = false := by simpa using hb
        have hA' := hA.out
        rw [d3, e1, e2] at hA'
        rw [hQ.out _ hA', hR.out _ hA']
        clear hA hQ hR hA' hr0 hr hb
        go_enter Try.func81, Try.ntmps81
        go_wp2
        go_quiet (fail)
        go_wp2
        go_ret2
        exact ⟨ret_jj (by first | rfl | simp [hw]) (by first | rfl | simp), below_drewN (Below.refl _ _) _⟩

/-- The code of an operation's name, of its bytes; 5 of any other string. -/
def opC (s : ByteArray) : Nat := if s.toList == [43] then 0 else if s.toList == [45] then 1 else if s.toList == [42] then 2 else if s.toList == [47] then 3 else if s.toList == [109, 111, 100] then 4 else 5
def Tests (s : ByteArray) (t0 t1 t2 t3 t4 : Bool) : Prop :=
  (s.toList == [43]) = t0 ∧ (s.toList == [45]) = t1 ∧ (s.toList == [42]) = t2 ∧ (s.toList == [47]) = t3 ∧ (s.toList == [109, 111, 100]) = t4
theorem opC_cases (s : ByteArray) : (Tests s true false false false false ∧ opC s = 0) ∨ (Tests s false true false false false ∧ opC s = 1) ∨ (Tests s false false true false false ∧ opC s = 2) ∨
    (Tests s false false false true false ∧ opC s = 3) ∨ (Tests s false false false false true ∧ opC s = 4) ∨ (Tests s false false false false false ∧ opC s = 5) := by
  unfold Tests opC
  generalize s.toList = l
  by_cases h0 : l = [43]
  · subst h0; left; decide
  by_cases h1 : l = [45]
  · subst h1; right; left; decide
  by_cases h2 : l = [42]
  · subst h2; right; right; left; decide
  by_cases h3 : l = [47]
  · subst h3; right; right; right; left; decide
  by_cases h4 : l = [109, 111, 100]
  · subst h4; right; right; right; right; left; decide
  right; right; right; right; right
  simp [h0, h1, h2, h3, h4]

/-- What Int returns, by the code. -/
def opI (k : Nat) (a b : Int) : Int := if k = 0 then a + b else if k = 1 then a - b else if k = 2 then a * b else if k = 3 then divQ a b else divR a b
def intN (k : Nat) (a b : Int) : Int := if fits a && fits b && decide (k ≤ 4) && !(decide (3 ≤ k) && decide (b = 0)) && fits (opI k a b) then opI k a b else 0
def intX (k : Nat) (a b : Int) : Nat := if fits a && fits b && decide (k ≤ 4) then (if decide (3 ≤ k) && decide (b = 0) then 20 else if fits (opI k a b) then 0 else 19) else 2

theorem int_bad {k : Nat} {a b : Int} (h : (fits a && fits b) = false) : intN k a b = 0 ∧ intX k a b = 2 := by unfold intN intX; rw [h]; exact ⟨rfl, rfl⟩
theorem int_none {a b : Int} : intN 5 a b = 0 ∧ intX 5 a b = 2 := by unfold intN intX; simp
theorem int_zero {k : Nat} {a : Int} (ha : fits a = true) (h3 : 3 ≤ k) (h4 : k ≤ 4) : intN k a 0 = 0 ∧ intX k a 0 = 20 := by
  unfold intN intX
  have : fits 0 = true := by decide
  rw [ha, this, decide_eq_true h3, decide_eq_true h4]
  exact ⟨rfl, rfl⟩
theorem int_in {k : Nat} {a b r : Int} (ha : fits a = true) (hb : fits b = true) (h4 : k ≤ 4) (h0 : (decide (3 ≤ k) && decide (b = 0)) = false) (hr : opI k a b = r) (hf : fits r = true) : intN k a b = r ∧ intX k a b = 0 := by
  unfold intN intX
  rw [ha, hb, decide_eq_true h4, h0, hr, hf]
  exact ⟨rfl, rfl⟩
theorem int_out {k : Nat} {a b r : Int} (ha : fits a = true) (hb : fits b = true) (h4 : k ≤ 4) (h0 : (decide (3 ≤ k) && decide (b = 0)) = false) (hr : opI k a b = r) (hf : fits r = false) : intN k a b = 0 ∧ intX k a b = 19 := by
  unfold intN intX
  rw [ha, hb, decide_eq_true h4, h0, hr, hf]
  exact ⟨rfl, rfl⟩
theorem mul_bound {a b : Int} (ha : fits a = true) (hb : fits b = true) : -4611686018427387904 ≤ a * b ∧ a * b ≤ 4611686018427387904 := by
  obtain ⟨a1, a2⟩ := fits_yes ha
  obtain ⟨b1, b2⟩ := fits_yes hb
  have h := Int.natAbs_mul a b
  have h2 : a.natAbs * b.natAbs ≤ 2147483648 * 2147483648 := Nat.mul_le_mul (by omega) (by omega)
  omega

set_option maxHeartbeats 2000000 in
theorem int_any (s : ByteArray) (a b : Int) (w : World) :
    Calls Try.prog 51 #[.string s, .int .i64 a, .int .i64 b] w fun e w' => e = .returned (.tuple #[.int .i64 (intN (opC s) a b), .int .i64 (intX (opC s) a b : Nat)]) ∧ Below w.heap.size w w' := by
  by_cases ha : fits a = true
  · have HA := Lib.hid (isInt_at ha)
    by_cases hb : fits b = true
    · have HB := Lib.hid (isInt_at hb)
      obtain ⟨a1, a2⟩ := fits_yes ha
      obtain ⟨b1, b2⟩ := fits_yes hb
      have hm := mul_bound ha hb
      have wa : wrap64 (a + b) = a + b := wrap64_in (by omega) (by omega)
      have ws : wrap64 (a - b) = a - b := wrap64_in (by omega) (by omega)
      have wm : wrap64 (a * b) = a * b := wrap64_in (by omega) (by omega)
      have HIn := Lib.hid (fun k r => int_in (k := k) (r := r) ha hb)
      have HOut := Lib.hid (fun k r => int_out (k := k) (r := r) ha hb)
      rcases opC_cases s with h | h | h | h | h | h
      · obtain ⟨⟨t0, t1, t2, t3, t4⟩, hk⟩ := h
        rw [hk]
        by_cases hf : fits (a + b) = true
        · have HF := Lib.hid (isInt_at hf)
          rw [(HIn.out 0 (a + b) (by omega) rfl rfl hf).1, (HIn.out 0 (a + b) (by omega) rfl rfl hf).2]
          clear hk hf ha hb hm a1 a2 b1 b2 HIn HOut
          go_enter Try.func51, Try.ntmps51
          go_wp2_with fail
          refine (HA.out _).mono ?_
          rintro e w' ⟨rfl, rfl⟩
          go_wp2_with fail
          refine (HB.out _).mono ?_
          rintro e w' ⟨rfl, rfl⟩
          go_wp2_with fail
          refine (HF.out _).mono ?_
          rintro e w' ⟨rfl, rfl⟩
          go_wp2
          go_ret2
          exact ⟨rfl, Below.refl _ _⟩
        · have hf' : fits (a + b) = false := by simpa using hf
          have HF := Lib.hid (isInt_at hf')
          rw [(HOut.out 0 (a + b) (by omega) rfl rfl hf').1, (HOut.out 0 (a + b) (by omega) rfl rfl hf').2]
          clear hk hf hf' ha hb hm a1 a2 b1 b2 HIn HOut
          go_enter Try.func51, Try.ntmps51
          go_wp2_with fail
          refine (HA.out _).mono ?_
          rintro e w' ⟨rfl, rfl⟩
          go_wp2_with fail
          refine (HB.out _).mono ?_
          rintro e w' ⟨rfl, rfl⟩
          go_wp2_with fail
          refine (HF.out _).mono ?_
          rintro e w' ⟨rfl, rfl⟩
          go_wp2
          go_ret2
          exact ⟨rfl, Below.refl _ _⟩
      · obtain ⟨⟨t0, t1, t2, t3, t4⟩, hk⟩ := h
        rw [hk]
        by_cases hf : fits (a - b) = true
        · have HF := Lib.hid (isInt_at hf)
          rw [(HIn.out 1 (a - b) (by omega) rfl rfl hf).1, (HIn.out 1 (a - b) (by omega) rfl rfl hf).2]
          clear hk hf ha hb hm a1 a2 b1 b2 HIn HOut
          go_enter Try.func51, Try.ntmps51
          go_wp2_with fail
          refine (HA.out _).mono ?_
          rintro e w' ⟨rfl, rfl⟩
          go_wp2_with fail
          refine (HB.out _).mono ?_
          rintro e w' ⟨rfl, rfl⟩
          go_wp2_with fail
          refine (HF.out _).mono ?_
          rintro e w' ⟨rfl, rfl⟩
          go_wp2
          go_ret2
          exact ⟨rfl, Below.refl _ _⟩
        · have hf' : fits (a - b) = false := by simpa using hf
          have HF := Lib.hid (isInt_at hf')
          rw [(HOut.out 1 (a - b) (by omega) rfl rfl hf').1, (HOut.out 1 (a - b) (by omega) rfl rfl hf').2]
          clear hk hf hf' ha hb hm a1 a2 b1 b2 HIn HOut
          go_enter Try.func51, Try.ntmps51
          go_wp2_with fail
          refine (HA.out _).mono ?_
          rintro e w' ⟨rfl, rfl⟩
          go_wp2_with fail
          refine (HB.out _).mono ?_
          rintro e w' ⟨rfl, rfl⟩
          go_wp2_with fail
          refine (HF.out _).mono ?_
          rintro e w' ⟨rfl, rfl⟩
          go_wp2
          go_ret2
          exact ⟨rfl, Below.refl _ _⟩
      · obtain ⟨⟨t0, t1, t2, t3, t4⟩, hk⟩ := h
        rw [hk]
        by_cases hf : fits (a * b) = true
        · have HF := Lib.hid (isInt_at hf)
          rw [(HIn.out 2 (a * b) (by omega) rfl rfl hf).1, (HIn.out 2 (a * b) (by omega) rfl rfl hf).2]
          clear hk hf ha hb hm a1 a2 b1 b2 HIn HOut
          go_enter Try.func51, Try.ntmps51
          go_wp2_with fail
          refine (HA.out _).mono ?_
          rintro e w' ⟨rfl, rfl⟩
          go_wp2_with fail
          refine (HB.out _).mono ?_
          rintro e w' ⟨rfl, rfl⟩
          go_wp2_with fail
          refine (HF.out _).mono ?_
          rintro e w' ⟨rfl, rfl⟩
          go_wp2
          go_ret2
          exact ⟨rfl, Below.refl _ _⟩
        · have hf' : fits (a * b) = false := by simpa using hf
          have HF := Lib.hid (isInt_at hf')
          rw [(HOut.out 2 (a * b) (by omega) rfl rfl hf').1, (HOut.out 2 (a * b) (by omega) rfl rfl hf').2]
          clear hk hf hf' ha hb hm a1 a2 b1 b2 HIn HOut
          go_enter Try.func51, Try.ntmps51
          go_wp2_with fail
          refine (HA.out _).mono ?_
          rintro e w' ⟨rfl, rfl⟩
          go_wp2_with fail
          refine (HB.out _).mono ?_
          rintro e w' ⟨rfl, rfl⟩
          go_wp2_with fail
          refine (HF.out _).mono ?_
          rintro e w' ⟨rfl, rfl⟩
          go_wp2
          go_ret2
          exact ⟨rfl, Below.refl _ _⟩
      · obtain ⟨⟨t0, t1, t2, t3, t4⟩, hk⟩ := h
        rw [hk]
        by_cases h0 : b = 0
        · subst h0
          rw [(int_zero (k := 3) ha (by omega) (by omega)).1, (int_zero (k := 3) ha (by omega) (by omega)).2]
          clear hk ha hb hm a1 a2 b1 b2 HIn HOut
          go_enter Try.func51, Try.ntmps51
          go_wp2_with fail
          refine (HA.out _).mono ?_
          rintro e w' ⟨rfl, rfl⟩
          go_wp2_with fail
          refine (HB.out _).mono ?_
          rintro e w' ⟨rfl, rfl⟩
          go_wp2
          go_ret2
          exact ⟨rfl, Below.refl _ _⟩
        · have HD := Lib.hid (fun w => divide_any a b w ha hb h0)
          have hz : (b == 0) = false := by rw [beq_eq_false_iff_ne]; exact h0
          have hd : (decide (3 ≤ 3) && decide (b = 0)) = false := by rw [decide_eq_false h0]; rfl
          by_cases hf : fits (divQ a b) = true
          · have HF := Lib.hid (isInt_at hf)
            rw [(HIn.out 3 (divQ a b) (by omega) hd rfl hf).1, (HIn.out 3 (divQ a b) (by omega) hd rfl hf).2]
            clear hk hf ha hb hm a1 a2 b1 b2 HIn HOut h0 hd
            go_enter Try.func51, Try.ntmps51
            go_wp2_with fail
            refine (HA.out _).mono ?_
            rintro e w' ⟨rfl, rfl⟩
            go_wp2_with fail
            refine (HB.out _).mono ?_
            rintro e w' ⟨rfl, rfl⟩
            go_wp2_with fail
            refine (HD.out _).mono ?_
            rintro e w2 ⟨rfl, hb2⟩
            have HB2 := Lib.hid hb2
            clear hb2
            go_wp2_with fail
            refine (HF.out _).mono ?_
            rintro e w' ⟨rfl, rfl⟩
            go_wp2
            go_ret2
            exact ⟨rfl, HB2.out⟩
          · have hf' : fits (divQ a b) = false := by simpa using hf
            have HF := Lib.hid (isInt_at hf')
            rw [(HOut.out 3 (divQ a b) (by omega) hd rfl hf').1, (HOut.out 3 (divQ a b) (by omega) hd rfl hf').2]
            clear hk hf hf' ha hb hm a1 a2 b1 b2 HIn HOut h0 hd
            go_enter Try.func51, Try.ntmps51
            go_wp2_with fail
            refine (HA.out _).mono ?_
            rintro e w' ⟨rfl, rfl⟩
            go_wp2_with fail
            refine (HB.out _).mono ?_
            rintro e w' ⟨rfl, rfl⟩
            go_wp2_with fail
            refine (HD.out _).mono ?_
            rintro e w2 ⟨rfl, hb2⟩
            have HB2 := Lib.hid hb2
            clear hb2
            go_wp2_with fail
            refine (HF.out _).mono ?_
            rintro e w' ⟨rfl, rfl⟩
            go_wp2
            go_ret2
            exact ⟨rfl, HB2.out⟩
      · obtain ⟨⟨t0, t1, t2, t3, t4⟩, hk⟩ := h
        rw [hk]
        by_cases h0 : b = 0
        · subst h0
          rw [(int_zero (k := 4) ha (by omega) (by omega)).1, (int_zero (k := 4) ha (by omega) (by omega)).2]
          clear hk ha hb hm a1 a2 b1 b2 HIn HOut
          go_enter Try.func51, Try.ntmps51
          go_wp2_with fail
          refine (HA.out _).mono ?_
          rintro e w' ⟨rfl, rfl⟩
          go_wp2_with fail
          refine (HB.out _).mono ?_
          rintro e w' ⟨rfl, rfl⟩
          go_wp2
          go_ret2
          exact ⟨rfl, Below.refl _ _⟩
        · have HD := Lib.hid (fun w => divide_any a b w ha hb h0)
          have hz : (b == 0) = false := by rw [beq_eq_false_iff_ne]; exact h0
          have hd : (decide (3 ≤ 4) && decide (b = 0)) = false := by rw [decide_eq_false h0]; rfl
          by_cases hf : fits (divR a b) = true
          · have HF := Lib.hid (isInt_at hf)
            rw [(HIn.out 4 (divR a b) (by omega) hd rfl hf).1, (HIn.out 4 (divR a b) (by omega) hd rfl hf).2]
            clear hk hf ha hb hm a1 a2 b1 b2 HIn HOut h0 hd
            go_enter Try.func51, Try.ntmps51
            go_wp2_with fail
            refine (HA.out _).mono ?_
            rintro e w' ⟨rfl, rfl⟩
            go_wp2_with fail
            refine (HB.out _).mono ?_
            rintro e w' ⟨rfl, rfl⟩
            go_wp2_with fail
            refine (HD.out _).mono ?_
            rintro e w2 ⟨rfl, hb2⟩
            have HB2 := Lib.hid hb2
            clear hb2
            go_wp2_with fail
            refine (HF.out _).mono ?_
            rintro e w' ⟨rfl, rfl⟩
            go_wp2
            go_ret2
            exact ⟨rfl, HB2.out⟩
          · have hf' : fits (divR a b) = false := by simpa using hf
            have HF := Lib.hid (isInt_at hf')
            rw [(HOut.out 4 (divR a b) (by omega) hd rfl hf').1, (HOut.out 4 (divR a b) (by omega) hd rfl hf').2]
            clear hk hf hf' ha hb hm a1 a2 b1 b2 HIn HOut h0 hd
            go_enter Try.func51, Try.ntmps51
            go_wp2_with fail
            refine (HA.out _).mono ?_
            rintro e w' ⟨rfl, rfl⟩
            go_wp2_with fail
            refine (HB.out _).mono ?_
            rintro e w' ⟨rfl, rfl⟩
            go_wp2_with fail
            refine (HD.out _).mono ?_
            rintro e w2 ⟨rfl, hb2⟩
            have HB2 := Lib.hid hb2
            clear hb2
            go_wp2_with fail
            refine (HF.out _).mono ?_
            rintro e w' ⟨rfl, rfl⟩
            go_wp2
            go_ret2
            exact ⟨rfl, HB2.out⟩
      · obtain ⟨⟨t0, t1, t2, t3, t4⟩, hk⟩ := h
        rw [hk, int_none.1, int_none.2]
        clear hk ha hb hm a1 a2 b1 b2 HIn HOut
        go_enter Try.func51, Try.ntmps51
        go_wp2_with fail
        refine (HA.out _).mono ?_
        rintro e w' ⟨rfl, rfl⟩
        go_wp2_with fail
        refine (HB.out _).mono ?_
        rintro e w' ⟨rfl, rfl⟩
        go_wp2
        go_ret2
        exact ⟨rfl, Below.refl _ _⟩
    · have hb' : fits b = false := by simpa using hb
      have HB := Lib.hid (isInt_at hb')
      rw [(int_bad (k := opC s) (a := a) (b := b) (by rw [ha, hb']; rfl)).1, (int_bad (k := opC s) (a := a) (b := b) (by rw [ha, hb']; rfl)).2]
      clear ha hb hb'
      go_enter Try.func51, Try.ntmps51
      go_wp2_with fail
      refine (HA.out _).mono ?_
      rintro e w' ⟨rfl, rfl⟩
      go_wp2_with fail
      refine (HB.out _).mono ?_
      rintro e w' ⟨rfl, rfl⟩
      go_wp2
      go_ret2
      exact ⟨rfl, Below.refl _ _⟩
  · have ha' : fits a = false := by simpa using ha
    have HA := Lib.hid (isInt_at ha')
    rw [(int_bad (k := opC s) (a := a) (b := b) (by rw [ha']; rfl)).1, (int_bad (k := opC s) (a := a) (b := b) (by rw [ha']; rfl)).2]
    clear ha ha'
    go_enter Try.func51, Try.ntmps51
    go_wp2_with fail
    refine (HA.out _).mono ?_
    rintro e w' ⟨rfl, rfl⟩
    go_wp2
    go_ret2
    exact ⟨rfl, Below.refl _ _⟩

theorem tmod_pos {x b : Int} (_hb : 0 < b) (hx : 0 ≤ x) : x.tmod b = x % b := Int.tmod_eq_emod_of_nonneg hx
theorem twice (a : Int) {b : Int} (h0 : b ≠ 0) : (a.tmod b + b).tmod b = divR a b := by
  obtain ⟨h1, h2⟩ := tmod_bounds a h0
  have hl := div_left a h0
  unfold divR adj at *
  generalize a.tmod b = r at *
  rcases Int.lt_or_lt_of_ne h0 with hb | hb
  · obtain ⟨r1, r2⟩ := h2 hb
    have d1 : decide (b < 0) = true := by simpa using hb
    rw [d1]
    have e1 : (r + b).tmod b = -((-(r + b)).tmod (-b)) := by rw [Int.tmod_neg, Int.neg_tmod, Int.neg_neg]
    rw [e1, tmod_pos (by omega) (by omega)]
    by_cases hr : r < 0
    · have d2 : decide (r < 0) = true := by simpa using hr
      rw [d2]
      simp only [bne_self_eq_false, Bool.and_false, Bool.false_eq_true, if_false]
      rw [show -(r + b) = -r + -b by omega, Int.add_emod_right, Int.emod_eq_of_lt (by omega) (by omega)]
      omega
    · have d2 : decide (r < 0) = false := by simpa using hr
      rw [d2]
      by_cases hr0 : r = 0
      · subst hr0; simp
      · have d3 : (r != 0) = true := by rw [bne_iff_ne]; exact hr0
        rw [d3]
        simp only [Bool.true_and]
        rw [Int.emod_eq_of_lt (by omega) (by omega)]
        simp
  · obtain ⟨r1, r2⟩ := h1 hb
    have d1 : decide (b < 0) = false := by rw [decide_eq_false_iff_not]; omega
    rw [d1, tmod_pos hb (by omega)]
    by_cases hr : r < 0
    · have d2 : decide (r < 0) = true := by simpa using hr
      have d3 : (r != 0) = true := by rw [bne_iff_ne]; omega
      rw [d2, d3, Int.emod_eq_of_lt (by omega) (by omega)]
      simp
    · have d2 : decide (r < 0) = false := by simpa using hr
      rw [d2, Int.add_emod_right, Int.emod_eq_of_lt (by omega) (by omega)]
      simp
theorem divQ_bound {a b : Int} (ha : fits a = true) : -2147483649 ≤ divQ a b ∧ divQ a b ≤ 2147483648 := by
  have := tdiv_bound (b := b) ha
  unfold divQ
  split <;> omega
theorem ref_facts {a b : Int} (ha : fits a = true) (hb : fits b = true) (h0 : b ≠ 0) :
    wrap64 (a.tmod b + b) = a.tmod b + b ∧ (a.tmod b + b).tmod b = divR a b ∧ wrap64 (a - divR a b) = a - divR a b ∧ (a - divR a b).tdiv b = divQ a b ∧ wrap64 (divQ a b) = divQ a b := by
  obtain ⟨a1, a2⟩ := fits_yes ha
  obtain ⟨b1, b2⟩ := fits_yes hb
  obtain ⟨t1, t2⟩ := tmod_bounds a h0
  obtain ⟨l1, l2⟩ := div_left a h0
  obtain ⟨q1, q2⟩ := divQ_bound (b := b) ha
  have hs := div_sum a b
  refine ⟨wrap64_in (by omega) (by omega), twice a h0, wrap64_in (by omega) (by omega), ?_, wrap64_in (by omega) (by omega)⟩
  rw [show a - divR a b = b * divQ a b by omega]
  exact Int.mul_tdiv_cancel_left _ h0

set_option maxHeartbeats 2000000 in
theorem refInt_any (s : ByteArray) (a b : Int) (w : World) :
    Calls Try.prog 52 #[.string s, .int .i64 a, .int .i64 b] w fun e w' => e = .returned (.tuple #[.int .i64 (intN (opC s) a b), .int .i64 (intX (opC s) a b : Nat)]) ∧ Below w.heap.size w w' := by
  by_cases ha : fits a = true
  · have HA := Lib.hid (refFits_at ha)
    by_cases hb : fits b = true
    · have HB := Lib.hid (refFits_at hb)
      obtain ⟨a1, a2⟩ := fits_yes ha
      obtain ⟨b1, b2⟩ := fits_yes hb
      have hm := mul_bound ha hb
      have wa : wrap64 (a + b) = a + b := wrap64_in (by omega) (by omega)
      have ws : wrap64 (a - b) = a - b := wrap64_in (by omega) (by omega)
      have wm : wrap64 (a * b) = a * b := wrap64_in (by omega) (by omega)
      have HIn := Lib.hid (fun k r => int_in (k := k) (r := r) ha hb)
      have HOut := Lib.hid (fun k r => int_out (k := k) (r := r) ha hb)
      rcases opC_cases s with h | h | h | h | h | h
      · obtain ⟨⟨t0, t1, t2, t3, t4⟩, hk⟩ := h
        rw [hk]
        by_cases hf : fits (a + b) = true
        · have HF := Lib.hid (refFits_at hf)
          rw [(HIn.out 0 (a + b) (by omega) rfl rfl hf).1, (HIn.out 0 (a + b) (by omega) rfl rfl hf).2]
          clear hk hf ha hb hm a1 a2 b1 b2 HIn HOut
          go_enter Try.func52, Try.ntmps52
          go_wp2_with fail
          refine (HA.out _).mono ?_
          rintro e w' ⟨rfl, rfl⟩
          go_wp2_with fail
          refine (HB.out _).mono ?_
          rintro e w' ⟨rfl, rfl⟩
          go_wp2_with fail
          refine (HF.out _).mono ?_
          rintro e w' ⟨rfl, rfl⟩
          go_wp2
          go_ret2
          exact ⟨rfl, Below.refl _ _⟩
        · have hf' : fits (a + b) = false := by simpa using hf
          have HF := Lib.hid (refFits_at hf')
          rw [(HOut.out 0 (a + b) (by omega) rfl rfl hf').1, (HOut.out 0 (a + b) (by omega) rfl rfl hf').2]
          clear hk hf hf' ha hb hm a1 a2 b1 b2 HIn HOut
          go_enter Try.func52, Try.ntmps52
          go_wp2_with fail
          refine (HA.out _).mono ?_
          rintro e w' ⟨rfl, rfl⟩
          go_wp2_with fail
          refine (HB.out _).mono ?_
          rintro e w' ⟨rfl, rfl⟩
          go_wp2_with fail
          refine (HF.out _).mono ?_
          rintro e w' ⟨rfl, rfl⟩
          go_wp2
          go_ret2
          exact ⟨rfl, Below.refl _ _⟩
      · obtain ⟨⟨t0, t1, t2, t3, t4⟩, hk⟩ := h
        rw [hk]
        by_cases hf : fits (a - b) = true
        · have HF := Lib.hid (refFits_at hf)
          rw [(HIn.out 1 (a - b) (by omega) rfl rfl hf).1, (HIn.out 1 (a - b) (by omega) rfl rfl hf).2]
          clear hk hf ha hb hm a1 a2 b1 b2 HIn HOut
          go_enter Try.func52, Try.ntmps52
          go_wp2_with fail
          refine (HA.out _).mono ?_
          rintro e w' ⟨rfl, rfl⟩
          go_wp2_with fail
          refine (HB.out _).mono ?_
          rintro e w' ⟨rfl, rfl⟩
          go_wp2_with fail
          refine (HF.out _).mono ?_
          rintro e w' ⟨rfl, rfl⟩
          go_wp2
          go_ret2
          exact ⟨rfl, Below.refl _ _⟩
        · have hf' : fits (a - b) = false := by simpa using hf
          have HF := Lib.hid (refFits_at hf')
          rw [(HOut.out 1 (a - b) (by omega) rfl rfl hf').1, (HOut.out 1 (a - b) (by omega) rfl rfl hf').2]
          clear hk hf hf' ha hb hm a1 a2 b1 b2 HIn HOut
          go_enter Try.func52, Try.ntmps52
          go_wp2_with fail
          refine (HA.out _).mono ?_
          rintro e w' ⟨rfl, rfl⟩
          go_wp2_with fail
          refine (HB.out _).mono ?_
          rintro e w' ⟨rfl, rfl⟩
          go_wp2_with fail
          refine (HF.out _).mono ?_
          rintro e w' ⟨rfl, rfl⟩
          go_wp2
          go_ret2
          exact ⟨rfl, Below.refl _ _⟩
      · obtain ⟨⟨t0, t1, t2, t3, t4⟩, hk⟩ := h
        rw [hk]
        by_cases hf : fits (a * b) = true
        · have HF := Lib.hid (refFits_at hf)
          rw [(HIn.out 2 (a * b) (by omega) rfl rfl hf).1, (HIn.out 2 (a * b) (by omega) rfl rfl hf).2]
          clear hk hf ha hb hm a1 a2 b1 b2 HIn HOut
          go_enter Try.func52, Try.ntmps52
          go_wp2_with fail
          refine (HA.out _).mono ?_
          rintro e w' ⟨rfl, rfl⟩
          go_wp2_with fail
          refine (HB.out _).mono ?_
          rintro e w' ⟨rfl, rfl⟩
          go_wp2_with fail
          refine (HF.out _).mono ?_
          rintro e w' ⟨rfl, rfl⟩
          go_wp2
          go_ret2
          exact ⟨rfl, Below.refl _ _⟩
        · have hf' : fits (a * b) = false := by simpa using hf
          have HF := Lib.hid (refFits_at hf')
          rw [(HOut.out 2 (a * b) (by omega) rfl rfl hf').1, (HOut.out 2 (a * b) (by omega) rfl rfl hf').2]
          clear hk hf hf' ha hb hm a1 a2 b1 b2 HIn HOut
          go_enter Try.func52, Try.ntmps52
          go_wp2_with fail
          refine (HA.out _).mono ?_
          rintro e w' ⟨rfl, rfl⟩
          go_wp2_with fail
          refine (HB.out _).mono ?_
          rintro e w' ⟨rfl, rfl⟩
          go_wp2_with fail
          refine (HF.out _).mono ?_
          rintro e w' ⟨rfl, rfl⟩
          go_wp2
          go_ret2
          exact ⟨rfl, Below.refl _ _⟩
      · obtain ⟨⟨t0, t1, t2, t3, t4⟩, hk⟩ := h
        rw [hk]
        by_cases h0 : b = 0
        · subst h0
          rw [(int_zero (k := 3) ha (by omega) (by omega)).1, (int_zero (k := 3) ha (by omega) (by omega)).2]
          clear hk ha hb hm a1 a2 b1 b2 HIn HOut
          go_enter Try.func52, Try.ntmps52
          go_wp2_with fail
          refine (HA.out _).mono ?_
          rintro e w' ⟨rfl, rfl⟩
          go_wp2_with fail
          refine (HB.out _).mono ?_
          rintro e w' ⟨rfl, rfl⟩
          go_wp2
          go_ret2
          exact ⟨rfl, Below.refl _ _⟩
        · have hz : (b == 0) = false := by rw [beq_eq_false_iff_ne]; exact h0
          have hd : (decide (3 ≤ 3) && decide (b = 0)) = false := by rw [decide_eq_false h0]; rfl
          obtain ⟨f1, f2, f3, f4, f5⟩ := ref_facts ha hb h0
          by_cases hf : fits (divQ a b) = true
          · have HF := Lib.hid (refFits_at hf)
            rw [(HIn.out 3 (divQ a b) (by omega) hd rfl hf).1, (HIn.out 3 (divQ a b) (by omega) hd rfl hf).2]
            clear hk hf ha hb hm a1 a2 b1 b2 HIn HOut hd wa ws wm
            go_enter Try.func52, Try.ntmps52
            go_wp2_with fail
            refine (HA.out _).mono ?_
            rintro e w' ⟨rfl, rfl⟩
            go_wp2_with fail
            refine (HB.out _).mono ?_
            rintro e w' ⟨rfl, rfl⟩
            go_wp2_with fail
            refine (HF.out _).mono ?_
            rintro e w' ⟨rfl, rfl⟩
            go_wp2
            go_ret2
            exact ⟨rfl, Below.refl _ _⟩
          · have hf' : fits (divQ a b) = false := by simpa using hf
            have HF := Lib.hid (refFits_at hf')
            rw [(HOut.out 3 (divQ a b) (by omega) hd rfl hf').1, (HOut.out 3 (divQ a b) (by omega) hd rfl hf').2]
            clear hk hf hf' ha hb hm a1 a2 b1 b2 HIn HOut hd wa ws wm
            go_enter Try.func52, Try.ntmps52
            go_wp2_with fail
            refine (HA.out _).mono ?_
            rintro e w' ⟨rfl, rfl⟩
            go_wp2_with fail
            refine (HB.out _).mono ?_
            rintro e w' ⟨rfl, rfl⟩
            go_wp2_with fail
            refine (HF.out _).mono ?_
            rintro e w' ⟨rfl, rfl⟩
            go_wp2
            go_ret2
            exact ⟨rfl, Below.refl _ _⟩
      · obtain ⟨⟨t0, t1, t2, t3, t4⟩, hk⟩ := h
        rw [hk]
        by_cases h0 : b = 0
        · subst h0
          rw [(int_zero (k := 4) ha (by omega) (by omega)).1, (int_zero (k := 4) ha (by omega) (by omega)).2]
          clear hk ha hb hm a1 a2 b1 b2 HIn HOut
          go_enter Try.func52, Try.ntmps52
          go_wp2_with fail
          refine (HA.out _).mono ?_
          rintro e w' ⟨rfl, rfl⟩
          go_wp2_with fail
          refine (HB.out _).mono ?_
          rintro e w' ⟨rfl, rfl⟩
          go_wp2
          go_ret2
          exact ⟨rfl, Below.refl _ _⟩
        · have hz : (b == 0) = false := by rw [beq_eq_false_iff_ne]; exact h0
          have hd : (decide (3 ≤ 4) && decide (b = 0)) = false := by rw [decide_eq_false h0]; rfl
          obtain ⟨f1, f2, f3, f4, f5⟩ := ref_facts ha hb h0
          by_cases hf : fits (divR a b) = true
          · have HF := Lib.hid (refFits_at hf)
            rw [(HIn.out 4 (divR a b) (by omega) hd rfl hf).1, (HIn.out 4 (divR a b) (by omega) hd rfl hf).2]
            clear hk hf ha hb hm a1 a2 b1 b2 HIn HOut hd wa ws wm
            go_enter Try.func52, Try.ntmps52
            go_wp2_with fail
            refine (HA.out _).mono ?_
            rintro e w' ⟨rfl, rfl⟩
            go_wp2_with fail
            refine (HB.out _).mono ?_
            rintro e w' ⟨rfl, rfl⟩
            go_wp2_with fail
            refine (HF.out _).mono ?_
            rintro e w' ⟨rfl, rfl⟩
            go_wp2
            go_ret2
            exact ⟨rfl, Below.refl _ _⟩
          · have hf' : fits (divR a b) = false := by simpa using hf
            have HF := Lib.hid (refFits_at hf')
            rw [(HOut.out 4 (divR a b) (by omega) hd rfl hf').1, (HOut.out 4 (divR a b) (by omega) hd rfl hf').2]
            clear hk hf hf' ha hb hm a1 a2 b1 b2 HIn HOut hd wa ws wm
            go_enter Try.func52, Try.ntmps52
            go_wp2_with fail
            refine (HA.out _).mono ?_
            rintro e w' ⟨rfl, rfl⟩
            go_wp2_with fail
            refine (HB.out _).mono ?_
            rintro e w' ⟨rfl, rfl⟩
            go_wp2_with fail
            refine (HF.out _).mono ?_
            rintro e w' ⟨rfl, rfl⟩
            go_wp2
            go_ret2
            exact ⟨rfl, Below.refl _ _⟩
      · obtain ⟨⟨t0, t1, t2, t3, t4⟩, hk⟩ := h
        rw [hk, int_none.1, int_none.2]
        clear hk ha hb hm a1 a2 b1 b2 HIn HOut
        go_enter Try.func52, Try.ntmps52
        go_wp2_with fail
        refine (HA.out _).mono ?_
        rintro e w' ⟨rfl, rfl⟩
        go_wp2_with fail
        refine (HB.out _).mono ?_
        rintro e w' ⟨rfl, rfl⟩
        go_wp2
        go_ret2
        exact ⟨rfl, Below.refl _ _⟩
    · have hb' : fits b = false := by simpa using hb
      have HB := Lib.hid (refFits_at hb')
      rw [(int_bad (k := opC s) (a := a) (b := b) (by rw [ha, hb']; rfl)).1, (int_bad (k := opC s) (a := a) (b := b) (by rw [ha, hb']; rfl)).2]
      clear ha hb hb'
      go_enter Try.func52, Try.ntmps52
      go_wp2_with fail
      refine (HA.out _).mono ?_
      rintro e w' ⟨rfl, rfl⟩
      go_wp2_with fail
      refine (HB.out _).mono ?_
      rintro e w' ⟨rfl, rfl⟩
      go_wp2
      go_ret2
      exact ⟨rfl, Below.refl _ _⟩
  · have ha' : fits a = false := by simpa using ha
    have HA := Lib.hid (refFits_at ha')
    rw [(int_bad (k := opC s) (a := a) (b := b) (by rw [ha']; rfl)).1, (int_bad (k := opC s) (a := a) (b := b) (by rw [ha']; rfl)).2]
    clear ha ha'
    go_enter Try.func52, Try.ntmps52
    go_wp2_with fail
    refine (HA.out _).mono ?_
    rintro e w' ⟨rfl, rfl⟩
    go_wp2
    go_ret2
    exact ⟨rfl, Below.refl _ _⟩
end Go.Proofs.Ytkapephlfbabjaa
