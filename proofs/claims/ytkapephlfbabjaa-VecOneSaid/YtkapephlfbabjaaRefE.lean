/- The contracts of the reference's before, Less, Signed and Equal. -/
import Derived.Test.YtkapephlfbabjaaRefD
namespace Go.Proofs.Ytkapephlfbabjaa
open Go.RowKit

theorem num_parts {zs : List Nat} {p : Nat} (h : p < zs.length) : num zs = num (zs.take p) + 2 ^ p * ((if zs[p] = 1 then 1 else 0) + 2 * num (zs.drop (p + 1))) := by
  have e : zs = zs.take p ++ zs.drop p := (List.take_append_drop p zs).symm
  have h1 : num zs = num (zs.take p) + 2 ^ (zs.take p).length * num (zs.drop p) := by
    rw [← num_append, ← e]
  rw [h1, List.length_take, Nat.min_eq_left (by omega), List.drop_eq_getElem_cons h, num]
theorem before_at {a b : List Nat} {p : Nat} (ha : p < a.length) (hb : p < b.length) (hd : a.drop (p + 1) = b.drop (p + 1)) (x : a[p] = 0) (y : b[p] = 1) : num a < num b ∧ ¬ num b < num a := by
  have h1 := num_parts ha
  have h2 := num_parts hb
  have l1 := num_take_lt a p
  have l2 := num_take_lt b p
  rw [x, hd] at h1
  rw [y] at h2
  simp only [Nat.zero_ne_one, if_false, Nat.zero_add] at h1
  simp only [if_true] at h2
  rw [Nat.mul_add, Nat.mul_one] at h2
  omega
theorem drop_step {a b : List Nat} {p : Nat} (ha : p < a.length) (hb : p < b.length) (hd : a.drop (p + 1) = b.drop (p + 1)) (x : a[p] = b[p]) : a.drop p = b.drop p := by
  rw [List.drop_eq_getElem_cons ha, List.drop_eq_getElem_cons hb, hd, x]

set_option maxHeartbeats 2000000 in
theorem before_any (u v : Value) (a b : List Nat) (w : World) (hu : Sl w u a) (hv : Sl w v b) (hl : a.length = b.length) (ka : knB a = true) (kb : knB b = true) :
    Calls Try.prog 74 #[u, v] w fun e w' => e = .returned (.bool (decide (num a < num b))) ∧ Below w.heap.size w w' := by
  obtain ⟨A, c, rfl, hn, hz, hq, hc⟩ := hu
  obtain ⟨A', c', rfl, hn', hz', hq', hc'⟩ := hv
  have HL := Lib.hid hl
  have KA := Lib.hid ka
  have KB := Lib.hid kb
  clear hz hz' hq hq' ka kb hl
  go_enter Try.func74, Try.ntmps74
  go_wp2_with fail
  go_loopw [5] (fun i wr => ∃ m : Nat, m ≤ a.length ∧ i = .int .i64 ((m : Int) - 1) ∧ Hid (a.drop m = b.drop m) ∧ Below w.heap.size w wr) (fun i _ => (intOf i + 1).toNat)
  case atStart => exact ⟨a.length, Nat.le_refl _, rfl, by rw [List.drop_length, HL.out, List.drop_length]; exact rfl, Below.refl _ _⟩
  case round =>
    obtain ⟨m, hm, rfl, hr, hb⟩ := hrel
    have Hb := Lib.hid hb
    clear hb
    rcases m with _ | p
    · have HR : Hid (decide (num a < num b) = false) := by
        have := hr.out
        rw [List.drop_zero, List.drop_zero] at this
        rw [this]
        show decide (num b < num b) = false
        simp
      clear hc hc'
      go_wp2
      go_ret
      exact ⟨ret_bool HR.out.symm, Hb.out⟩
    · have e1 : (((p + 1 : Nat) : Int) - 1) = (p : Int) := by omega
      rw [e1]
      clear e1
      have hlt : p < a.length := by omega
      have hlt' : p < b.length := by have := HL.out; omega
      rcases hc with rfl | ⟨g, off, rfl, hc⟩
      · exact absurd hlt (by simp)
      rcases hc' with rfl | ⟨g', off', rfl, hc'⟩
      · exact absurd hlt' (by simp)
      have q1 := (Hb.out.cell (block_lt_of_cell (hc p hlt))).trans (hc p hlt)
      have q2 := (Hb.out.cell (block_lt_of_cell (hc' p hlt'))).trans (hc' p hlt')
      have za := knB_at KA.out hlt
      have zb := knB_at KB.out hlt'
      clear hc hc'
      by_cases hx : a[p] = b[p]
      · have HR := Lib.hid (drop_step hlt hlt' hr.out hx)
        rw [← hx] at q2
        clear hx za zb
        generalize a[p] = x at q1 q2
        go_wp2
        go_quiet (fail)
        go_wp2
        go_roundw
        case rel => exact ⟨p, by omega, by go_num, HR, below_drewN Hb.out _⟩
        case measure => simp [intOf]
      · obtain ⟨xa, xb⟩ | ⟨xa, xb⟩ : (a[p] = 0 ∧ b[p] = 1) ∨ (a[p] = 1 ∧ b[p] = 0) := by omega
        · have HR : Hid (decide (num a < num b) = true) := decide_eq_true (before_at hlt hlt' hr.out xa xb).1
          rw [xa] at q1
          rw [xb] at q2
          have q1' : Hid (∀ n, (wr.drewN n).cell? ⟨g, off + p, none⟩ = some (.int .u8 ((0 : Nat) : Int))) := fun n => q1
          clear hx za zb xa xb
          go_wp2
          go_quiet (fail)
          go_wp2
          go_ret
          exact ⟨ret_bool HR.out.symm, below_drewN Hb.out _⟩
        · have HR : Hid (decide (num a < num b) = false) := decide_eq_false (before_at hlt' hlt hr.out.symm xb xa).2
          rw [xa] at q1
          rw [xb] at q2
          clear hx za zb xa xb
          go_wp2
          go_quiet (fail)
          go_wp2
          go_ret
          exact ⟨ret_bool HR.out.symm, below_drewN Hb.out _⟩

set_option maxHeartbeats 2000000 in
theorem refLess_any (u v : Value) (a b : List Nat) (w : World) (hu : Sl w u a) (hv : Sl w v b) :
    Calls Try.prog 36 #[u, v] w fun e w' => e = .returned (.tuple #[.bool (cmpV (decide (num a < num b)) a b), .int .i64 (calE a b : Nat)]) ∧ Below w.heap.size w w' := by
  have hP := pair_any u v a b w hu hv
  have hA := refKn_any u a w hu
  have hB := refKn_any v b w hv
  have HU := Lib.hid hu
  have HV := Lib.hid hv
  by_cases ht : two a b = true
  · obtain ⟨va, vb, hl⟩ := two_yes ht
    have h1 := (isV_bits va).2.1
    obtain ⟨g, off, c, rfl, ⟨hn, hq⟩, hz, hc⟩ := hu.cells h1
    obtain ⟨g', off', c', rfl, ⟨hn', hq'⟩, hz', hc'⟩ := hv.cells (by omega)
    rw [ht] at hP
    have HP := Lib.hid hP
    by_cases ka : knB a = true
    · rw [show knV a = true by unfold knV; rw [va, ka]; rfl] at hA
      have HA := Lib.hid hA
      by_cases kb : knB b = true
      · have hb : both a b = true := by unfold both; rw [ka, kb]; rfl
        rw [show knV b = true by unfold knV; rw [vb, kb]; rfl] at hB
        have HB := Lib.hid hB
        rw [(cmp_yes (decide (num a < num b)) ht hb).1, (cmp_yes (decide (num a < num b)) ht hb).2]
        have HBe := Lib.hid (fun w1 (h : Below w.heap.size w w1) => before_any _ _ a b w1 (HU.out.later h) (HV.out.later h) hl ka kb)
        clear hP hA hB ht va vb ka kb hb hl hz hz' hc hc' hu hv h1 hq hq'
        go_enter Try.func36, Try.ntmps36
        go_wp2_with fail
        refine (HP.out).mono ?_
        rintro e w' ⟨rfl, rfl⟩
        go_wp2_with fail
        refine (HA.out).mono ?_
        rintro e w' ⟨rfl, rfl⟩
        go_wp2_with fail
        refine (HB.out).mono ?_
        rintro e w' ⟨rfl, rfl⟩
        go_wp2_with fail
        refine (HBe.out _ (Below.refl _ _)).mono ?_
        rintro e w2 ⟨rfl, hb⟩
        have HB2 := Lib.hid hb
        clear hb
        go_wp2
        go_ret2
        exact ⟨rfl, HB2.out⟩
      · have kb' : knB b = false := by simpa using kb
        have hb : both a b = false := by unfold both; rw [ka, kb']; rfl
        rw [show knV b = false by unfold knV; rw [vb, kb']; rfl] at hB
        have HB := Lib.hid hB
        rw [(cmp_unk (decide (num a < num b)) ht hb).1, (cmp_unk (decide (num a < num b)) ht hb).2]
        clear hP hA hB ht va vb ka kb kb' hb hl hz hz' hc hc' hu hv h1 hq hq'
        go_enter Try.func36, Try.ntmps36
        go_wp2_with fail
        refine (HP.out).mono ?_
        rintro e w' ⟨rfl, rfl⟩
        go_wp2_with fail
        refine (HA.out).mono ?_
        rintro e w' ⟨rfl, rfl⟩
        go_wp2_with fail
        refine (HB.out).mono ?_
        rintro e w' ⟨rfl, rfl⟩
        go_wp2
        go_ret2
        exact ⟨rfl, Below.refl _ _⟩
    · have ka' : knB a = false := by simpa using ka
      have hb : both a b = false := by unfold both; rw [ka']; rfl
      rw [show knV a = false by unfold knV; rw [va, ka']; rfl] at hA
      have HA := Lib.hid hA
      rw [(cmp_unk (decide (num a < num b)) ht hb).1, (cmp_unk (decide (num a < num b)) ht hb).2]
      clear hP hA hB ht va vb ka ka' hb hl hz hz' hc hc' hu hv h1 hq hq'
      go_enter Try.func36, Try.ntmps36
      go_wp2_with fail
      refine (HP.out).mono ?_
      rintro e w' ⟨rfl, rfl⟩
      go_wp2_with fail
      refine (HA.out).mono ?_
      rintro e w' ⟨rfl, rfl⟩
      go_wp2
      go_ret2
      exact ⟨rfl, Below.refl _ _⟩
  · have ht' : two a b = false := by simpa using ht
    rw [ht'] at hP
    have HP := Lib.hid hP
    rw [(cmp_no (decide (num a < num b)) ht').1, (cmp_no (decide (num a < num b)) ht').2]
    obtain ⟨A, c, rfl, hn, _⟩ := hu
    obtain ⟨A', c', rfl, hn', _⟩ := hv
    clear hP hA hB ht ht'
    go_enter Try.func36, Try.ntmps36
    go_wp2_with fail
    refine (HP.out).mono ?_
    rintro e w' ⟨rfl, rfl⟩
    go_wp2
    go_ret2
    exact ⟨rfl, Below.refl _ _⟩

theorem num_top {zs : List Nat} (h : 1 ≤ zs.length) : num zs = num (zs.take (zs.length - 1)) + 2 ^ (zs.length - 1) * (if zs[zs.length - 1]'(by omega) = 1 then 1 else 0) := by
  rw [num_parts (show zs.length - 1 < zs.length by omega), List.drop_eq_nil_of_le (by omega)]
  simp [num]
theorem sgnI_low {n x : Nat} (h1 : 1 ≤ n) (h64 : n ≤ 64) (hx : x < 2 ^ (n - 1)) : sgnI n x = ((x * 2 ^ (64 - n) : Nat) : Int) := by
  have h2 : x * 2 ^ (64 - n) < 2 ^ (n - 1) * 2 ^ (64 - n) := Nat.mul_lt_mul_of_pos_right hx (Nat.two_pow_pos _)
  rw [← Nat.pow_add, show n - 1 + (64 - n) = 63 by omega] at h2
  unfold sgnI
  rw [cast_pow, ← Int.natCast_mul, wrap_nat (by omega)]
  exact wrap64_in (by omega) (by omega)
theorem sgnI_high {n x : Nat} (h1 : 1 ≤ n) (h64 : n ≤ 64) (hx : x < 2 ^ (n - 1)) : sgnI n (x + 2 ^ (n - 1)) = ((x * 2 ^ (64 - n) : Nat) : Int) - 9223372036854775808 := by
  have h2 : x * 2 ^ (64 - n) < 2 ^ (n - 1) * 2 ^ (64 - n) := Nat.mul_lt_mul_of_pos_right hx (Nat.two_pow_pos _)
  have h3 : 2 ^ (n - 1) * 2 ^ (64 - n) = 9223372036854775808 := by rw [← Nat.pow_add, show n - 1 + (64 - n) = 63 by omega]
  rw [h3] at h2
  unfold sgnI
  rw [cast_pow, ← Int.natCast_mul, Nat.add_mul, h3, wrap_nat (by omega)]
  unfold wrap64
  omega
theorem sgn_same {n x y : Nat} (h1 : 1 ≤ n) (h64 : n ≤ 64) (hx : x < 2 ^ (n - 1)) (hy : y < 2 ^ (n - 1)) (t : Nat) (ht : t = 0 ∨ t = 2 ^ (n - 1)) : decide (sgnI n (x + t) < sgnI n (y + t)) = decide (x + t < y + t) := by
  have hp : 0 < 2 ^ (64 - n) := Nat.two_pow_pos _
  have e : ((x * 2 ^ (64 - n) : Nat) : Int) < ((y * 2 ^ (64 - n) : Nat) : Int) ↔ x < y := by
    rw [Int.ofNat_lt]
    exact Nat.mul_lt_mul_right hp
  rcases ht with rfl | rfl
  · rw [Nat.add_zero, Nat.add_zero, sgnI_low h1 h64 hx, sgnI_low h1 h64 hy]
    exact decide_eq_decide.2 e
  · rw [sgnI_high h1 h64 hx, sgnI_high h1 h64 hy]
    apply decide_eq_decide.2
    omega
theorem low_high {p q : Nat} (h : q < 9223372036854775808) : decide ((p : Int) < (q : Int) - 9223372036854775808) = false := decide_eq_false (by omega)
theorem high_low {p q : Nat} (h : p < 9223372036854775808) : decide ((p : Int) - 9223372036854775808 < (q : Int)) = true := decide_eq_true (by omega)
/-- Two known vectors, by their highest bits. -/
theorem sgn_tops {a b : List Nat} (hl : a.length = b.length) (h1 : 1 ≤ a.length) (h64 : a.length ≤ 64) (za : a[a.length - 1]'(by omega) ≤ 1) (zb : b[a.length - 1]'(by omega) ≤ 1) :
    decide (sgnI a.length (num a) < sgnI a.length (num b)) = if a[a.length - 1]'(by omega) = b[a.length - 1]'(by omega) then decide (num a < num b) else decide (a[a.length - 1]'(by omega) = 1) := by
  have ha := num_top h1
  have hb := num_top (zs := b) (by omega)
  have la := num_take_lt a (a.length - 1)
  have lb := num_take_lt b (a.length - 1)
  simp only [← hl] at hb
  generalize num (a.take (a.length - 1)) = x at ha la
  generalize num (b.take (a.length - 1)) = y at hb lb
  generalize a[a.length - 1]'(by omega) = s at *
  generalize b[a.length - 1]'(by omega) = t at *
  clear hl
  rw [ha, hb]
  have hs := sgn_same h1 h64 la lb
  have xl := sgnI_low h1 h64 la
  have yl := sgnI_low h1 h64 lb
  have xh := sgnI_high h1 h64 la
  have yh := sgnI_high h1 h64 lb
  have k1 : x * 2 ^ (64 - a.length) < 9223372036854775808 := by
    have h2 : x * 2 ^ (64 - a.length) < 2 ^ (a.length - 1) * 2 ^ (64 - a.length) := Nat.mul_lt_mul_of_pos_right la (Nat.two_pow_pos _)
    rwa [← Nat.pow_add, show a.length - 1 + (64 - a.length) = 63 by omega] at h2
  have k2 : y * 2 ^ (64 - a.length) < 9223372036854775808 := by
    have h2 : y * 2 ^ (64 - a.length) < 2 ^ (a.length - 1) * 2 ^ (64 - a.length) := Nat.mul_lt_mul_of_pos_right lb (Nat.two_pow_pos _)
    rwa [← Nat.pow_add, show a.length - 1 + (64 - a.length) = 63 by omega] at h2
  obtain rfl | rfl : s = 0 ∨ s = 1 := by omega
  · obtain rfl | rfl : t = 0 ∨ t = 1 := by omega
    · have h0 := hs 0 (.inl rfl)
      rw [Nat.add_zero, Nat.add_zero] at h0
      simp only [Nat.zero_ne_one, if_false, Nat.mul_zero, if_true, Nat.add_zero]
      rw [h0]
    · simp only [Nat.zero_ne_one, if_false, Nat.mul_zero, if_true, Nat.mul_one, Nat.add_zero]
      rw [xl, yh, low_high k2]
      rfl
  · obtain rfl | rfl : t = 0 ∨ t = 1 := by omega
    · simp only [Nat.zero_ne_one, if_false, Nat.mul_zero, if_true, Nat.mul_one, Nat.add_zero, Nat.one_ne_zero]
      rw [xh, yl, high_low k1]
      rfl
    · have h0 := hs _ (.inr rfl)
      simp only [if_true, Nat.mul_one]
      rw [h0]

set_option maxHeartbeats 2000000 in
theorem refSigned_any (u v : Value) (a b : List Nat) (w : World) (hu : Sl w u a) (hv : Sl w v b) :
    Calls Try.prog 38 #[u, v] w fun e w' => e = .returned (.tuple #[.bool (cmpV (decide (sgnI a.length (num a) < sgnI a.length (num b))) a b), .int .i64 (calE a b : Nat)]) ∧ Below w.heap.size w w' := by
  have hP := pair_any u v a b w hu hv
  have hA := refKn_any u a w hu
  have hB := refKn_any v b w hv
  have HU := Lib.hid hu
  have HV := Lib.hid hv
  by_cases ht : two a b = true
  · obtain ⟨va, vb, hl⟩ := two_yes ht
    have h1 := (isV_bits va).2.1
    obtain ⟨g, off, c, rfl, ⟨hn, hq⟩, hz, hc⟩ := hu.cells h1
    obtain ⟨g', off', c', rfl, ⟨hn', hq'⟩, hz', hc'⟩ := hv.cells (by omega)
    rw [ht] at hP
    have HP := Lib.hid hP
    by_cases ka : knB a = true
    · rw [show knV a = true by unfold knV; rw [va, ka]; rfl] at hA
      have HA := Lib.hid hA
      by_cases kb : knB b = true
      · have hb : both a b = true := by unfold both; rw [ka, kb]; rfl
        rw [show knV b = true by unfold knV; rw [vb, kb]; rfl] at hB
        have HB := Lib.hid hB
        rw [(cmp_yes (decide (sgnI a.length (num a) < sgnI a.length (num b))) ht hb).1, (cmp_yes (decide (sgnI a.length (num a) < sgnI a.length (num b))) ht hb).2]
        have HBe := Lib.hid (fun w1 (h : Below w.heap.size w w1) => before_any _ _ a b w1 (HU.out.later h) (HV.out.later h) hl ka kb)
        have q1 := hc (a.length - 1) (by omega)
        have q2 := hc' (a.length - 1) (by omega)
        have za := knB_at ka (show a.length - 1 < a.length by omega)
        have zb := knB_at kb (show a.length - 1 < b.length by omega)
        rw [sgn_tops hl h1 (isV_bits va).2.2 za zb]
        have hlI : a.length - 1 < b.length := by omega
        by_cases hx : a[a.length - 1]'(by omega) = b[a.length - 1]'(by omega)
        · rw [if_pos hx]
          rw [← hx] at q2
          generalize a[a.length - 1]'(by omega) = x at q1 q2
          clear hP hA hB ht va vb ka kb hb hz hz' hc hc' hu hv hq hq' za zb hx hl
          go_enter Try.func38, Try.ntmps38
          go_wp2_with fail
          refine (HP.out).mono ?_
          rintro e w' ⟨rfl, rfl⟩
          go_wp2_with fail
          refine (HA.out).mono ?_
          rintro e w' ⟨rfl, rfl⟩
          go_wp2_with fail
          refine (HB.out).mono ?_
          rintro e w' ⟨rfl, rfl⟩
          go_wp2
          go_quiet (fail)
          go_wp2_with fail
          refine (HBe.out _ (below_drewN (Below.refl _ _) _)).mono ?_
          rintro e w2 ⟨rfl, hb⟩
          have HB2 := Lib.hid ((below_drewN (Below.refl _ _) _).trans hb)
          clear hb
          go_wp2
          go_ret2
          exact ⟨rfl, HB2.out⟩
        · rw [if_neg hx]
          obtain ⟨xa, xb⟩ | ⟨xa, xb⟩ : (a[a.length - 1]'(by omega) = 0 ∧ b[a.length - 1]'(by omega) = 1) ∨ (a[a.length - 1]'(by omega) = 1 ∧ b[a.length - 1]'(by omega) = 0) := by omega
          · rw [xa]
            rw [xa] at q1
            rw [xb] at q2
            clear hP hA hB ht va vb ka kb hb hz hz' hc hc' hu hv hq hq' za zb hx xa xb hl
            go_enter Try.func38, Try.ntmps38
            go_wp2_with fail
            refine (HP.out).mono ?_
            rintro e w' ⟨rfl, rfl⟩
            go_wp2_with fail
            refine (HA.out).mono ?_
            rintro e w' ⟨rfl, rfl⟩
            go_wp2_with fail
            refine (HB.out).mono ?_
            rintro e w' ⟨rfl, rfl⟩
            go_wp2
            go_quiet (fail)
            go_wp2
            go_ret2
            exact ⟨ret_bi (by simp) rfl, below_drewN (Below.refl _ _) _⟩
          · rw [xa]
            rw [xa] at q1
            rw [xb] at q2
            clear hP hA hB ht va vb ka kb hb hz hz' hc hc' hu hv hq hq' za zb hx xa xb hl
            go_enter Try.func38, Try.ntmps38
            go_wp2_with fail
            refine (HP.out).mono ?_
            rintro e w' ⟨rfl, rfl⟩
            go_wp2_with fail
            refine (HA.out).mono ?_
            rintro e w' ⟨rfl, rfl⟩
            go_wp2_with fail
            refine (HB.out).mono ?_
            rintro e w' ⟨rfl, rfl⟩
            go_wp2
            go_quiet (fail)
            go_wp2
            go_ret2
            exact ⟨ret_bi (by simp) rfl, below_drewN (Below.refl _ _) _⟩
      · have kb' : knB b = false := by simpa using kb
        have hb : both a b = false := by unfold both; rw [ka, kb']; rfl
        rw [show knV b = false by unfold knV; rw [vb, kb']; rfl] at hB
        have HB := Lib.hid hB
        rw [(cmp_unk (decide (sgnI a.length (num a) < sgnI a.length (num b))) ht hb).1, (cmp_unk (decide (sgnI a.length (num a) < sgnI a.length (num b))) ht hb).2]
        clear hP hA hB ht va vb ka kb kb' hb hl hz hz' hc hc' hu hv h1 hq hq'
        go_enter Try.func38, Try.ntmps38
        go_wp2_with fail
        refine (HP.out).mono ?_
        rintro e w' ⟨rfl, rfl⟩
        go_wp2_with fail
        refine (HA.out).mono ?_
        rintro e w' ⟨rfl, rfl⟩
        go_wp2_with fail
        refine (HB.out).mono ?_
        rintro e w' ⟨rfl, rfl⟩
        go_wp2
        go_ret2
        exact ⟨rfl, Below.refl _ _⟩
    · have ka' : knB a = false := by simpa using ka
      have hb : both a b = false := by unfold both; rw [ka']; rfl
      rw [show knV a = false by unfold knV; rw [va, ka']; rfl] at hA
      have HA := Lib.hid hA
      rw [(cmp_unk (decide (sgnI a.length (num a) < sgnI a.length (num b))) ht hb).1, (cmp_unk (decide (sgnI a.length (num a) < sgnI a.length (num b))) ht hb).2]
      clear hP hA hB ht va vb ka ka' hb hl hz hz' hc hc' hu hv h1 hq hq'
      go_enter Try.func38, Try.ntmps38
      go_wp2_with fail
      refine (HP.out).mono ?_
      rintro e w' ⟨rfl, rfl⟩
      go_wp2_with fail
      refine (HA.out).mono ?_
      rintro e w' ⟨rfl, rfl⟩
      go_wp2
      go_ret2
      exact ⟨rfl, Below.refl _ _⟩
  · have ht' : two a b = false := by simpa using ht
    rw [ht'] at hP
    have HP := Lib.hid hP
    rw [(cmp_no (decide (sgnI a.length (num a) < sgnI a.length (num b))) ht').1, (cmp_no (decide (sgnI a.length (num a) < sgnI a.length (num b))) ht').2]
    obtain ⟨A, c, rfl, hn, _⟩ := hu
    obtain ⟨A', c', rfl, hn', _⟩ := hv
    clear hP hA hB ht ht'
    go_enter Try.func38, Try.ntmps38
    go_wp2_with fail
    refine (HP.out).mono ?_
    rintro e w' ⟨rfl, rfl⟩
    go_wp2
    go_ret2
    exact ⟨rfl, Below.refl _ _⟩

theorem refEqual_any (u v : Value) (a b : List Nat) (w : World) (hu : Sl w u a) (hv : Sl w v b) :
    Calls Try.prog 40 #[u, v] w fun e w' => e = .returned (.tuple #[.bool (samV a b), .int .i64 (calE a b : Nat)]) ∧ Below w.heap.size w w' := by
  have hP := pair_any u v a b w hu hv
  have HE := Lib.hid (same_any u v a b w hu hv)
  obtain ⟨A, c, rfl, hn, _⟩ := hu
  obtain ⟨A', c', rfl, hn', _⟩ := hv
  by_cases ht : two a b = true
  · rw [ht] at hP
    have HP := Lib.hid hP
    rw [show samV a b = eqL a b by unfold samV; rw [ht]; rfl, show calE a b = 0 by unfold calE; rw [ht]; rfl]
    clear hP ht
    go_enter Try.func40, Try.ntmps40
    go_wp2_with fail
    refine (HP.out).mono ?_
    rintro e w' ⟨rfl, rfl⟩
    go_wp2_with fail
    refine (HE.out).mono ?_
    rintro e w2 ⟨rfl, hb2⟩
    have HB2 := Lib.hid hb2
    clear hb2
    go_wp2
    go_ret2
    exact ⟨rfl, HB2.out⟩
  · have ht' : two a b = false := by simpa using ht
    rw [ht'] at hP
    have HP := Lib.hid hP
    rw [show samV a b = false by unfold samV; rw [ht']; rfl, show calE a b = 2 by unfold calE; rw [ht']; rfl]
    clear hP ht ht'
    go_enter Try.func40, Try.ntmps40
    go_wp2_with fail
    refine (HP.out).mono ?_
    rintro e w' ⟨rfl, rfl⟩
    go_wp2
    go_ret2
    exact ⟨rfl, Below.refl _ _⟩
end Go.Proofs.Ytkapephlfbabjaa
