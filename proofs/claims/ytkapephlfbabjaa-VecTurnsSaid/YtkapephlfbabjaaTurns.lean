/- VecTurns: what is made of a number is the number again, modulo 2 to the length; ToInt of ToVec is it where there is room; Resize to more and back changes nothing; no condition. -/
import Derived.Test.YtkapephlfbabjaaLaw
import Derived.Test.YtkapephlfbabjaaAwake
import Derived.Test.YtkapephlfbabjaaLong
import Derived.Test.YtkapephlfbabjaaRefB
namespace Go.Proofs.Ytkapephlfbabjaa
open Go.ChangeShapes Go.WideShapes Go.ChangeAt Go.WideMaps Go.WideElems Go.RowKit
open Go.ChangeMaps (open_string)

theorem size_at (n : Int) : wrap64 (1 + wrap64 ((IntKind.u64.wrap n).tmod 64)) = ((toU n % 64 + 1 : Nat) : Int) := by
  rw [toU_wrap, Int.tmod_eq_emod_of_nonneg (by omega)]
  have e : wrap64 (((toU n : Nat) : Int) % 64) = ((toU n : Nat) : Int) % 64 := wrap64_in (by omega) (by omega)
  rw [e, wrap64_in (by omega) (by omega)]
  omega
theorem bitsL_isV {k n : Nat} (h1 : 1 ≤ n) (h64 : n ≤ 64) : isV (bitsL k n) = true := by
  rw [isV_fits (by rw [bitsL_len]; exact h1) (by rw [bitsL_len]; exact h64)]
  exact bitsL_bits k n
theorem toVec_at (k : Int) (n : Nat) (h : okN (n : Int) = true) (w : World) : Calls Try.prog 25 #[.int .i64 k, .int .i64 (n : Nat)] w fun e w' => ∃ u, e = .returned (.tuple #[u, .int .i64 0]) ∧ Sl w' u (bitsL (toU k) n) ∧ Below w.heap.size w w' := by
  have := toVec_any k n w
  rwa [show ofE 19 (n : Int) = 0 by unfold ofE; rw [h]; rfl, show ofV k (n : Int) = bitsL (toU k) n by unfold ofV; rw [h]; rfl] at this
theorem of_at (k : Int) (n : Nat) (h : okN (n : Int) = true) (w : World) : Calls Try.prog 22 #[.int .i64 k, .int .i64 (n : Nat)] w fun e w' => ∃ u, e = .returned (.tuple #[u, .int .i64 0]) ∧ Sl w' u (bitsL (toU k) n) ∧ Below w.heap.size w w' := by
  have := of_any k n w
  rwa [show ofE 2 (n : Int) = 0 by unfold ofE; rw [h]; rfl, show ofV k (n : Int) = bitsL (toU k) n by unfold ofV; rw [h]; rfl] at this
theorem number_at (v : Value) (zs : List Nat) (w : World) (h : Sl w v zs) (hv : isV zs = true) (hk : knB zs = true) : Calls Try.prog 18 #[v] w fun e w' => e = .returned (.tuple #[.int .u64 (num zs : Nat), .int .i64 0]) ∧ w = w' := by
  have := number_any v zs w h
  rwa [(num_yes hv hk).1, (num_yes hv hk).2] at this
theorem resize_at (v : Value) (zs : List Nat) (n : Nat) (w : World) (h : Sl w v zs) (hv : isV zs = true) (hn : okN (n : Int) = true) : Calls Try.prog 27 #[v, .int .i64 (n : Nat)] w fun e w' => ∃ u, e = .returned (.tuple #[u, .int .i64 0]) ∧ Sl w' u (rsz zs n) ∧ Below w.heap.size w w' := by
  have := resize_any v zs n w h
  rwa [show rszE zs (n : Int) = 0 by unfold rszE; rw [hv, hn]; rfl, show rszV zs (n : Int) = rsz zs n by unfold rszV; rw [hv, hn]; rfl] at this
theorem rsz_more {zs : List Nat} {n : Nat} (h : zs.length ≤ n) : rsz zs n = zs ++ List.replicate (n - zs.length) 0 := by
  unfold rsz splice
  rw [Nat.min_eq_right h]
  simp
theorem rsz_back {zs : List Nat} {n : Nat} (h : zs.length ≤ n) : rsz (rsz zs n) zs.length = zs := by
  have e : (rsz zs n).length = n := rsz_len zs n
  rw [show rsz (rsz zs n) zs.length = splice (List.replicate zs.length 0) 0 (((rsz zs n).drop 0).take (min zs.length (rsz zs n).length)) from rfl, e, Nat.min_eq_left h, rsz_more h]
  unfold splice
  simp
theorem rsz_num {zs : List Nat} {n : Nat} (h : zs.length ≤ n) : num (rsz zs n) = num zs := by rw [rsz_more h, num_append, num_replicate_zero, Nat.mul_zero, Nat.add_zero]
theorem rsz_isV {zs : List Nat} {n : Nat} (hb : bitsB zs = true) (h1 : 1 ≤ n) (h64 : n ≤ 64) : isV (rsz zs n) = true := by
  rw [isV_fits (by rw [rsz_len]; exact h1) (by rw [rsz_len]; exact h64)]
  apply bitsB_of
  intro z hz
  rcases mem_splice hz with h | h
  · have := List.eq_of_mem_replicate h; omega
  · exact bitsB_mem hb (List.mem_of_mem_drop (List.mem_of_mem_take h))
theorem rsz_known {zs : List Nat} {n : Nat} (hk : knB zs = true) : knB (rsz zs n) = true := by
  unfold knB at *
  rw [List.all_eq_true] at *
  intro z hz
  rcases mem_splice hz with h | h
  · have := List.eq_of_mem_replicate h; subst this; rfl
  · exact hk z (List.mem_of_mem_drop (List.mem_of_mem_take h))

set_option maxHeartbeats 4000000 in
/-- The law, with what the calls return as given facts: A the number, I and X what ToInt returns, R the longer length. -/
theorem turns_at (k n m : Int) (w : World) (N M R A I X : Nat) (L Z : List Nat) (eN : wrap64 (1 + wrap64 ((IntKind.u64.wrap n).tmod 64)) = (N : Int)) (eM : wrap64 (1 + wrap64 ((IntKind.u64.wrap m).tmod 64)) = (M : Int))
    (HV : Hid (∀ w, Calls Try.prog 25 #[.int .i64 k, .int .i64 (N : Nat)] w fun e w' => ∃ u, e = .returned (.tuple #[u, .int .i64 0]) ∧ Sl w' u L ∧ Below w.heap.size w w'))
    (HO : Hid (∀ w, Calls Try.prog 22 #[.int .i64 k, .int .i64 (N : Nat)] w fun e w' => ∃ u, e = .returned (.tuple #[u, .int .i64 0]) ∧ Sl w' u L ∧ Below w.heap.size w w'))
    (HNu : Hid (∀ v w, Sl w v L → Calls Try.prog 18 #[v] w fun e w' => e = .returned (.tuple #[.int .u64 (A : Nat), .int .i64 0]) ∧ w = w'))
    (HT : Hid (∀ v w, Sl w v L → Calls Try.prog 20 #[v] w fun e w' => e = .returned (.tuple #[.int .i64 (I : Nat), .int .i64 (X : Nat)]) ∧ w = w'))
    (HR1 : Hid (∀ v w, Sl w v L → Calls Try.prog 27 #[v, .int .i64 (R : Nat)] w fun e w' => ∃ u, e = .returned (.tuple #[u, .int .i64 0]) ∧ Sl w' u Z ∧ Below w.heap.size w w'))
    (HR2 : Hid (∀ v w, Sl w v Z → Calls Try.prog 27 #[v, .int .i64 (N : Nat)] w fun e w' => ∃ u, e = .returned (.tuple #[u, .int .i64 0]) ∧ Sl w' u L ∧ Below w.heap.size w w'))
    (HN2 : Hid (∀ v w, Sl w v Z → Calls Try.prog 18 #[v] w fun e w' => e = .returned (.tuple #[.int .u64 (A : Nat), .int .i64 0]) ∧ w = w'))
    (hR : (N < M ∧ R = M) ∨ (M = N ∧ R = N) ∨ (M < N ∧ R = N))
    (hA : (N < 64 ∧ ((toU k : Nat) : Int) % 2 ^ N = (A : Int)) ∨ (N = 64 ∧ A = toU k))
    (hI : (N ≤ 31 ∧ I = A ∧ X = 0) ∨ (31 < N ∧ X = 19)) :
    Calls Try.prog 14 #[.int .i64 k, .int .i64 n, .int .i64 m] w fun e w' => e = .returned (.bool true) ∧ Below w.heap.size w w' := by
  have hK := toU_wrap k
  have hKl := toU_lt k
  have hAl : IntKind.u64.wrap (A : Int) = (A : Int) := by
    apply wrap_nat
    rcases hA with ⟨_, h⟩ | ⟨_, h⟩
    · have h0 : ((toU k : Nat) : Int) % 2 ^ N ≤ ((toU k : Nat) : Int) := by
        rw [cast_pow]
        exact_mod_cast Nat.mod_le (toU k) (2 ^ N)
      omega
    · omega
  rcases hA with ⟨hN, hA⟩ | ⟨rfl, rfl⟩
  · have hp : IntKind.u64.wrap (2 ^ N) = (2 : Int) ^ N := by
      have : 2 ^ N ≤ 2 ^ 63 := Nat.pow_le_pow_right (by omega) (by omega)
      rw [cast_pow]
      exact wrap_nat (by omega)
    have hp0 : ¬ IntKind.u64.wrap (2 ^ N) = 0 := by rw [hp]; exact Int.pow_ne_zero (by decide)
    have hz0 : (IntKind.u64.wrap (2 ^ N) == 0) = false := by rw [beq_eq_false_iff_ne]; exact hp0
    have hsh : min (IntKind.u64.wrap (N : Int)).toNat 64 = N := by rw [wrap_nat (by omega), Int.toNat_natCast]; omega
    have hA2 : ((toU k : Nat) : Int) % IntKind.u64.wrap (2 ^ N) = (A : Int) := by rw [hp]; exact hA
    clear hp
    have d64 : decide ((N : Int) < 64) = true := by rw [decide_eq_true_eq]; omega
    have n64 : ¬ (N : Int) = 64 := by omega
    rcases hI with ⟨h31, rfl, rfl⟩ | ⟨h31, rfl⟩
    · have d1 : decide ((31 : Int) < (N : Int)) = false := by rw [decide_eq_false_iff_not]; omega
      have d2 : decide ((N : Int) ≤ 31) = true := by rw [decide_eq_true_eq]; omega
      clear hN h31
      rcases hR with ⟨hR, rfl⟩ | ⟨rfl, rfl⟩ | ⟨hR, rfl⟩
      · have m1 : max (N : Int) (R : Int) = (R : Int) := by omega
        have m2 : (N : Int) ≤ (R : Int) := by omega
        have m3 : ¬ (R : Int) ≤ (N : Int) := by omega
        clear hR
        go_enter Try.func14, Try.ntmps14
        go_wp2_with fail
        refine (HV.out _).mono ?_
        rintro e w1 ⟨x1, rfl, s1, hb1⟩
        have HS1 := Lib.hid s1
        have HB1 := Lib.hid hb1
        clear s1 hb1
        go_wp2_with fail
        refine (HO.out _).mono ?_
        rintro e w2 ⟨x2, rfl, s2, hb2⟩
        have HS2 := Lib.hid s2
        have HS12 := Lib.hid (HS1.out.later hb2)
        have HB2 := Lib.hid (below_then HB1.out hb2)
        clear s2 hb2 HS1 HB1
        go_wp2_with fail
        refine (HNu.out _ _ HS12.out).mono ?_
        rintro e w' ⟨rfl, rfl⟩
        go_wp2_with fail
        refine (same_at L _ _ _ HS12.out HS2.out).mono ?_
        rintro e w3 ⟨rfl, hb3⟩
        have HS13 := Lib.hid (HS12.out.later hb3)
        have HB3 := Lib.hid (below_then HB2.out hb3)
        clear hb3 HS12 HS2 HB2
        go_wp2_with fail
        refine (HT.out _ _ HS13.out).mono ?_
        rintro e w' ⟨rfl, rfl⟩
        go_wp2_with fail
        refine (HR1.out _ _ HS13.out).mono ?_
        rintro e w4 ⟨x4, rfl, s4, hb4⟩
        have HS4 := Lib.hid s4
        have HS14 := Lib.hid (HS13.out.later hb4)
        have HB4 := Lib.hid (below_then HB3.out hb4)
        clear s4 hb4 HS13 HB3
        go_wp2_with fail
        refine (HR2.out _ _ HS4.out).mono ?_
        rintro e w5 ⟨x5, rfl, s5, hb5⟩
        have HS5 := Lib.hid s5
        have HS15 := Lib.hid (HS14.out.later hb5)
        have HS45 := Lib.hid (HS4.out.later hb5)
        have HB5 := Lib.hid (below_then HB4.out hb5)
        clear s5 hb5 HS4 HS14 HB4
        go_wp2_with fail
        refine (HN2.out _ _ HS45.out).mono ?_
        rintro e w' ⟨rfl, rfl⟩
        go_wp2_with fail
        refine (same_at L _ _ _ HS5.out HS15.out).mono ?_
        rintro e w6 ⟨rfl, hb6⟩
        have HB6 := Lib.hid (below_then HB5.out hb6)
        clear hb6 HB5
        go_wp2_with fail
        refine (awake_any _).mono ?_
        rintro e w7 ⟨rfl, hb7⟩
        have HB7 := Lib.hid (below_then HB6.out hb7)
        clear hb7 HB6
        go_wp2
        go_ret
        exact ⟨rfl, HB7.out⟩
      · have m1 : True := trivial
        go_enter Try.func14, Try.ntmps14
        go_wp2_with fail
        refine (HV.out _).mono ?_
        rintro e w1 ⟨x1, rfl, s1, hb1⟩
        have HS1 := Lib.hid s1
        have HB1 := Lib.hid hb1
        clear s1 hb1
        go_wp2_with fail
        refine (HO.out _).mono ?_
        rintro e w2 ⟨x2, rfl, s2, hb2⟩
        have HS2 := Lib.hid s2
        have HS12 := Lib.hid (HS1.out.later hb2)
        have HB2 := Lib.hid (below_then HB1.out hb2)
        clear s2 hb2 HS1 HB1
        go_wp2_with fail
        refine (HNu.out _ _ HS12.out).mono ?_
        rintro e w' ⟨rfl, rfl⟩
        go_wp2_with fail
        refine (same_at L _ _ _ HS12.out HS2.out).mono ?_
        rintro e w3 ⟨rfl, hb3⟩
        have HS13 := Lib.hid (HS12.out.later hb3)
        have HB3 := Lib.hid (below_then HB2.out hb3)
        clear hb3 HS12 HS2 HB2
        go_wp2_with fail
        refine (HT.out _ _ HS13.out).mono ?_
        rintro e w' ⟨rfl, rfl⟩
        go_wp2_with fail
        refine (HR1.out _ _ HS13.out).mono ?_
        rintro e w4 ⟨x4, rfl, s4, hb4⟩
        have HS4 := Lib.hid s4
        have HS14 := Lib.hid (HS13.out.later hb4)
        have HB4 := Lib.hid (below_then HB3.out hb4)
        clear s4 hb4 HS13 HB3
        go_wp2_with fail
        refine (HR2.out _ _ HS4.out).mono ?_
        rintro e w5 ⟨x5, rfl, s5, hb5⟩
        have HS5 := Lib.hid s5
        have HS15 := Lib.hid (HS14.out.later hb5)
        have HS45 := Lib.hid (HS4.out.later hb5)
        have HB5 := Lib.hid (below_then HB4.out hb5)
        clear s5 hb5 HS4 HS14 HB4
        go_wp2_with fail
        refine (HN2.out _ _ HS45.out).mono ?_
        rintro e w' ⟨rfl, rfl⟩
        go_wp2_with fail
        refine (same_at L _ _ _ HS5.out HS15.out).mono ?_
        rintro e w6 ⟨rfl, hb6⟩
        have HB6 := Lib.hid (below_then HB5.out hb6)
        clear hb6 HB5
        go_wp2_with fail
        refine (awake_any _).mono ?_
        rintro e w7 ⟨rfl, hb7⟩
        have HB7 := Lib.hid (below_then HB6.out hb7)
        clear hb7 HB6
        go_wp2
        go_ret
        exact ⟨rfl, HB7.out⟩
      · have m1 : max (R : Int) (M : Int) = (R : Int) := by omega
        have m2 : ¬ (R : Int) ≤ (M : Int) := by omega
        have m3 : (M : Int) ≤ (R : Int) := by omega
        clear hR
        go_enter Try.func14, Try.ntmps14
        go_wp2_with fail
        refine (HV.out _).mono ?_
        rintro e w1 ⟨x1, rfl, s1, hb1⟩
        have HS1 := Lib.hid s1
        have HB1 := Lib.hid hb1
        clear s1 hb1
        go_wp2_with fail
        refine (HO.out _).mono ?_
        rintro e w2 ⟨x2, rfl, s2, hb2⟩
        have HS2 := Lib.hid s2
        have HS12 := Lib.hid (HS1.out.later hb2)
        have HB2 := Lib.hid (below_then HB1.out hb2)
        clear s2 hb2 HS1 HB1
        go_wp2_with fail
        refine (HNu.out _ _ HS12.out).mono ?_
        rintro e w' ⟨rfl, rfl⟩
        go_wp2_with fail
        refine (same_at L _ _ _ HS12.out HS2.out).mono ?_
        rintro e w3 ⟨rfl, hb3⟩
        have HS13 := Lib.hid (HS12.out.later hb3)
        have HB3 := Lib.hid (below_then HB2.out hb3)
        clear hb3 HS12 HS2 HB2
        go_wp2_with fail
        refine (HT.out _ _ HS13.out).mono ?_
        rintro e w' ⟨rfl, rfl⟩
        go_wp2_with fail
        refine (HR1.out _ _ HS13.out).mono ?_
        rintro e w4 ⟨x4, rfl, s4, hb4⟩
        have HS4 := Lib.hid s4
        have HS14 := Lib.hid (HS13.out.later hb4)
        have HB4 := Lib.hid (below_then HB3.out hb4)
        clear s4 hb4 HS13 HB3
        go_wp2_with fail
        refine (HR2.out _ _ HS4.out).mono ?_
        rintro e w5 ⟨x5, rfl, s5, hb5⟩
        have HS5 := Lib.hid s5
        have HS15 := Lib.hid (HS14.out.later hb5)
        have HS45 := Lib.hid (HS4.out.later hb5)
        have HB5 := Lib.hid (below_then HB4.out hb5)
        clear s5 hb5 HS4 HS14 HB4
        go_wp2_with fail
        refine (HN2.out _ _ HS45.out).mono ?_
        rintro e w' ⟨rfl, rfl⟩
        go_wp2_with fail
        refine (same_at L _ _ _ HS5.out HS15.out).mono ?_
        rintro e w6 ⟨rfl, hb6⟩
        have HB6 := Lib.hid (below_then HB5.out hb6)
        clear hb6 HB5
        go_wp2_with fail
        refine (awake_any _).mono ?_
        rintro e w7 ⟨rfl, hb7⟩
        have HB7 := Lib.hid (below_then HB6.out hb7)
        clear hb7 HB6
        go_wp2
        go_ret
        exact ⟨rfl, HB7.out⟩
    · have d1 : decide ((31 : Int) < (N : Int)) = true := by rw [decide_eq_true_eq]; omega
      have d2 : decide ((N : Int) ≤ 31) = false := by rw [decide_eq_false_iff_not]; omega
      clear hN h31
      rcases hR with ⟨hR, rfl⟩ | ⟨rfl, rfl⟩ | ⟨hR, rfl⟩
      · have m1 : max (N : Int) (R : Int) = (R : Int) := by omega
        have m2 : (N : Int) ≤ (R : Int) := by omega
        have m3 : ¬ (R : Int) ≤ (N : Int) := by omega
        clear hR
        go_enter Try.func14, Try.ntmps14
        go_wp2_with fail
        refine (HV.out _).mono ?_
        rintro e w1 ⟨x1, rfl, s1, hb1⟩
        have HS1 := Lib.hid s1
        have HB1 := Lib.hid hb1
        clear s1 hb1
        go_wp2_with fail
        refine (HO.out _).mono ?_
        rintro e w2 ⟨x2, rfl, s2, hb2⟩
        have HS2 := Lib.hid s2
        have HS12 := Lib.hid (HS1.out.later hb2)
        have HB2 := Lib.hid (below_then HB1.out hb2)
        clear s2 hb2 HS1 HB1
        go_wp2_with fail
        refine (HNu.out _ _ HS12.out).mono ?_
        rintro e w' ⟨rfl, rfl⟩
        go_wp2_with fail
        refine (same_at L _ _ _ HS12.out HS2.out).mono ?_
        rintro e w3 ⟨rfl, hb3⟩
        have HS13 := Lib.hid (HS12.out.later hb3)
        have HB3 := Lib.hid (below_then HB2.out hb3)
        clear hb3 HS12 HS2 HB2
        go_wp2_with fail
        refine (HT.out _ _ HS13.out).mono ?_
        rintro e w' ⟨rfl, rfl⟩
        go_wp2_with fail
        refine (HR1.out _ _ HS13.out).mono ?_
        rintro e w4 ⟨x4, rfl, s4, hb4⟩
        have HS4 := Lib.hid s4
        have HS14 := Lib.hid (HS13.out.later hb4)
        have HB4 := Lib.hid (below_then HB3.out hb4)
        clear s4 hb4 HS13 HB3
        go_wp2_with fail
        refine (HR2.out _ _ HS4.out).mono ?_
        rintro e w5 ⟨x5, rfl, s5, hb5⟩
        have HS5 := Lib.hid s5
        have HS15 := Lib.hid (HS14.out.later hb5)
        have HS45 := Lib.hid (HS4.out.later hb5)
        have HB5 := Lib.hid (below_then HB4.out hb5)
        clear s5 hb5 HS4 HS14 HB4
        go_wp2_with fail
        refine (HN2.out _ _ HS45.out).mono ?_
        rintro e w' ⟨rfl, rfl⟩
        go_wp2_with fail
        refine (same_at L _ _ _ HS5.out HS15.out).mono ?_
        rintro e w6 ⟨rfl, hb6⟩
        have HB6 := Lib.hid (below_then HB5.out hb6)
        clear hb6 HB5
        go_wp2_with fail
        refine (awake_any _).mono ?_
        rintro e w7 ⟨rfl, hb7⟩
        have HB7 := Lib.hid (below_then HB6.out hb7)
        clear hb7 HB6
        go_wp2
        go_ret
        exact ⟨rfl, HB7.out⟩
      · have m1 : True := trivial
        go_enter Try.func14, Try.ntmps14
        go_wp2_with fail
        refine (HV.out _).mono ?_
        rintro e w1 ⟨x1, rfl, s1, hb1⟩
        have HS1 := Lib.hid s1
        have HB1 := Lib.hid hb1
        clear s1 hb1
        go_wp2_with fail
        refine (HO.out _).mono ?_
        rintro e w2 ⟨x2, rfl, s2, hb2⟩
        have HS2 := Lib.hid s2
        have HS12 := Lib.hid (HS1.out.later hb2)
        have HB2 := Lib.hid (below_then HB1.out hb2)
        clear s2 hb2 HS1 HB1
        go_wp2_with fail
        refine (HNu.out _ _ HS12.out).mono ?_
        rintro e w' ⟨rfl, rfl⟩
        go_wp2_with fail
        refine (same_at L _ _ _ HS12.out HS2.out).mono ?_
        rintro e w3 ⟨rfl, hb3⟩
        have HS13 := Lib.hid (HS12.out.later hb3)
        have HB3 := Lib.hid (below_then HB2.out hb3)
        clear hb3 HS12 HS2 HB2
        go_wp2_with fail
        refine (HT.out _ _ HS13.out).mono ?_
        rintro e w' ⟨rfl, rfl⟩
        go_wp2_with fail
        refine (HR1.out _ _ HS13.out).mono ?_
        rintro e w4 ⟨x4, rfl, s4, hb4⟩
        have HS4 := Lib.hid s4
        have HS14 := Lib.hid (HS13.out.later hb4)
        have HB4 := Lib.hid (below_then HB3.out hb4)
        clear s4 hb4 HS13 HB3
        go_wp2_with fail
        refine (HR2.out _ _ HS4.out).mono ?_
        rintro e w5 ⟨x5, rfl, s5, hb5⟩
        have HS5 := Lib.hid s5
        have HS15 := Lib.hid (HS14.out.later hb5)
        have HS45 := Lib.hid (HS4.out.later hb5)
        have HB5 := Lib.hid (below_then HB4.out hb5)
        clear s5 hb5 HS4 HS14 HB4
        go_wp2_with fail
        refine (HN2.out _ _ HS45.out).mono ?_
        rintro e w' ⟨rfl, rfl⟩
        go_wp2_with fail
        refine (same_at L _ _ _ HS5.out HS15.out).mono ?_
        rintro e w6 ⟨rfl, hb6⟩
        have HB6 := Lib.hid (below_then HB5.out hb6)
        clear hb6 HB5
        go_wp2_with fail
        refine (awake_any _).mono ?_
        rintro e w7 ⟨rfl, hb7⟩
        have HB7 := Lib.hid (below_then HB6.out hb7)
        clear hb7 HB6
        go_wp2
        go_ret
        exact ⟨rfl, HB7.out⟩
      · have m1 : max (R : Int) (M : Int) = (R : Int) := by omega
        have m2 : ¬ (R : Int) ≤ (M : Int) := by omega
        have m3 : (M : Int) ≤ (R : Int) := by omega
        clear hR
        go_enter Try.func14, Try.ntmps14
        go_wp2_with fail
        refine (HV.out _).mono ?_
        rintro e w1 ⟨x1, rfl, s1, hb1⟩
        have HS1 := Lib.hid s1
        have HB1 := Lib.hid hb1
        clear s1 hb1
        go_wp2_with fail
        refine (HO.out _).mono ?_
        rintro e w2 ⟨x2, rfl, s2, hb2⟩
        have HS2 := Lib.hid s2
        have HS12 := Lib.hid (HS1.out.later hb2)
        have HB2 := Lib.hid (below_then HB1.out hb2)
        clear s2 hb2 HS1 HB1
        go_wp2_with fail
        refine (HNu.out _ _ HS12.out).mono ?_
        rintro e w' ⟨rfl, rfl⟩
        go_wp2_with fail
        refine (same_at L _ _ _ HS12.out HS2.out).mono ?_
        rintro e w3 ⟨rfl, hb3⟩
        have HS13 := Lib.hid (HS12.out.later hb3)
        have HB3 := Lib.hid (below_then HB2.out hb3)
        clear hb3 HS12 HS2 HB2
        go_wp2_with fail
        refine (HT.out _ _ HS13.out).mono ?_
        rintro e w' ⟨rfl, rfl⟩
        go_wp2_with fail
        refine (HR1.out _ _ HS13.out).mono ?_
        rintro e w4 ⟨x4, rfl, s4, hb4⟩
        have HS4 := Lib.hid s4
        have HS14 := Lib.hid (HS13.out.later hb4)
        have HB4 := Lib.hid (below_then HB3.out hb4)
        clear s4 hb4 HS13 HB3
        go_wp2_with fail
        refine (HR2.out _ _ HS4.out).mono ?_
        rintro e w5 ⟨x5, rfl, s5, hb5⟩
        have HS5 := Lib.hid s5
        have HS15 := Lib.hid (HS14.out.later hb5)
        have HS45 := Lib.hid (HS4.out.later hb5)
        have HB5 := Lib.hid (below_then HB4.out hb5)
        clear s5 hb5 HS4 HS14 HB4
        go_wp2_with fail
        refine (HN2.out _ _ HS45.out).mono ?_
        rintro e w' ⟨rfl, rfl⟩
        go_wp2_with fail
        refine (same_at L _ _ _ HS5.out HS15.out).mono ?_
        rintro e w6 ⟨rfl, hb6⟩
        have HB6 := Lib.hid (below_then HB5.out hb6)
        clear hb6 HB5
        go_wp2_with fail
        refine (awake_any _).mono ?_
        rintro e w7 ⟨rfl, hb7⟩
        have HB7 := Lib.hid (below_then HB6.out hb7)
        clear hb7 HB6
        go_wp2
        go_ret
        exact ⟨rfl, HB7.out⟩
  · rcases hI with ⟨h31, rfl, rfl⟩ | ⟨h31, rfl⟩
    · exact absurd h31 (by decide)
    · clear h31
      rcases hR with ⟨hR, rfl⟩ | ⟨rfl, rfl⟩ | ⟨hR, rfl⟩
      · have m1 : max (64 : Int) (R : Int) = (R : Int) := by omega
        have m2 : (64 : Int) ≤ (R : Int) := by omega
        have m3 : ¬ (R : Int) ≤ 64 := by omega
        clear hR
        go_enter Try.func14, Try.ntmps14
        go_wp2_with fail
        refine (HV.out _).mono ?_
        rintro e w1 ⟨x1, rfl, s1, hb1⟩
        have HS1 := Lib.hid s1
        have HB1 := Lib.hid hb1
        clear s1 hb1
        go_wp2_with fail
        refine (HO.out _).mono ?_
        rintro e w2 ⟨x2, rfl, s2, hb2⟩
        have HS2 := Lib.hid s2
        have HS12 := Lib.hid (HS1.out.later hb2)
        have HB2 := Lib.hid (below_then HB1.out hb2)
        clear s2 hb2 HS1 HB1
        go_wp2_with fail
        refine (HNu.out _ _ HS12.out).mono ?_
        rintro e w' ⟨rfl, rfl⟩
        go_wp2_with fail
        refine (same_at L _ _ _ HS12.out HS2.out).mono ?_
        rintro e w3 ⟨rfl, hb3⟩
        have HS13 := Lib.hid (HS12.out.later hb3)
        have HB3 := Lib.hid (below_then HB2.out hb3)
        clear hb3 HS12 HS2 HB2
        go_wp2_with fail
        refine (HT.out _ _ HS13.out).mono ?_
        rintro e w' ⟨rfl, rfl⟩
        go_wp2_with fail
        refine (HR1.out _ _ HS13.out).mono ?_
        rintro e w4 ⟨x4, rfl, s4, hb4⟩
        have HS4 := Lib.hid s4
        have HS14 := Lib.hid (HS13.out.later hb4)
        have HB4 := Lib.hid (below_then HB3.out hb4)
        clear s4 hb4 HS13 HB3
        go_wp2_with fail
        refine (HR2.out _ _ HS4.out).mono ?_
        rintro e w5 ⟨x5, rfl, s5, hb5⟩
        have HS5 := Lib.hid s5
        have HS15 := Lib.hid (HS14.out.later hb5)
        have HS45 := Lib.hid (HS4.out.later hb5)
        have HB5 := Lib.hid (below_then HB4.out hb5)
        clear s5 hb5 HS4 HS14 HB4
        go_wp2_with fail
        refine (HN2.out _ _ HS45.out).mono ?_
        rintro e w' ⟨rfl, rfl⟩
        go_wp2_with fail
        refine (same_at L _ _ _ HS5.out HS15.out).mono ?_
        rintro e w6 ⟨rfl, hb6⟩
        have HB6 := Lib.hid (below_then HB5.out hb6)
        clear hb6 HB5
        go_wp2_with fail
        refine (awake_any _).mono ?_
        rintro e w7 ⟨rfl, hb7⟩
        have HB7 := Lib.hid (below_then HB6.out hb7)
        clear hb7 HB6
        go_wp2
        go_ret
        exact ⟨rfl, HB7.out⟩
      · have m1 : True := trivial
        go_enter Try.func14, Try.ntmps14
        go_wp2_with fail
        refine (HV.out _).mono ?_
        rintro e w1 ⟨x1, rfl, s1, hb1⟩
        have HS1 := Lib.hid s1
        have HB1 := Lib.hid hb1
        clear s1 hb1
        go_wp2_with fail
        refine (HO.out _).mono ?_
        rintro e w2 ⟨x2, rfl, s2, hb2⟩
        have HS2 := Lib.hid s2
        have HS12 := Lib.hid (HS1.out.later hb2)
        have HB2 := Lib.hid (below_then HB1.out hb2)
        clear s2 hb2 HS1 HB1
        go_wp2_with fail
        refine (HNu.out _ _ HS12.out).mono ?_
        rintro e w' ⟨rfl, rfl⟩
        go_wp2_with fail
        refine (same_at L _ _ _ HS12.out HS2.out).mono ?_
        rintro e w3 ⟨rfl, hb3⟩
        have HS13 := Lib.hid (HS12.out.later hb3)
        have HB3 := Lib.hid (below_then HB2.out hb3)
        clear hb3 HS12 HS2 HB2
        go_wp2_with fail
        refine (HT.out _ _ HS13.out).mono ?_
        rintro e w' ⟨rfl, rfl⟩
        go_wp2_with fail
        refine (HR1.out _ _ HS13.out).mono ?_
        rintro e w4 ⟨x4, rfl, s4, hb4⟩
        have HS4 := Lib.hid s4
        have HS14 := Lib.hid (HS13.out.later hb4)
        have HB4 := Lib.hid (below_then HB3.out hb4)
        clear s4 hb4 HS13 HB3
        go_wp2_with fail
        refine (HR2.out _ _ HS4.out).mono ?_
        rintro e w5 ⟨x5, rfl, s5, hb5⟩
        have HS5 := Lib.hid s5
        have HS15 := Lib.hid (HS14.out.later hb5)
        have HS45 := Lib.hid (HS4.out.later hb5)
        have HB5 := Lib.hid (below_then HB4.out hb5)
        clear s5 hb5 HS4 HS14 HB4
        go_wp2_with fail
        refine (HN2.out _ _ HS45.out).mono ?_
        rintro e w' ⟨rfl, rfl⟩
        go_wp2_with fail
        refine (same_at L _ _ _ HS5.out HS15.out).mono ?_
        rintro e w6 ⟨rfl, hb6⟩
        have HB6 := Lib.hid (below_then HB5.out hb6)
        clear hb6 HB5
        go_wp2_with fail
        refine (awake_any _).mono ?_
        rintro e w7 ⟨rfl, hb7⟩
        have HB7 := Lib.hid (below_then HB6.out hb7)
        clear hb7 HB6
        go_wp2
        go_ret
        exact ⟨rfl, HB7.out⟩
      · have m1 : max (64 : Int) (M : Int) = 64 := by omega
        have m2 : ¬ (64 : Int) ≤ (M : Int) := by omega
        have m3 : (M : Int) ≤ 64 := by omega
        clear hR
        go_enter Try.func14, Try.ntmps14
        go_wp2_with fail
        refine (HV.out _).mono ?_
        rintro e w1 ⟨x1, rfl, s1, hb1⟩
        have HS1 := Lib.hid s1
        have HB1 := Lib.hid hb1
        clear s1 hb1
        go_wp2_with fail
        refine (HO.out _).mono ?_
        rintro e w2 ⟨x2, rfl, s2, hb2⟩
        have HS2 := Lib.hid s2
        have HS12 := Lib.hid (HS1.out.later hb2)
        have HB2 := Lib.hid (below_then HB1.out hb2)
        clear s2 hb2 HS1 HB1
        go_wp2_with fail
        refine (HNu.out _ _ HS12.out).mono ?_
        rintro e w' ⟨rfl, rfl⟩
        go_wp2_with fail
        refine (same_at L _ _ _ HS12.out HS2.out).mono ?_
        rintro e w3 ⟨rfl, hb3⟩
        have HS13 := Lib.hid (HS12.out.later hb3)
        have HB3 := Lib.hid (below_then HB2.out hb3)
        clear hb3 HS12 HS2 HB2
        go_wp2_with fail
        refine (HT.out _ _ HS13.out).mono ?_
        rintro e w' ⟨rfl, rfl⟩
        go_wp2_with fail
        refine (HR1.out _ _ HS13.out).mono ?_
        rintro e w4 ⟨x4, rfl, s4, hb4⟩
        have HS4 := Lib.hid s4
        have HS14 := Lib.hid (HS13.out.later hb4)
        have HB4 := Lib.hid (below_then HB3.out hb4)
        clear s4 hb4 HS13 HB3
        go_wp2_with fail
        refine (HR2.out _ _ HS4.out).mono ?_
        rintro e w5 ⟨x5, rfl, s5, hb5⟩
        have HS5 := Lib.hid s5
        have HS15 := Lib.hid (HS14.out.later hb5)
        have HS45 := Lib.hid (HS4.out.later hb5)
        have HB5 := Lib.hid (below_then HB4.out hb5)
        clear s5 hb5 HS4 HS14 HB4
        go_wp2_with fail
        refine (HN2.out _ _ HS45.out).mono ?_
        rintro e w' ⟨rfl, rfl⟩
        go_wp2_with fail
        refine (same_at L _ _ _ HS5.out HS15.out).mono ?_
        rintro e w6 ⟨rfl, hb6⟩
        have HB6 := Lib.hid (below_then HB5.out hb6)
        clear hb6 HB5
        go_wp2_with fail
        refine (awake_any _).mono ?_
        rintro e w7 ⟨rfl, hb7⟩
        have HB7 := Lib.hid (below_then HB6.out hb7)
        clear hb7 HB6
        go_wp2
        go_ret
        exact ⟨rfl, HB7.out⟩

theorem vecTurns_walk (k n m : Int) (w : World) :
    Calls Try.prog 14 #[.int .i64 k, .int .i64 n, .int .i64 m] w fun e w' => e = .returned (.bool true) ∧ Below w.heap.size w w' := by
  have eN := size_at n
  have eM := size_at m
  have hN : toU n % 64 + 1 ≤ 64 := by omega
  have hM : toU m % 64 + 1 ≤ 64 := by omega
  have hN1 : 1 ≤ toU n % 64 + 1 := by omega
  generalize toU n % 64 + 1 = N at eN hN hN1
  generalize toU m % 64 + 1 = M at eM hM
  have oN : okN (N : Int) = true := okN_pos hN1 hN
  have oR : okN ((max N M : Nat) : Int) = true := okN_pos (by omega) (by omega)
  have hv : isV (bitsL (toU k) N) = true := bitsL_isV hN1 hN
  have hle : (bitsL (toU k) N).length ≤ max N M := by rw [bitsL_len]; omega
  have hb := rsz_back hle
  rw [bitsL_len] at hb
  have hR2 := fun v w h => resize_at v (rsz (bitsL (toU k) N) (max N M)) N w h (rsz_isV (bitsL_bits _ _) (by omega) (by omega)) oN
  rw [hb] at hR2
  have hN2 := fun v w h => number_at v (rsz (bitsL (toU k) N) (max N M)) w h (rsz_isV (bitsL_bits _ _) (by omega) (by omega)) (rsz_known (bitsL_known _ _))
  rw [rsz_num hle] at hN2
  have hnum : num (bitsL (toU k) N) = toU k % 2 ^ N := num_bitsL _ _
  refine turns_at k n m w N M (max N M) (num (bitsL (toU k) N)) (intV (bitsL (toU k) N)) (intE (bitsL (toU k) N)) (bitsL (toU k) N) (rsz (bitsL (toU k) N) (max N M)) eN eM (toVec_at k N oN) (of_at k N oN)
    (fun v w h => number_at v _ w h hv (bitsL_known _ _)) (fun v w h => toInt_any v _ w h) (fun v w h => resize_at v _ _ w h hv oR) hR2 hN2 (by omega) ?_ ?_
  · rw [hnum]
    by_cases h64 : N < 64
    · left
      refine ⟨h64, ?_⟩
      rw [cast_pow]
      exact (Int.natCast_emod _ _).symm
    · right
      have h : N = 64 := by omega
      subst h
      exact ⟨rfl, Nat.mod_eq_of_lt (toU_lt k)⟩
  · by_cases h31 : N ≤ 31
    · left
      refine ⟨h31, ?_, ?_⟩
      · unfold intV
        rw [hv, bitsL_len, decide_eq_true h31]
        rfl
      · unfold intE
        rw [hv, bitsL_len, if_pos h31]
        rfl
    · right
      refine ⟨by omega, ?_⟩
      unfold intE
      rw [hv, bitsL_len, if_neg h31]
      rfl

set_option maxRecDepth 100000 in
theorem vecTurns_lifted (os : Os) (started : os.Started) (H : Type) (enc : TypeId × Value → H) :
    ReturnsInHanded {} Try.checked os 14 .any (Rows.vecTurnsSpec.pre6 enc Try.prog Try.f14 [] false) (Rows.vecTurnsSpec.post enc Try.prog Try.f14 false true false false) := by
  refine returnsInHanded_of_change_sized (C := Try.checked) own started (by kernel_rfl) Try.func14
    (ChangeSpec.witness6 (enc := enc) (C := Try.checked) false ⟨#[], #[.int .i64 0, .int .i64 0, .int .i64 0], []⟩ 8 (by kernel_rfl) (by kernel_rfl) (by kernel_rfl) (by kernel_rfl)) ?_
  intro W base args ds gs before hval0 hW _ hsz0 _
  have hval : ∀ (j : Nat) t v, Try.f14.params[j]? = some t → args[j]? = some v → Value.okWide Try.prog W .any base t v := hval0
  have hsz : (DataW.weightsEach Try.prog (Try.f14.params.toList ++ Rows.vecTurnsSpec.plain.varTypes Try.prog) (ds ++ gs)).all (· ≤ reachBytes) = true := hsz0
  have hW' := hW
  obtain ⟨p, q, hA0, hV, rfl, hfz, hnd⟩ := hW
  have hA1 := hA0
  have hA : DataW.TrodAll enc Try.prog W 0 (fun _ => true) true Try.f14.params.toList args.toList ds p := hA0
  rw [Try.params14] at hA hval hsz
  obtain ⟨v0, v1, v2, d0, d1, d2, p0, p1, p2, rfl, rfl, rfl, h0, h1, h2⟩ := trodAll_three hA
  obtain ⟨rfl, rfl⟩ := trodVars_none hV
  obtain ⟨k, rfl, rfl, rfl, wk⟩ := open_int Try.underlying3 (hval 0 3 v0 rfl rfl) h0
  have bk := bounds_i64 wk
  obtain ⟨n, rfl, rfl, rfl, wn⟩ := open_int Try.underlying3 (hval 1 3 v1 rfl rfl) h1
  have bn := bounds_i64 wn
  obtain ⟨m, rfl, rfl, rfl, wm⟩ := open_int Try.underlying3 (hval 2 3 v2 rfl rfl) h2
  have bm := bounds_i64 wm

  clear hval0 hsz0
  simp only [List.append_nil] at hW' hA1
  refine (vecTurns_walk k n m W).mono fun e W' ⟨he, hb⟩ => ?_
  subst he
  exact ⟨_, rfl, law_post (by rw [Try.params14]; exact types_ok [3, 3, 3] (by kernel_rfl)) (by kernel_rfl) rfl rfl hA1 hW' hb⟩

theorem vecTurns_holds : Rows.VecTurnsSaid :=
  OpenClaim.holds_of_wide 14 Try.f14 rfl rfl rfl rfl rfl rfl rfl ⟨rfl, rfl, rfl, rfl, rfl⟩ rfl rfl rfl rfl rfl (by kernel_rfl) Try.func14 (by kernel_rfl)
    (of_decide_eq_true (by kernel_rfl)) (by unfold Func.isWrapper; first | (rw [if_pos (by decide +kernel)]; kernel_rfl) | (rw [if_neg (by decide +kernel)]; exact ⟨rfl, rfl⟩))
    (fun os started H enc _ => vecTurns_lifted os started H enc)
#print axioms vecTurns_holds
end Go.Proofs.Ytkapephlfbabjaa
