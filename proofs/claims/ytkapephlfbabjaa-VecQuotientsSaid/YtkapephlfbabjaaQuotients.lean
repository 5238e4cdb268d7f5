/- VecQuotients: a is b times the quotient and what is left, which is from 0 to below b, or from above b to 0; and it is Add of numbers where there is room; no condition. -/
import Derived.Test.YtkapephlfbabjaaLaw
import Derived.Test.YtkapephlfbabjaaAwake
namespace Go.Proofs.Ytkapephlfbabjaa
open Go.ChangeShapes Go.WideShapes Go.ChangeAt Go.WideMaps Go.WideElems Go.RowKit
open Go.ChangeMaps (open_string)

theorem plus_at {a b n : Int} {x : Nat} (h : intN 0 a b = n) (h' : intX 0 a b = x) (w : World) : Calls Try.prog 51 #[.string ⟨#[43]⟩, .int .i64 a, .int .i64 b] w fun e w' => e = .returned (.tuple #[.int .i64 n, .int .i64 (x : Nat)]) ∧ Below w.heap.size w w' := by
  subst h h'
  have := int_any ⟨#[43]⟩ a b w
  rwa [show opC ⟨#[43]⟩ = 0 by kernel_rfl] at this
theorem minus_at {a b n : Int} {x : Nat} (h : intN 1 a b = n) (h' : intX 1 a b = x) (w : World) : Calls Try.prog 51 #[.string ⟨#[45]⟩, .int .i64 a, .int .i64 b] w fun e w' => e = .returned (.tuple #[.int .i64 n, .int .i64 (x : Nat)]) ∧ Below w.heap.size w w' := by
  subst h h'
  have := int_any ⟨#[45]⟩ a b w
  rwa [show opC ⟨#[45]⟩ = 1 by kernel_rfl] at this
theorem quo_at {a b n : Int} {x : Nat} (h : intN 3 a b = n) (h' : intX 3 a b = x) (w : World) : Calls Try.prog 51 #[.string ⟨#[47]⟩, .int .i64 a, .int .i64 b] w fun e w' => e = .returned (.tuple #[.int .i64 n, .int .i64 (x : Nat)]) ∧ Below w.heap.size w w' := by
  subst h h'
  have := int_any ⟨#[47]⟩ a b w
  rwa [show opC ⟨#[47]⟩ = 3 by kernel_rfl] at this
theorem mod_at {a b n : Int} {x : Nat} (h : intN 4 a b = n) (h' : intX 4 a b = x) (w : World) : Calls Try.prog 51 #[.string ⟨#[109, 111, 100]⟩, .int .i64 a, .int .i64 b] w fun e w' => e = .returned (.tuple #[.int .i64 n, .int .i64 (x : Nat)]) ∧ Below w.heap.size w w' := by
  subst h h'
  have := int_any ⟨#[109, 111, 100]⟩ a b w
  rwa [show opC ⟨#[109, 111, 100]⟩ = 4 by kernel_rfl] at this

theorem fits_of {n : Int} (h : -2147483648 ≤ n) (h' : n ≤ 2147483647) : fits n = true := by unfold fits; rw [decide_eq_true h, decide_eq_true h']; rfl
theorem divR_fits {a b : Int} (hb : fits b = true) (h0 : b ≠ 0) : fits (divR a b) = true := by
  obtain ⟨b1, b2⟩ := fits_yes hb
  obtain ⟨l1, l2⟩ := div_left a h0
  apply fits_of <;> omega
/-- A quotient of ints that is no int. -/
theorem divQ_out {a b : Int} (ha : fits a = true) (h0 : b ≠ 0) (hq : fits (divQ a b) = false) : a = -2147483648 ∧ b = -1 ∧ divR a b = 0 := by
  obtain ⟨a1, a2⟩ := fits_yes ha
  obtain ⟨l1, l2⟩ := div_left a h0
  have hs := div_sum a b
  have hn := fits_no hq
  generalize divQ a b = q at *
  generalize divR a b = r at *
  clear ha hq
  rcases Int.lt_or_lt_of_ne h0 with hb | hb
  · obtain ⟨r1, r2⟩ := l2 hb
    by_cases hq : 2147483648 ≤ q
    · have h1 : b * q ≤ b * 2147483648 := Int.mul_le_mul_of_nonpos_left (by omega) hq
      have hb1 : b = -1 := by omega
      subst hb1
      omega
    · exfalso
      have h1 : b * (-2147483649) ≤ b * q := Int.mul_le_mul_of_nonpos_left (by omega) (by omega)
      omega
  · exfalso
    obtain ⟨r1, r2⟩ := l1 hb
    by_cases hq : 2147483648 ≤ q
    · have h1 : b * 2147483648 ≤ b * q := Int.mul_le_mul_of_nonneg_left hq (by omega)
      omega
    · have h1 : b * q ≤ b * (-2147483649) := Int.mul_le_mul_of_nonneg_left (by omega) (by omega)
      omega

set_option maxHeartbeats 2000000 in
theorem quotients_fit (a b : Int) (w : World) (ha : fits a = true) (hb : fits b = true) :
    Calls Try.prog 13 #[.int .i64 a, .int .i64 b] w fun e w' => e = .returned (.bool true) ∧ Below w.heap.size w w' := by
  have HA := Lib.hid (refFits_at ha)
  have HF := Lib.hid (refFits_at hb)
  -- the sum and the difference
  obtain ⟨s, e1, d, e2, HS, HD, hsum⟩ : ∃ (s : Int) (e1 : Nat) (d : Int) (e2 : Nat), Hid (∀ w, Calls Try.prog 51 #[.string ⟨#[43]⟩, .int .i64 a, .int .i64 b] w fun e w' => e = .returned (.tuple #[.int .i64 s, .int .i64 (e1 : Nat)]) ∧ Below w.heap.size w w') ∧
      Hid (∀ w, Calls Try.prog 51 #[.string ⟨#[45]⟩, .int .i64 s, .int .i64 b] w fun e w' => e = .returned (.tuple #[.int .i64 d, .int .i64 (e2 : Nat)]) ∧ Below w.heap.size w w') ∧ ((e1 = 0 ∧ e2 = 0 ∧ d = a) ∨ (e1 = 19 ∧ s = 0)) := by
    by_cases hf : fits (a + b) = true
    · refine ⟨a + b, 0, a, 0, plus_at (int_in (k := 0) ha hb (by omega) rfl rfl hf).1 (int_in (k := 0) ha hb (by omega) rfl rfl hf).2, ?_, .inl ⟨rfl, rfl, rfl⟩⟩
      have hd : opI 1 (a + b) b = a := by show a + b - b = a; omega
      exact minus_at (int_in (k := 1) hf hb (by omega) rfl hd ha).1 (int_in (k := 1) hf hb (by omega) rfl hd ha).2
    · have hf' : fits (a + b) = false := by simpa using hf
      exact ⟨0, 19, _, _, plus_at (int_out (k := 0) ha hb (by omega) rfl rfl hf').1 (int_out (k := 0) ha hb (by omega) rfl rfl hf').2, minus_at rfl rfl, .inr ⟨rfl, rfl⟩⟩
  by_cases h0 : b = 0
  · subst h0
    have HQ := Lib.hid (quo_at (int_zero (k := 3) ha (by omega) (by omega)).1 (int_zero (k := 3) ha (by omega) (by omega)).2)
    have HM := Lib.hid (mod_at (int_zero (k := 4) ha (by omega) (by omega)).1 (int_zero (k := 4) ha (by omega) (by omega)).2)
    clear ha hb
    rcases hsum with ⟨rfl, rfl, rfl⟩ | ⟨rfl, rfl⟩
    all_goals
      go_enter Try.func13, Try.ntmps13
      go_wp2_with fail
      refine (HA.out _).mono ?_
      rintro e w' ⟨rfl, rfl⟩
      go_wp2_with fail
      refine (HF.out _).mono ?_
      rintro e w' ⟨rfl, rfl⟩
      go_wp2_with fail
      refine (HS.out _).mono ?_
      rintro e w1 ⟨rfl, hb1⟩
      have HB1 := Lib.hid hb1
      clear hb1
      go_wp2_with fail
      refine (HD.out _).mono ?_
      rintro e w2 ⟨rfl, hb2⟩
      have HB2 := Lib.hid (below_then HB1.out hb2)
      clear hb2
      go_wp2_with fail
      refine (HQ.out _).mono ?_
      rintro e w3 ⟨rfl, hb3⟩
      have HB3 := Lib.hid (below_then HB2.out hb3)
      clear hb3
      go_wp2_with fail
      refine (HM.out _).mono ?_
      rintro e w4 ⟨rfl, hb4⟩
      have HB4 := Lib.hid (below_then HB3.out hb4)
      clear hb4
      go_wp2_with fail
      refine (awake_any _).mono ?_
      rintro e w9 ⟨rfl, hb9⟩
      have HB9 := Lib.hid (below_then HB4.out hb9)
      clear hb9
      go_wp2
      go_ret
      exact ⟨rfl, HB9.out⟩
  · have hz : (b == 0) = false := by rw [beq_eq_false_iff_ne]; exact h0
    have hd : ∀ k, (decide (3 ≤ k) && decide (b = 0)) = false := fun k => by rw [decide_eq_false h0, Bool.and_false]
    have hR := divR_fits (a := a) hb h0
    have HM := Lib.hid (mod_at (int_in (k := 4) ha hb (by omega) (hd 4) rfl hR).1 (int_in (k := 4) ha hb (by omega) (hd 4) rfl hR).2)
    by_cases hq : fits (divQ a b) = true
    · have HQ := Lib.hid (quo_at (int_in (k := 3) ha hb (by omega) (hd 3) rfl hq).1 (int_in (k := 3) ha hb (by omega) (hd 3) rfl hq).2)
      obtain ⟨l1, l2⟩ := div_left a h0
      have hs := div_sum a b
      obtain ⟨a1, a2⟩ := fits_yes ha
      obtain ⟨b1, b2⟩ := fits_yes hb
      rw [show opI 3 a b = divQ a b from rfl] at HQ
      rw [show opI 4 a b = divR a b from rfl] at HM
      generalize divQ a b = q at hs HQ
      generalize divR a b = r at hs HM l1 l2
      obtain ⟨p, hp⟩ : ∃ p, b * q = p := ⟨_, rfl⟩
      rw [hp] at hs
      have w1 : wrap64 p = p := wrap64_in (by omega) (by omega)
      have w2 : wrap64 (p + r) = a := by rw [hs]; exact wrap64_in (by omega) (by omega)
      rcases Int.lt_or_lt_of_ne h0 with hb0 | hb0
      · obtain ⟨r1, r2⟩ := l2 hb0
        have d1 : decide (0 < b) = false := by rw [decide_eq_false_iff_not]; omega
        have d2 : decide (b < 0) = true := by rw [decide_eq_true_eq]; omega
        have d3 : decide (r ≤ 0) = true := by rw [decide_eq_true_eq]; omega
        have d4 : decide (b < r) = true := by rw [decide_eq_true_eq]; omega
        clear ha hb hR hq hs l1 l2 h0 hd a1 a2 b1 b2 hb0 r1 r2
        rcases hsum with ⟨rfl, rfl, rfl⟩ | ⟨rfl, rfl⟩
        all_goals
          go_enter Try.func13, Try.ntmps13
          go_wp2_with fail
          refine (HA.out _).mono ?_
          rintro e w' ⟨rfl, rfl⟩
          go_wp2_with fail
          refine (HF.out _).mono ?_
          rintro e w' ⟨rfl, rfl⟩
          go_wp2_with fail
          refine (HS.out _).mono ?_
          rintro e w1 ⟨rfl, hb1⟩
          have HB1 := Lib.hid hb1
          clear hb1
          go_wp2_with fail
          refine (HD.out _).mono ?_
          rintro e w2 ⟨rfl, hb2⟩
          have HB2 := Lib.hid (below_then HB1.out hb2)
          clear hb2
          go_wp2_with fail
          refine (HQ.out _).mono ?_
          rintro e w3 ⟨rfl, hb3⟩
          have HB3 := Lib.hid (below_then HB2.out hb3)
          clear hb3
          go_wp2_with fail
          refine (HM.out _).mono ?_
          rintro e w4 ⟨rfl, hb4⟩
          have HB4 := Lib.hid (below_then HB3.out hb4)
          clear hb4
          go_wp2_with fail
          refine (awake_any _).mono ?_
          rintro e w9 ⟨rfl, hb9⟩
          have HB9 := Lib.hid (below_then HB4.out hb9)
          clear hb9
          go_wp2
          go_ret
          exact ⟨rfl, HB9.out⟩
      · obtain ⟨r1, r2⟩ := l1 hb0
        have d1 : decide (0 < b) = true := by rw [decide_eq_true_eq]; omega
        have d2 : decide (b < 0) = false := by rw [decide_eq_false_iff_not]; omega
        have d3 : decide (0 ≤ r) = true := by rw [decide_eq_true_eq]; omega
        have d4 : decide (r < b) = true := by rw [decide_eq_true_eq]; omega
        clear ha hb hR hq hs l1 l2 h0 hd a1 a2 b1 b2 hb0 r1 r2
        rcases hsum with ⟨rfl, rfl, rfl⟩ | ⟨rfl, rfl⟩
        all_goals
          go_enter Try.func13, Try.ntmps13
          go_wp2_with fail
          refine (HA.out _).mono ?_
          rintro e w' ⟨rfl, rfl⟩
          go_wp2_with fail
          refine (HF.out _).mono ?_
          rintro e w' ⟨rfl, rfl⟩
          go_wp2_with fail
          refine (HS.out _).mono ?_
          rintro e w1 ⟨rfl, hb1⟩
          have HB1 := Lib.hid hb1
          clear hb1
          go_wp2_with fail
          refine (HD.out _).mono ?_
          rintro e w2 ⟨rfl, hb2⟩
          have HB2 := Lib.hid (below_then HB1.out hb2)
          clear hb2
          go_wp2_with fail
          refine (HQ.out _).mono ?_
          rintro e w3 ⟨rfl, hb3⟩
          have HB3 := Lib.hid (below_then HB2.out hb3)
          clear hb3
          go_wp2_with fail
          refine (HM.out _).mono ?_
          rintro e w4 ⟨rfl, hb4⟩
          have HB4 := Lib.hid (below_then HB3.out hb4)
          clear hb4
          go_wp2_with fail
          refine (awake_any _).mono ?_
          rintro e w9 ⟨rfl, hb9⟩
          have HB9 := Lib.hid (below_then HB4.out hb9)
          clear hb9
          go_wp2
          go_ret
          exact ⟨rfl, HB9.out⟩
    · have hq' : fits (divQ a b) = false := by simpa using hq
      have HQ := Lib.hid (quo_at (int_out (k := 3) ha hb (by omega) (hd 3) rfl hq').1 (int_out (k := 3) ha hb (by omega) (hd 3) rfl hq').2)
      obtain ⟨rfl, rfl, hr⟩ := divQ_out ha h0 hq'
      rw [show opI 4 (-2147483648) (-1) = 0 from hr] at HM
      clear ha hb hR hq hq' hr h0 hd hz
      rcases hsum with ⟨rfl, rfl, rfl⟩ | ⟨rfl, rfl⟩
      all_goals
        go_enter Try.func13, Try.ntmps13
        go_wp2_with fail
        refine (HA.out _).mono ?_
        rintro e w' ⟨rfl, rfl⟩
        go_wp2_with fail
        refine (HF.out _).mono ?_
        rintro e w' ⟨rfl, rfl⟩
        go_wp2_with fail
        refine (HS.out _).mono ?_
        rintro e w1 ⟨rfl, hb1⟩
        have HB1 := Lib.hid hb1
        clear hb1
        go_wp2_with fail
        refine (HD.out _).mono ?_
        rintro e w2 ⟨rfl, hb2⟩
        have HB2 := Lib.hid (below_then HB1.out hb2)
        clear hb2
        go_wp2_with fail
        refine (HQ.out _).mono ?_
        rintro e w3 ⟨rfl, hb3⟩
        have HB3 := Lib.hid (below_then HB2.out hb3)
        clear hb3
        go_wp2_with fail
        refine (HM.out _).mono ?_
        rintro e w4 ⟨rfl, hb4⟩
        have HB4 := Lib.hid (below_then HB3.out hb4)
        clear hb4
        go_wp2_with fail
        refine (awake_any _).mono ?_
        rintro e w9 ⟨rfl, hb9⟩
        have HB9 := Lib.hid (below_then HB4.out hb9)
        clear hb9
        go_wp2
        go_ret
        exact ⟨rfl, HB9.out⟩

set_option maxHeartbeats 1000000 in
theorem vecQuotients_walk (a b : Int) (w : World) :
    Calls Try.prog 13 #[.int .i64 a, .int .i64 b] w fun e w' => e = .returned (.bool true) ∧ Below w.heap.size w w' := by
  by_cases ha : fits a = true
  · by_cases hb : fits b = true
    · exact quotients_fit a b w ha hb
    · have hb' : fits b = false := by simpa using hb
      have HA := Lib.hid (refFits_at ha)
      have HF := Lib.hid (refFits_at hb')
      have hbad : (fits a && fits b) = false := by rw [ha, hb']; rfl
      have HS := Lib.hid (plus_at (int_bad (k := 0) hbad).1 (int_bad (k := 0) hbad).2)
      clear ha hb hb' hbad
      go_enter Try.func13, Try.ntmps13
      go_wp2_with fail
      refine (HA.out _).mono ?_
      rintro e w' ⟨rfl, rfl⟩
      go_wp2_with fail
      refine (HF.out _).mono ?_
      rintro e w' ⟨rfl, rfl⟩
      go_wp2_with fail
      refine (HS.out _).mono ?_
      rintro e w1 ⟨rfl, hb1⟩
      have HB1 := Lib.hid hb1
      clear hb1
      go_wp2_with fail
      refine (awake_any _).mono ?_
      rintro e w9 ⟨rfl, hb9⟩
      have HB9 := Lib.hid (below_then HB1.out hb9)
      clear hb9
      go_wp2
      go_ret
      exact ⟨rfl, HB9.out⟩
  · have ha' : fits a = false := by simpa using ha
    have HA := Lib.hid (refFits_at ha')
    have hbad : (fits a && fits b) = false := by rw [ha']; rfl
    have HS := Lib.hid (plus_at (int_bad (k := 0) hbad).1 (int_bad (k := 0) hbad).2)
    clear ha ha' hbad
    go_enter Try.func13, Try.ntmps13
    go_wp2_with fail
    refine (HA.out _).mono ?_
    rintro e w' ⟨rfl, rfl⟩
    go_wp2_with fail
    refine (HS.out _).mono ?_
    rintro e w1 ⟨rfl, hb1⟩
    have HB1 := Lib.hid hb1
    clear hb1
    go_wp2_with fail
    refine (awake_any _).mono ?_
    rintro e w9 ⟨rfl, hb9⟩
    have HB9 := Lib.hid (below_then HB1.out hb9)
    clear hb9
    go_wp2
    go_ret
    exact ⟨rfl, HB9.out⟩

set_option maxRecDepth 100000 in
theorem vecQuotients_lifted (os : Os) (started : os.Started) (H : Type) (enc : TypeId × Value → H) :
    ReturnsInHanded {} Try.checked os 13 .any (Rows.vecQuotientsSpec.pre6 enc Try.prog Try.f13 [] false) (Rows.vecQuotientsSpec.post enc Try.prog Try.f13 false true false false) := by
  refine returnsInHanded_of_change_sized (C := Try.checked) own started (by kernel_rfl) Try.func13
    (ChangeSpec.witness6 (enc := enc) (C := Try.checked) false ⟨#[], #[.int .i64 0, .int .i64 0], []⟩ 8 (by kernel_rfl) (by kernel_rfl) (by kernel_rfl) (by kernel_rfl)) ?_
  intro W base args ds gs before hval0 hW _ hsz0 _
  have hval : ∀ (j : Nat) t v, Try.f13.params[j]? = some t → args[j]? = some v → Value.okWide Try.prog W .any base t v := hval0
  have hsz : (DataW.weightsEach Try.prog (Try.f13.params.toList ++ Rows.vecQuotientsSpec.plain.varTypes Try.prog) (ds ++ gs)).all (· ≤ reachBytes) = true := hsz0
  have hW' := hW
  obtain ⟨p, q, hA0, hV, rfl, hfz, hnd⟩ := hW
  have hA1 := hA0
  have hA : DataW.TrodAll enc Try.prog W 0 (fun _ => true) true Try.f13.params.toList args.toList ds p := hA0
  rw [Try.params13] at hA hval hsz
  obtain ⟨v0, v1, d0, d1, p0, p1, rfl, rfl, rfl, h0, h1⟩ := trodAll_two hA
  obtain ⟨rfl, rfl⟩ := trodVars_none hV
  obtain ⟨a, rfl, rfl, rfl, wa⟩ := open_int Try.underlying3 (hval 0 3 v0 rfl rfl) h0
  have ba := bounds_i64 wa
  obtain ⟨b, rfl, rfl, rfl, wb⟩ := open_int Try.underlying3 (hval 1 3 v1 rfl rfl) h1
  have bb := bounds_i64 wb

  clear hval0 hsz0
  simp only [List.append_nil] at hW' hA1
  refine (vecQuotients_walk a b W).mono fun e W' ⟨he, hb⟩ => ?_
  subst he
  exact ⟨_, rfl, law_post (by rw [Try.params13]; exact types_ok [3, 3] (by kernel_rfl)) (by kernel_rfl) rfl rfl hA1 hW' hb⟩

theorem vecQuotients_holds : Rows.VecQuotientsSaid :=
  OpenClaim.holds_of_wide 13 Try.f13 rfl rfl rfl rfl rfl rfl rfl ⟨rfl, rfl, rfl, rfl, rfl⟩ rfl rfl rfl rfl rfl (by kernel_rfl) Try.func13 (by kernel_rfl)
    (of_decide_eq_true (by kernel_rfl)) (by unfold Func.isWrapper; first | (rw [if_pos (by decide +kernel)]; kernel_rfl) | (rw [if_neg (by decide +kernel)]; exact ⟨rfl, rfl⟩))
    (fun os started H enc _ => vecQuotients_lifted os started H enc)
#print axioms vecQuotients_holds
end Go.Proofs.Ytkapephlfbabjaa
