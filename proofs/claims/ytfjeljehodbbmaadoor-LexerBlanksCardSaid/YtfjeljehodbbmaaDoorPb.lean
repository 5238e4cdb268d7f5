/- The contracts of the program's signLength, word, number, quoted and first. -/
import Derived.Test.YtfjeljehodbbmaaDoorTb
namespace Go.Proofs.YtfjeljehodbbmaaDoor
open Go.RowKit

theorem hd_byte {s : ByteArray} (h : 0 < s.size) : ∃ r, bl s = s[0] :: r := by
  have hl := bl_len s
  have hg := bl_get s 0 h
  cases hb : bl s with
  | nil => rw [hb] at hl; simp at hl; omega
  | cons a r =>
    refine ⟨r, ?_⟩
    simp only [hb] at hg
    rw [← hg]; rfl
theorem sgn_two {s : ByteArray} (h : twoL.contains ((bl s).take 2) = true) : sgnL (bl s) = 2 := if_pos h
theorem sgn_one {s : ByteArray} (h0 : 0 < s.size) (h : twoL.contains ((bl s).take 2) = false) (h' : oneL.contains (s[0]'h0) = true) : sgnL (bl s) = 1 := by
  obtain ⟨r, hr⟩ := hd_byte h0
  unfold sgnL
  rw [if_neg (by rw [h]; decide), hr, List.headD_cons, if_pos h']
theorem sgn_no {s : ByteArray} (h0 : 0 < s.size) (h : twoL.contains ((bl s).take 2) = false) (h' : oneL.contains (s[0]'h0) = false) : sgnL (bl s) = 0 := by
  obtain ⟨r, hr⟩ := hd_byte h0
  unfold sgnL
  rw [if_neg (by rw [h]; decide), hr, List.headD_cons, if_neg (by rw [h']; decide)]
theorem ext_two (s : ByteArray) : (s.extract 0 2).toList = (bl s).take 2 := by rw [bl_toList, bl_extract]; rfl
set_option maxHeartbeats 4000000 in
theorem signLength_any (s : ByteArray) (h0 : 0 < s.size) (hs : s.size ≤ 140737488355328) (w : World) :
    Calls Tryd.prog 52 #[.string s] w fun e w' => e = .returned (.int .i64 (sgnL (bl s) : Nat)) ∧ w = w' := by
  have HI := Lib.hid (fun w => index_any ⟨#[61, 60, 62, 43, 45, 42, 47, 38, 40, 41, 58, 59, 44]⟩ (s[0]'h0) w)
  by_cases h2 : 2 ≤ s.size
  · have d2 : decide ((2 : Int) ≤ (s.size : Int)) = true := by rw [decide_eq_true_eq]; omega
    have ex := ext_two s
    by_cases e0 : (bl s).take 2 = [58, 61]
    · have t0 : ((s.extract 0 2).toList == [58, 61]) = true := by rw [ex, e0]; rfl
      have HR := Lib.hid (sgn_two (s := s) (by rw [e0]; rfl))
      clear ex e0
      go_enter Tryd.func52, Tryd.ntmps52
      go_wp2
      go_ret
      exact ⟨ret_int (by rw [HR.out]; rfl), rfl⟩
    have t0 : ((s.extract 0 2).toList == [58, 61]) = false := by rw [ex, beq_eq_false_iff_ne]; exact e0
    by_cases e1 : (bl s).take 2 = [60, 61]
    · have t1 : ((s.extract 0 2).toList == [60, 61]) = true := by rw [ex, e1]; rfl
      have HR := Lib.hid (sgn_two (s := s) (by rw [e1]; rfl))
      clear ex e1
      go_enter Tryd.func52, Tryd.ntmps52
      go_wp2
      go_ret
      exact ⟨ret_int (by rw [HR.out]; rfl), rfl⟩
    have t1 : ((s.extract 0 2).toList == [60, 61]) = false := by rw [ex, beq_eq_false_iff_ne]; exact e1
    by_cases e2 : (bl s).take 2 = [61, 62]
    · have t2 : ((s.extract 0 2).toList == [61, 62]) = true := by rw [ex, e2]; rfl
      have HR := Lib.hid (sgn_two (s := s) (by rw [e2]; rfl))
      clear ex e2
      go_enter Tryd.func52, Tryd.ntmps52
      go_wp2
      go_ret
      exact ⟨ret_int (by rw [HR.out]; rfl), rfl⟩
    have t2 : ((s.extract 0 2).toList == [61, 62]) = false := by rw [ex, beq_eq_false_iff_ne]; exact e2
    by_cases e3 : (bl s).take 2 = [62, 61]
    · have t3 : ((s.extract 0 2).toList == [62, 61]) = true := by rw [ex, e3]; rfl
      have HR := Lib.hid (sgn_two (s := s) (by rw [e3]; rfl))
      clear ex e3
      go_enter Tryd.func52, Tryd.ntmps52
      go_wp2
      go_ret
      exact ⟨ret_int (by rw [HR.out]; rfl), rfl⟩
    have t3 : ((s.extract 0 2).toList == [62, 61]) = false := by rw [ex, beq_eq_false_iff_ne]; exact e3
    by_cases e4 : (bl s).take 2 = [47, 61]
    · have t4 : ((s.extract 0 2).toList == [47, 61]) = true := by rw [ex, e4]; rfl
      have HR := Lib.hid (sgn_two (s := s) (by rw [e4]; rfl))
      clear ex e4
      go_enter Tryd.func52, Tryd.ntmps52
      go_wp2
      go_ret
      exact ⟨ret_int (by rw [HR.out]; rfl), rfl⟩
    have t4 : ((s.extract 0 2).toList == [47, 61]) = false := by rw [ex, beq_eq_false_iff_ne]; exact e4
    have ht : twoL.contains ((bl s).take 2) = false := by
      cases hc : twoL.contains ((bl s).take 2) with
      | false => rfl
      | true =>
        have hm := List.contains_iff_mem.1 hc
        simp only [twoL, List.mem_cons, List.not_mem_nil, or_false] at hm
        rcases hm with h | h | h | h | h
        · exact absurd h e0
        · exact absurd h e1
        · exact absurd h e2
        · exact absurd h e3
        · exact absurd h e4
    clear ex e0 e1 e2 e3 e4
    rcases has_byte oneL (s[0]'h0) with ⟨g1, g2⟩ | ⟨n, g1, g2⟩
    · rw [show Lib.indexByte (bl ⟨#[61, 60, 62, 43, 45, 42, 47, 38, 40, 41, 58, 59, 44]⟩) (s[0]'h0) = -1 from g1] at HI
      have HR := Lib.hid (sgn_no h0 ht g2)
      clear g1 g2 ht
      go_enter Tryd.func52, Tryd.ntmps52
      go_wp2_with fail
      refine (HI.out _).mono ?_
      rintro e w' ⟨rfl, rfl⟩
      go_wp2
      go_ret
      exact ⟨ret_int (by rw [HR.out]; rfl), rfl⟩
    · rw [show Lib.indexByte (bl ⟨#[61, 60, 62, 43, 45, 42, 47, 38, 40, 41, 58, 59, 44]⟩) (s[0]'h0) = n from g1] at HI
      have HR := Lib.hid (sgn_one h0 ht g2)
      have d0 : decide ((0 : Int) ≤ (n : Int)) = true := by rw [decide_eq_true_eq]; omega
      clear g1 g2 ht
      go_enter Tryd.func52, Tryd.ntmps52
      go_wp2_with fail
      refine (HI.out _).mono ?_
      rintro e w' ⟨rfl, rfl⟩
      go_wp2
      go_ret
      exact ⟨ret_int (by rw [HR.out]; rfl), rfl⟩
  · have d2 : decide ((2 : Int) ≤ (s.size : Int)) = false := by rw [decide_eq_false_iff_not]; omega
    have ht : twoL.contains ((bl s).take 2) = false := by
      have hl := bl_len s
      cases hc : twoL.contains ((bl s).take 2) with
      | false => rfl
      | true =>
        have hm := List.contains_iff_mem.1 hc
        have h2' : ∀ x ∈ twoL, x.length = 2 := by decide
        have := h2' _ hm
        rw [List.length_take] at this
        omega
    clear h2
    rcases has_byte oneL (s[0]'h0) with ⟨g1, g2⟩ | ⟨n, g1, g2⟩
    · rw [show Lib.indexByte (bl ⟨#[61, 60, 62, 43, 45, 42, 47, 38, 40, 41, 58, 59, 44]⟩) (s[0]'h0) = -1 from g1] at HI
      have HR := Lib.hid (sgn_no h0 ht g2)
      clear g1 g2 ht
      go_enter Tryd.func52, Tryd.ntmps52
      go_wp2_with fail
      refine (HI.out _).mono ?_
      rintro e w' ⟨rfl, rfl⟩
      go_wp2
      go_ret
      exact ⟨ret_int (by rw [HR.out]; rfl), rfl⟩
    · rw [show Lib.indexByte (bl ⟨#[61, 60, 62, 43, 45, 42, 47, 38, 40, 41, 58, 59, 44]⟩) (s[0]'h0) = n from g1] at HI
      have HR := Lib.hid (sgn_one h0 ht g2)
      have d0 : decide ((0 : Int) ≤ (n : Int)) = true := by rw [decide_eq_true_eq]; omega
      clear g1 g2 ht
      go_enter Tryd.func52, Tryd.ntmps52
      go_wp2_with fail
      refine (HI.out _).mono ?_
      rintro e w' ⟨rfl, rfl⟩
      go_wp2
      go_ret
      exact ⟨ret_int (by rw [HR.out]; rfl), rfl⟩
set_option maxHeartbeats 2000000 in
theorem word_any (s : ByteArray) (hs : s.size ≤ 140737488355328) (o : Nat) (x : ByteArray) (n : Nat) (hr : (isWordL (bl s) = true ∧ o = 2 ∧ x = s ∧ n = s.size) ∨ (isWordL (bl s) = false ∧ isNameL (bl s) = true ∧ o = 1 ∧ x = s ∧ n = s.size) ∨ (isWordL (bl s) = false ∧ isNameL (bl s) = false ∧ o = 0 ∧ x = ⟨#[]⟩ ∧ n = 0)) (w : World) :
    Calls Tryd.prog 49 #[.string s] w fun e w' => e = .returned (.tuple #[.agg #[.int .i64 (o : Nat), .string x, .int .i64 0, .int .i64 0, .int .i64 0], .int .i64 (n : Nat)]) ∧ Below w.heap.size w w' := by
  have hW := fun w => isWord_any s w
  have hN := fun w => isName_any s hs w
  generalize isWordL (bl s) = b1 at *
  generalize isNameL (bl s) = b2 at *
  have HW := Lib.hid hW
  have HN := Lib.hid hN
  clear hW hN
  rcases hr with ⟨rfl, rfl, rfl, rfl⟩ | ⟨rfl, rfl, rfl, rfl, rfl⟩ | ⟨rfl, rfl, rfl, rfl, rfl⟩
  · go_enter Tryd.func49, Tryd.ntmps49
    go_wp2_with fail
    refine (HW.out _).mono ?_
    rintro e w' ⟨rfl, rfl⟩
    go_wp2
    go_returns
    exact ⟨rfl, by first | exact Below.refl _ _ | exact below_alloc _ _⟩
  all_goals
    go_enter Tryd.func49, Tryd.ntmps49
    go_wp2_with fail
    refine (HW.out _).mono ?_
    rintro e w' ⟨rfl, rfl⟩
    go_wp2_with fail
    refine (HN.out _).mono ?_
    rintro e w' ⟨rfl, rfl⟩
    go_wp2
    go_returns
    exact ⟨rfl, by first | exact Below.refl _ _ | exact below_alloc _ _⟩
set_option maxHeartbeats 4000000 in
theorem number_yes (s : ByteArray) (hs : s.size ≤ 140737488355328) (v : Nat) (hv : v ≤ 2147483647) (h : Lib.atoiAll (bl s) = .ok (v : Int)) (w : World) :
    Calls Tryd.prog 51 #[.string s] w fun e w' => e = .returned (.tuple #[.agg #[.int .i64 3, .string ⟨#[]⟩, .int .i64 (v : Nat), .int .i64 0, .int .i64 0], .int .i64 (s.size : Nat)]) ∧ Below w.heap.size w w' := by
  have HA := Lib.hid (fun w => atoi_good s hs _ h w)
  have d1 : decide ((2147483647 : Int) < (v : Int)) = false := by rw [decide_eq_false_iff_not]; omega
  clear h
  go_enter Tryd.func51, Tryd.ntmps51
  go_wp2_with fail
  refine (HA.out _).mono ?_
  rintro e w1 HH
  obtain ⟨he, hb⟩ := HH
  subst he
  obtain ⟨q0, q1, q2, q3, q4, qf, hBw⟩ := tok_cells hb
  obtain ⟨r0, r1, r2, r3, r4, hbs, hcs⟩ := tok_store q0 q1 q2 q3 q4 (.int .i64 3) (.string ⟨#[]⟩) (.int .i64 (v : Nat)) (.int .i64 0) (.int .i64 0)
  have HBf := Lib.hid (hBw.trans hbs)
  clear hbs hcs hBw hb
  go_wp2
  (try simp only [Exit.inBlock, Exit.then])
  refine bodyPost_ret (by simp [results, Tryd.results51, go_sem, r0, r1, r2, r3, r4]; try rfl) rfl ?_
  exact ⟨rfl, HBf.out⟩
set_option maxHeartbeats 4000000 in
theorem number_big (s : ByteArray) (hs : s.size ≤ 140737488355328) (v : Int) (hv : 2147483647 < v) (h : Lib.atoiAll (bl s) = .ok v) (w : World) :
    Calls Tryd.prog 51 #[.string s] w fun e w' => e = .returned (.tuple #[.agg #[.int .i64 0, .string ⟨#[]⟩, .int .i64 0, .int .i64 0, .int .i64 0], .int .i64 0]) ∧ Below w.heap.size w w' := by
  have HA := Lib.hid (fun w => atoi_good s hs _ h w)
  have d1 : decide ((2147483647 : Int) < v) = true := by rw [decide_eq_true_eq]; omega
  clear h
  go_enter Tryd.func51, Tryd.ntmps51
  go_wp2_with fail
  refine (HA.out _).mono ?_
  rintro e w1 HH
  obtain ⟨he, hb⟩ := HH
  subst he
  obtain ⟨q0, q1, q2, q3, q4, qf, hBw⟩ := tok_cells hb
  obtain ⟨r0, r1, r2, r3, r4, hbs, hcs⟩ := tok_store q0 q1 q2 q3 q4 (.int .i64 0) (.string ⟨#[]⟩) (.int .i64 0) (.int .i64 0) (.int .i64 0)
  have HBf := Lib.hid (hBw.trans hbs)
  clear hbs hcs hBw hb
  go_wp2
  (try simp only [Exit.inBlock, Exit.then])
  refine bodyPost_ret (by simp [results, Tryd.results51, go_sem, r0, r1, r2, r3, r4]; try rfl) rfl ?_
  exact ⟨rfl, HBf.out⟩
set_option maxHeartbeats 4000000 in
theorem number_no (s : ByteArray) (hs : s.size ≤ 140737488355328) (h : ∀ v, Lib.atoiAll (bl s) ≠ .ok v) (w : World) (hw : ∀ u, Below w.heap.size w u → Std u) :
    Calls Tryd.prog 51 #[.string s] w fun e w' => e = .returned (.tuple #[.agg #[.int .i64 0, .string ⟨#[]⟩, .int .i64 0, .int .i64 0, .int .i64 0], .int .i64 0]) ∧ Below w.heap.size w w' := by
  have HA := Lib.hid (fun u hu => atoi_bad s hs h u (hw u hu))
  clear h hw
  go_enter Tryd.func51, Tryd.ntmps51
  go_wp2_with fail
  refine (HA.out _ (below_alloc _ _)).mono ?_
  rintro e w1 HH
  obtain ⟨he, hb⟩ := HH
  obtain ⟨n, t, p, he⟩ := he
  subst he
  obtain ⟨q0, q1, q2, q3, q4, qf, hBw⟩ := tok_cells hb
  obtain ⟨r0, r1, r2, r3, r4, hbs, hcs⟩ := tok_store q0 q1 q2 q3 q4 (.int .i64 0) (.string ⟨#[]⟩) (.int .i64 0) (.int .i64 0) (.int .i64 0)
  have HBf := Lib.hid (hBw.trans hbs)
  clear hbs hcs hBw hb
  go_wp2
  (try simp only [Exit.inBlock, Exit.then])
  refine bodyPost_ret (by simp [results, Tryd.results51, go_sem, r0, r1, r2, r3, r4]; try rfl) rfl ?_
  exact ⟨rfl, HBf.out⟩
end Go.Proofs.YtfjeljehodbbmaaDoor
