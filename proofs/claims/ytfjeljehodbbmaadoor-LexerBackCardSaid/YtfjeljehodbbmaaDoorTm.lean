/- The laws' own long and copied; rows of tokens of the call's own; the argument of tokens, opened. -/
import Derived.Test.YtfjeljehodbbmaaDoorTl
import Derived.Maps.AppendAt
namespace Go.Proofs.YtfjeljehodbbmaaDoor
open Go.RowKit

set_option maxRecDepth 100000 in
set_option maxHeartbeats 2000000 in
theorem long_wide (s : ByteArray) (v : Value) (l : List TokA) (w : World) (hs : s.size ≤ 562949953421312) (hv : Tls w v l) :
    Calls Tryd.prog 12 #[.string s, v] w fun e w' => e = .returned (.bool (longB s l)) ∧ w = w' := by
  obtain ⟨A, c, rfl, hq, hn, hc⟩ := hv
  go_enter Tryd.func12, Tryd.ntmps12
  go_wp2_with fail
  go_loop [5, 6] (fun a i => ∃ k n : Nat, k ≤ l.length ∧ k ≤ 200 ∧ i = .int .i64 k ∧ a = .int .i64 n ∧ n ≤ 562949953421312 + 5000 * k ∧ Hid (longN s l k = n)) (fun _ i => l.length - (intOf i).toNat)
  case atStart => exact ⟨0, s.size, Nat.zero_le _, by omega, rfl, rfl, by omega, by show _ = _; simp [longN]⟩
  case round =>
    obtain ⟨k, n, hk, hk2, rfl, rfl, hnb, hr⟩ := hrel
    by_cases hlt : k < l.length
    · have d1 : decide ((k : Int) < (l.length : Int)) = true := by rw [decide_eq_true_eq]; omega
      have d1' : decide (k < l.length) = true := by rw [decide_eq_true_eq]; omega
      by_cases h200 : k < 200
      · have d2 : decide ((k : Int) < 200) = true := by rw [decide_eq_true_eq]; omega
        have d2' : decide (k < 200) = true := by rw [decide_eq_true_eq]; omega
        rcases hc with rfl | ⟨b, off, rfl, hc⟩
        · exact absurd hlt (by simp)
        obtain ⟨_, g, _⟩ := hc k hlt
        have hS := longN_succ (s := s) hlt
        rw [hr.out] at hS
        obtain ⟨z, hz⟩ : ∃ z, z = l[k].text.size := ⟨_, rfl⟩
        obtain ⟨m, hm⟩ : ∃ m, m = min z 5000 := ⟨_, rfl⟩
        have hmz : min (z : Int) 5000 = (m : Int) := by omega
        have hm5 : m ≤ 5000 := by omega
        obtain ⟨n', hn'⟩ : ∃ n', n' = n + m := ⟨_, rfl⟩
        have hsum : (n : Int) + (m : Int) = (n' : Int) := by omega
        have HS : Hid (longN s l (k + 1) = n') := by show _ = _; rw [hS, ← hz, ← hm, hn']
        have hnb' : n' ≤ 562949953421312 + 5000 * (k + 1) := by omega
        have hzs : (l[k].text.size : Int) = (z : Int) := by rw [hz]
        generalize l[k].text = t at g hzs hz
        have m1 : decide ((z : Int) ≤ 5000) = decide (z ≤ 5000) := by apply decide_eq_decide.2; omega
        clear hc hS hr hn'
        by_cases hz5 : z ≤ 5000
        · have e1 : m = z := by omega
          subst e1
          clear hm hmz
          have q1 : (m : Int) ≤ 5000 := by omega
          clear m1 hz5
          go_wp2
          go_round
          case rel => exact ⟨k + 1, n', by omega, by omega, by go_num, rfl, hnb', HS⟩
          case measure => simp [intOf]; omega
        · have e1 : m = 5000 := by omega
          subst e1
          have q1 : ¬ (z : Int) ≤ 5000 := by omega
          have q2 : (5000 : Int) ≤ (z : Int) := by omega
          clear m1 hm
          go_wp2
          go_round
          case rel => exact ⟨k + 1, n', by omega, by omega, by go_num, by rw [show (n : Int) + 5000 = (n' : Int) by omega], hnb', HS⟩
          case measure => simp [intOf]; omega
      · have d2 : decide ((k : Int) < 200) = false := by rw [decide_eq_false_iff_not]; omega
        have d2' : decide (k < 200) = false := by rw [decide_eq_false_iff_not]; omega
        have hl2 : 200 < l.length ∨ l.length = 200 ∨ l.length < 200 := by omega
        have hk200 : k = 200 := by omega
        have HR : Hid (longB s l = (decide (3000 < n) || decide (200 < l.length))) := by
          show _ = _
          unfold longB
          rw [show min l.length 200 = k by omega, hr.out]
        have hd1 : decide ((200 : Int) < (l.length : Int)) = true := by rw [decide_eq_true_eq]; omega
        have hd2 : decide (200 < l.length) = true := by rw [decide_eq_true_eq]; omega
        clear hc hr hl2 hk200
        by_cases h3 : 3000 < n
        · have t1 : decide ((3000 : Int) < (n : Int)) = true := by rw [decide_eq_true_eq]; omega
          have t2 : decide (3000 < n) = true := by rw [decide_eq_true_eq]; omega
          clear h3
          go_wp2
          go_ret
          exact ⟨ret_bool (by rw [HR.out, t2]; rfl), rfl⟩
        · have t1 : decide ((3000 : Int) < (n : Int)) = false := by rw [decide_eq_false_iff_not]; omega
          have t2 : decide (3000 < n) = false := by rw [decide_eq_false_iff_not]; omega
          clear h3
          go_wp2
          go_ret
          exact ⟨ret_bool (by rw [HR.out, t2, hd2]; rfl), rfl⟩
    · have d1 : decide ((k : Int) < (l.length : Int)) = false := by rw [decide_eq_false_iff_not]; omega
      have d1' : decide (k < l.length) = false := by rw [decide_eq_false_iff_not]; omega
      have hkl : k = l.length := by omega
      have HR : Hid (longB s l = (decide (3000 < n) || decide (200 < l.length))) := by
        show _ = _
        unfold longB
        rw [show min l.length 200 = k by omega, hr.out]
      have hd1 : decide ((200 : Int) < (l.length : Int)) = false := by rw [decide_eq_false_iff_not]; omega
      have hd2 : decide (200 < l.length) = false := by rw [decide_eq_false_iff_not]; omega
      clear hc hr hkl
      by_cases h3 : 3000 < n
      · have t1 : decide ((3000 : Int) < (n : Int)) = true := by rw [decide_eq_true_eq]; omega
        have t2 : decide (3000 < n) = true := by rw [decide_eq_true_eq]; omega
        clear h3
        go_wp2
        go_ret
        exact ⟨ret_bool (by rw [HR.out, t2]; rfl), rfl⟩
      · have t1 : decide ((3000 : Int) < (n : Int)) = false := by rw [decide_eq_false_iff_not]; omega
        have t2 : decide (3000 < n) = false := by rw [decide_eq_false_iff_not]; omega
        clear h3
        go_wp2
        go_ret
        exact ⟨ret_bool (by rw [HR.out, t2, hd2]; rfl), rfl⟩
theorem long_any (s : ByteArray) (v : Value) (l : List TokA) (w : World) (hs : s.size ≤ 140737488355328) (hv : Tls w v l) :
    Calls Tryd.prog 12 #[.string s, v] w fun e w' => e = .returned (.bool (longB s l)) ∧ w = w' :=
  long_wide s v l w (by omega) hv
end Go.Proofs.YtfjeljehodbbmaaDoor
