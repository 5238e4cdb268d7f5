/- The contracts of the reference's Next and Place. -/
import Derived.Test.YtfjeljehodbbmaaDoorTa
import Derived.Test.YtfjeljehodbbmaaDoorLx5
namespace Go.Proofs.YtfjeljehodbbmaaDoor
open Go.RowKit

def nlB (c : UInt8) : Bool := kindN 4 c.toNat
theorem nl_ten {c : UInt8} : nlB c = decide (c ≠ 10) := by
  unfold nlB
  show decide (c.toNat ≠ 10) = _
  apply decide_eq_decide.2
  exact not_congr (u8_lit (n := 10) (by omega)).symm
theorem skip_line (l : List UInt8) : skipM true l = skipL (l.dropWhile nlB) := by
  induction l with
  | nil => rfl
  | cons c r ih =>
    rw [skipM, List.dropWhile_cons, nl_ten]
    by_cases h : c = 10
    · rw [if_pos h, if_neg (by simpa using h)]
      subst h
      exact (skip_blank (by decide) r).symm
    · rw [if_neg h, if_pos (by simpa using h)]
      exact ih
/-- The place of what is behind blanks and comments. -/
def nextN (s : ByteArray) (i : Nat) : Nat := s.size - (skipL ((bl s).drop i)).length
theorem next_end {s : ByteArray} {i k : Nat} (hk : k ≤ s.size) (h : skipL ((bl s).drop i) = (bl s).drop k) : nextN s i = k := by
  unfold nextN
  rw [h, List.length_drop, bl_len]
  omega
theorem skip_step {s : ByteArray} {k : Nat} (h : k < s.size) (hb : blkB (s[k]'h) = true) : skipL ((bl s).drop k) = skipL ((bl s).drop (k + 1)) := by
  rw [drop_at h]; exact skip_blank hb _
theorem skip_com {s : ByteArray} {k : Nat} (h : k < s.size) (h1 : k + 1 < s.size) (hx : s[k]'h = 45) (hy : s[k + 1]'h1 = 45) : skipL ((bl s).drop k) = skipL ((bl s).drop (k + runN 4 ((bl s).drop k))) ∧ 1 ≤ runN 4 ((bl s).drop k) := by
  have e1 : (bl s).drop (k + runN 4 ((bl s).drop k)) = ((bl s).drop k).dropWhile nlB := by
    rw [drop_tw, List.drop_drop]; rfl
  have e2 : runN 4 ((bl s).drop k) = (((bl s).drop k).takeWhile nlB).length := rfl
  rw [e1, e2, drop_at h, hx]
  have hd : ((bl s).drop (k + 1)).head? = some 45 := by rw [head_drop, dif_pos h1, hy]
  refine ⟨?_, ?_⟩
  · rw [show skipL (45 :: (bl s).drop (k + 1)) = skipM true ((bl s).drop (k + 1)) by unfold skipL; rw [skipM, if_neg (by decide), if_pos ⟨rfl, hd⟩]]
    rw [skip_line, List.dropWhile_cons, if_pos (by decide)]
  · rw [tw_cons (by decide)]
    simp
theorem skip_here {s : ByteArray} {k : Nat} (h : k < s.size) (hb : blkB (s[k]'h) = false) (hc : ¬ (s[k]'h = 45 ∧ ((bl s).drop (k + 1)).head? = some 45)) : skipL ((bl s).drop k) = (bl s).drop k := by
  rw [drop_at h]
  unfold skipL
  rw [skipM, if_neg (by rw [hb]; decide), if_neg hc]
set_option maxHeartbeats 2000000 in
theorem next_any (s : ByteArray) (i : Nat) (hs : s.size ≤ 140737488355328) (hi : i ≤ s.size) (w : World) :
    Calls Tryd.prog 53 #[.string s, .int .i64 i] w fun e w' => e = .returned (.int .i64 (nextN s i : Nat)) ∧ w = w' := by
  go_enter Tryd.func53, Tryd.ntmps53
  go_wp2_with fail
  go_loop [1] (fun v => ∃ k : Nat, k ≤ s.size ∧ v = .int .i64 k ∧ Hid (skipL ((bl s).drop k) = skipL ((bl s).drop i))) (fun v => s.size - (intOf v).toNat)
  case atStart => exact ⟨i, hi, rfl, rfl⟩
  case round =>
    obtain ⟨k, hk, rfl, hr⟩ := hrel
    by_cases hlt : k < s.size
    · obtain ⟨b, hb⟩ : ∃ b, blkB (s[k]'hlt) = b := ⟨_, rfl⟩
      have HB := Lib.hid (blank_at (s[k]'hlt).toNat)
      rw [show blkN (s[k]'hlt).toNat = b from hb] at HB
      obtain ⟨k1, hk1⟩ : ∃ k1, k1 = k + 1 := ⟨_, rfl⟩
      have hkk : (k : Int) + 1 = (k1 : Int) := by omega
      cases b with
      | true =>
        have HR : Hid (skipL ((bl s).drop k1) = skipL ((bl s).drop i)) := by
          show _ = _
          rw [hk1, ← skip_step hlt hb]; exact hr.out
        clear hb hr hk1
        go_wp2_with fail
        refine (HB.out _).mono ?_
        rintro e w' ⟨rfl, rfl⟩
        go_wp2
        go_round
        case rel => exact ⟨k1, by omega, rfl, HR⟩
        case measure => simp [intOf]; omega
      | false =>
        by_cases hx : s[k]'hlt = 45
        · have t1 : (((s[k]'hlt).toNat : Int) == 45) = true := u8_eq (n := 45) (by omega) hx
          by_cases h1 : k1 < s.size
          · have d1 : decide ((k1 : Int) < (s.size : Int)) = true := by rw [decide_eq_true_eq]; omega
            have d2 : decide (k1 < s.size) = true := by rw [decide_eq_true_eq]; omega
            by_cases hy : s[k1]'h1 = 45
            · have t2 : (((s[k1]'h1).toNat : Int) == 45) = true := u8_eq (n := 45) (by omega) hy
              obtain ⟨e1, e2⟩ := skip_com hlt (by omega) hx (by subst hk1; exact hy)
              have HRn : Hid (∀ w, Calls Tryd.prog 37 #[.string s, .int .i64 k, .int .i64 4] w fun e w' => e = .returned (.int .i64 (runN 4 ((bl s).drop k) : Nat)) ∧ w = w') := fun w => run_any s k 4 hs (by omega) (by omega) w
              have hrl := run_le 4 ((bl s).drop k)
              rw [List.length_drop, bl_len] at hrl
              generalize runN 4 ((bl s).drop k) = n at *
              obtain ⟨k2, hk2⟩ : ∃ k2, k2 = k + n := ⟨_, rfl⟩
              have hkn : (k : Int) + (n : Int) = (k2 : Int) := by omega
              have HR : Hid (skipL ((bl s).drop k2) = skipL ((bl s).drop i)) := by
                show _ = _
                rw [hk2, ← e1]; exact hr.out
              clear hb hr e1 hx hy hk1 hk2
              go_wp2_with fail
              refine (HB.out _).mono ?_
              rintro e w' ⟨rfl, rfl⟩
              go_wp2_with fail
              refine (HRn.out _).mono ?_
              rintro e w' ⟨rfl, rfl⟩
              go_wp2
              go_round
              case rel => exact ⟨k2, by omega, rfl, HR⟩
              case measure => simp [intOf]; omega
            · have t2 : (((s[k1]'h1).toNat : Int) == 45) = false := u8_ne (n := 45) (by omega) hy
              have hn := skip_here hlt hb (by
                rintro ⟨_, h⟩
                rw [head_drop, dif_pos (by omega)] at h
                injection h with h
                subst hk1
                exact hy h)
              have HR := Lib.hid (next_end (i := i) hk (hr.out.symm.trans hn))
              clear hb hr hn hx hy hk1
              go_wp2_with fail
              refine (HB.out _).mono ?_
              rintro e w' ⟨rfl, rfl⟩
              go_wp2
              go_ret
              exact ⟨ret_int (by rw [HR.out]), rfl⟩
          · have d1 : decide ((k1 : Int) < (s.size : Int)) = false := by rw [decide_eq_false_iff_not]; omega
            have d2 : decide (k1 < s.size) = false := by rw [decide_eq_false_iff_not]; omega
            have hn := skip_here hlt hb (by
              rintro ⟨_, h⟩
              rw [head_drop, dif_neg (by omega)] at h
              cases h)
            have HR := Lib.hid (next_end (i := i) hk (hr.out.symm.trans hn))
            clear hb hr hn hx h1 hk1
            go_wp2_with fail
            refine (HB.out _).mono ?_
            rintro e w' ⟨rfl, rfl⟩
            go_wp2
            go_ret
            exact ⟨ret_int (by rw [HR.out]), rfl⟩
        · have t1 : (((s[k]'hlt).toNat : Int) == 45) = false := u8_ne (n := 45) (by omega) hx
          have hn := skip_here hlt hb (fun h => hx h.1)
          have HR := Lib.hid (next_end (i := i) hk (hr.out.symm.trans hn))
          clear hb hr hn hx hk1 hkk
          go_wp2_with fail
          refine (HB.out _).mono ?_
          rintro e w' ⟨rfl, rfl⟩
          go_wp2
          go_ret
          exact ⟨ret_int (by rw [HR.out]), rfl⟩
    · have HR : Hid (nextN s i = k) := next_end hk (by
        rw [← hr.out, List.drop_of_length_le (by rw [bl_len]; omega)]; rfl)
      clear hr
      go_wp2
      go_ret
      exact ⟨ret_int (by rw [HR.out]), rfl⟩

set_option maxHeartbeats 1000000 in
theorem place_any (s : ByteArray) (i : Nat) (hs : s.size ≤ 140737488355328) (hi : i ≤ s.size) (w : World) :
    Calls Tryd.prog 55 #[.string s, .int .i64 i] w fun e w' => e = .returned (.tuple #[.int .i64 ((placeL ((bl s).take i)).1 : Nat), .int .i64 ((placeL ((bl s).take i)).2 : Nat)]) ∧ w = w' := by
  go_enter Tryd.func55, Tryd.ntmps55
  go_wp2_with fail
  go_loop [6, 7, 10] (fun a b v => ∃ k x y : Nat, k ≤ i ∧ v = .int .i64 k ∧ a = .int .i64 x ∧ b = .int .i64 y ∧ x ≤ k + 1 ∧ y ≤ k + 1 ∧ Hid (placeL ((bl s).take k) = (x, y))) (fun _ _ v => i - (intOf v).toNat)
  case atStart => exact ⟨0, 1, 1, Nat.zero_le _, rfl, rfl, rfl, by omega, by omega, rfl⟩
  case round =>
    obtain ⟨k, x, y, hk, rfl, rfl, rfl, hx, hy, hr⟩ := hrel
    by_cases hlt : k < i
    · have hks : k < s.size := by omega
      have hp := place_snoc ((bl s).take k) (s[k]'hks)
      have ht : (bl s).take (k + 1) = (bl s).take k ++ [s[k]'hks] := by rw [List.take_succ_eq_append_getElem (by rw [bl_len]; exact hks), bl_get s k hks]
      rw [← ht, hr.out] at hp
      clear ht
      by_cases h : s[k]'hks = 10
      · have t : (((s[k]'hks).toNat : Int) == 10) = true := u8_eq (n := 10) (by omega) h
        rw [if_pos h] at hp
        have HR := Lib.hid hp
        clear hp hr h
        go_wp2
        go_round
        case rel => exact ⟨k + 1, x + 1, 1, by omega, by go_num, by go_num, rfl, by omega, by omega, HR⟩
        case measure => simp [intOf]; omega
      · have t : (((s[k]'hks).toNat : Int) == 10) = false := u8_ne (n := 10) (by omega) h
        rw [if_neg h] at hp
        have HR := Lib.hid hp
        clear hp hr h
        go_wp2
        go_round
        case rel => exact ⟨k + 1, x, y + 1, by omega, by go_num, rfl, by go_num, by omega, by omega, HR⟩
        case measure => simp [intOf]; omega
    · obtain rfl : k = i := by omega
      have HR : Hid (placeL ((bl s).take k) = (x, y)) := hr
      clear hr
      go_wp2
      go_ret2
      exact ⟨by rw [HR.out]; rfl, rfl⟩
end Go.Proofs.YtfjeljehodbbmaaDoor
