/- The contracts of the reference's kinds of bytes, of and run. -/
import Derived.Test.YtfjeljehodbbmaaDoorRows
import Derived.Test.YtfjeljehodbbmaaDoorLx3
import Derived.WalkKit
import Derived.WalkSpells
import Derived.WalkLawsBesides
import Derived.Lib.Hide
namespace Go.Proofs.YtfjeljehodbbmaaDoor
open Go.RowKit

theorem ret_bool {a b : Bool} (h : a = b) : Ending.returned (.bool a) = .returned (.bool b) := by rw [h]
theorem ret_int {k : IntKind} {a b : Int} (h : a = b) : Ending.returned (.int k a) = .returned (.int k b) := by rw [h]
theorem letter_at (x : Nat) (w : World) :
    Calls Tryd.prog 36 #[.int .u8 x] w fun e w' => e = .returned (.bool (letN x)) ∧ w = w' := by
  unfold letN
  by_cases h0 : 97 ≤ x
  · have d0 : decide ((97 : Int) ≤ (x : Int)) = true := by rw [decide_eq_true_eq]; omega
    by_cases h1 : x ≤ 122
    · have d1 : decide ((x : Int) ≤ 122) = true := by rw [decide_eq_true_eq]; omega
      rw [decide_eq_true (by omega)]
      clear h0 h1
      go_enter Tryd.func36, Tryd.ntmps36
      go_wp2
      go_ret
      exact ⟨rfl, rfl⟩
    · have d1 : decide ((x : Int) ≤ 122) = false := by rw [decide_eq_false_iff_not]; omega
      by_cases h2 : 65 ≤ x
      · have d2 : decide ((65 : Int) ≤ (x : Int)) = true := by rw [decide_eq_true_eq]; omega
        by_cases h3 : x ≤ 90
        · have d3 : decide ((x : Int) ≤ 90) = true := by rw [decide_eq_true_eq]; omega
          rw [decide_eq_true (by omega)]
          clear h0 h1 h2 h3
          go_enter Tryd.func36, Tryd.ntmps36
          go_wp2
          go_ret
          exact ⟨rfl, rfl⟩
        · have d3 : decide ((x : Int) ≤ 90) = false := by rw [decide_eq_false_iff_not]; omega
          rw [decide_eq_false (by omega)]
          clear h0 h1 h2 h3
          go_enter Tryd.func36, Tryd.ntmps36
          go_wp2
          go_ret
          exact ⟨rfl, rfl⟩
      · have d2 : decide ((65 : Int) ≤ (x : Int)) = false := by rw [decide_eq_false_iff_not]; omega
        rw [decide_eq_false (by omega)]
        clear h0 h1 h2
        go_enter Tryd.func36, Tryd.ntmps36
        go_wp2
        go_ret
        exact ⟨rfl, rfl⟩
  · have d0 : decide ((97 : Int) ≤ (x : Int)) = false := by rw [decide_eq_false_iff_not]; omega
    by_cases h1 : 65 ≤ x
    · have d1 : decide ((65 : Int) ≤ (x : Int)) = true := by rw [decide_eq_true_eq]; omega
      by_cases h2 : x ≤ 90
      · have d2 : decide ((x : Int) ≤ 90) = true := by rw [decide_eq_true_eq]; omega
        rw [decide_eq_true (by omega)]
        clear h0 h1 h2
        go_enter Tryd.func36, Tryd.ntmps36
        go_wp2
        go_ret
        exact ⟨rfl, rfl⟩
      · have d2 : decide ((x : Int) ≤ 90) = false := by rw [decide_eq_false_iff_not]; omega
        rw [decide_eq_false (by omega)]
        clear h0 h1 h2
        go_enter Tryd.func36, Tryd.ntmps36
        go_wp2
        go_ret
        exact ⟨rfl, rfl⟩
    · have d1 : decide ((65 : Int) ≤ (x : Int)) = false := by rw [decide_eq_false_iff_not]; omega
      rw [decide_eq_false (by omega)]
      clear h0 h1
      go_enter Tryd.func36, Tryd.ntmps36
      go_wp2
      go_ret
      exact ⟨rfl, rfl⟩
theorem digit_at (x : Nat) (w : World) :
    Calls Tryd.prog 68 #[.int .u8 x] w fun e w' => e = .returned (.bool (digN x)) ∧ w = w' := by
  unfold digN
  by_cases h0 : 48 ≤ x
  · have d0 : decide ((48 : Int) ≤ (x : Int)) = true := by rw [decide_eq_true_eq]; omega
    by_cases h1 : x ≤ 57
    · have d1 : decide ((x : Int) ≤ 57) = true := by rw [decide_eq_true_eq]; omega
      rw [decide_eq_true (by omega)]
      clear h0 h1
      go_enter Tryd.func68, Tryd.ntmps68
      go_wp2
      go_ret
      exact ⟨rfl, rfl⟩
    · have d1 : decide ((x : Int) ≤ 57) = false := by rw [decide_eq_false_iff_not]; omega
      rw [decide_eq_false (by omega)]
      clear h0 h1
      go_enter Tryd.func68, Tryd.ntmps68
      go_wp2
      go_ret
      exact ⟨rfl, rfl⟩
  · have d0 : decide ((48 : Int) ≤ (x : Int)) = false := by rw [decide_eq_false_iff_not]; omega
    rw [decide_eq_false (by omega)]
    clear h0
    go_enter Tryd.func68, Tryd.ntmps68
    go_wp2
    go_ret
    exact ⟨rfl, rfl⟩
theorem blank_at (x : Nat) (w : World) :
    Calls Tryd.prog 66 #[.int .u8 x] w fun e w' => e = .returned (.bool (blkN x)) ∧ w = w' := by
  unfold blkN
  by_cases h0 : x = 32
  · have d0 : ((x : Int) == 32) = true := by rw [beq_iff_eq]; omega
    rw [decide_eq_true (by omega)]
    clear h0
    go_enter Tryd.func66, Tryd.ntmps66
    go_wp2
    go_ret
    exact ⟨rfl, rfl⟩
  · have d0 : ((x : Int) == 32) = false := by rw [beq_eq_false_iff_ne]; omega
    by_cases h1 : x = 9
    · have d1 : ((x : Int) == 9) = true := by rw [beq_iff_eq]; omega
      rw [decide_eq_true (by omega)]
      clear h0 h1
      go_enter Tryd.func66, Tryd.ntmps66
      go_wp2
      go_ret
      exact ⟨rfl, rfl⟩
    · have d1 : ((x : Int) == 9) = false := by rw [beq_eq_false_iff_ne]; omega
      by_cases h2 : x = 13
      · have d2 : ((x : Int) == 13) = true := by rw [beq_iff_eq]; omega
        rw [decide_eq_true (by omega)]
        clear h0 h1 h2
        go_enter Tryd.func66, Tryd.ntmps66
        go_wp2
        go_ret
        exact ⟨rfl, rfl⟩
      · have d2 : ((x : Int) == 13) = false := by rw [beq_eq_false_iff_ne]; omega
        by_cases h3 : x = 10
        · have d3 : ((x : Int) == 10) = true := by rw [beq_iff_eq]; omega
          rw [decide_eq_true (by omega)]
          clear h0 h1 h2 h3
          go_enter Tryd.func66, Tryd.ntmps66
          go_wp2
          go_ret
          exact ⟨rfl, rfl⟩
        · have d3 : ((x : Int) == 10) = false := by rw [beq_eq_false_iff_ne]; omega
          rw [decide_eq_false (by omega)]
          clear h0 h1 h2 h3
          go_enter Tryd.func66, Tryd.ntmps66
          go_wp2
          go_ret
          exact ⟨rfl, rfl⟩
theorem bit_at (x : Nat) (w : World) :
    Calls Tryd.prog 40 #[.int .u8 x] w fun e w' => e = .returned (.bool (bitN x)) ∧ w = w' := by
  unfold bitN
  by_cases h0 : x = 48
  · have d0 : ((x : Int) == 48) = true := by rw [beq_iff_eq]; omega
    rw [decide_eq_true (by omega)]
    clear h0
    go_enter Tryd.func40, Tryd.ntmps40
    go_wp2
    go_ret
    exact ⟨rfl, rfl⟩
  · have d0 : ((x : Int) == 48) = false := by rw [beq_eq_false_iff_ne]; omega
    by_cases h1 : x = 49
    · have d1 : ((x : Int) == 49) = true := by rw [beq_iff_eq]; omega
      rw [decide_eq_true (by omega)]
      clear h0 h1
      go_enter Tryd.func40, Tryd.ntmps40
      go_wp2
      go_ret
      exact ⟨rfl, rfl⟩
    · have d1 : ((x : Int) == 49) = false := by rw [beq_eq_false_iff_ne]; omega
      by_cases h2 : x = 120
      · have d2 : ((x : Int) == 120) = true := by rw [beq_iff_eq]; omega
        rw [decide_eq_true (by omega)]
        clear h0 h1 h2
        go_enter Tryd.func40, Tryd.ntmps40
        go_wp2
        go_ret
        exact ⟨rfl, rfl⟩
      · have d2 : ((x : Int) == 120) = false := by rw [beq_eq_false_iff_ne]; omega
        by_cases h3 : x = 122
        · have d3 : ((x : Int) == 122) = true := by rw [beq_iff_eq]; omega
          rw [decide_eq_true (by omega)]
          clear h0 h1 h2 h3
          go_enter Tryd.func40, Tryd.ntmps40
          go_wp2
          go_ret
          exact ⟨rfl, rfl⟩
        · have d3 : ((x : Int) == 122) = false := by rw [beq_eq_false_iff_ne]; omega
          rw [decide_eq_false (by omega)]
          clear h0 h1 h2 h3
          go_enter Tryd.func40, Tryd.ntmps40
          go_wp2
          go_ret
          exact ⟨rfl, rfl⟩
theorem plain_at (x : Nat) (w : World) :
    Calls Tryd.prog 74 #[.int .u8 x] w fun e w' => e = .returned (.bool (plnN x)) ∧ w = w' := by
  unfold plnN
  by_cases h0 : 32 ≤ x
  · have d0 : decide ((32 : Int) ≤ (x : Int)) = true := by rw [decide_eq_true_eq]; omega
    by_cases h1 : x ≤ 126
    · have d1 : decide ((x : Int) ≤ 126) = true := by rw [decide_eq_true_eq]; omega
      by_cases h2 : x ≠ 34
      · have d2 : ((x : Int) != 34) = true := by rw [bne_iff_ne]; omega
        rw [decide_eq_true (by omega)]
        clear h0 h1 h2
        go_enter Tryd.func74, Tryd.ntmps74
        go_wp2
        go_ret
        exact ⟨rfl, rfl⟩
      · have d2 : ((x : Int) != 34) = false := by rw [bne_eq_false_iff_eq]; omega
        rw [decide_eq_false (by omega)]
        clear h0 h1 h2
        go_enter Tryd.func74, Tryd.ntmps74
        go_wp2
        go_ret
        exact ⟨rfl, rfl⟩
    · have d1 : decide ((x : Int) ≤ 126) = false := by rw [decide_eq_false_iff_not]; omega
      rw [decide_eq_false (by omega)]
      clear h0 h1
      go_enter Tryd.func74, Tryd.ntmps74
      go_wp2
      go_ret
      exact ⟨rfl, rfl⟩
  · have d0 : decide ((32 : Int) ≤ (x : Int)) = false := by rw [decide_eq_false_iff_not]; omega
    rw [decide_eq_false (by omega)]
    clear h0
    go_enter Tryd.func74, Tryd.ntmps74
    go_wp2
    go_ret
    exact ⟨rfl, rfl⟩
theorem inner_at (x : Nat) (w : World) :
    Calls Tryd.prog 73 #[.int .u8 x] w fun e w' => e = .returned (.bool (innN x)) ∧ w = w' := by
  have HL := Lib.hid (letter_at x)
  have HD := Lib.hid (digit_at x)
  have key : innN x = (letN x || (digN x || decide (x = 95))) := by
    unfold innN letN digN
    rw [← Bool.decide_or, ← Bool.decide_or]
  rw [key]
  cases hl : letN x
  · cases hd : digN x
    · rw [hl] at HL
      rw [hd] at HD
      by_cases h : x = 95
      · have d1 : ((x : Int) == 95) = true := by rw [beq_iff_eq]; omega
        rw [decide_eq_true h]
        clear h hl hd key
        go_enter Tryd.func73, Tryd.ntmps73
        go_wp2_with fail
        refine (HL.out _).mono ?_
        rintro e w' ⟨rfl, rfl⟩
        go_wp2_with fail
        refine (HD.out _).mono ?_
        rintro e w' ⟨rfl, rfl⟩
        go_wp2
        go_ret
        exact ⟨rfl, rfl⟩
      · have d1 : ((x : Int) == 95) = false := by rw [beq_eq_false_iff_ne]; omega
        rw [decide_eq_false h]
        clear h hl hd key
        go_enter Tryd.func73, Tryd.ntmps73
        go_wp2_with fail
        refine (HL.out _).mono ?_
        rintro e w' ⟨rfl, rfl⟩
        go_wp2_with fail
        refine (HD.out _).mono ?_
        rintro e w' ⟨rfl, rfl⟩
        go_wp2
        go_ret
        exact ⟨rfl, rfl⟩
    · rw [hl] at HL
      rw [hd] at HD
      clear hl hd key
      go_enter Tryd.func73, Tryd.ntmps73
      go_wp2_with fail
      refine (HL.out _).mono ?_
      rintro e w' ⟨rfl, rfl⟩
      go_wp2_with fail
      refine (HD.out _).mono ?_
      rintro e w' ⟨rfl, rfl⟩
      go_wp2
      go_ret
      exact ⟨rfl, rfl⟩
  · rw [hl] at HL
    clear hl key HD
    go_enter Tryd.func73, Tryd.ntmps73
    go_wp2_with fail
    refine (HL.out _).mono ?_
    rintro e w' ⟨rfl, rfl⟩
    go_wp2
    go_ret
    exact ⟨rfl, rfl⟩
/-- The kinds by their numbers. -/
def kindN (k : Nat) (x : Nat) : Bool := if k = 0 then digN x else if k = 1 then innN x else if k = 2 then bitN x else if k = 3 then plnN x else decide (x ≠ 10)
theorem of_at (x k : Nat) (hk : k ≤ 4) (w : World) :
    Calls Tryd.prog 60 #[.int .u8 x, .int .i64 k] w fun e w' => e = .returned (.bool (kindN k x)) ∧ w = w' := by
  obtain rfl | rfl | rfl | rfl | rfl : k = 0 ∨ k = 1 ∨ k = 2 ∨ k = 3 ∨ k = 4 := by omega
  case inr.inr.inr.inr =>
    show Calls Tryd.prog 60 #[.int .u8 x, .int .i64 ((4 : Nat) : Int)] w fun e w' => e = .returned (.bool (decide (x ≠ 10))) ∧ w = w'
    by_cases h : x = 10
    · have d1 : ((x : Int) != 10) = false := by rw [bne_eq_false_iff_eq]; omega
      rw [decide_eq_false (by omega)]
      clear h
      go_enter Tryd.func60, Tryd.ntmps60
      go_wp2
      go_ret
      exact ⟨rfl, rfl⟩
    · have d1 : ((x : Int) != 10) = true := by rw [bne_iff_ne]; omega
      rw [decide_eq_true h]
      clear h
      go_enter Tryd.func60, Tryd.ntmps60
      go_wp2
      go_ret
      exact ⟨rfl, rfl⟩
  all_goals
    go_enter Tryd.func60, Tryd.ntmps60
    go_wp2_with fail
    first
      | refine (digit_at x _).mono ?_
      | refine (inner_at x _).mono ?_
      | refine (bit_at x _).mono ?_
      | refine (plain_at x _).mono ?_
    rintro e w' ⟨rfl, rfl⟩
    go_wp2
    go_ret
    exact ⟨rfl, rfl⟩

/-- The bytes of a string. -/
def bl (s : ByteArray) : List UInt8 := s.data.toList
theorem bl_len (s : ByteArray) : (bl s).length = s.size := by unfold bl; simp
theorem bl_get (s : ByteArray) (k : Nat) (h : k < s.size) : (bl s)[k]'(by rw [bl_len]; exact h) = s[k] := by unfold bl; simp; rfl
/-- How many bytes are of a kind from a place on. -/
def runN (k : Nat) (l : List UInt8) : Nat := (l.takeWhile fun c => kindN k c.toNat).length
theorem run_stop {k : Nat} {l : List UInt8} {i n : Nat} (h : i + n ≤ l.length) (hn : ((l.drop i).take n).all (fun c => kindN k c.toNat) = true) (hk : ∀ (h : i + n < l.length), kindN k (l[i + n]).toNat = false) : runN k (l.drop i) = n := by
  have e : l.drop i = (l.drop i).take n ++ l.drop (i + n) := by rw [← List.drop_drop]; exact (List.take_append_drop n _).symm
  have := (tw_stop (p := fun c => kindN k c.toNat) (x := (l.drop i).take n) (z := l.drop (i + n)) hn (by
    intro c hc
    by_cases hlt : i + n < l.length
    · rw [List.drop_eq_getElem_cons hlt] at hc
      injection hc with hc
      rw [← hc]
      exact hk hlt
    · rw [List.drop_of_length_le (by omega)] at hc
      cases hc)).1
  unfold runN
  rw [← e] at this
  rw [this, List.length_take, List.length_drop]
  omega
theorem run_more {k : Nat} {l : List UInt8} {i n : Nat} (h : i + n < l.length) (hn : ((l.drop i).take n).all (fun c => kindN k c.toNat) = true) (hk : kindN k (l[i + n]).toNat = true) : ((l.drop i).take (n + 1)).all (fun c => kindN k c.toNat) = true := by
  rw [List.take_succ_eq_append_getElem (by rw [List.length_drop]; omega), List.getElem_drop, List.all_append, hn, List.all_cons, hk]
  rfl
set_option maxHeartbeats 1000000 in
theorem run_any (s : ByteArray) (i k : Nat) (hs : s.size ≤ 140737488355328) (hi : i ≤ s.size) (hk : k ≤ 4) (w : World) :
    Calls Tryd.prog 37 #[.string s, .int .i64 i, .int .i64 k] w fun e w' => e = .returned (.int .i64 (runN k ((bl s).drop i) : Nat)) ∧ w = w' := by
  go_enter Tryd.func37, Tryd.ntmps37
  go_wp2_with fail
  go_loop [7] (fun v => ∃ n : Nat, i + n ≤ s.size ∧ v = .int .i64 n ∧ Hid ((((bl s).drop i).take n).all (fun c => kindN k c.toNat) = true)) (fun v => s.size - (intOf v).toNat)
  case atStart => exact ⟨0, hi, rfl, by show _ = _; rw [List.take_zero]; rfl⟩
  case round =>
    obtain ⟨n, hn, rfl, hr⟩ := hrel
    obtain ⟨j, hj⟩ : ∃ j, j = i + n := ⟨_, rfl⟩
    have hsum : (i : Int) + (n : Int) = (j : Int) := by omega
    by_cases hlt : j < s.size
    · have hd : decide ((j : Int) < (s.size : Int)) = true := by rw [decide_eq_true_eq]; omega
      have hd2 : decide (j < s.size) = true := by rw [decide_eq_true_eq]; omega
      obtain ⟨b, hb⟩ : ∃ b, kindN k (s[j]).toNat = b := ⟨_, rfl⟩
      have HO := Lib.hid (of_at (s[j]).toNat k hk)
      rw [hb] at HO
      have HR : Hid (if b then (((bl s).drop i).take (n + 1)).all (fun c => kindN k c.toNat) = true else runN k ((bl s).drop i) = n) := by
        subst hj
        cases b
        · exact run_stop (by rw [bl_len]; omega) hr.out (fun h => by rw [bl_get s (i + n) hlt]; exact hb)
        · exact run_more (by rw [bl_len]; omega) hr.out (by rw [bl_get s (i + n) hlt]; exact hb)
      clear hb hr hj
      cases b
      · go_wp2_with fail
        refine (HO.out _).mono ?_
        rintro e w' ⟨rfl, rfl⟩
        go_wp2
        go_ret
        exact ⟨ret_int (by rw [HR.out]), rfl⟩
      · go_wp2_with fail
        refine (HO.out _).mono ?_
        rintro e w' ⟨rfl, rfl⟩
        go_wp2
        go_round
        case rel => exact ⟨n + 1, by omega, by go_num, HR⟩
        case measure => simp [intOf]; omega
    · have HR : Hid (runN k ((bl s).drop i) = n) := run_stop (by rw [bl_len]; omega) hr.out (fun h => absurd h (by rw [bl_len]; omega))
      have hd : decide ((j : Int) < (s.size : Int)) = false := by rw [decide_eq_false_iff_not]; omega
      have hd2 : decide (j < s.size) = false := by rw [decide_eq_false_iff_not]; omega
      clear hr hj
      go_wp2
      go_ret
      exact ⟨ret_int (by rw [HR.out]), rfl⟩
end Go.Proofs.YtfjeljehodbbmaaDoor
