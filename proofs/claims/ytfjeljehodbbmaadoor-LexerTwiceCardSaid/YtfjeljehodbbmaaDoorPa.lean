/- The contracts of the program's isLetter, isDigit, wordLength, hasBits, isBit, isVector, isString and IsWord. -/
import Derived.Test.YtfjeljehodbbmaaDoorSd
namespace Go.Proofs.YtfjeljehodbbmaaDoor
open Go.RowKit

theorem isLetter_at (x : Nat) (w : World) :
    Calls Tryd.prog 34 #[.int .u8 x] w fun e w' => e = .returned (.bool (letN x)) ∧ w = w' := by
  unfold letN
  by_cases h0 : 97 ≤ x
  · have d0 : decide ((97 : Int) ≤ (x : Int)) = true := by rw [decide_eq_true_eq]; omega
    by_cases h1 : x ≤ 122
    · have d1 : decide ((x : Int) ≤ 122) = true := by rw [decide_eq_true_eq]; omega
      rw [decide_eq_true (by omega)]
      clear h0 h1
      go_enter Tryd.func34, Tryd.ntmps34
      go_wp2
      go_ret
      exact ⟨rfl, rfl⟩
    · have d1 : decide ((x : Int) ≤ 122) = false := by rw [decide_eq_false_iff_not]; omega
      have d2 : decide ((65 : Int) ≤ (x : Int)) = true := by rw [decide_eq_true_eq]; omega
      have d3 : decide ((x : Int) ≤ 90) = false := by rw [decide_eq_false_iff_not]; omega
      rw [decide_eq_false (by omega)]
      clear h0 h1
      go_enter Tryd.func34, Tryd.ntmps34
      go_wp2
      go_ret
      exact ⟨rfl, rfl⟩
  · have d0 : decide ((97 : Int) ≤ (x : Int)) = false := by rw [decide_eq_false_iff_not]; omega
    by_cases h1 : 65 ≤ x
    · have d1 : decide ((65 : Int) ≤ (x : Int)) = true := by rw [decide_eq_true_eq]; omega
      obtain ⟨b, hb⟩ : ∃ b, decide ((x : Int) ≤ 90) = b := ⟨_, rfl⟩
      have e : decide ((97 ≤ x ∧ x ≤ 122) ∨ (65 ≤ x ∧ x ≤ 90)) = b := by
        rw [← hb]; apply decide_eq_decide.2; omega
      rw [e]
      clear h0 h1 e
      go_enter Tryd.func34, Tryd.ntmps34
      go_wp2
      go_ret
      exact ⟨rfl, rfl⟩
    · have d1 : decide ((65 : Int) ≤ (x : Int)) = false := by rw [decide_eq_false_iff_not]; omega
      rw [decide_eq_false (by omega)]
      clear h0 h1
      go_enter Tryd.func34, Tryd.ntmps34
      go_wp2
      go_ret
      exact ⟨rfl, rfl⟩
theorem isDigit_at (x : Nat) (w : World) :
    Calls Tryd.prog 50 #[.int .u8 x] w fun e w' => e = .returned (.bool (digN x)) ∧ w = w' := by
  unfold digN
  by_cases h0 : 48 ≤ x
  · have d0 : decide ((48 : Int) ≤ (x : Int)) = true := by rw [decide_eq_true_eq]; omega
    obtain ⟨b, hb⟩ : ∃ b, decide ((x : Int) ≤ 57) = b := ⟨_, rfl⟩
    have e : decide (48 ≤ x ∧ x ≤ 57) = b := by
      rw [← hb]; apply decide_eq_decide.2; omega
    rw [e]
    clear h0 e
    go_enter Tryd.func50, Tryd.ntmps50
    go_wp2
    go_ret
    exact ⟨rfl, rfl⟩
  · have d0 : decide ((48 : Int) ≤ (x : Int)) = false := by rw [decide_eq_false_iff_not]; omega
    rw [decide_eq_false (by omega)]
    clear h0
    go_enter Tryd.func50, Tryd.ntmps50
    go_wp2
    go_ret
    exact ⟨rfl, rfl⟩
theorem inn_parts (x : Nat) : innN x = (letN x || (digN x || decide (x = 95))) := by
  unfold innN letN digN
  by_cases h1 : (97 ≤ x ∧ x ≤ 122) ∨ (65 ≤ x ∧ x ≤ 90)
  · rw [decide_eq_true h1, decide_eq_true (.inl h1)]; rfl
  · rw [decide_eq_false h1, Bool.false_or]
    by_cases h2 : 48 ≤ x ∧ x ≤ 57
    · rw [decide_eq_true h2, decide_eq_true (.inr (.inl h2))]; rfl
    · rw [decide_eq_false h2, Bool.false_or]
      apply decide_eq_decide.2
      exact ⟨fun h => by rcases h with h | h | h; exact absurd h h1; exact absurd h h2; exact h, fun h => .inr (.inr h)⟩
/-- How many bytes at the front can stand in a name. -/
def wlN (l : List UInt8) : Nat := (l.takeWhile innB).length
theorem wl_stop {l : List UInt8} {k : Nat} (h : k < l.length) (hk : (l.take k).all innB = true) (hx : innB l[k] = false) : wlN l = k := by
  unfold wlN
  have e : l = l.take k ++ l[k] :: l.drop (k + 1) := by rw [← List.drop_eq_getElem_cons h, List.take_append_drop]
  conv => lhs; rw [e]
  rw [(tw_stop' hk hx).1, List.length_take]
  omega
theorem all_more {p : UInt8 → Bool} {l : List UInt8} {k : Nat} (h : k < l.length) (hk : (l.take k).all p = true) (hx : p l[k] = true) : (l.take (k + 1)).all p = true := by
  rw [List.take_succ_eq_append_getElem h, List.all_append, hk]
  simp [hx]
theorem all_stop {p : UInt8 → Bool} {l : List UInt8} {k : Nat} (h : k < l.length) (hx : p l[k] = false) : l.all p = false := by
  rw [Bool.eq_false_iff]
  intro ha
  rw [List.all_eq_true.1 ha _ (List.getElem_mem h)] at hx
  cases hx
theorem all_end {p : UInt8 → Bool} {l : List UInt8} {k : Nat} (h : ¬ k < l.length) (hk : (l.take k).all p = true) : l.all p = true := by
  rwa [List.take_of_length_le (by omega)] at hk
theorem wl_end {l : List UInt8} (h : l.all innB = true) : wlN l = l.length := by
  have e := (tw_stop (z := []) h (fun c hc => by cases hc)).1
  rw [List.append_nil] at e
  unfold wlN
  rw [e]
set_option maxHeartbeats 2000000 in
theorem wordLength_any (s : ByteArray) (hs : s.size ≤ 140737488355328) (w : World) :
    Calls Tryd.prog 35 #[.string s] w fun e w' => e = .returned (.int .i64 (wlN (bl s) : Nat)) ∧ w = w' := by
  go_enter Tryd.func35, Tryd.ntmps35
  go_wp2_with fail
  go_loop [6] (fun i => ∃ k : Nat, k ≤ s.size ∧ i = .int .i64 k ∧ Hid (((bl s).take k).all innB = true)) (fun i => s.size - (intOf i).toNat)
  case atStart => exact ⟨0, Nat.zero_le _, rfl, rfl⟩
  case round =>
    obtain ⟨k, hk, rfl, hr⟩ := hrel
    by_cases hlt : k < s.size
    · have hlb : k < (bl s).length := by rw [bl_len]; exact hlt
      have hg : (bl s)[k] = s[k] := bl_get s k hlt
      have HL := Lib.hid (fun w => isLetter_at (s[k]'hlt).toNat w)
      have HD := Lib.hid (fun w => isDigit_at (s[k]'hlt).toNat w)
      have hi := inn_parts (s[k]'hlt).toNat
      have hx : innB (bl s)[k] = innN (s[k]'hlt).toNat := by rw [hg]; rfl
      have d1 : decide ((k : Int) < (s.size : Int)) = true := by rw [decide_eq_true_eq]; omega
      have d2 : decide (k < s.size) = true := by rw [decide_eq_true_eq]; omega
      obtain ⟨b1, hb1⟩ : ∃ b, letN (s[k]'hlt).toNat = b := ⟨_, rfl⟩
      obtain ⟨b2, hb2⟩ : ∃ b, digN (s[k]'hlt).toNat = b := ⟨_, rfl⟩
      rw [hb1] at HL hi
      rw [hb2] at HD hi
      cases b1 with
      | true =>
        have HR := Lib.hid (all_more hlb hr.out (by rw [hx, hi]; rfl))
        clear hx hi hg hr hb1 hb2 HD
        go_wp2_with fail
        refine (HL.out _).mono ?_
        rintro e w' ⟨rfl, rfl⟩
        go_wp2
        go_round
        case rel => exact ⟨k + 1, by omega, by go_num, HR⟩
        case measure => simp [intOf]; omega
      | false =>
      cases b2 with
      | true =>
        have HR := Lib.hid (all_more hlb hr.out (by rw [hx, hi]; rfl))
        clear hx hi hg hr hb1 hb2
        go_wp2_with fail
        refine (HL.out _).mono ?_
        rintro e w' ⟨rfl, rfl⟩
        go_wp2_with fail
        refine (HD.out _).mono ?_
        rintro e w' ⟨rfl, rfl⟩
        go_wp2
        go_round
        case rel => exact ⟨k + 1, by omega, by go_num, HR⟩
        case measure => simp [intOf]; omega
      | false =>
      by_cases h95 : (s[k]'hlt).toNat = 95
      · have t3 : (((s[k]'hlt).toNat : Int) == 95) = true := by rw [beq_iff_eq]; omega
        have t3' : (((s[k]'hlt).toNat : Int) != 95) = false := by rw [bne_eq_false_iff_eq]; omega
        have HR := Lib.hid (all_more hlb hr.out (by rw [hx, h95]; decide))
        clear hx hi hg h95 hr hb1 hb2
        go_wp2_with fail
        refine (HL.out _).mono ?_
        rintro e w' ⟨rfl, rfl⟩
        go_wp2_with fail
        refine (HD.out _).mono ?_
        rintro e w' ⟨rfl, rfl⟩
        go_wp2
        go_round
        case rel => exact ⟨k + 1, by omega, by go_num, HR⟩
        case measure => simp [intOf]; omega
      · have t3 : (((s[k]'hlt).toNat : Int) == 95) = false := by rw [beq_eq_false_iff_ne]; omega
        have t3' : (((s[k]'hlt).toNat : Int) != 95) = true := by rw [bne_iff_ne]; omega
        have HR := Lib.hid (wl_stop hlb hr.out (by rw [hx, hi]; simp [h95]))
        clear hx hi hg h95 hr hb1 hb2
        go_wp2_with fail
        refine (HL.out _).mono ?_
        rintro e w' ⟨rfl, rfl⟩
        go_wp2_with fail
        refine (HD.out _).mono ?_
        rintro e w' ⟨rfl, rfl⟩
        go_wp2
        go_ret
        exact ⟨ret_int (by rw [HR.out]), rfl⟩
    · have HR := Lib.hid (wl_end (all_end (by rw [bl_len]; exact hlt) hr.out))
      have hl := bl_len s
      clear hr
      go_wp2
      go_ret
      exact ⟨ret_int (by rw [HR.out, hl]), rfl⟩
theorem has_byte (l : List UInt8) (x : UInt8) : (Lib.indexByte l x = -1 ∧ l.contains x = false) ∨ (∃ n : Nat, Lib.indexByte l x = (n : Int) ∧ l.contains x = true) := by
  by_cases h : x ∈ l
  · exact .inr ⟨_, idx_in h, List.contains_iff_mem.2 h⟩
  · refine .inl ⟨idx_out h, ?_⟩
    cases hc : l.contains x with
    | false => rfl
    | true => exact absurd (List.contains_iff_mem.1 hc) h
def bitsL : List UInt8 := [48, 49, 120, 122]
theorem bits_in (x : UInt8) : bitB x = bitsL.contains x := by
  have h : ∀ n < 256, bitB (UInt8.ofNat n) = bitsL.contains (UInt8.ofNat n) := by decide +kernel
  have := h x.toNat x.toNat_lt
  rwa [UInt8.ofNat_toNat] at this
set_option maxHeartbeats 2000000 in
theorem hasBits_any (s : ByteArray) (hs : s.size ≤ 140737488355328) (w : World) :
    Calls Tryd.prog 64 #[.string s] w fun e w' => e = .returned (.bool ((bl s).all bitB)) ∧ w = w' := by
  go_enter Tryd.func64, Tryd.ntmps64
  go_wp2_with fail
  go_loop [6] (fun i => ∃ k : Nat, k ≤ s.size ∧ i = .int .i64 k ∧ Hid (((bl s).take k).all bitB = true)) (fun i => s.size - (intOf i).toNat)
  case atStart => exact ⟨0, Nat.zero_le _, rfl, rfl⟩
  case round =>
    obtain ⟨k, hk, rfl, hr⟩ := hrel
    by_cases hlt : k < s.size
    · have hlb : k < (bl s).length := by rw [bl_len]; exact hlt
      have hg : (bl s)[k] = s[k] := bl_get s k hlt
      have HI := Lib.hid (fun w => index_any ⟨#[48, 49, 120, 122]⟩ (s[k]'hlt) w)
      have hx : bitB (bl s)[k] = bitsL.contains (s[k]'hlt) := by rw [hg]; exact bits_in _
      have d1 : decide ((k : Int) < (s.size : Int)) = true := by rw [decide_eq_true_eq]; omega
      have d2 : decide (k < s.size) = true := by rw [decide_eq_true_eq]; omega
      rcases has_byte bitsL (s[k]'hlt) with ⟨h1, h2⟩ | ⟨n, h1, h2⟩
      · have HR := Lib.hid (all_stop hlb (hx.trans h2))
        rw [show Lib.indexByte (bl ⟨#[48, 49, 120, 122]⟩) (s[k]'hlt) = -1 from h1] at HI
        clear hx hg hr h1 h2
        go_wp2_with fail
        refine (HI.out _).mono ?_
        rintro e w' ⟨rfl, rfl⟩
        go_wp2
        go_ret
        exact ⟨ret_bool HR.out.symm, rfl⟩
      · have HR := Lib.hid (all_more hlb hr.out (hx.trans h2))
        rw [show Lib.indexByte (bl ⟨#[48, 49, 120, 122]⟩) (s[k]'hlt) = n from h1] at HI
        have t1 : decide ((n : Int) < 0) = false := by rw [decide_eq_false_iff_not]; omega
        clear hx hg hr h1 h2
        go_wp2_with fail
        refine (HI.out _).mono ?_
        rintro e w' ⟨rfl, rfl⟩
        go_wp2
        go_round
        case rel => exact ⟨k + 1, by omega, by go_num, HR⟩
        case measure => simp [intOf]; omega
    · have HR := Lib.hid (all_end (by rw [bl_len]; exact hlt) hr.out)
      clear hr
      go_wp2
      go_ret
      exact ⟨ret_bool HR.out.symm, rfl⟩
theorem isBit_any (s : ByteArray) (hs : s.size ≤ 140737488355328) (w : World) :
    Calls Tryd.prog 48 #[.string s] w fun e w' => e = .returned (.bool (decide (s.size = 1) && (bl s).all bitB)) ∧ w = w' := by
  have HH := Lib.hid (fun w => hasBits_any s hs w)
  generalize (bl s).all bitB = b at *
  by_cases h : s.size = 1
  · rw [decide_eq_true h, Bool.true_and]
    have t : ((s.size : Int) == 1) = true := by rw [beq_iff_eq]; omega
    go_enter Tryd.func48, Tryd.ntmps48
    go_wp2_with fail
    refine (HH.out _).mono ?_
    rintro e w' ⟨rfl, rfl⟩
    go_wp2
    go_ret
    exact ⟨rfl, rfl⟩
  · rw [decide_eq_false h, Bool.false_and]
    have t : ((s.size : Int) == 1) = false := by rw [beq_eq_false_iff_ne]; omega
    go_enter Tryd.func48, Tryd.ntmps48
    go_wp2
    go_ret
    exact ⟨rfl, rfl⟩
theorem isVector_any (s : ByteArray) (hs : s.size ≤ 140737488355328) (w : World) :
    Calls Tryd.prog 46 #[.string s] w fun e w' => e = .returned (.bool (decide (1 ≤ s.size ∧ s.size ≤ 64) && (bl s).all bitB)) ∧ w = w' := by
  have HH := Lib.hid (fun w => hasBits_any s hs w)
  generalize (bl s).all bitB = b at *
  by_cases h : 1 ≤ s.size
  · have t : decide ((1 : Int) ≤ (s.size : Int)) = true := by rw [decide_eq_true_eq]; omega
    by_cases h' : s.size ≤ 64
    · rw [decide_eq_true ⟨h, h'⟩, Bool.true_and]
      have t' : decide ((s.size : Int) ≤ 64) = true := by rw [decide_eq_true_eq]; omega
      go_enter Tryd.func46, Tryd.ntmps46
      go_wp2_with fail
      refine (HH.out _).mono ?_
      rintro e w' ⟨rfl, rfl⟩
      go_wp2
      go_ret
      exact ⟨rfl, rfl⟩
    · rw [decide_eq_false (fun h => h' h.2), Bool.false_and]
      have t' : decide ((s.size : Int) ≤ 64) = false := by rw [decide_eq_false_iff_not]; omega
      go_enter Tryd.func46, Tryd.ntmps46
      go_wp2
      go_ret
      exact ⟨rfl, rfl⟩
  · rw [decide_eq_false (fun h' => h h'.1), Bool.false_and]
    have t : decide ((1 : Int) ≤ (s.size : Int)) = false := by rw [decide_eq_false_iff_not]; omega
    go_enter Tryd.func46, Tryd.ntmps46
    go_wp2
    go_ret
    exact ⟨rfl, rfl⟩
/-- A byte that can stand between double quotes, if it is no double quote. -/
def prtB (c : UInt8) : Bool := decide (32 ≤ c.toNat ∧ c.toNat ≤ 126)
set_option maxHeartbeats 2000000 in
theorem isString_any (s : ByteArray) (hs : s.size ≤ 140737488355328) (w : World) :
    Calls Tryd.prog 47 #[.string s] w fun e w' => e = .returned (.bool ((bl s).all prtB && decide (s.size ≤ 60))) ∧ w = w' := by
  go_enter Tryd.func47, Tryd.ntmps47
  go_wp2_with fail
  go_loop [6] (fun i => ∃ k : Nat, k ≤ s.size ∧ i = .int .i64 k ∧ Hid (((bl s).take k).all prtB = true)) (fun i => s.size - (intOf i).toNat)
  case atStart => exact ⟨0, Nat.zero_le _, rfl, rfl⟩
  case round =>
    obtain ⟨k, hk, rfl, hr⟩ := hrel
    by_cases hlt : k < s.size
    · have hlb : k < (bl s).length := by rw [bl_len]; exact hlt
      have hx : prtB (bl s)[k] = decide (32 ≤ (s[k]'hlt).toNat ∧ (s[k]'hlt).toNat ≤ 126) := by rw [bl_get s k hlt]; rfl
      have d1 : decide ((k : Int) < (s.size : Int)) = true := by rw [decide_eq_true_eq]; omega
      have d2 : decide (k < s.size) = true := by rw [decide_eq_true_eq]; omega
      by_cases h1 : 32 ≤ (s[k]'hlt).toNat
      · have t1 : decide (((s[k]'hlt).toNat : Int) < 32) = false := by rw [decide_eq_false_iff_not]; omega
        by_cases h2 : (s[k]'hlt).toNat ≤ 126
        · have t2 : decide ((126 : Int) < ((s[k]'hlt).toNat : Int)) = false := by rw [decide_eq_false_iff_not]; omega
          have HR := Lib.hid (all_more hlb hr.out (by rw [hx]; exact decide_eq_true ⟨h1, h2⟩))
          clear hx h1 h2 hr
          go_wp2
          go_round
          case rel => exact ⟨k + 1, by omega, by go_num, HR⟩
          case measure => simp [intOf]; omega
        · have t2 : decide ((126 : Int) < ((s[k]'hlt).toNat : Int)) = true := by rw [decide_eq_true_eq]; omega
          have HR := Lib.hid (all_stop (p := prtB) hlb (by rw [hx]; exact decide_eq_false fun h => h2 h.2))
          clear hx h1 h2 hr
          go_wp2
          go_ret
          exact ⟨ret_bool (by rw [HR.out]; rfl), rfl⟩
      · have t1 : decide (((s[k]'hlt).toNat : Int) < 32) = true := by rw [decide_eq_true_eq]; omega
        have HR := Lib.hid (all_stop (p := prtB) hlb (by rw [hx]; exact decide_eq_false fun h => h1 h.1))
        clear hx h1 hr
        go_wp2
        go_ret
        exact ⟨ret_bool (by rw [HR.out]; rfl), rfl⟩
    · have HR := Lib.hid (all_end (by rw [bl_len]; exact hlt) hr.out)
      have t3 : decide ((s.size : Int) ≤ 60) = decide (s.size ≤ 60) := decide_eq_decide.2 (by omega)
      obtain ⟨b, hb⟩ : ∃ b, decide (s.size ≤ 60) = b := ⟨_, rfl⟩
      rw [hb] at t3
      have HB := Lib.hid hb
      clear hr hb
      go_wp2
      go_ret
      exact ⟨ret_bool (by rw [HR.out, HB.out]; rfl), rfl⟩
end Go.Proofs.YtfjeljehodbbmaaDoor
