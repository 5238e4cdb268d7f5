/- The contracts of the program's isLetter, isDigit, wordLength, hasBits, isBit, isVector, isString and IsWord. -/
import Derived.Test.YtdiagnhdigakpaaGreatDoorKc1
import Derived.Deep.QuietTactic
import Derived.BigQuiet
import Derived.Test.YtdiagnhdigakpaaGreatDoorRows
import Derived.WalkKit
import Derived.WalkSpells
import Derived.WalkLawsBesides
import Derived.Lib.Hide
import Derived.Deep.Draws
import Derived.Maps.AppendAt
import Derived.Deep.AppendLies
import Derived.RegionTactic
import Derived.OwnWalk
import Derived.Laws.OwnMore
import Derived.Test.YtdiagnhdigakpaaGreatDoorSh
import Derived.Lib.IndexLaws
import Derived.Laws.IdiomStrings
namespace Go.Proofs.YtdiagnhdigakpaaGreatDoor
open Go.RowKit

theorem isLetter_at (x : Nat) (w : World) :
    Calls Tryz.prog 130 #[.int .u8 x] w fun e w' => e = .returned (.bool (letN x)) ∧ w = w' := by
  unfold letN
  by_cases h0 : 97 ≤ x
  · have d0 : decide ((97 : Int) ≤ (x : Int)) = true := by rw [decide_eq_true_eq]; omega
    by_cases h1 : x ≤ 122
    · have d1 : decide ((x : Int) ≤ 122) = true := by rw [decide_eq_true_eq]; omega
      rw [decide_eq_true (by omega)]
      clear h0 h1
      go_enter Tryz.func130, Tryz.ntmps130
      go_wp2
      go_ret
      exact ⟨rfl, rfl⟩
    · have d1 : decide ((x : Int) ≤ 122) = false := by rw [decide_eq_false_iff_not]; omega
      have d2 : decide ((65 : Int) ≤ (x : Int)) = true := by rw [decide_eq_true_eq]; omega
      have d3 : decide ((x : Int) ≤ 90) = false := by rw [decide_eq_false_iff_not]; omega
      rw [decide_eq_false (by omega)]
      clear h0 h1
      go_enter Tryz.func130, Tryz.ntmps130
      go_wp2
      go_ret
      exact ⟨rfl, rfl⟩
  · have d0 : decide ((97 : Int) ≤ (x : Int)) = false := by rw [decide_eq_false_iff_not]; omega
    by_cases h1 : 65 ≤ x
    · have d1 : decide ((65 : Int) ≤ (x : Int)) = true := by rw [decide_eq_true_eq]; omega
      obtain ⟨b, hb⟩ : ∃ b, decide ((x : Int) ≤ 90) = b := ⟨_, rfl⟩
      have e : decide ((97 ≤ x ∧ x ≤ 122) ∨ (65 ≤ x ∧ x ≤ 90)) = b := by
        rw [← hb]; apply decide_eq_decide.2; omega
      rw [e]
      clear h0 h1 e
      go_enter Tryz.func130, Tryz.ntmps130
      go_wp2
      go_ret
      exact ⟨rfl, rfl⟩
    · have d1 : decide ((65 : Int) ≤ (x : Int)) = false := by rw [decide_eq_false_iff_not]; omega
      rw [decide_eq_false (by omega)]
      clear h0 h1
      go_enter Tryz.func130, Tryz.ntmps130
      go_wp2
      go_ret
      exact ⟨rfl, rfl⟩
theorem isDigit_at (x : Nat) (w : World) :
    Calls Tryz.prog 157 #[.int .u8 x] w fun e w' => e = .returned (.bool (digN x)) ∧ w = w' := by
  unfold digN
  by_cases h0 : 48 ≤ x
  · have d0 : decide ((48 : Int) ≤ (x : Int)) = true := by rw [decide_eq_true_eq]; omega
    obtain ⟨b, hb⟩ : ∃ b, decide ((x : Int) ≤ 57) = b := ⟨_, rfl⟩
    have e : decide (48 ≤ x ∧ x ≤ 57) = b := by
      rw [← hb]; apply decide_eq_decide.2; omega
    rw [e]
    clear h0 e
    go_enter Tryz.func157, Tryz.ntmps157
    go_wp2
    go_ret
    exact ⟨rfl, rfl⟩
  · have d0 : decide ((48 : Int) ≤ (x : Int)) = false := by rw [decide_eq_false_iff_not]; omega
    rw [decide_eq_false (by omega)]
    clear h0
    go_enter Tryz.func157, Tryz.ntmps157
    go_wp2
    go_ret
    exact ⟨rfl, rfl⟩
theorem inn_parts (x : Nat) : innN x = (letN x || (digN x || decide (x = 95))) := by
  unfold innN letN digN
  by_cases h1 : (97 ≤ x ∧ x ≤ 122) ∨ (65 ≤ x ∧ x ≤ 90)
  · rw [decide_eq_true h1, decide_eq_true (.inl h1)]; rfl
  · rw [decide_eq_false h1, Bool.false_or]
    by_cases h2 : 48 ≤ x ∧ x ≤ 57
    · rw [decide_eq_true h2, decide_eq_true (.inr (.inl h2))]; rfl
    · rw [decide_eq_false h2, Bool.false_or]
      apply decide_eq_decide.2
      exact ⟨fun h => by rcases h with h | h | h; exact absurd h h1; exact absurd h h2; exact h, fun h => .inr (.inr h)⟩
/-- How many bytes at the front can stand in a name. -/
def wlN (l : List UInt8) : Nat := (l.takeWhile innB).length
theorem wl_stop {l : List UInt8} {k : Nat} (h : k < l.length) (hk : (l.take k).all innB = true) (hx : innB l[k] = false) : wlN l = k := by
  unfold wlN
  have e : l = l.take k ++ l[k] :: l.drop (k + 1) := by rw [← List.drop_eq_getElem_cons h, List.take_append_drop]
  conv => lhs; rw [e]
  rw [(tw_stop' hk hx).1, List.length_take]
  omega
theorem wl_end {l : List UInt8} (h : l.all innB = true) : wlN l = l.length := by
  have e := (tw_stop (z := []) h (fun c hc => by cases hc)).1
  rw [List.append_nil] at e
  unfold wlN
  rw [e]
set_option maxHeartbeats 2000000 in
theorem wordLength_any (s : ByteArray) (hs : s.size ≤ 140737488355328) (w : World) :
    Calls Tryz.prog 131 #[.string s] w fun e w' => e = .returned (.int .i64 (wlN (bl s) : Nat)) ∧ w = w' := by
  go_enter Tryz.func131, Tryz.ntmps131
  go_wp2_with fail
  go_loop [6] (fun i => ∃ k : Nat, k ≤ s.size ∧ i = .int .i64 k ∧ Hid (((bl s).take k).all innB = true)) (fun i => s.size - (intOf i).toNat)
  case atStart => exact ⟨0, Nat.zero_le _, rfl, rfl⟩
  case round =>
    obtain ⟨k, hk, rfl, hr⟩ := hrel
    by_cases hlt : k < s.size
    · have hlb : k < (bl s).length := by rw [bl_len]; exact hlt
      have hg : (bl s)[k] = s[k] := bl_get s k hlt
      have HL := Lib.hid (fun w => isLetter_at (s[k]'hlt).toNat w)
      have HD := Lib.hid (fun w => isDigit_at (s[k]'hlt).toNat w)
      have hi := inn_parts (s[k]'hlt).toNat
      have hx : innB (bl s)[k] = innN (s[k]'hlt).toNat := by rw [hg]; rfl
      have d1 : decide ((k : Int) < (s.size : Int)) = true := by rw [decide_eq_true_eq]; omega
      have d2 : decide (k < s.size) = true := by rw [decide_eq_true_eq]; omega
      obtain ⟨b1, hb1⟩ : ∃ b, letN (s[k]'hlt).toNat = b := ⟨_, rfl⟩
      obtain ⟨b2, hb2⟩ : ∃ b, digN (s[k]'hlt).toNat = b := ⟨_, rfl⟩
      rw [hb1] at HL hi
      rw [hb2] at HD hi
      cases b1 with
      | true =>
        have HR := Lib.hid (all_more hlb hr.out (by rw [hx, hi]; rfl))
        clear hx hi hg hr hb1 hb2 HD
        go_wp2_with fail
        refine (HL.out _).mono ?_
        rintro e w' ⟨rfl, rfl⟩
        go_wp2
        go_round
        case rel => exact ⟨k + 1, by omega, by go_num, HR⟩
        case measure => simp [intOf]; omega
      | false =>
      cases b2 with
      | true =>
        have HR := Lib.hid (all_more hlb hr.out (by rw [hx, hi]; rfl))
        clear hx hi hg hr hb1 hb2
        go_wp2_with fail
        refine (HL.out _).mono ?_
        rintro e w' ⟨rfl, rfl⟩
        go_wp2_with fail
        refine (HD.out _).mono ?_
        rintro e w' ⟨rfl, rfl⟩
        go_wp2
        go_round
        case rel => exact ⟨k + 1, by omega, by go_num, HR⟩
        case measure => simp [intOf]; omega
      | false =>
      by_cases h95 : (s[k]'hlt).toNat = 95
      · have t3 : (((s[k]'hlt).toNat : Int) == 95) = true := by rw [beq_iff_eq]; omega
        have t3' : (((s[k]'hlt).toNat : Int) != 95) = false := by rw [bne_eq_false_iff_eq]; omega
        have HR := Lib.hid (all_more hlb hr.out (by rw [hx, h95]; decide))
        clear hx hi hg h95 hr hb1 hb2
        go_wp2_with fail
        refine (HL.out _).mono ?_
        rintro e w' ⟨rfl, rfl⟩
        go_wp2_with fail
        refine (HD.out _).mono ?_
        rintro e w' ⟨rfl, rfl⟩
        go_wp2
        go_round
        case rel => exact ⟨k + 1, by omega, by go_num, HR⟩
        case measure => simp [intOf]; omega
      · have t3 : (((s[k]'hlt).toNat : Int) == 95) = false := by rw [beq_eq_false_iff_ne]; omega
        have t3' : (((s[k]'hlt).toNat : Int) != 95) = true := by rw [bne_iff_ne]; omega
        have HR := Lib.hid (wl_stop hlb hr.out (by rw [hx, hi]; simp [h95]))
        clear hx hi hg h95 hr hb1 hb2
        go_wp2_with fail
        refine (HL.out _).mono ?_
        rintro e w' ⟨rfl, rfl⟩
        go_wp2_with fail
        refine (HD.out _).mono ?_
        rintro e w' ⟨rfl, rfl⟩
        go_wp2
        go_ret
        exact ⟨ret_int (by rw [HR.out]), rfl⟩
    · have HR := Lib.hid (wl_end (all_end (by rw [bl_len]; exact hlt) hr.out))
      have hl := bl_len s
      clear hr
      go_wp2
      go_ret
      exact ⟨ret_int (by rw [HR.out, hl]), rfl⟩
theorem has_byte (l : List UInt8) (x : UInt8) : (Lib.indexByte l x = -1 ∧ l.contains x = false) ∨ (∃ n : Nat, Lib.indexByte l x = (n : Int) ∧ l.contains x = true) := by
  by_cases h : x ∈ l
  · exact .inr ⟨_, idx_in h, List.contains_iff_mem.2 h⟩
  · refine .inl ⟨idx_out h, ?_⟩
    cases hc : l.contains x with
    | false => rfl
    | true => exact absurd (List.contains_iff_mem.1 hc) h
def bitsL : List UInt8 := [48, 49, 120, 122]
theorem bits_in (x : UInt8) : bitB x = bitsL.contains x := by
  have h : ∀ n < 256, bitB (UInt8.ofNat n) = bitsL.contains (UInt8.ofNat n) := by decide +kernel
  have := h x.toNat x.toNat_lt
  rwa [UInt8.ofNat_toNat] at this
/-- A byte that can stand between double quotes, if it is no double quote. -/
def prtB (c : UInt8) : Bool := decide (32 ≤ c.toNat ∧ c.toNat ≤ 126)
end Go.Proofs.YtdiagnhdigakpaaGreatDoor
/- The contracts of the program's IsWord and IsName. -/
namespace Go.Proofs.YtdiagnhdigakpaaGreatDoor
open Go.RowKit

def caseL : List (List UInt8) := [[112, 97, 99, 107, 97, 103, 101], [105, 115], [101, 110, 100], [109, 111, 100, 117, 108, 101], [103, 101, 110, 101, 114, 105, 99], [112, 111, 114, 116], [98, 101, 103, 105, 110], [105, 110], [111, 117, 116], [118, 101, 99], [97, 114, 114, 97, 121], [111, 102], [99, 111, 110, 115, 116], [116, 121, 112, 101], [115, 105, 103, 110, 97, 108], [118, 97, 114], [102, 117, 110, 99, 116, 105, 111, 110], [114, 101, 116, 117, 114, 110], [117, 115, 101], [112, 114, 111, 99, 101, 115, 115], [97, 108, 108], [105, 110, 115, 116], [102, 111, 114], [116, 111], [103, 101, 110, 101, 114, 97, 116, 101], [105, 102], [101, 108, 115, 101], [116, 114, 97, 110, 115, 112, 111, 114, 116], [97, 102, 116, 101, 114], [97, 115, 115, 101, 114, 116], [114, 101, 112, 111, 114, 116], [116, 104, 101, 110], [101, 108, 115, 105, 102], [99, 97, 115, 101], [119, 104, 101, 110], [111, 116, 104, 101, 114, 115], [108, 111, 111, 112], [119, 104, 105, 108, 101], [119, 97, 105, 116], [111, 110], [117, 110, 116, 105, 108], [110, 117, 108, 108], [97, 110, 100], [111, 114], [120, 111, 114], [110, 97, 110, 100], [110, 111, 114], [120, 110, 111, 114], [110, 111, 116], [109, 111, 100], [115, 104, 108], [115, 104, 114], [100, 111, 119, 110, 116, 111]]
theorem case_word (l : List UInt8) : isWordL l = caseL.contains l := by
  have h1 : ∀ x ∈ wordsL, x ∈ caseL := by decide +kernel
  have h2 : ∀ x ∈ caseL, x ∈ wordsL := by decide +kernel
  unfold isWordL
  cases hc : caseL.contains l with
  | true => exact List.contains_iff_mem.2 (h2 l (List.contains_iff_mem.1 hc))
  | false =>
    cases hw : wordsL.contains l with
    | false => rfl
    | true => rw [List.contains_iff_mem.2 (h1 l (List.contains_iff_mem.1 hw))] at hc; cases hc
set_option maxRecDepth 100000 in
set_option maxHeartbeats 8000000 in
theorem isWord_any (s : ByteArray) (w : World) :
    Calls Tryz.prog 132 #[.string s] w fun e w' => e = .returned (.bool (isWordL (bl s))) ∧ w = w' := by
  go_enter Tryz.func132, Tryz.ntmps132
  go_wp2
  all_goals first
    | (exfalso; rename_i h1 h2; rw [h1] at h2; cases h2; done)
    | (have h := eq_of_beq (‹(s.toList == _) = true›)
       rw [case_word, ← bl_toList, h]
       go_ret
       exact ⟨rfl, rfl⟩)
    | (have h : isWordL (bl s) = false := by
         rw [case_word, ← bl_toList]
         simp only [caseL, List.contains_cons, List.contains_nil, Bool.or_false, *]
       rw [h]
       go_ret
       exact ⟨rfl, rfl⟩)
theorem name_parts (s : ByteArray) : isNameL (bl s) = (hdLet (bl s) && (decide (wlN (bl s) = s.size) && (decide (s.size ≤ 40) && !isWordL (bl s)))) := by
  have h1 : (bl s).all innB = decide (wlN (bl s) = s.size) := by
    cases h : (bl s).all innB with
    | true => rw [wl_end h, bl_len]; simp
    | false =>
      symm
      rw [decide_eq_false_iff_not]
      intro e
      have h2 := tw_take innB (bl s)
      rw [show ((bl s).takeWhile innB).length = (bl s).length by rw [bl_len]; exact e, List.take_length] at h2
      have h3 := tw_all innB (bl s)
      rw [← h2, h] at h3
      cases h3
  unfold isNameL
  rw [h1, bl_len]
  cases decide (s.size ≤ 40) <;> cases hdLet (bl s) <;> cases decide (wlN (bl s) = s.size) <;> cases isWordL (bl s) <;> rfl
set_option maxHeartbeats 4000000 in
theorem isName_any (s : ByteArray) (hs : s.size ≤ 140737488355328) (w : World) :
    Calls Tryz.prog 99 #[.string s] w fun e w' => e = .returned (.bool (isNameL (bl s))) ∧ w = w' := by
  by_cases h0 : 0 < s.size
  · have hL := fun w => isLetter_at (s[0]'h0).toNat w
    have hh : hdLet (bl s) = letN (s[0]'h0).toNat := hd_at h0
    have hN := name_parts s
    rw [← hh] at hL
    have HWl := Lib.hid (fun w => wordLength_any s hs w)
    have HW := Lib.hid (fun w => isWord_any s w)
    have t0 : (s.toList != []) = true := by
      rw [bl_toList, bne_iff_ne]
      intro e
      have := bl_len s
      rw [e] at this
      simp at this
      omega
    have t0' : (s.toList == []) = false := by
      rw [bne, Bool.not_eq_true'] at t0
      exact t0
    have hd1 : decide ((0 : Int) < (s.size : Int)) = true := by rw [decide_eq_true_eq]; omega
    generalize hdLet (bl s) = b1 at *
    generalize wlN (bl s) = n at *
    generalize isWordL (bl s) = b4 at *
    have HL := Lib.hid hL
    have HN := Lib.hid hN
    clear hL hh hN
    cases b1 with
    | false =>
      go_enter Tryz.func99, Tryz.ntmps99
      go_wp2_with fail
      refine (HL.out _).mono ?_
      rintro e w' ⟨rfl, rfl⟩
      go_wp2
      go_ret
      exact ⟨ret_bool HN.out.symm, rfl⟩
    | true =>
    by_cases h2 : n = s.size
    · have t2 : ((n : Int) == (s.size : Int)) = true := by rw [beq_iff_eq]; omega
      rw [decide_eq_true h2] at HN
      by_cases h3 : s.size ≤ 40
      · have t3 : decide ((s.size : Int) ≤ 40) = true := by rw [decide_eq_true_eq]; omega
        rw [decide_eq_true h3] at HN
        clear h2 h3
        cases b4 with
        | true =>
          go_enter Tryz.func99, Tryz.ntmps99
          go_wp2_with fail
          refine (HL.out _).mono ?_
          rintro e w' ⟨rfl, rfl⟩
          go_wp2_with fail
          refine (HWl.out _).mono ?_
          rintro e w' ⟨rfl, rfl⟩
          go_wp2_with fail
          refine (HW.out _).mono ?_
          rintro e w' ⟨rfl, rfl⟩
          go_wp2
          go_ret
          exact ⟨ret_bool HN.out.symm, rfl⟩
        | false =>
          go_enter Tryz.func99, Tryz.ntmps99
          go_wp2_with fail
          refine (HL.out _).mono ?_
          rintro e w' ⟨rfl, rfl⟩
          go_wp2_with fail
          refine (HWl.out _).mono ?_
          rintro e w' ⟨rfl, rfl⟩
          go_wp2_with fail
          refine (HW.out _).mono ?_
          rintro e w' ⟨rfl, rfl⟩
          go_wp2
          go_ret
          exact ⟨ret_bool HN.out.symm, rfl⟩
      · have t3 : decide ((s.size : Int) ≤ 40) = false := by rw [decide_eq_false_iff_not]; omega
        rw [decide_eq_false h3] at HN
        clear h2 h3
        go_enter Tryz.func99, Tryz.ntmps99
        go_wp2_with fail
        refine (HL.out _).mono ?_
        rintro e w' ⟨rfl, rfl⟩
        go_wp2_with fail
        refine (HWl.out _).mono ?_
        rintro e w' ⟨rfl, rfl⟩
        go_wp2
        go_ret
        exact ⟨ret_bool HN.out.symm, rfl⟩
    · have t2 : ((n : Int) == (s.size : Int)) = false := by rw [beq_eq_false_iff_ne]; omega
      rw [decide_eq_false h2] at HN
      clear h2
      go_enter Tryz.func99, Tryz.ntmps99
      go_wp2_with fail
      refine (HL.out _).mono ?_
      rintro e w' ⟨rfl, rfl⟩
      go_wp2_with fail
      refine (HWl.out _).mono ?_
      rintro e w' ⟨rfl, rfl⟩
      go_wp2
      go_ret
      exact ⟨ret_bool HN.out.symm, rfl⟩
  · have e : s = ⟨#[]⟩ := bl_inj (List.eq_nil_of_length_eq_zero (by rw [bl_len]; omega))
    subst e
    go_enter Tryz.func99, Tryz.ntmps99
    go_wp2
    go_ret
    exact ⟨rfl, rfl⟩
end Go.Proofs.YtdiagnhdigakpaaGreatDoor
/- The contracts of the program's isWithin, isNameless, isPathByte, isFullName and areNames. -/
namespace Go.Proofs.YtdiagnhdigakpaaGreatDoor
open Go.RowKit

theorem within_any (n lo hi : Int) (w : World) :
    Calls Tryz.prog 57 #[.int .i64 n, .int .i64 lo, .int .i64 hi] w fun e w' => e = .returned (.bool (decide (lo ≤ n) && decide (n ≤ hi))) ∧ w = w' := by
  cases h1 : decide (lo ≤ n) <;> cases h2 : decide (n ≤ hi)
  all_goals
    go_enter Tryz.func57, Tryz.ntmps57
    go_wp2
    go_ret
    exact ⟨rfl, rfl⟩
theorem within_yes {n lo hi : Int} (h1 : lo ≤ n) (h2 : n ≤ hi) (w : World) : Calls Tryz.prog 57 #[.int .i64 n, .int .i64 lo, .int .i64 hi] w fun e w' => e = .returned (.bool true) ∧ w = w' := by
  have := within_any n lo hi w
  rwa [decide_eq_true h1, decide_eq_true h2] at this
theorem within_no {n lo hi : Int} (h : ¬ (lo ≤ n ∧ n ≤ hi)) (w : World) : Calls Tryz.prog 57 #[.int .i64 n, .int .i64 lo, .int .i64 hi] w fun e w' => e = .returned (.bool false) ∧ w = w' := by
  have := within_any n lo hi w
  have hd : (decide (lo ≤ n) && decide (n ≤ hi)) = false := by
    rw [Bool.eq_false_iff]
    intro hh
    rw [Bool.and_eq_true, decide_eq_true_eq, decide_eq_true_eq] at hh
    exact h hh
  rwa [hd] at this
theorem nameless_any (k l : Int) (nm : ByteArray) (ns : List ByteArray) (A : Option Addr) (c : Nat) (v : Value) (w : World) :
    Calls Tryz.prog 56 #[.agg #[.int .i64 k, .int .i64 l, .string nm, .slice A ns.length c, v]] w fun e w' => e = .returned (.bool (bareT nm ns)) ∧ Below w.heap.size w w' := by
  have HB0 := Lib.hid (below_alloc w (.cells #[.int .i64 k, .int .i64 l, .string nm, .slice A ns.length c, v] 26))
  rcases bare_cases nm ns with ⟨h1, h2, h3⟩ | ⟨h1, h2, h3⟩ | ⟨h1, h2, h3⟩ <;> rw [h3] <;> clear h3
  all_goals
    go_enter Tryz.func56, Tryz.ntmps56
    go_wp2
    go_ret
    exact ⟨rfl, HB0.out⟩
theorem pathByte_any (x : Nat) (w : World) :
    Calls Tryz.prog 98 #[.int .u8 x] w fun e w' => e = .returned (.bool (pathN x)) ∧ w = w' := by
  have hc := path_cases x
  have key : ∀ b : Bool, pathN x = b → (Calls Tryz.prog 98 #[.int .u8 x] w fun e w' => e = .returned (.bool b) ∧ w = w') → Calls Tryz.prog 98 #[.int .u8 x] w fun e w' => e = .returned (.bool (pathN x)) ∧ w = w' := fun b h1 h2 => by rw [h1]; exact h2
  rcases hc with h0 | h1 | h2 | h3 | h4 | h5 | h6 | h7 | h8
  · refine key true (decide_eq_true (by omega)) ?_
    have a1 : decide ((97 : Int) ≤ (x : Int)) = true := by rw [decide_eq_true_eq]; omega
    have a2 : decide ((x : Int) ≤ 122) = true := by rw [decide_eq_true_eq]; omega
    clear key h0
    go_enter Tryz.func98, Tryz.ntmps98
    go_wp2
    go_ret
    exact ⟨rfl, rfl⟩
  · refine key true (decide_eq_true (by omega)) ?_
    have a1 : decide ((97 : Int) ≤ (x : Int)) = false := by rw [decide_eq_false_iff_not]; omega
    have a3 : decide ((65 : Int) ≤ (x : Int)) = true := by rw [decide_eq_true_eq]; omega
    have a4 : decide ((x : Int) ≤ 90) = true := by rw [decide_eq_true_eq]; omega
    clear key h1
    go_enter Tryz.func98, Tryz.ntmps98
    go_wp2
    go_ret
    exact ⟨rfl, rfl⟩
  · refine key true (decide_eq_true (by omega)) ?_
    have a1 : decide ((97 : Int) ≤ (x : Int)) = false := by rw [decide_eq_false_iff_not]; omega
    have a3 : decide ((65 : Int) ≤ (x : Int)) = false := by rw [decide_eq_false_iff_not]; omega
    have a5 : decide ((48 : Int) ≤ (x : Int)) = true := by rw [decide_eq_true_eq]; omega
    have a6 : decide ((x : Int) ≤ 57) = true := by rw [decide_eq_true_eq]; omega
    clear key h2
    go_enter Tryz.func98, Tryz.ntmps98
    go_wp2
    go_ret
    exact ⟨rfl, rfl⟩
  · refine key true (decide_eq_true (by omega)) ?_
    subst h3
    clear key
    go_enter Tryz.func98, Tryz.ntmps98
    go_wp2
    go_ret
    exact ⟨rfl, rfl⟩
  · refine key true (decide_eq_true (by omega)) ?_
    subst h4
    clear key
    go_enter Tryz.func98, Tryz.ntmps98
    go_wp2
    go_ret
    exact ⟨rfl, rfl⟩
  · refine key false (decide_eq_false (by omega)) ?_
    have a1 : decide ((97 : Int) ≤ (x : Int)) = false := by rw [decide_eq_false_iff_not]; omega
    have a3 : decide ((65 : Int) ≤ (x : Int)) = false := by rw [decide_eq_false_iff_not]; omega
    have a5 : decide ((48 : Int) ≤ (x : Int)) = false := by rw [decide_eq_false_iff_not]; omega
    have a7 : ((x : Int) == 95) = false := by rw [beq_eq_false_iff_ne]; omega
    have a8 : ((x : Int) == 46) = false := by rw [beq_eq_false_iff_ne]; omega
    clear key h5
    go_enter Tryz.func98, Tryz.ntmps98
    go_wp2
    go_ret
    exact ⟨rfl, rfl⟩
  · refine key false (decide_eq_false (by omega)) ?_
    have a1 : decide ((97 : Int) ≤ (x : Int)) = false := by rw [decide_eq_false_iff_not]; omega
    have a3 : decide ((65 : Int) ≤ (x : Int)) = false := by rw [decide_eq_false_iff_not]; omega
    have a5 : decide ((48 : Int) ≤ (x : Int)) = true := by rw [decide_eq_true_eq]; omega
    have a6 : decide ((x : Int) ≤ 57) = false := by rw [decide_eq_false_iff_not]; omega
    have a7 : ((x : Int) == 95) = false := by rw [beq_eq_false_iff_ne]; omega
    have a8 : ((x : Int) == 46) = false := by rw [beq_eq_false_iff_ne]; omega
    clear key h6
    go_enter Tryz.func98, Tryz.ntmps98
    go_wp2
    go_ret
    exact ⟨rfl, rfl⟩
  · refine key false (decide_eq_false (by omega)) ?_
    have a1 : decide ((97 : Int) ≤ (x : Int)) = false := by rw [decide_eq_false_iff_not]; omega
    have a3 : decide ((65 : Int) ≤ (x : Int)) = true := by rw [decide_eq_true_eq]; omega
    have a4 : decide ((x : Int) ≤ 90) = false := by rw [decide_eq_false_iff_not]; omega
    have a5 : decide ((48 : Int) ≤ (x : Int)) = true := by rw [decide_eq_true_eq]; omega
    have a6 : decide ((x : Int) ≤ 57) = false := by rw [decide_eq_false_iff_not]; omega
    have a7 : ((x : Int) == 95) = false := by rw [beq_eq_false_iff_ne]; omega
    have a8 : ((x : Int) == 46) = false := by rw [beq_eq_false_iff_ne]; omega
    clear key h7
    go_enter Tryz.func98, Tryz.ntmps98
    go_wp2
    go_ret
    exact ⟨rfl, rfl⟩
  · refine key false (decide_eq_false (by omega)) ?_
    have a1 : decide ((97 : Int) ≤ (x : Int)) = true := by rw [decide_eq_true_eq]; omega
    have a2 : decide ((x : Int) ≤ 122) = false := by rw [decide_eq_false_iff_not]; omega
    have a3 : decide ((65 : Int) ≤ (x : Int)) = true := by rw [decide_eq_true_eq]; omega
    have a4 : decide ((x : Int) ≤ 90) = false := by rw [decide_eq_false_iff_not]; omega
    have a5 : decide ((48 : Int) ≤ (x : Int)) = true := by rw [decide_eq_true_eq]; omega
    have a6 : decide ((x : Int) ≤ 57) = false := by rw [decide_eq_false_iff_not]; omega
    have a7 : ((x : Int) == 95) = false := by rw [beq_eq_false_iff_ne]; omega
    have a8 : ((x : Int) == 46) = false := by rw [beq_eq_false_iff_ne]; omega
    clear key h8
    go_enter Tryz.func98, Tryz.ntmps98
    go_wp2
    go_ret
    exact ⟨rfl, rfl⟩
theorem pathB_fits {s : ByteArray} (h1 : 1 ≤ s.size) (h2 : s.size ≤ 100) : pathB s = (bl s).all fun c => pathN c.toNat := by
  unfold pathB
  simp only [decide_eq_true h1, decide_eq_true h2, Bool.and_true]
  rfl
set_option maxHeartbeats 4000000 in
theorem fullName_any (s : ByteArray) (w : World) :
    Calls Tryz.prog 58 #[.string s] w fun e w' => e = .returned (.bool (pathB s)) ∧ w = w' := by
  by_cases hs : 1 ≤ s.size ∧ s.size ≤ 100
  · obtain ⟨h1, h2⟩ := hs
    rw [pathB_fits h1 h2]
    have HW := Lib.hid (within_yes (n := (s.size : Int)) (lo := 1) (hi := 100) (by omega) (by omega))
    go_enter Tryz.func58, Tryz.ntmps58
    go_wp2_with (go_at_call 57; refine (HW.out _).mono ?_; rintro e w' ⟨rfl, rfl⟩)
    go_loop [10] (fun i => ∃ k : Nat, k ≤ s.size ∧ i = .int .i64 k ∧ Hid (((bl s).take k).all (fun c => pathN c.toNat) = true)) (fun i => s.size - (intOf i).toNat)
    case atStart => exact ⟨0, Nat.zero_le _, rfl, rfl⟩
    case round =>
      obtain ⟨k, hk, rfl, hr⟩ := hrel
      by_cases hlt : k < s.size
      · have hlb : k < (bl s).length := by rw [bl_len]; exact hlt
        have hg : (bl s)[k] = s[k] := bl_get s k hlt
        have d1 : decide ((k : Int) < (s.size : Int)) = true := by rw [decide_eq_true_eq]; omega
        have d2 : decide (k < s.size) = true := by rw [decide_eq_true_eq]; omega
        have HP := Lib.hid (pathByte_any (s[k]'hlt).toNat)
        cases hx : pathN (s[k]'hlt).toNat with
        | true =>
          have HR := Lib.hid (all_more (p := fun c : UInt8 => pathN c.toNat) hlb hr.out (by rw [hg]; exact hx))
          rw [hx] at HP
          clear hx hg hr
          go_wp2_with (go_at_call 98; refine (HP.out _).mono ?_; rintro e w' ⟨rfl, rfl⟩)
          go_round
          case rel => exact ⟨k + 1, by omega, by go_num, HR⟩
          case measure => simp [intOf]; omega
        | false =>
          have HR := Lib.hid (all_stop (p := fun c : UInt8 => pathN c.toNat) hlb (by rw [hg]; exact hx))
          rw [hx] at HP
          clear hx hg hr
          go_wp2_with (go_at_call 98; refine (HP.out _).mono ?_; rintro e w' ⟨rfl, rfl⟩)
          go_ret
          exact ⟨ret_bool HR.out.symm, rfl⟩
      · have HR := Lib.hid (all_end (by rw [bl_len]; exact hlt) hr.out)
        have d1 : decide ((k : Int) < (s.size : Int)) = false := by rw [decide_eq_false_iff_not]; omega
        have d2 : decide (k < s.size) = false := by rw [decide_eq_false_iff_not]; omega
        clear hr
        go_wp2
        go_ret
        exact ⟨ret_bool HR.out.symm, rfl⟩
  · have hp : pathB s = false := by
      unfold pathB
      by_cases h1 : 1 ≤ s.size
      · rw [decide_eq_false (fun h2 => hs ⟨h1, h2⟩), Bool.and_false, Bool.and_false]
      · rw [decide_eq_false h1, Bool.false_and, Bool.and_false]
    have HW := Lib.hid (within_no (n := (s.size : Int)) (lo := 1) (hi := 100) (by omega))
    rw [hp]
    clear hs hp
    go_enter Tryz.func58, Tryz.ntmps58
    go_wp2_with (go_at_call 57; refine (HW.out _).mono ?_; rintro e w' ⟨rfl, rfl⟩)
    go_ret
    exact ⟨rfl, rfl⟩
end Go.Proofs.YtdiagnhdigakpaaGreatDoor
/- The contracts of the program's areNames and isElement. -/
namespace Go.Proofs.YtdiagnhdigakpaaGreatDoor
open Go.RowKit

theorem flip_w {P : Program} {f : FuncId} {args : Array Value} {w : World} {v : Value} (h : Calls P f args w fun e w' => e = .returned v ∧ w = w') : Calls P f args w fun e w' => e = .returned v ∧ w' = w := h.mono fun _ _ ⟨a, b⟩ => ⟨a, b.symm⟩
theorem contains_none {ns : List ByteArray} {k : Nat} (h : k < ns.length) (hn : Lib.containsS (ns.take k) ns[k] = false) : ∀ (j : Nat) (hj : j < k), ns[j] ≠ ns[k] := by
  intro j hj e
  have hm : ns[k] ∈ ns.take k := by
    rw [List.mem_take_iff_getElem]
    exact ⟨j, by omega, e⟩
  rw [(Lib.containsS_iff _ _).2 hm] at hn
  cases hn
theorem contains_some {ns : List ByteArray} {k : Nat} (h : k < ns.length) (hn : Lib.containsS (ns.take k) ns[k] = true) : enumB ns = false := by
  have hm := (Lib.containsS_iff _ _).1 hn
  rw [List.mem_take_iff_getElem] at hm
  obtain ⟨j, hj, e⟩ := hm
  exact enum_twice h (by omega) e
set_option maxRecDepth 100000 in
set_option maxHeartbeats 8000000 in
theorem areNames_yes (ns : List ByteArray) (b o c : Nat) (w : World) (h1 : 1 ≤ ns.length) (h16 : ns.length ≤ 16) (hcap : ns.length ≤ c) (hz : ∀ s ∈ ns, s.size ≤ 140737488355328)
    (hc : ∀ (k : Nat) (h : k < ns.length), w.cell? ⟨b, o + k, none⟩ = some (.string ns[k])) :
    Calls Tryz.prog 59 #[.slice (some ⟨b, o, none⟩) ns.length c] w fun e w' => e = .returned (.bool (enumB ns)) ∧ Below w.heap.size w w' := by
  have HW := Lib.hid (within_yes (n := (ns.length : Int)) (lo := 1) (hi := 16) (by omega) (by omega))
  have HC := Lib.hid hc
  have HN := Lib.hid hz
  clear hc hz
  go_enter Tryz.func59, Tryz.ntmps59
  go_wp2_with (go_at_call 57; refine (HW.out _).mono ?_; rintro e w' ⟨rfl, rfl⟩)
  go_loopw [10] (fun i wr => ∃ k : Nat, k ≤ ns.length ∧ i = .int .i64 k ∧ Hid (enumB (ns.take k) = true) ∧ Hid (Below w.heap.size w wr)) (fun i _ => ns.length - (intOf i).toNat)
  case atStart => exact ⟨0, Nat.zero_le _, rfl, enum_none ns, Below.refl _ _⟩
  case round =>
    obtain ⟨k, hk, rfl, hr, HBr⟩ := hrel
    have HCr := Lib.hid (fun (k : Nat) (h : k < ns.length) => cell_stays HBr.out (HC.out k h))
    by_cases hlt : k < ns.length
    · have g := HCr.out k hlt
      have d1 : decide ((k : Int) < (ns.length : Int)) = true := by rw [decide_eq_true_eq]; omega
      have d2 : decide (k < ns.length) = true := by rw [decide_eq_true_eq]; omega
      have hki : (k : Int) < (ns.length : Int) := by omega
      have hk0 : (0 : Int) ≤ (k : Int) := by omega
      have hkc : (k : Int) ≤ (c : Int) := by omega
      have HI := Lib.hid (fun w => flip_w (isName_any ns[k] (HN.out _ (List.getElem_mem hlt)) w))
      have HT := Lib.hid (fun (n : Nat) => flip_w (contains_any ns b o c ns[k] (wr.drewN n) k (by omega) (by omega) HCr.out))
      cases h1 : isNameL (bl ns[k]) with
      | false =>
        have HR := Lib.hid (enum_bad hlt h1)
        rw [h1] at HI
        generalize ns[k] = x at g HI HT
        clear h1 hr HT
        go_wp2
        go_quiet ((go_at_call 99; exact Calls.quiet_of_same (HI.out _)))
        go_wp2
        go_ret
        exact ⟨ret_bool HR.out.symm, below_drewN HBr.out _⟩
      | true =>
        cases h2 : Lib.containsS (ns.take k) ns[k] with
        | true =>
          have HR := Lib.hid (contains_some hlt h2)
          rw [h1] at HI
          rw [h2] at HT
          generalize ns[k] = x at g HI HT
          clear h1 h2 hr
          go_wp2
          go_quiet ((first | (go_at_call 99; exact Calls.quiet_of_same (HI.out _)) | (go_at_call 100; exact Calls.quiet_of_same (HT.out _))))
          go_wp2
          go_ret
          exact ⟨ret_bool HR.out.symm, below_drewN HBr.out _⟩
        | false =>
          have HR := Lib.hid (enum_more hlt hr.out h1 (contains_none hlt h2))
          rw [h1] at HI
          rw [h2] at HT
          generalize ns[k] = x at g HI HT
          clear h1 h2 hr
          go_wp2
          go_quiet ((first | (go_at_call 99; exact Calls.quiet_of_same (HI.out _)) | (go_at_call 100; exact Calls.quiet_of_same (HT.out _))))
          go_wp2
          go_roundw
          case rel => exact ⟨k + 1, by omega, by go_num, HR, below_drewN HBr.out _⟩
          case measure => simp [intOf]; omega
    · have HR := Lib.hid (enum_end hlt hr.out)
      have d1 : decide ((k : Int) < (ns.length : Int)) = false := by rw [decide_eq_false_iff_not]; omega
      have d2 : decide (k < ns.length) = false := by rw [decide_eq_false_iff_not]; omega
      clear hr
      go_wp2
      go_ret
      exact ⟨ret_bool HR.out.symm, HBr.out⟩
theorem areNames_no (A : Option Addr) (n c : Nat) (w : World) (h : ¬ (1 ≤ n ∧ n ≤ 16)) :
    Calls Tryz.prog 59 #[.slice A n c] w fun e w' => e = .returned (.bool false) ∧ Below w.heap.size w w' := by
  have HW := Lib.hid (within_no (n := (n : Int)) (lo := 1) (hi := 16) (by omega))
  clear h
  go_enter Tryz.func59, Tryz.ntmps59
  go_wp2_with (go_at_call 57; refine (HW.out _).mono ?_; rintro e w' ⟨rfl, rfl⟩)
  go_ret
  exact ⟨rfl, Below.refl _ _⟩
theorem areNames_any (v : Value) (ns : List ByteArray) (w : World) (hv : StrS w v ns) (hz : ∀ s ∈ ns, s.size ≤ 140737488355328) :
    Calls Tryz.prog 59 #[v] w fun e w' => e = .returned (.bool (namesOk isNameL ns)) ∧ Below w.heap.size w w' := by
  obtain ⟨A, c, rfl, h1, h2, h3⟩ := hv
  by_cases hn : 1 ≤ ns.length ∧ ns.length ≤ 16
  · have hr : namesOk isNameL ns = enumB ns := by
      unfold namesOk enumB bl
      simp [hn.1, hn.2]
    rw [hr]
    rcases h3 with rfl | ⟨b, o, rfl, h3⟩
    · exact absurd hn.1 (by simp)
    exact areNames_yes ns b o c w hn.1 hn.2 h1 hz h3
  · have hr : namesOk isNameL ns = false := by
      unfold namesOk
      by_cases h : 1 ≤ ns.length
      · have : ¬ ns.length ≤ 16 := fun h' => hn ⟨h, h'⟩
        simp [this]
      · simp [h]
    rw [hr]
    exact areNames_no A ns.length c w hn
theorem isElement_no (A : Option Addr) (n c : Nat) (w : World) (h : ((n : Int) == 1) = false) :
    Calls Tryz.prog 60 #[.slice A n c] w fun e w' => e = .returned (.bool false) ∧ Below w.heap.size w w' := by
  go_enter Tryz.func60, Tryz.ntmps60
  go_wp2
  go_ret
  exact ⟨rfl, Below.refl _ _⟩
set_option maxHeartbeats 4000000 in
theorem isElement_one (b o c : Nat) (k1 l1 : Int) (nm1 : ByteArray) (x1 x2 : Value) (z : Bool) (w : World)
    (HE : Hid (w.cell? ⟨b, o, none⟩ = some (.int .i64 k1) ∧ w.cell? ⟨b, o + 1, none⟩ = some (.int .i64 l1) ∧ w.cell? ⟨b, o + 2, none⟩ = some (.string nm1) ∧ w.cell? ⟨b, o + 3, none⟩ = some x1 ∧ w.cell? ⟨b, o + 4, none⟩ = some x2))
    (HV : Hid (Calls Tryz.prog 16 #[.agg #[.int .i64 k1, .int .i64 l1, .string nm1, x1, x2]] w fun e w' => e = .returned (.bool z) ∧ Below w.heap.size w w')) :
    Calls Tryz.prog 60 #[.slice (some ⟨b, o, none⟩) 1 c] w fun e w' => e = .returned (.bool ((k1 != 6) && z)) ∧ Below w.heap.size w w' := by
  obtain ⟨e0, e1, e2, e3, e4⟩ := HE.out
  cases h : (k1 != 6) <;> cases z
  all_goals
    go_enter Tryz.func60, Tryz.ntmps60
    go_wp2_with fail
    first
      | (go_ret
         exact ⟨rfl, Below.refl _ _⟩)
      | (refine (HV.out).mono ?_
         rintro e w1 ⟨rfl, hb1⟩
         have HB1 := Lib.hid hb1
         clear hb1 e0 e1 e2 e3 e4
         go_wp2
         go_ret
         exact ⟨rfl, HB1.out⟩)
end Go.Proofs.YtdiagnhdigakpaaGreatDoor
/- The contracts of the smallest functions on bits: isBit, Bit, Not. -/
namespace Go.Proofs.YtdiagnhdigakpaaGreatDoor.Lg
open Go.RowKit

def notN (a : Nat) : Nat := if a = 0 then 1 else if a = 1 then 0 else 2
theorem notN_le (a : Nat) : notN a ≤ 2 := by unfold notN; (repeat' split) <;> omega
theorem beq_nat {a b : Nat} (h : a = b) : ((a : Int) == (b : Int)) = true := by rw [beq_iff_eq]; omega
theorem beq_nat_no {a b : Nat} (h : a ≠ b) : ((a : Int) == (b : Int)) = false := by rw [beq_eq_false_iff_ne]; omega
theorem isBit_yes (b : Nat) (w : World) (h : b ≤ 3) :
    Calls Tryz.prog 176 #[.int .u8 b] w fun e w' => e = .returned (.bool true) ∧ w = w' := by
  have hb : decide ((b : Int) ≤ 3) = true := by rw [decide_eq_true_eq]; omega
  go_enter Tryz.func176, Tryz.ntmps176
  go_wp2
  go_ret
  exact ⟨rfl, rfl⟩
theorem isBit_no (b : Nat) (w : World) (h : 3 < b) :
    Calls Tryz.prog 176 #[.int .u8 b] w fun e w' => e = .returned (.bool false) ∧ w = w' := by
  have hb : decide ((b : Int) ≤ 3) = false := by rw [decide_eq_false_iff_not]; omega
  go_enter Tryz.func176, Tryz.ntmps176
  go_wp2
  go_ret
  exact ⟨rfl, rfl⟩
theorem bit_yes (b : Nat) (w : World) (h : b ≤ 3) :
    Calls Tryz.prog 111 #[.int .u8 b] w fun e w' => e = .returned (.bool true) ∧ w = w' := by
  obtain rfl | rfl | rfl | rfl : b = 0 ∨ b = 1 ∨ b = 2 ∨ b = 3 := by omega
  all_goals
    go_enter Tryz.func111, Tryz.ntmps111
    go_wp2
    go_ret
    exact ⟨rfl, rfl⟩
theorem bit_no (b : Nat) (w : World) (h : 3 < b) :
    Calls Tryz.prog 111 #[.int .u8 b] w fun e w' => e = .returned (.bool false) ∧ w = w' := by
  have h0 : ((b : Int) == 0) = false := by rw [beq_eq_false_iff_ne]; omega
  have h1 : ((b : Int) == 1) = false := by rw [beq_eq_false_iff_ne]; omega
  have h2 : ((b : Int) == 2) = false := by rw [beq_eq_false_iff_ne]; omega
  have h3 : ((b : Int) == 3) = false := by rw [beq_eq_false_iff_ne]; omega
  go_enter Tryz.func111, Tryz.ntmps111
  go_wp2
  go_ret
  exact ⟨rfl, rfl⟩
/-- What Not returns. -/
def notV (a : Nat) : Nat := if a ≤ 3 then notN a else 0
def notE (a : Nat) : Nat := if a ≤ 3 then 0 else 2
end Go.Proofs.YtdiagnhdigakpaaGreatDoor.Lg
/- Slices of bits: what it means that a slice reads as a list of numbers, and the contracts of the functions that only read slices. -/
namespace Go.Proofs.YtdiagnhdigakpaaGreatDoor.Lg
open Go.RowKit

/-- v is a slice that reads as the numbers zs. -/
def Sl (w : World) (v : Value) (zs : List Nat) : Prop :=
  ∃ (A : Option Addr) (c : Nat), v = .slice A zs.length c ∧ zs.length ≤ 140737488355328 ∧ (∀ z ∈ zs, z < 256) ∧ zs.length ≤ c ∧
    (zs = [] ∨ ∃ b off, A = some ⟨b, off, none⟩ ∧ ∀ (k : Nat) (h : k < zs.length), w.cell? ⟨b, off + k, none⟩ = some (.int .u8 (zs[k] : Nat)))

theorem Sl.later {w w' : World} {v : Value} {zs : List Nat} (h : Sl w v zs) (hb : Below w.heap.size w w') : Sl w' v zs := by
  obtain ⟨A, c, e, hn, hz, hq, hc⟩ := h
  refine ⟨A, c, e, hn, hz, hq, ?_⟩
  rcases hc with hc | ⟨b, off, e', hc⟩
  · exact .inl hc
  · exact .inr ⟨b, off, e', fun k hk => (hb.cell (block_lt_of_cell (hc k hk))).trans (hc k hk)⟩

/-- All are bits. -/
def bitsB (zs : List Nat) : Bool := zs.all fun z => decide (z ≤ 3)
theorem bitsB_take {zs : List Nat} {k : Nat} (h : k < zs.length) (hk : bitsB (zs.take k) = true) (hz : zs[k] ≤ 3) : bitsB (zs.take (k + 1)) = true := by
  unfold bitsB at *
  rw [List.take_succ_eq_append_getElem h, List.all_append, hk]
  simpa using hz
theorem bitsB_no {zs : List Nat} {k : Nat} (h : k < zs.length) (hz : 3 < zs[k]) : bitsB zs = false := by
  unfold bitsB
  rw [List.all_eq_false]
  exact ⟨zs[k], List.getElem_mem h, by simpa using hz⟩
theorem bitsB_end {zs : List Nat} (hk : bitsB (zs.take zs.length) = true) : bitsB zs = true := by rwa [List.take_length] at hk

theorem ret_bool {a b : Bool} (h : a = b) : Ending.returned (.bool a) = .returned (.bool b) := by rw [h]

set_option maxHeartbeats 400000 in
theorem areBits_any (v : Value) (zs : List Nat) (w : World) (h : Sl w v zs) :
    Calls Tryz.prog 153 #[v] w fun e w' => e = .returned (.bool (bitsB zs)) ∧ w = w' := by
  obtain ⟨A, c, rfl, hn, hz, hq, hc⟩ := h
  clear hz
  go_enter Tryz.func153, Tryz.ntmps153
  go_wp2_with fail
  go_loop [7] (fun i => ∃ k : Nat, k ≤ zs.length ∧ i = .int .i64 k ∧ Hid (bitsB (zs.take k) = true)) (fun i => zs.length - (intOf i).toNat)
  case atStart => exact ⟨0, Nat.zero_le _, rfl, rfl⟩
  case round =>
    obtain ⟨k, hk, rfl, hr⟩ := hrel
    by_cases hlt : k < zs.length
    · rcases hc with rfl | ⟨b, off, rfl, hc⟩
      · exact absurd hlt (by simp)
      have g := hc k hlt
      clear hc
      by_cases h3 : zs[k] ≤ 3
      · have HR := Lib.hid (bitsB_take hlt hr.out h3)
        generalize zs[k] = z at g h3
        go_wp2_with (go_at_call 176; refine (isBit_yes _ _ (by omega)).mono ?_; rintro e w' ⟨rfl, rfl⟩)
        go_round
        case rel => exact ⟨k + 1, by omega, by go_num, HR⟩
        case measure => simp [intOf]; omega
      · have HR := Lib.hid (bitsB_no hlt (by omega))
        generalize zs[k] = z at g h3
        go_wp2_with (go_at_call 176; refine (isBit_no _ _ (by omega)).mono ?_; rintro e w' ⟨rfl, rfl⟩)
        go_ret
        exact ⟨ret_bool HR.out.symm, rfl⟩
    · have HR := Lib.hid (bitsB_end (zs := zs) (by have := hr.out; rwa [show k = zs.length by omega] at this))
      clear hc
      go_wp2
      go_ret
      exact ⟨ret_bool HR.out.symm, rfl⟩

/-- v is a vector. -/
def isV (zs : List Nat) : Bool := decide (1 ≤ zs.length) && decide (zs.length ≤ 64) && bitsB zs
theorem isV_none {zs : List Nat} (h : ¬ 1 ≤ zs.length) : isV zs = false := by simp [isV, h]
theorem isV_long {zs : List Nat} (h : ¬ zs.length ≤ 64) : isV zs = false := by simp [isV, h]
theorem isV_fits {zs : List Nat} (h : 1 ≤ zs.length) (h' : zs.length ≤ 64) : isV zs = bitsB zs := by simp [isV, h, h']

theorem is_any (v : Value) (zs : List Nat) (w : World) (h : Sl w v zs) :
    Calls Tryz.prog 126 #[v] w fun e w' => e = .returned (.bool (isV zs)) ∧ w = w' := by
  have hA := fun w h => areBits_any v zs w h
  obtain ⟨A, c, rfl, hn, hz, hq, hc⟩ := h
  have hS : Hid (Sl w (.slice A zs.length c) zs) := ⟨A, c, rfl, hn, hz, hq, hc⟩
  clear hz hc
  by_cases h1 : 1 ≤ zs.length
  · by_cases h2 : zs.length ≤ 64
    · rw [isV_fits h1 h2]
      go_enter Tryz.func126, Tryz.ntmps126
      go_wp2_with (go_at_call 153; refine (areBits_any _ _ _ hS.out).mono ?_; rintro e w' ⟨rfl, rfl⟩)
      go_ret
      exact ⟨rfl, rfl⟩
    · rw [isV_long h2]
      go_enter Tryz.func126, Tryz.ntmps126
      go_wp2
      go_ret
      exact ⟨rfl, rfl⟩
  · rw [isV_none h1]
    go_enter Tryz.func126, Tryz.ntmps126
    go_wp2
    go_ret
    exact ⟨rfl, rfl⟩

set_option maxHeartbeats 400000 in
theorem refIs_any (v : Value) (zs : List Nat) (w : World) (h : Sl w v zs) :
    Calls Tryz.prog 75 #[v] w fun e w' => e = .returned (.bool (isV zs)) ∧ w = w' := by
  obtain ⟨A, c, rfl, hn, hz, hq, hc⟩ := h
  clear hz
  go_enter Tryz.func75, Tryz.ntmps75
  go_wp2_with fail
  go_loop [7] (fun i => ∃ k : Nat, k ≤ zs.length ∧ i = .int .i64 k ∧ Hid (bitsB (zs.take k) = true)) (fun i => zs.length - (intOf i).toNat)
  case atStart => exact ⟨0, Nat.zero_le _, rfl, rfl⟩
  case round =>
    obtain ⟨k, hk, rfl, hr⟩ := hrel
    by_cases hlt : k < zs.length
    · rcases hc with rfl | ⟨b, off, rfl, hc⟩
      · exact absurd hlt (by simp)
      have g := hc k hlt
      clear hc
      by_cases h3 : zs[k] ≤ 3
      · have HR := Lib.hid (bitsB_take hlt hr.out h3)
        generalize zs[k] = z at g h3
        go_wp2_with (go_at_call 111; refine (bit_yes _ _ (by omega)).mono ?_; rintro e w' ⟨rfl, rfl⟩)
        go_round
        case rel => exact ⟨k + 1, by omega, by go_num, HR⟩
        case measure => simp [intOf]; omega
      · have HR : Hid (isV zs = false) := by
          have := bitsB_no hlt (show 3 < zs[k] by omega)
          show isV zs = false
          simp [isV, this]
        generalize zs[k] = z at g h3
        go_wp2_with (go_at_call 111; refine (bit_no _ _ (by omega)).mono ?_; rintro e w' ⟨rfl, rfl⟩)
        go_ret
        exact ⟨ret_bool HR.out.symm, rfl⟩
    · have hB := bitsB_end (zs := zs) (by have := hr.out; rwa [show k = zs.length by omega] at this)
      clear hc
      by_cases h1 : 1 ≤ zs.length
      · by_cases h2 : zs.length ≤ 64
        · have HR : Hid (isV zs = true) := by
            show isV zs = true
            rw [isV_fits h1 h2, hB]
          clear hB
          go_wp2
          go_ret
          exact ⟨ret_bool (by rw [HR.out, decide_eq_true_eq]; omega), rfl⟩
        · have HR := Lib.hid (isV_long h2)
          clear hB
          go_wp2
          go_ret
          exact ⟨ret_bool (by rw [HR.out, decide_eq_false_iff_not]; omega), rfl⟩
      · have HR := Lib.hid (isV_none h1)
        clear hB
        go_wp2
        go_ret
        exact ⟨ret_bool HR.out.symm, rfl⟩

/-- Two lists are the same. -/
def eqL (xs ys : List Nat) : Bool := decide (xs = ys)
theorem eqL_len {xs ys : List Nat} (h : xs.length ≠ ys.length) : eqL xs ys = false := by
  unfold eqL; rw [decide_eq_false_iff_not]; intro e; exact h (by rw [e])
theorem eqL_no {xs ys : List Nat} {k : Nat} (hx : k < xs.length) (hy : k < ys.length) (h : xs[k] ≠ ys[k]) : eqL xs ys = false := by
  unfold eqL; rw [decide_eq_false_iff_not]; intro e; subst e; exact h rfl
theorem eqL_take {xs ys : List Nat} {k : Nat} (hx : k < xs.length) (hy : k < ys.length) (hk : xs.take k = ys.take k) (h : xs[k] = ys[k]) : xs.take (k + 1) = ys.take (k + 1) := by
  rw [List.take_succ_eq_append_getElem hx, List.take_succ_eq_append_getElem hy, hk, h]
theorem eqL_end {xs ys : List Nat} {k : Nat} (hl : xs.length = ys.length) (hk : ¬ k < xs.length) (h : xs.take k = ys.take k) : eqL xs ys = true := by
  rw [List.take_of_length_le (by omega), List.take_of_length_le (by omega)] at h
  unfold eqL; rw [decide_eq_true_eq]; exact h

set_option maxHeartbeats 400000 in
theorem same_any (v u : Value) (xs ys : List Nat) (w : World) (h : Sl w v xs) (h' : Sl w u ys) :
    Calls Tryz.prog 38 #[v, u] w fun e w' => e = .returned (.bool (eqL xs ys)) ∧ Below w.heap.size w w' := by
  obtain ⟨A, c, rfl, hn, hz, hq, hc⟩ := h
  obtain ⟨A', c', rfl, hn', hz', hq', hc'⟩ := h'
  clear hz hz'
  by_cases hl : xs.length = ys.length
  · have HL := Lib.hid hl
    have ht : ((xs.length : Int) != (ys.length : Int)) = false := by rw [hl]; simp
    have ht' : ((xs.length : Int) == (ys.length : Int)) = true := by rw [hl]; simp
    clear hl
    go_enter Tryz.func38, Tryz.ntmps38
    go_wp2_with fail
    go_loopw [13] (fun i wr => ∃ k : Nat, k ≤ xs.length ∧ i = .int .i64 k ∧ Hid (xs.take k = ys.take k) ∧ Below w.heap.size w wr) (fun i _ => xs.length - (intOf i).toNat)
    case atStart => exact ⟨0, Nat.zero_le _, rfl, rfl, Below.refl _ _⟩
    case round =>
      obtain ⟨k, hk, rfl, hr, hb⟩ := hrel
      by_cases hlt : k < xs.length
      · have hlt' : k < ys.length := by have := HL.out; omega
        rcases hc with rfl | ⟨b, off, rfl, hc⟩
        · exact absurd hlt (by simp)
        rcases hc' with rfl | ⟨b', off', rfl, hc'⟩
        · exact absurd hlt' (by simp)
        have g := (hb.cell (block_lt_of_cell (hc k hlt))).trans (hc k hlt)
        have g' := (hb.cell (block_lt_of_cell (hc' k hlt'))).trans (hc' k hlt')
        clear hc hc'
        by_cases h3 : xs[k] = ys[k]
        · have HR := Lib.hid (eqL_take hlt hlt' hr.out h3)
          rw [← h3] at g'
          clear h3 ht ht'
          generalize xs[k] = z at g g'
          have HB := Lib.hid hb
          clear hb
          go_wp2
          go_quiet (fail)
          go_wp2
          go_roundw
          case rel => exact ⟨k + 1, by omega, by go_num, HR, below_drewN HB.out _⟩
          case measure => simp [intOf]; omega
        · have HR := Lib.hid (eqL_no hlt hlt' h3)
          have hne := beq_nat_no h3
          have hne' : ((xs[k] : Int) != (ys[k] : Int)) = true := by rw [bne_iff_ne]; omega
          generalize xs[k] = z at g hne hne'
          generalize ys[k] = z' at g' hne hne'
          clear ht ht' h3
          have HB := Lib.hid hb
          clear hb
          go_wp2
          go_quiet (fail)
          go_wp2
          go_ret
          exact ⟨ret_bool HR.out.symm, below_drewN HB.out _⟩
      · have HR := Lib.hid (eqL_end HL.out hlt hr.out)
        clear hc hc' ht ht'
        go_wp2
        go_ret
        exact ⟨ret_bool HR.out.symm, hb⟩
  · have HR := Lib.hid (eqL_len hl)
    have ht : ((xs.length : Int) != (ys.length : Int)) = true := by simp; omega
    have ht' : ((xs.length : Int) == (ys.length : Int)) = false := by simp; omega
    clear hl hc hc'
    go_enter Tryz.func38, Tryz.ntmps38
    go_wp2
    go_ret
    exact ⟨ret_bool HR.out.symm, Below.refl _ _⟩

end Go.Proofs.YtdiagnhdigakpaaGreatDoor.Lg
/- Slices of bits that the call itself makes: what it means that a slice owns its cells, and the laws of append, make and store for them. -/
namespace Go.Proofs.YtdiagnhdigakpaaGreatDoor.Lg
open Go.RowKit

theorem Tryz.infoBit : (Tryz.prog.info? 72).map (fun i => (i.zero, i.size, i.bytes)) = some (some (.int .u8 0), 1, 1) := by kernel_rfl
def bitCells (zs : List Nat) : List Value := zs.map fun z => .int .u8 (z : Nat)
theorem bitCells_length (zs : List Nat) : (bitCells zs).length = zs.length := by simp [bitCells]
theorem bitCells_get {zs : List Nat} {k : Nat} (h : k < zs.length) : (bitCells zs)[k]? = some (.int .u8 (zs[k] : Nat)) := by simp [bitCells, h]
/-- v is a slice of the call's own (from block base on) that reads as zs. -/
def Own (w : World) (base : Nat) (v : Value) (zs : List Nat) : Prop :=
  w.ownsRow base 72 1 v zs.length (bitCells zs) ∧ zs.length ≤ 140737488355328 ∧ (∀ z ∈ zs, z < 256) ∧ base ≤ w.heap.size
theorem Own.nil (w : World) {base : Nat} (h : base ≤ w.heap.size) : Own w base (.slice none 0 0) [] := ⟨World.ownsRow_nil _ _ _ _, by simp, by simp, h⟩
theorem Own.sl {w : World} {base : Nat} {v : Value} {zs : List Nat} (h : Own w base v zs) : Sl w v zs := by
  obtain ⟨ho, hn, hz, _⟩ := h
  rcases ho.2 with ⟨e, h0⟩ | ⟨g, cap, cur, e, _, _, hnc, _⟩
  · have : zs = [] := List.eq_nil_of_length_eq_zero h0
    subst this
    exact ⟨none, 0, e, hn, hz, by simp, .inl rfl⟩
  · subst e
    refine ⟨_, cap, rfl, hn, hz, hnc, .inr ⟨g, 0, rfl, fun k hk => ?_⟩⟩
    rw [Nat.zero_add, ho.cellAt k (by omega), bitCells_get hk]

theorem Own.kept {w w' : World} {base : Nat} {v : Value} {zs : List Nat} (h : Own w base v zs) (hb : Below w.heap.size w w') : Own w' base v zs := by
  obtain ⟨ho, hn, hz, hB⟩ := h
  refine ⟨?_, hn, hz, Nat.le_trans hB hb.size⟩
  have hg : w.grownBy w' none := ⟨hb.os, hb.tape, hb.output, hb.size, fun k hk _ => hb.block k hk⟩
  rcases ho.2 with ⟨e, _⟩ | ⟨g, cap, cur, e, _⟩
  · exact ho.kept hg (.inl (by rw [e]; rfl))
  · exact ho.kept hg (.inr (by rw [e]; simp [Value.ownBlock]))
theorem below_of_grown {w w' : World} {B base : Nat} {v : Value} {e : TypeId} {n : Nat} {xs : List Value} (ho : w.ownsRow base e 1 v n xs) (hg : w.grownBy w' v.ownBlock) (hB : B ≤ base) (hb : base ≤ w.heap.size) : Below B w w' :=
  (Below.refl _ _).grown hg (by omega) fun k hk => by have := (ho.lt k hk).1; omega
theorem run_append_of_nil {P : Program} (w : World) (base : Nat) (t ty e : TypeId) (i : TypeInfo) (size : Nat) (ht : P.underlying t = some (.slice e)) (hi : P.info? e = some i)
    (v : Value) (n : Nat) (xs : List Value) (hown : w.ownsRow base e size v n xs) (c : Nat) : (Builtin.append_ #[t, t] ty #[v, .slice none 0 c]).run P w = .ok v w := by
  rcases hown.2 with ⟨rfl, rfl⟩ | ⟨g, cap, cur, rfl, _, _, hnc, _⟩
  · simp [Builtin.append_, run_underlying ht, sizeOf, typeInfo, hi, Builtin.lenOf, Builtin.firstCells]
  · simp [Builtin.append_, run_underlying ht, sizeOf, typeInfo, hi, Builtin.lenOf, Builtin.firstCells, hnc, storeCells]
theorem run_append_sl (w : World) (base : Nat) (ty : TypeId) (v u : Value) (xs ys : List Nat) (hown : Own w base v xs) (hu : Sl w u ys) (hl : xs.length + ys.length ≤ 140737488355328) :
    ∃ v' w', (Builtin.append_ #[35, 35] ty #[v, u]).run Tryz.prog w = .ok v' w' ∧ Own w' base v' (xs ++ ys) ∧ ∀ B, B ≤ base → Below B w w' := by
  obtain ⟨i, hi, hz, hsize, hby⟩ := info_parts Tryz.infoBit
  obtain ⟨ho, hn, hx, hB⟩ := hown
  obtain ⟨A, c, rfl, hn', hy, hq, hc⟩ := hu
  have hxy : ∀ z ∈ xs ++ ys, z < 256 := by
    intro z hz
    rcases List.mem_append.1 hz with h | h
    · exact hx z h
    · exact hy z h
  rcases A with _ | ad
  · have h0 : ys = [] := by
      rcases hc with h | ⟨b, off, e, _⟩
      · exact h
      · cases e
    subst h0
    exact ⟨v, w, run_append_of_nil w base _ ty _ i 1 Tryz.underlying35 hi v _ _ ho c, ⟨by simpa using ho, by simpa using hn, hxy, hB⟩, fun B _ => Below.refl _ _⟩
  · have hcells : ∀ j u, (bitCells ys)[j]? = some u → w.cell? (ad.add j) = some u := by
      intro j u hj
      have hlt : j < ys.length := by
        rcases Nat.lt_or_ge j ys.length with h | h
        · exact h
        · rw [List.getElem?_eq_none (by rw [bitCells_length]; exact h)] at hj; cases hj
      rw [bitCells_get hlt] at hj
      rcases hc with rfl | ⟨b, off, e, hc⟩
      · exact absurd hlt (by simp)
      · obtain rfl := Option.some.inj e
        have := hc j hlt
        unfold Addr.add
        by_cases h0 : j = 0
        · subst h0; first | (simp [← hj]; done) | simpa [← hj] using this
        · first | (simp [h0, ← hj]; done) | simpa [h0, ← hj] using this
    obtain ⟨v', w', hrun, h2, h3, _, h5⟩ := run_append_own_at (P := Tryz.prog) w base 35 ty 72 i (.int .u8 0) 1 1 Tryz.underlying35 hi hz hsize hby rfl (by decide) v xs.length (bitCells xs) ho ad ys.length c (bitCells ys)
      (by rw [bitCells_length]; omega) hcells (by intro u hu; simp [bitCells] at hu; obtain ⟨z, _, rfl⟩ := hu; rfl) (by unfold maxLen; omega) (by omega) hB
    refine ⟨v', w', hrun, ⟨?_, ?_, hxy, Nat.le_trans hB h3.size⟩, fun B hb => below_of_grown ho h3 hb hB⟩
    · rw [List.length_append, show bitCells (xs ++ ys) = bitCells xs ++ bitCells ys by simp [bitCells]]; exact h2
    · rw [List.length_append]; exact hl
theorem wpList_append_sl {ops : Array Oper} {rest : List Oper} {o : Oper} {a : Act} {Q : Exit → Act → World → Prop} {w : World} (hgd : o.guard = none) (s x : Operand)
    (ho : o.op = .call { callee := .builtin .append, args := #[s, x], argTypes := #[35, 35] })
    (base : Nat) (v u : Value) (xs ys : List Nat) (hs : a.eval s = v) (hx : a.eval x = u) (hown : Own w base v xs) (hu : Sl w u ys) (hl : xs.length + ys.length ≤ 140737488355328)
    (h : ∀ v' w', Own w' base v' (xs ++ ys) → (∀ B, B ≤ base → Below B w w') → wpList Tryz.prog ops Q rest (a.put o.dst v') w') : wpList Tryz.prog ops Q (o :: rest) a w :=
  wpList_plain hgd fun K hK => by
    obtain ⟨v', w', hrun, h2, h3⟩ := run_append_sl w base o.type v u xs ys hown hu hl
    unfold Oper.wp execOp
    simp only [ho, resolve, invoke, builtin, Sem.run_bind, Sem.run_pure, Result.andThen_ok, List.map_toArray, List.map_cons, List.map_nil, hs, hx, hrun]
    exact hK _ _ (h v' w' h2 h3)
/-- A new block of one bit, as a slice. -/
theorem Sl.one (w : World) (z : Nat) (hz : z < 256) : Sl (w.alloc (.cells #[.int .u8 (z : Nat)] 72)) (.slice (some ⟨w.heap.size, 0, none⟩) 1 1) [z] :=
  ⟨_, 1, rfl, by simp, by simpa using hz, by simp, .inr ⟨w.heap.size, 0, rfl, fun k hk => by
    have : k = 0 := by simp at hk; omega
    subst this
    rw [World.cell?_alloc_at _ _ _ _ rfl]; rfl⟩⟩
theorem Own.alloc {w : World} {base : Nat} {v : Value} {zs : List Nat} (h : Own w base v zs) (o : Obj) : Own (w.alloc o) base v zs := h.kept ((Below.refl _ _).alloc (Nat.le_refl _) o)
/-- A new block of no bit, as a slice. -/
theorem Own.empty (w : World) : Own (w.alloc (.cells #[] 72)) w.heap.size (.slice (some ⟨w.heap.size, 0, none⟩) 0 0) [] :=
  ⟨World.ownsRow_made w #[] 0 (Nat.le_refl _) (by decide) rfl, by simp, by simp, by simp⟩
theorem below_alloc (w : World) (o : Obj) : Below w.heap.size w (w.alloc o) := (Below.refl _ _).alloc (Nat.le_refl _) o
theorem below_then {w w1 w2 : World} (h : Below w.heap.size w w1) (h' : Below w1.heap.size w1 w2) : Below w.heap.size w w2 := h.trans (h'.mono h.size)
theorem bitsB_at {zs : List Nat} (hb : bitsB zs = true) {k : Nat} (h : k < zs.length) : zs[k] ≤ 3 := by
  unfold bitsB at hb
  simpa using List.all_eq_true.1 hb zs[k] (List.getElem_mem h)
theorem bitsB_mem {zs : List Nat} (hb : bitsB zs = true) {z : Nat} (h : z ∈ zs) : z ≤ 3 := by
  unfold bitsB at hb
  simpa using List.all_eq_true.1 hb z h
theorem bitsB_of {zs : List Nat} (h : ∀ z ∈ zs, z ≤ 3) : bitsB zs = true := by
  unfold bitsB
  exact List.all_eq_true.2 fun z hz => by simpa using h z hz
theorem bitsB_take' {zs : List Nat} (h : bitsB zs = true) (k : Nat) : bitsB (zs.take k) = true := bitsB_of fun _ hz => bitsB_mem h (List.mem_of_mem_take hz)
theorem ret_ii {k k' : IntKind} {a b c d : Int} (h : a = b) (h' : c = d) : Ending.returned (.tuple #[.int k a, .int k' c]) = .returned (.tuple #[.int k b, .int k' d]) := by rw [h, h']
theorem Own.made {w w' : World} {base n : Nat} {v : Value} (h : w'.ownsRow base 72 1 v n (madeCells (Value.cells (.int .u8 0)) (n * 1)).toList) (hn : n ≤ 140737488355328) (hb : w.grownBy w' none) (hB : base ≤ w.heap.size) : Own w' base v (List.replicate n 0) := by
  refine ⟨?_, by simpa using hn, by intro z hz; have := List.eq_of_mem_replicate hz; omega, Nat.le_trans hB hb.size⟩
  rw [List.length_replicate]
  rw [show (madeCells (Value.cells (.int .u8 0)) (n * 1)).toList = List.replicate (n * 1) (.int .u8 0) from toList_madeCells_one _ _, Nat.mul_one] at h
  simpa [bitCells] using h
theorem Own.stored {w : World} {base g cap n : Nat} {zs : List Nat} (h : Own w base (.slice (some ⟨g, 0, none⟩) n cap) zs) (j z : Nat) (hz : z < 256) :
    Own (w.setCell ⟨g, j, none⟩ (.int .u8 (z : Nat))) base (.slice (some ⟨g, 0, none⟩) n cap) (zs.set j z) ∧ ∀ B, B ≤ base → Below B w (w.setCell ⟨g, j, none⟩ (.int .u8 (z : Nat))) := by
  obtain ⟨ho, hn, hzs, hB⟩ := h
  have hg : base ≤ g := by
    rcases ho.2 with ⟨h', _⟩ | ⟨g', cap', cur, h', hb, _⟩
    · simp at h'
    · simp only [Value.slice.injEq, Option.some.injEq, Addr.mk.injEq, and_true] at h'
      omega
  have hlen : n = zs.length := by
    rcases ho.2 with ⟨h', _⟩ | ⟨g', cap', cur, h', hb, _⟩
    · simp at h'
    · simp only [Value.slice.injEq] at h'
      omega
  subst hlen
  obtain ⟨h1, h2⟩ := ho.stored j (.int .u8 (z : Nat))
  refine ⟨⟨?_, by simpa using hn, ?_, Nat.le_trans hB h2.size⟩, fun B hb => (Below.refl _ _).setCell (by show B ≤ g; omega) _⟩
  · rw [List.length_set, show bitCells (zs.set j z) = (bitCells zs).set j (.int .u8 (z : Nat)) by simp [bitCells]]; exact h1
  · intro y hy
    rcases List.mem_or_eq_of_mem_set hy with h | h
    · exact hzs y h
    · omega
theorem Own.cell {w : World} {base g cap n : Nat} {zs : List Nat} (h : Own w base (.slice (some ⟨g, 0, none⟩) n cap) zs) (j : Nat) (hj : j < zs.length) : w.cell? ⟨g, j, none⟩ = some (.int .u8 (zs[j] : Nat)) ∧ w.frozen? ⟨g, j, none⟩ = false := by
  obtain ⟨ho, _⟩ := h
  have hlen : n = zs.length := by
    rcases ho.2 with ⟨h', _⟩ | ⟨g', cap', cur, h', hb, _⟩
    · simp at h'
    · simp only [Value.slice.injEq] at h'
      omega
  subst hlen
  exact ⟨by rw [ho.cellAt j (by omega), bitCells_get hj], ho.frozenAt j⟩
theorem wpList_make_bits {ops : Array Oper} {rest : List Oper} {o : Oper} {a : Act} {Q : Exit → Act → World → Prop} {w : World} (hg : o.guard = none) (l c : Operand) (hop : o.op = Op.makeSlice 35 l c)
    (n : Nat) (hl : a.eval l = .int .i64 (n : Int)) (hc : a.eval c = .int .i64 (n : Int)) (hn : n ≤ 140737488355328)
    (hK : ∀ w', Own w' w.heap.size (.slice (some ⟨w.heap.size, 0, none⟩) n n) (List.replicate n 0) → Below w.heap.size w w' → wpList Tryz.prog ops Q rest (a.put o.dst (.slice (some ⟨w.heap.size, 0, none⟩) n n)) w') :
    wpList Tryz.prog ops Q (o :: rest) a w := by
  obtain ⟨i, hi, hz, hsize, hby⟩ := info_parts Tryz.infoBit
  refine wpList_make_full _ hg l c 35 hop w.heap.size 72 i (.int .u8 0) 1 Tryz.underlying35 hi hz hsize _ _ _ _ n hl hc rfl rfl (by rw [hby]; omega) (by unfold maxLen; omega) (Nat.le_refl _) ?_
  intro w1 hown hg1
  exact hK w1 (Own.made hown hn hg1 (Nat.le_refl _)) ((Below.refl _ _).grown hg1 (Nat.le_refl _) (fun k hk => by cases hk))
theorem sl_nil (w : World) : Sl w (.slice none 0 0) [] := ⟨none, 0, rfl, by simp, by simp, by simp, .inl rfl⟩
theorem ret_vi {u : Value} {k' : IntKind} {c d : Int} (h' : c = d) : Ending.returned (.tuple #[u, .int k' c]) = .returned (.tuple #[u, .int k' d]) := by rw [h']
def txtE (zs : List Nat) : Nat := if isV zs then 0 else 2
theorem isV_bits {zs : List Nat} (h : isV zs = true) : bitsB zs = true ∧ 1 ≤ zs.length ∧ zs.length ≤ 64 := by
  unfold isV at h
  simp at h
  exact ⟨h.2, h.1.1, h.1.2⟩
theorem Sl.lit (w : World) (zs : List Nat) (cs : Array Value) (hcs : cs.toList = bitCells zs) (hz : ∀ z ∈ zs, z < 256) (hl : zs.length ≤ 1000) (n : Nat) (hn : n = w.heap.size) (k c : Nat) (hk : k = zs.length) (hc : zs.length ≤ c) :
    Sl (w.alloc (.cells cs 72)) (.slice (some ⟨n, 0, none⟩) k c) zs := by
  subst hn hk
  refine ⟨_, c, rfl, by omega, hz, hc, .inr ⟨w.heap.size, 0, rfl, fun j hj => ?_⟩⟩
  rw [World.cell?_alloc_at _ _ _ _ rfl, Nat.zero_add, ← Array.getElem?_toList, hcs, bitCells_get hj]
end Go.Proofs.YtdiagnhdigakpaaGreatDoor.Lg
/- The contracts of Text and Parse, and of the reference's of, Text and Parse: bits as letters. -/
namespace Go.Proofs.YtdiagnhdigakpaaGreatDoor.Lg
open Go.RowKit

theorem idx_lc (x : UInt8) : Lib.indexByte [48, 49, 120, 122] x = if lc x ≤ 3 then (lc x : Int) else -1 := by
  rcases lc_cases x with ⟨rfl, _⟩ | ⟨rfl, _⟩ | ⟨rfl, _⟩ | ⟨rfl, _⟩ | ⟨h0, h1, h2, h3, h⟩
  · decide
  · decide
  · decide
  · decide
  · rw [h]
    simp [Lib.indexByte, Ne.symm h0, Ne.symm h1, Ne.symm h2, Ne.symm h3]

theorem ne_of_byte {x : UInt8} (n : Nat) (hn : n < 256) (h : x ≠ UInt8.ofNat n) : ((x.toNat : Int) == (n : Int)) = false := by
  rw [beq_eq_false_iff_ne]
  intro e
  apply h
  have : x.toNat = n := by omega
  apply UInt8.toNat_inj.1
  rw [this]
  simp [Nat.mod_eq_of_lt hn]

theorem of_any (x : UInt8) (w : World) :
    Calls Tryz.prog 125 #[.int .u8 x.toNat] w fun e w' => e = .returned (.tuple #[.int .u8 (if lc x ≤ 3 then lc x else 0 : Nat), .bool (decide (lc x ≤ 3))]) ∧ w = w' := by
  rcases lc_cases x with ⟨rfl, h⟩ | ⟨rfl, h⟩ | ⟨rfl, h⟩ | ⟨rfl, h⟩ | ⟨h0, h1, h2, h3, h⟩
  case inr.inr.inr.inr =>
    rw [h]
    clear h
    have e0 := ne_of_byte 48 (by decide) h0
    have e1 := ne_of_byte 49 (by decide) h1
    have e2 := ne_of_byte 120 (by decide) h2
    have e3 := ne_of_byte 122 (by decide) h3
    clear h0 h1 h2 h3
    go_enter Tryz.func125, Tryz.ntmps125
    go_wp2
    go_ret2
    exact ⟨rfl, rfl⟩
  all_goals
    rw [h]
    clear h
    go_enter Tryz.func125, Tryz.ntmps125
    go_wp2
    go_ret2
    exact ⟨rfl, rfl⟩

theorem idx1_any (s : ByteArray) (x : UInt8) (w : World) :
    Calls Tryz.prog 165 #[.string s, .int .u8 x.toNat] w fun e w' => e = .returned (.int .i64 (Lib.indexByte s.data.toList x)) ∧ w = w' := by
  refine (Tryz.strings_IndexByte s (x.toNat : Int) w).mono ?_
  rintro e w' ⟨rfl, rfl⟩
  exact ⟨by simp, rfl⟩
/-- The place of a letter among the four. -/
def idxV (x : UInt8) : Int := if lc x ≤ 3 then (lc x : Int) else -1
theorem idx_any (x : UInt8) (w : World) :
    Calls Tryz.prog 165 #[.string ⟨#[48, 49, 120, 122]⟩, .int .u8 x.toNat] w fun e w' => e = .returned (.int .i64 (idxV x)) ∧ w = w' := by
  refine (idx1_any _ x w).mono ?_
  rintro e w' ⟨rfl, rfl⟩
  refine ⟨?_, rfl⟩
  show Ending.returned (.int .i64 (Lib.indexByte [48, 49, 120, 122] x)) = _
  rw [idx_lc]; rfl

/-- What Parse returns of the bytes l. -/
def lcB (l : List UInt8) : Bool := l.all fun x => decide (lc x ≤ 3)
def parB (l : List UInt8) : Bool := decide (1 ≤ l.length) && decide (l.length ≤ 64) && lcB l
def parV (l : List UInt8) : List Nat := if parB l then (l.map lc).reverse else []
def parE (l : List UInt8) : Nat := if parB l then 0 else 44
theorem par_yes {l : List UInt8} (h : parB l = true) : parV l = (l.map lc).reverse ∧ parE l = 0 := by unfold parV parE; rw [h]; exact ⟨rfl, rfl⟩
theorem par_no {l : List UInt8} (h : parB l = false) : parV l = [] ∧ parE l = 44 := by unfold parV parE; rw [h]; exact ⟨rfl, rfl⟩
theorem parB_none {l : List UInt8} (h : ¬ 1 ≤ l.length) : parB l = false := by simp [parB, h]
theorem parB_long {l : List UInt8} (h : ¬ l.length ≤ 64) : parB l = false := by simp [parB, h]
theorem parB_fits {l : List UInt8} (h : 1 ≤ l.length) (h' : l.length ≤ 64) : parB l = lcB l := by simp [parB, h, h']
theorem lcB_take {l : List UInt8} {k : Nat} (h : k < l.length) (hk : lcB (l.take k) = true) (hz : lc l[k] ≤ 3) : lcB (l.take (k + 1)) = true := by
  unfold lcB at *
  rw [List.take_succ_eq_append_getElem h, List.all_append, hk]
  simpa using hz
theorem lcB_no {l : List UInt8} {k : Nat} (h : k < l.length) (hz : ¬ lc l[k] ≤ 3) : lcB l = false := by
  unfold lcB
  rw [List.all_eq_false]
  exact ⟨l[k], List.getElem_mem h, by simpa using hz⟩
theorem lcB_end {l : List UInt8} {k : Nat} (h : ¬ k < l.length) (hk : lcB (l.take k) = true) : lcB l = true := by rwa [List.take_of_length_le (by omega)] at hk
theorem lc_256 (l : List UInt8) : ∀ z ∈ l.map lc, z < 256 := by
  intro z hz
  obtain ⟨x, _, rfl⟩ := List.mem_map.1 hz
  have := lc_le x
  omega

theorem byte_list (s : ByteArray) : s.data.toList.length = s.size := by simp
theorem byte_get (s : ByteArray) (k : Nat) (_h : k < s.size) (h' : k < s.data.toList.length) : s.data.toList[k] = s[k] := by simp; rfl

/-- The row of the call's own that is filled from behind: after k rounds. -/
def fillB (n k : Nat) (ys : List Nat) : List Nat := List.replicate (n - k) 0 ++ ys
theorem fillB_set {n k : Nat} (h : k < n) (ys : List Nat) (z : Nat) : (fillB n k ys).set (n - 1 - k) z = fillB n (k + 1) (z :: ys) := by
  unfold fillB
  rw [List.set_append_left _ _ (by simp; omega)]
  have : n - k = (n - 1 - k) + 1 := by omega
  rw [this, List.replicate_succ', List.set_append_right _ _ (by simp), List.length_replicate, Nat.sub_self, show n - (k + 1) = n - 1 - k by omega, List.append_assoc]
  rfl

theorem idx_yes {x : UInt8} {z : Nat} (h : lc x = z) (h3 : z ≤ 3) (w : World) :
    Calls Tryz.prog 165 #[.string ⟨#[48, 49, 120, 122]⟩, .int .u8 x.toNat] w fun e w' => e = .returned (.int .i64 (z : Nat)) ∧ w = w' := by
  have := idx_any x w
  unfold idxV at this
  rwa [h, if_pos h3] at this
theorem idx_no {x : UInt8} (h : ¬ lc x ≤ 3) (w : World) :
    Calls Tryz.prog 165 #[.string ⟨#[48, 49, 120, 122]⟩, .int .u8 x.toNat] w fun e w' => e = .returned (.int .i64 (-1)) ∧ w = w' := by
  have := idx_any x w
  unfold idxV at this
  rwa [if_neg h] at this

/-- The letters' bits after k rounds, the last first. -/
def revL (l : List UInt8) (k : Nat) : List Nat := ((l.take k).map lc).reverse
theorem revL_succ {l : List UInt8} {k : Nat} (h : k < l.length) : revL l (k + 1) = lc l[k] :: revL l k := by
  unfold revL
  rw [List.take_succ_eq_append_getElem h, List.map_append, List.reverse_append]; rfl
theorem revL_end {l : List UInt8} {k : Nat} (h : ¬ k < l.length) : revL l k = (l.map lc).reverse := by
  unfold revL; rw [List.take_of_length_le (by omega)]
set_option maxHeartbeats 1000000 in
theorem parse_any (s : ByteArray) (w : World) :
    Calls Tryz.prog 147 #[.string s] w fun e w' => ∃ u, e = .returned (.tuple #[u, .int .i64 (parE s.data.toList : Nat)]) ∧ Sl w' u (parV s.data.toList) ∧ Below w.heap.size w w' := by
  have hl := byte_list s
  by_cases h1 : 1 ≤ s.size
  · by_cases h2 : s.size ≤ 64
    · have HF := Lib.hid (parB_fits (l := s.data.toList) (by omega) (by omega))
      have HL := Lib.hid hl
      clear hl
      go_enter Tryz.func147, Tryz.ntmps147
      go_wp2_with (refine wpList_make_bits rfl _ _ rfl s.size rfl rfl (by omega) ?_; intro w1 hown1 hb1)
      have HO1 := Lib.hid hown1
      have HB1 := Lib.hid hb1
      clear hown1 hb1
      go_loopw [20] (fun i wr => ∃ k : Nat, k ≤ s.size ∧ i = .int .i64 k ∧ Hid (lcB (s.data.toList.take k) = true) ∧ Own wr w.heap.size (.slice (some ⟨w.heap.size, 0, none⟩) s.size s.size) (fillB s.size k (revL s.data.toList k)) ∧ Below w.heap.size w wr) (fun i _ => s.size - (intOf i).toNat)
      case atStart => exact ⟨0, Nat.zero_le _, rfl, rfl, by simpa [fillB, revL] using HO1.out, HB1.out⟩
      case round =>
        obtain ⟨k, hk, rfl, hr, hown, hb⟩ := hrel
        have HO := Lib.hid hown
        have HB := Lib.hid hb
        clear hown hb
        by_cases hlt : k < s.size
        · have hlt' : k < s.data.toList.length := by rw [HL.out]; exact hlt
          have HX := Lib.hid (byte_get s k hlt hlt')
          by_cases h3 : lc s[k] ≤ 3
          · have HR := Lib.hid (lcB_take hlt' hr.out (by rw [HX.out]; exact h3))
            have HV := Lib.hid (revL_succ hlt')
            obtain ⟨z, hzz⟩ : ∃ z, lc s[k] = z := ⟨_, rfl⟩
            have HI := Lib.hid (fun w => idx_yes hzz (by omega) w)
            have HZ := Lib.hid hzz
            have hz3 : z ≤ 3 := by omega
            have hfl : (fillB s.size k (revL s.data.toList k)).length = s.size := by simp [fillB, revL]; omega
            obtain ⟨g, gf⟩ := HO.out.cell (s.size - 1 - k) (by rw [hfl]; omega)
            have HS := Lib.hid (HO.out.stored (s.size - 1 - k) z (by omega))
            generalize (fillB s.size k (revL s.data.toList k))[s.size - 1 - k] = y at g
            clear h3 hr hzz hfl
            go_wp2_with (go_at_call 165; refine (HI.out _).mono ?_; rintro e w' ⟨rfl, rfl⟩)
            go_roundw
            case rel => exact ⟨k + 1, by omega, by go_num, HR, by have := HS.out.1; rwa [fillB_set hlt, show z :: revL s.data.toList k = revL s.data.toList (k + 1) by rw [HV.out, HX.out, HZ.out]] at this, HB.out.trans (HS.out.2 _ (Nat.le_refl _))⟩
            case measure => simp [intOf]; omega
          · have HI := Lib.hid (fun w => idx_no h3 w)
            have HR : Hid (parB s.data.toList = false) := by
              have := lcB_no hlt' (by rw [HX.out]; exact h3)
              exact (HF.out).trans this
            clear h3 hr
            go_wp2_with (go_at_call 165; refine (HI.out _).mono ?_; rintro e w' ⟨rfl, rfl⟩)
            go_ret2
            exact ⟨_, ret_vi (by rw [(par_no HR.out).2]; rfl), by rw [(par_no HR.out).1]; exact sl_nil _, HB.out⟩
        · have HR : Hid (parB s.data.toList = true) := (HF.out).trans (lcB_end (by rw [HL.out]; exact hlt) hr.out)
          clear hr
          go_wp2
          go_ret2
          exact ⟨_, ret_vi (by rw [(par_yes HR.out).2]; rfl), by rw [(par_yes HR.out).1, ← revL_end (k := k) (by rw [HL.out]; exact hlt)]; have := HO.out.sl; rwa [fillB, show s.size - k = 0 by omega] at this, HB.out⟩
    · have HR := Lib.hid (par_no (parB_long (l := s.data.toList) (by omega)))
      clear hl
      go_enter Tryz.func147, Tryz.ntmps147
      go_wp2
      go_ret2
      exact ⟨_, ret_vi (by rw [HR.out.2]; rfl), by rw [HR.out.1]; exact sl_nil _, Below.refl _ _⟩
  · have HR := Lib.hid (par_no (parB_none (l := s.data.toList) (by omega)))
    clear hl
    go_enter Tryz.func147, Tryz.ntmps147
    go_wp2
    go_ret2
    exact ⟨_, ret_vi (by rw [HR.out.2]; rfl), by rw [HR.out.1]; exact sl_nil _, Below.refl _ _⟩
end Go.Proofs.YtdiagnhdigakpaaGreatDoor.Lg
/- The contracts of Text and the reference's Text and Parse. -/
namespace Go.Proofs.YtdiagnhdigakpaaGreatDoor.Lg
open Go.RowKit

/-- What Text returns: the bytes, the highest bit first. -/
def txt (zs : List Nat) (k : Nat) : List UInt8 := ((zs.take k).map ltr).reverse
def strOf (l : List UInt8) : ByteArray := ⟨l.toArray⟩
def txtV (zs : List Nat) : ByteArray := if isV zs then strOf (zs.map ltr).reverse else strOf []
theorem txt_succ {zs : List Nat} {k : Nat} (h : k < zs.length) : txt zs (k + 1) = ltr zs[k] :: txt zs k := by
  unfold txt
  rw [List.take_succ_eq_append_getElem h, List.map_append, List.reverse_append]; rfl
theorem txt_end {zs : List Nat} {k : Nat} (h : ¬ k < zs.length) : txt zs k = (zs.map ltr).reverse := by
  unfold txt; rw [List.take_of_length_le (by omega)]
theorem strOf_add (x : UInt8) (l : List UInt8) : strOf [x] ++ strOf l = strOf (x :: l) := by
  unfold strOf
  rw [ByteArray.mk_append_mk]; simp

theorem strOf_size (l : List UInt8) : (strOf l).size = l.length := by show l.toArray.size = _; simp
theorem ret_si {a b : ByteArray} {k' : IntKind} {c d : Int} (h : a = b) (h' : c = d) : Ending.returned (.tuple #[.string a, .int k' c]) = .returned (.tuple #[.string b, .int k' d]) := by rw [h, h']

set_option maxHeartbeats 1000000 in
theorem refText_any (v : Value) (zs : List Nat) (w : World) (h : Sl w v zs) :
    Calls Tryz.prog 117 #[v] w fun e w' => e = .returned (.tuple #[.string (txtV zs), .int .i64 (txtE zs : Nat)]) ∧ w = w' := by
  have hI := refIs_any v zs w h
  obtain ⟨A, c, rfl, hn, hz, hq, hc⟩ := h
  clear hz
  by_cases hv : isV zs = true
  · have hV : txtV zs = strOf (zs.map ltr).reverse := by unfold txtV; rw [if_pos hv]
    have hE : txtE zs = 0 := by unfold txtE; rw [if_pos hv]
    rw [hV, hE, ← txt_end (k := zs.length) (by omega)]
    rw [hv] at hI
    have HI := Lib.hid hI
    have HB := Lib.hid (isV_bits hv)
    have h64 := (isV_bits hv).2.2
    clear hI hv hV hE hn
    go_enter Tryz.func117, Tryz.ntmps117
    go_wp2_with (go_at_call 75; refine (HI.out).mono ?_; rintro e w' ⟨rfl, rfl⟩)
    go_loop [4, 12] (fun t i => ∃ k : Nat, k ≤ zs.length ∧ i = .int .i64 k ∧ t = .string (strOf (txt zs k))) (fun _ i => zs.length - (intOf i).toNat)
    case atStart => exact ⟨0, Nat.zero_le _, rfl, rfl⟩
    case round =>
      obtain ⟨k, hk, rfl, rfl⟩ := hrel
      by_cases hlt : k < zs.length
      · rcases hc with rfl | ⟨b, off, rfl, hc⟩
        · exact absurd hlt (by simp)
        have g := hc k hlt
        clear hc
        have h3 := bitsB_at HB.out.1 hlt
        have HR := Lib.hid (txt_succ hlt)
        have hlen : (txt zs k).length ≤ 64 := by unfold txt; simp; omega
        generalize zs[k] = z at g h3 HR
        generalize txt zs k = T at hlen HR
        have hsz := strOf_size T
        have hsz' : (strOf T).size ≤ 64 := by omega
        clear hsz hlen
        obtain rfl | rfl | rfl | rfl : z = 0 ∨ z = 1 ∨ z = 2 ∨ z = 3 := by omega
        all_goals
          go_wp2
          go_round
          case rel => exact ⟨k + 1, by omega, by go_num, by rw [HR.out, ← strOf_add]; rfl⟩
          case measure => simp [intOf]; omega
      · have HR := Lib.hid (txt_end (zs := zs) (k := k) hlt)
        have HR' := Lib.hid (txt_end (zs := zs) (k := zs.length) (by omega))
        clear hc
        go_wp2
        go_ret2
        exact ⟨ret_si (by rw [HR.out, HR'.out]) rfl, rfl⟩
  · have hv' : isV zs = false := by simpa using hv
    have hV : txtV zs = strOf [] := by unfold txtV; rw [if_neg hv]
    have hE : txtE zs = 2 := by unfold txtE; rw [if_neg hv]
    rw [hV, hE]
    rw [hv'] at hI
    have HI := Lib.hid hI
    clear hI hv hv' hV hE hn hc
    go_enter Tryz.func117, Tryz.ntmps117
    go_wp2_with (go_at_call 75; refine (HI.out).mono ?_; rintro e w' ⟨rfl, rfl⟩)
    go_ret2
    exact ⟨rfl, rfl⟩

/-- A row of bytes of the call's own that is filled from behind. -/
def byteCells (l : List UInt8) : List Value := l.map fun x => .int .u8 (x.toNat : Nat)
def fillT (n k : Nat) (ys : List UInt8) : List UInt8 := List.replicate (n - k) 0 ++ ys
theorem fillT_set {n k : Nat} (h : k < n) (ys : List UInt8) (z : UInt8) : (byteCells (fillT n k ys)).set (n - 1 - k) (.int .u8 (z.toNat : Nat)) = byteCells (fillT n (k + 1) (z :: ys)) := by
  unfold byteCells fillT
  rw [← List.map_set]
  congr 1
  rw [List.set_append_left _ _ (by simp; omega)]
  have : n - k = (n - 1 - k) + 1 := by omega
  rw [this, List.replicate_succ', List.set_append_right _ _ (by simp), List.length_replicate, Nat.sub_self, show n - (k + 1) = n - 1 - k by omega, List.append_assoc]
  rfl
theorem Tryz.infoByte : (Tryz.prog.info? 5).map (fun i => (i.zero, i.size, i.bytes)) = some (some (.int .u8 0), 1, 1) := by kernel_rfl
theorem wpList_make_bytes {ops : Array Oper} {rest : List Oper} {o : Oper} {a : Act} {Q : Exit → Act → World → Prop} {w : World} (hg : o.guard = none) (l c : Operand) (hop : o.op = Op.makeSlice 110 l c)
    (n : Nat) (hl : a.eval l = .int .i64 (n : Int)) (hc : a.eval c = .int .i64 (n : Int)) (hn : n ≤ 140737488355328)
    (hK : ∀ w', w'.ownsRow w.heap.size 5 1 (.slice (some ⟨w.heap.size, 0, none⟩) n n) n (byteCells (List.replicate n 0)) → Below w.heap.size w w' → wpList Tryz.prog ops Q rest (a.put o.dst (.slice (some ⟨w.heap.size, 0, none⟩) n n)) w') :
    wpList Tryz.prog ops Q (o :: rest) a w := by
  obtain ⟨i, hi, hz, hsize, hby⟩ := info_parts Tryz.infoByte
  refine wpList_make_full _ hg l c 110 hop w.heap.size 5 i (.int .u8 0) 1 Tryz.underlying110 hi hz hsize _ _ _ _ n hl hc rfl rfl (by rw [hby]; omega) (by unfold maxLen; omega) (Nat.le_refl _) ?_
  intro w1 hown hg1
  refine hK w1 ?_ ((Below.refl _ _).grown hg1 (Nat.le_refl _) (fun k hk => by cases hk))
  rw [show (madeCells (Value.cells (.int .u8 0)) (n * 1)).toList = List.replicate (n * 1) (.int .u8 0) from toList_madeCells_one _ _, Nat.mul_one] at hown
  simpa [byteCells] using hown

set_option maxHeartbeats 1000000 in
theorem text_any (v : Value) (zs : List Nat) (w : World) (h : Sl w v zs) :
    Calls Tryz.prog 139 #[v] w fun e w' => e = .returned (.tuple #[.string (txtV zs), .int .i64 (txtE zs : Nat)]) ∧ Below w.heap.size w w' := by
  have hI := is_any v zs w h
  obtain ⟨A, c, rfl, hn, hz, hq, hc⟩ := h
  clear hz
  by_cases hv : isV zs = true
  · have hV : txtV zs = strOf (zs.map ltr).reverse := by unfold txtV; rw [if_pos hv]
    have hE : txtE zs = 0 := by unfold txtE; rw [if_pos hv]
    rw [hV, hE, ← txt_end (k := zs.length) (by omega)]
    rw [hv] at hI
    have HI := Lib.hid hI
    have HB := Lib.hid (isV_bits hv)
    have h64 := (isV_bits hv).2.2
    have h01 := (isV_bits hv).2.1
    clear hI hv hV hE hn
    go_enter Tryz.func139, Tryz.ntmps139
    go_wp2_with (first | (go_at_call 126; refine (HI.out).mono ?_; rintro e w' ⟨rfl, rfl⟩) | (refine wpList_make_bytes rfl _ _ rfl zs.length rfl rfl (by omega) ?_; intro w1 hown1 hb1))
    have HO1 := Lib.hid hown1
    have HB1 := Lib.hid hb1
    clear hown1 hb1
    go_loopw [14] (fun i wr => ∃ k : Nat, k ≤ zs.length ∧ i = .int .i64 k ∧ wr.ownsRow w.heap.size 5 1 (.slice (some ⟨w.heap.size, 0, none⟩) zs.length zs.length) zs.length (byteCells (fillT zs.length k (txt zs k))) ∧ Below w.heap.size w wr) (fun i _ => zs.length - (intOf i).toNat)
    case atStart => exact ⟨0, Nat.zero_le _, rfl, by simpa [fillT, txt] using HO1.out, HB1.out⟩
    case round =>
      obtain ⟨k, hk, rfl, hown, hb⟩ := hrel
      have HO := Lib.hid hown
      have Hb := Lib.hid hb
      clear hown hb
      by_cases hlt : k < zs.length
      · rcases hc with rfl | ⟨b, off, rfl, hc⟩
        · exact absurd hlt (by simp)
        have g := (Hb.out.cell (block_lt_of_cell (hc k hlt))).trans (hc k hlt)
        clear hc
        have h3 := bitsB_at HB.out.1 hlt
        have HR := Lib.hid (txt_succ hlt)
        have hfl : (byteCells (fillT zs.length k (txt zs k))).length = zs.length := by simp [byteCells, fillT, txt]; omega
        obtain ⟨y, gc⟩ : ∃ y, wr.cell? ⟨w.heap.size, zs.length - 1 - k, none⟩ = some y := ⟨_, (HO.out.cellAt (zs.length - 1 - k) (by omega)).trans (List.getElem?_eq_getElem (by rw [hfl]; omega))⟩
        have gf := HO.out.frozenAt (zs.length - 1 - k)
        have HS := Lib.hid (HO.out.stored (zs.length - 1 - k) (.int .u8 ((ltr zs[k]).toNat : Nat)))
        rw [fillT_set hlt, ← txt_succ hlt] at HS
        have HBn : Hid (Below w.heap.size w (wr.setCell ⟨w.heap.size, zs.length - 1 - k, none⟩ (.int .u8 ((ltr zs[k]).toNat : Nat)))) := Hb.out.setCell (Nat.le_refl _) _
        generalize zs[k] = z at g h3 HR HS HBn
        clear hfl
        obtain rfl | rfl | rfl | rfl : z = 0 ∨ z = 1 ∨ z = 2 ∨ z = 3 := by omega
        all_goals
          go_wp2
          go_roundw
          case rel => exact ⟨k + 1, by omega, by go_num, HS.out.1, HBn.out⟩
          case measure => simp [intOf]; omega
      · have HR := Lib.hid (txt_end (zs := zs) (k := k) hlt)
        have HR' := Lib.hid (txt_end (zs := zs) (k := zs.length) (by omega))
        have hlen : ((zs.map ltr).reverse).length = zs.length := by simp
        have hconv : (convert 110 9 (.slice (some ⟨w.heap.size, 0, none⟩) zs.length zs.length)).run Tryz.prog wr = .ok (.string (strOf (zs.map ltr).reverse)) wr := by
          have := run_convert_bytes_back (P := Tryz.prog) wr 110 9 5 ⟨w.heap.size, 0, none⟩ zs.length (zs.map ltr).reverse Tryz.underlying110 Tryz.underlying5 Tryz.underlying9 (fun j hj => by
            have hc := HO.out.cellAt j (by omega)
            rw [HR.out] at hc
            have : (Addr.mk w.heap.size 0 none).add j = ⟨w.heap.size, j, none⟩ := by unfold Addr.add; by_cases h0 : j = 0 <;> simp [h0]
            rw [this, hc]
            simp only [byteCells, fillT, show zs.length - k = 0 by omega, List.replicate_zero, List.nil_append, List.getElem?_map]
            rw [List.getElem?_eq_getElem hj]
            rfl)
          rw [hlen] at this
          exact this
        clear hc hlen
        go_wp2
        go_ret2
        exact ⟨ret_si (by rw [HR'.out]) rfl, Hb.out⟩
  · have hv' : isV zs = false := by simpa using hv
    have hV : txtV zs = strOf [] := by unfold txtV; rw [if_neg hv]
    have hE : txtE zs = 2 := by unfold txtE; rw [if_neg hv]
    rw [hV, hE]
    rw [hv'] at hI
    have HI := Lib.hid hI
    clear hI hv hv' hV hE hn hc
    go_enter Tryz.func139, Tryz.ntmps139
    go_wp2_with (go_at_call 126; refine (HI.out).mono ?_; rintro e w' ⟨rfl, rfl⟩)
    go_ret2
    exact ⟨rfl, Below.refl _ _⟩
end Go.Proofs.YtdiagnhdigakpaaGreatDoor.Lg
