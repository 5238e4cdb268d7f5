/- The contracts of the program's IsWord and IsName. -/
import Derived.Test.YtfjeljehodbbmaaDoorPa
import Derived.Test.YtfjeljehodbbmaaDoorSq
namespace Go.Proofs.YtfjeljehodbbmaaDoor
open Go.RowKit

def caseL : List (List UInt8) := [[112, 97, 99, 107, 97, 103, 101], [105, 115], [101, 110, 100], [109, 111, 100, 117, 108, 101], [103, 101, 110, 101, 114, 105, 99], [112, 111, 114, 116], [98, 101, 103, 105, 110], [105, 110], [111, 117, 116], [118, 101, 99], [97, 114, 114, 97, 121], [111, 102], [99, 111, 110, 115, 116], [116, 121, 112, 101], [115, 105, 103, 110, 97, 108], [118, 97, 114], [102, 117, 110, 99, 116, 105, 111, 110], [114, 101, 116, 117, 114, 110], [117, 115, 101], [112, 114, 111, 99, 101, 115, 115], [97, 108, 108], [105, 110, 115, 116], [102, 111, 114], [116, 111], [103, 101, 110, 101, 114, 97, 116, 101], [105, 102], [101, 108, 115, 101], [116, 114, 97, 110, 115, 112, 111, 114, 116], [97, 102, 116, 101, 114], [97, 115, 115, 101, 114, 116], [114, 101, 112, 111, 114, 116], [116, 104, 101, 110], [101, 108, 115, 105, 102], [99, 97, 115, 101], [119, 104, 101, 110], [111, 116, 104, 101, 114, 115], [108, 111, 111, 112], [119, 104, 105, 108, 101], [119, 97, 105, 116], [111, 110], [117, 110, 116, 105, 108], [110, 117, 108, 108], [97, 110, 100], [111, 114], [120, 111, 114], [110, 97, 110, 100], [110, 111, 114], [120, 110, 111, 114], [110, 111, 116], [109, 111, 100], [115, 104, 108], [115, 104, 114], [100, 111, 119, 110, 116, 111]]
theorem case_word (l : List UInt8) : isWordL l = caseL.contains l := by
  have h1 : ∀ x ∈ wordsL, x ∈ caseL := by decide +kernel
  have h2 : ∀ x ∈ caseL, x ∈ wordsL := by decide +kernel
  unfold isWordL
  cases hc : caseL.contains l with
  | true => exact List.contains_iff_mem.2 (h2 l (List.contains_iff_mem.1 hc))
  | false =>
    cases hw : wordsL.contains l with
    | false => rfl
    | true => rw [List.contains_iff_mem.2 (h1 l (List.contains_iff_mem.1 hw))] at hc; cases hc
set_option maxRecDepth 100000 in
set_option maxHeartbeats 8000000 in
theorem isWord_any (s : ByteArray) (w : World) :
    Calls Tryd.prog 21 #[.string s] w fun e w' => e = .returned (.bool (isWordL (bl s))) ∧ w = w' := by
  go_enter Tryd.func21, Tryd.ntmps21
  go_wp2
  all_goals first
    | (exfalso; rename_i h1 h2; rw [h1] at h2; cases h2; done)
    | (have h := eq_of_beq (‹(s.toList == _) = true›)
       rw [case_word, ← bl_toList, h]
       go_ret
       exact ⟨rfl, rfl⟩)
    | (have h : isWordL (bl s) = false := by
         rw [case_word, ← bl_toList]
         simp only [caseL, List.contains_cons, List.contains_nil, Bool.or_false, *]
       rw [h]
       go_ret
       exact ⟨rfl, rfl⟩)
theorem name_parts (s : ByteArray) : isNameL (bl s) = (hdLet (bl s) && (decide (wlN (bl s) = s.size) && (decide (s.size ≤ 40) && !isWordL (bl s)))) := by
  have h1 : (bl s).all innB = decide (wlN (bl s) = s.size) := by
    cases h : (bl s).all innB with
    | true => rw [wl_end h, bl_len]; simp
    | false =>
      symm
      rw [decide_eq_false_iff_not]
      intro e
      have h2 := tw_take innB (bl s)
      rw [show ((bl s).takeWhile innB).length = (bl s).length by rw [bl_len]; exact e, List.take_length] at h2
      have h3 := tw_all innB (bl s)
      rw [← h2, h] at h3
      cases h3
  unfold isNameL
  rw [h1, bl_len]
  cases decide (s.size ≤ 40) <;> cases hdLet (bl s) <;> cases decide (wlN (bl s) = s.size) <;> cases isWordL (bl s) <;> rfl
set_option maxHeartbeats 4000000 in
theorem isName_any (s : ByteArray) (hs : s.size ≤ 140737488355328) (w : World) :
    Calls Tryd.prog 20 #[.string s] w fun e w' => e = .returned (.bool (isNameL (bl s))) ∧ w = w' := by
  by_cases h0 : 0 < s.size
  · have hL := fun w => isLetter_at (s[0]'h0).toNat w
    have hh : hdLet (bl s) = letN (s[0]'h0).toNat := hd_at h0
    have hN := name_parts s
    rw [← hh] at hL
    have HWl := Lib.hid (fun w => wordLength_any s hs w)
    have HW := Lib.hid (fun w => isWord_any s w)
    have t0 : (s.toList != []) = true := by
      rw [bl_toList, bne_iff_ne]
      intro e
      have := bl_len s
      rw [e] at this
      simp at this
      omega
    have t0' : (s.toList == []) = false := by
      rw [bne, Bool.not_eq_true'] at t0
      exact t0
    have hd1 : decide ((0 : Int) < (s.size : Int)) = true := by rw [decide_eq_true_eq]; omega
    generalize hdLet (bl s) = b1 at *
    generalize wlN (bl s) = n at *
    generalize isWordL (bl s) = b4 at *
    have HL := Lib.hid hL
    have HN := Lib.hid hN
    clear hL hh hN
    cases b1 with
    | false =>
      go_enter Tryd.func20, Tryd.ntmps20
      go_wp2_with fail
      refine (HL.out _).mono ?_
      rintro e w' ⟨rfl, rfl⟩
      go_wp2
      go_ret
      exact ⟨ret_bool HN.out.symm, rfl⟩
    | true =>
    by_cases h2 : n = s.size
    · have t2 : ((n : Int) == (s.size : Int)) = true := by rw [beq_iff_eq]; omega
      rw [decide_eq_true h2] at HN
      by_cases h3 : s.size ≤ 40
      · have t3 : decide ((s.size : Int) ≤ 40) = true := by rw [decide_eq_true_eq]; omega
        rw [decide_eq_true h3] at HN
        clear h2 h3
        cases b4 with
        | true =>
          go_enter Tryd.func20, Tryd.ntmps20
          go_wp2_with fail
          refine (HL.out _).mono ?_
          rintro e w' ⟨rfl, rfl⟩
          go_wp2_with fail
          refine (HWl.out _).mono ?_
          rintro e w' ⟨rfl, rfl⟩
          go_wp2_with fail
          refine (HW.out _).mono ?_
          rintro e w' ⟨rfl, rfl⟩
          go_wp2
          go_ret
          exact ⟨ret_bool HN.out.symm, rfl⟩
        | false =>
          go_enter Tryd.func20, Tryd.ntmps20
          go_wp2_with fail
          refine (HL.out _).mono ?_
          rintro e w' ⟨rfl, rfl⟩
          go_wp2_with fail
          refine (HWl.out _).mono ?_
          rintro e w' ⟨rfl, rfl⟩
          go_wp2_with fail
          refine (HW.out _).mono ?_
          rintro e w' ⟨rfl, rfl⟩
          go_wp2
          go_ret
          exact ⟨ret_bool HN.out.symm, rfl⟩
      · have t3 : decide ((s.size : Int) ≤ 40) = false := by rw [decide_eq_false_iff_not]; omega
        rw [decide_eq_false h3] at HN
        clear h2 h3
        go_enter Tryd.func20, Tryd.ntmps20
        go_wp2_with fail
        refine (HL.out _).mono ?_
        rintro e w' ⟨rfl, rfl⟩
        go_wp2_with fail
        refine (HWl.out _).mono ?_
        rintro e w' ⟨rfl, rfl⟩
        go_wp2
        go_ret
        exact ⟨ret_bool HN.out.symm, rfl⟩
    · have t2 : ((n : Int) == (s.size : Int)) = false := by rw [beq_eq_false_iff_ne]; omega
      rw [decide_eq_false h2] at HN
      clear h2
      go_enter Tryd.func20, Tryd.ntmps20
      go_wp2_with fail
      refine (HL.out _).mono ?_
      rintro e w' ⟨rfl, rfl⟩
      go_wp2_with fail
      refine (HWl.out _).mono ?_
      rintro e w' ⟨rfl, rfl⟩
      go_wp2
      go_ret
      exact ⟨ret_bool HN.out.symm, rfl⟩
  · have e : s = ⟨#[]⟩ := bl_inj (List.eq_nil_of_length_eq_zero (by rw [bl_len]; omega))
    subst e
    go_enter Tryd.func20, Tryd.ntmps20
    go_wp2
    go_ret
    exact ⟨rfl, rfl⟩
end Go.Proofs.YtfjeljehodbbmaaDoor
