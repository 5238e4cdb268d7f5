/- The contracts of Known, of the program and of the reference. -/
import Derived.Test.YtkapephlfbabjaaMem
namespace Go.Proofs.Ytkapephlfbabjaa
open Go.RowKit
theorem unk_yes (b : Nat) (w : World) (h : 1 < b) (h3 : b ≤ 3) :
    Calls Try.prog 86 #[.int .u8 b] w fun e w' => e = .returned (.bool true) ∧ w = w' := by
  obtain rfl | rfl : b = 2 ∨ b = 3 := by omega
  all_goals
    go_enter Try.func86, Try.ntmps86
    go_wp2
    go_ret
    exact ⟨rfl, rfl⟩
theorem unk_no (b : Nat) (w : World) (h : b ≤ 1) :
    Calls Try.prog 86 #[.int .u8 b] w fun e w' => e = .returned (.bool false) ∧ w = w' := by
  obtain rfl | rfl : b = 0 ∨ b = 1 := by omega
  all_goals
    go_enter Try.func86, Try.ntmps86
    go_wp2
    go_ret
    exact ⟨rfl, rfl⟩

/-- All are 0 or 1. -/
def knB (zs : List Nat) : Bool := zs.all fun z => decide (z ≤ 1)
theorem knB_take {zs : List Nat} {k : Nat} (h : k < zs.length) (hk : knB (zs.take k) = true) (hz : zs[k] ≤ 1) : knB (zs.take (k + 1)) = true := by
  unfold knB at *
  rw [List.take_succ_eq_append_getElem h, List.all_append, hk]
  simpa using hz
theorem knB_no {zs : List Nat} {k : Nat} (h : k < zs.length) (hz : 1 < zs[k]) : knB zs = false := by
  unfold knB
  rw [List.all_eq_false]
  exact ⟨zs[k], List.getElem_mem h, by simpa using hz⟩
theorem knB_end {zs : List Nat} {k : Nat} (h : ¬ k < zs.length) (hk : knB (zs.take k) = true) : knB zs = true := by rwa [List.take_of_length_le (by omega)] at hk

set_option maxHeartbeats 1000000 in
theorem indexFunc_none (v : Value) (zs : List Nat) (w : World) (h : Sl w v zs) (hk1 : knB zs = true) :
    Calls Try.prog 91 #[v, .func (.func 86) #[] #[]] w fun e w' => e = .returned (.int .i64 (-1)) ∧ w = w' := by
  obtain ⟨A, c, rfl, hn, hz, hq, hc⟩ := h
  have HK := Lib.hid hk1
  clear hz hk1
  go_enter Try.func91, Try.ntmps91
  go_wp2_with fail
  go_loop [8] (fun i => ∃ k : Nat, k ≤ zs.length ∧ i = .int .i64 k) (fun i => zs.length - (intOf i).toNat)
  case atStart => exact ⟨0, Nat.zero_le _, rfl⟩
  case round =>
    obtain ⟨k, hk, rfl⟩ := hrel
    by_cases hlt : k < zs.length
    · rcases hc with rfl | ⟨b, off, rfl, hc⟩
      · exact absurd hlt (by simp)
      have g := hc k hlt
      have h1 : zs[k] ≤ 1 := by
        have := HK.out
        unfold knB at this
        simpa using List.all_eq_true.1 this zs[k] (List.getElem_mem hlt)
      clear hc
      generalize zs[k] = z at g h1
      go_wp2_with (go_at_call 86; refine (unk_no _ _ (by omega)).mono ?_; rintro e w' ⟨rfl, rfl⟩)
      go_round
      case rel => exact ⟨k + 1, by omega, by go_num⟩
      case measure => simp [intOf]; omega
    · clear hc
      go_wp2
      go_ret
      exact ⟨rfl, rfl⟩

set_option maxHeartbeats 1000000 in
theorem indexFunc_some (v : Value) (zs : List Nat) (w : World) (h : Sl w v zs) (hb : bitsB zs = true) (hk0 : knB zs = false) :
    Calls Try.prog 91 #[v, .func (.func 86) #[] #[]] w fun e w' => ∃ k : Nat, e = .returned (.int .i64 (k : Nat)) ∧ w = w' := by
  obtain ⟨A, c, rfl, hn, hz, hq, hc⟩ := h
  have HK := Lib.hid hk0
  have HB := Lib.hid hb
  clear hz hk0 hb
  go_enter Try.func91, Try.ntmps91
  go_wp2_with fail
  go_loop [8] (fun i => ∃ k : Nat, k ≤ zs.length ∧ i = .int .i64 k ∧ Hid (knB (zs.take k) = true)) (fun i => zs.length - (intOf i).toNat)
  case atStart => exact ⟨0, Nat.zero_le _, rfl, rfl⟩
  case round =>
    obtain ⟨k, hk, rfl, hr⟩ := hrel
    by_cases hlt : k < zs.length
    · rcases hc with rfl | ⟨b, off, rfl, hc⟩
      · exact absurd hlt (by simp)
      have g := hc k hlt
      have h3 := bitsB_at HB.out hlt
      clear hc
      by_cases h1 : zs[k] ≤ 1
      · have HR := Lib.hid (knB_take hlt hr.out h1)
        generalize zs[k] = z at g h1 h3
        go_wp2_with (go_at_call 86; refine (unk_no _ _ (by omega)).mono ?_; rintro e w' ⟨rfl, rfl⟩)
        go_round
        case rel => exact ⟨k + 1, by omega, by go_num, HR⟩
        case measure => simp [intOf]; omega
      · generalize zs[k] = z at g h1 h3
        go_wp2_with (go_at_call 86; refine (unk_yes _ _ (by omega) (by omega)).mono ?_; rintro e w' ⟨rfl, rfl⟩)
        go_ret
        exact ⟨k, rfl, rfl⟩
    · exfalso
      have := knB_end hlt hr.out
      rw [HK.out] at this
      cases this

theorem contains_any (v : Value) (zs : List Nat) (w : World) (h : Sl w v zs) (hb : bitsB zs = true) :
    Calls Try.prog 85 #[v, .func (.func 86) #[] #[]] w fun e w' => e = .returned (.bool (!knB zs)) ∧ w = w' := by
  have HS := Lib.hid h
  have HB := Lib.hid hb
  obtain ⟨A, c, rfl, hn, _⟩ := h
  clear hb
  by_cases hk : knB zs = true
  · have HK := Lib.hid hk
    rw [hk]
    clear hk
    go_enter Try.func85, Try.ntmps85
    go_wp2_with (go_at_call 91; refine (indexFunc_none _ _ _ HS.out HK.out).mono ?_; rintro e w' ⟨rfl, rfl⟩)
    go_ret
    exact ⟨rfl, rfl⟩
  · have hk' : knB zs = false := by simpa using hk
    have HK := Lib.hid hk'
    rw [hk']
    clear hk hk'
    go_enter Try.func85, Try.ntmps85
    go_wp2_with (go_at_call 91; refine (indexFunc_some _ _ _ HS.out HB.out HK.out).mono ?_; rintro e w' ⟨k, rfl, rfl⟩)
    go_ret
    exact ⟨ret_bool (by simp), rfl⟩

theorem ret_bi {a b : Bool} {k' : IntKind} {c d : Int} (h : a = b) (h' : c = d) : Ending.returned (.tuple #[.bool a, .int k' c]) = .returned (.tuple #[.bool b, .int k' d]) := by rw [h, h']
/-- What Known returns. -/
def knV (zs : List Nat) : Bool := isV zs && knB zs
theorem txtE_yes {zs : List Nat} (h : isV zs = true) : txtE zs = 0 := by unfold txtE; rw [h]; rfl
theorem txtE_no {zs : List Nat} (h : isV zs = false) : txtE zs = 2 := by unfold txtE; rw [h]; rfl
theorem known_any (v : Value) (zs : List Nat) (w : World) (h : Sl w v zs) :
    Calls Try.prog 57 #[v] w fun e w' => e = .returned (.tuple #[.bool (knV zs), .int .i64 (txtE zs : Nat)]) ∧ w = w' := by
  have hI := is_any v zs w h
  have HS := Lib.hid h
  obtain ⟨A, c, rfl, hn, _⟩ := h
  by_cases hv : isV zs = true
  · rw [hv] at hI
    have HI := Lib.hid hI
    have HB := Lib.hid (isV_bits hv).1
    rw [show knV zs = knB zs by unfold knV; rw [hv]; rfl, txtE_yes hv]
    clear hI hv
    go_enter Try.func57, Try.ntmps57
    go_wp2_with (first | (go_at_call 60; refine (HI.out).mono ?_; rintro e w' ⟨rfl, rfl⟩) | (go_at_call 85; refine (contains_any _ _ _ HS.out HB.out).mono ?_; rintro e w' ⟨rfl, rfl⟩))
    go_ret2
    exact ⟨ret_bi (by simp) rfl, rfl⟩
  · have hv' : isV zs = false := by simpa using hv
    rw [hv'] at hI
    have HI := Lib.hid hI
    rw [show knV zs = false by unfold knV; rw [hv']; rfl, txtE_no hv']
    clear hI hv hv'
    go_enter Try.func57, Try.ntmps57
    go_wp2_with (go_at_call 60; refine (HI.out).mono ?_; rintro e w' ⟨rfl, rfl⟩)
    go_ret2
    exact ⟨rfl, rfl⟩

set_option maxHeartbeats 1000000 in
theorem refKnown_any (v : Value) (zs : List Nat) (w : World) (h : Sl w v zs) :
    Calls Try.prog 83 #[v] w fun e w' => e = .returned (.tuple #[.bool (knV zs), .int .i64 (txtE zs : Nat)]) ∧ w = w' := by
  have hI := refIs_any v zs w h
  obtain ⟨A, c, rfl, hn, hz, hq, hc⟩ := h
  clear hz
  by_cases hv : isV zs = true
  · rw [hv] at hI
    have HI := Lib.hid hI
    rw [show knV zs = knB zs by unfold knV; rw [hv]; rfl, txtE_yes hv]
    clear hI hv
    go_enter Try.func83, Try.ntmps83
    go_wp2_with (go_at_call 53; refine (HI.out).mono ?_; rintro e w' ⟨rfl, rfl⟩)
    go_loop [11] (fun i => ∃ k : Nat, k ≤ zs.length ∧ i = .int .i64 k ∧ Hid (knB (zs.take k) = true)) (fun i => zs.length - (intOf i).toNat)
    case atStart => exact ⟨0, Nat.zero_le _, rfl, rfl⟩
    case round =>
      obtain ⟨k, hk, rfl, hr⟩ := hrel
      by_cases hlt : k < zs.length
      · rcases hc with rfl | ⟨b, off, rfl, hc⟩
        · exact absurd hlt (by simp)
        have g := hc k hlt
        clear hc
        by_cases h1 : zs[k] ≤ 1
        · have HR := Lib.hid (knB_take hlt hr.out h1)
          have hd : decide ((1 : Int) < (zs[k] : Int)) = false := by rw [decide_eq_false_iff_not]; omega
          generalize zs[k] = z at g h1 hd
          go_wp2
          go_round
          case rel => exact ⟨k + 1, by omega, by go_num, HR⟩
          case measure => simp [intOf]; omega
        · have HR := Lib.hid (knB_no hlt (by omega))
          have hd : decide ((1 : Int) < (zs[k] : Int)) = true := by rw [decide_eq_true_eq]; omega
          generalize zs[k] = z at g h1 hd
          go_wp2
          go_ret2
          exact ⟨ret_bi HR.out.symm rfl, rfl⟩
      · have HR := Lib.hid (knB_end hlt hr.out)
        clear hc
        go_wp2
        go_ret2
        exact ⟨ret_bi HR.out.symm rfl, rfl⟩
  · have hv' : isV zs = false := by simpa using hv
    rw [hv'] at hI
    have HI := Lib.hid hI
    rw [show knV zs = false by unfold knV; rw [hv']; rfl, txtE_no hv']
    clear hI hv hv' hc
    go_enter Try.func83, Try.ntmps83
    go_wp2_with (go_at_call 53; refine (HI.out).mono ?_; rintro e w' ⟨rfl, rfl⟩)
    go_ret2
    exact ⟨rfl, rfl⟩
end Go.Proofs.Ytkapephlfbabjaa
