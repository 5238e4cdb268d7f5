/- The contracts of the reference's IsName, number and quoted. -/
import Derived.Test.YtfjeljehodbbmaaDoorSt
namespace Go.Proofs.YtfjeljehodbbmaaDoor
open Go.RowKit

theorem all_run {l : List UInt8} : decide (runN 1 l = l.length) = l.all innB := by
  have e : runN 1 l = (l.takeWhile innB).length := rfl
  rw [e]
  cases h : l.all innB with
  | true =>
    apply decide_eq_true
    have := (tw_stop (p := innB) (x := l) (z := []) h (by intro c hc; cases hc)).1
    rw [List.append_nil] at this
    rw [this]
  | false =>
    apply decide_eq_false
    intro hl
    have hs := tw_split innB l
    have ht := tw_all innB l
    have : l.dropWhile innB = [] := by
      have h2 := congrArg List.length hs
      rw [List.length_append, hl] at h2
      exact List.eq_nil_of_length_eq_zero (by omega)
    rw [this, List.append_nil] at hs
    rw [← hs, h] at ht
    cases ht
theorem hd_at {s : ByteArray} (h : 0 < s.size) : hdLet (bl s) = letN (s[0]).toNat := by
  have h2 := bl_get s 0 h
  cases hb : bl s with
  | nil => have := bl_len s; rw [hb] at this; rw [List.length_nil] at this; omega
  | cons c r =>
    simp only [hb, List.getElem_cons_zero] at h2
    rw [← h2]
    rfl
theorem isName_eq (s : ByteArray) : isNameL (bl s) = (decide (s.size ≤ 40) && (hdLet (bl s) && (decide (runN 1 (bl s) = s.size) && !isWordL (bl s)))) := by
  unfold isNameL
  rw [← bl_len s, all_run]
set_option maxHeartbeats 1000000 in
theorem refIsName_any (s : ByteArray) (w : World) :
    Calls Tryd.prog 22 #[.string s] w fun e w' => e = .returned (.bool (isNameL (bl s))) ∧ Below w.heap.size w w' := by
  rw [isName_eq]
  by_cases h0 : 0 < s.size
  · have d0 : decide ((1 : Int) ≤ (s.size : Int)) = true := by rw [decide_eq_true_eq]; omega
    have hh := hd_at h0
    have HL := Lib.hid (letter_at (s[0]).toNat)
    rw [← hh] at HL
    by_cases h40 : s.size ≤ 40
    · have d1 : decide ((s.size : Int) ≤ 40) = true := by rw [decide_eq_true_eq]; omega
      rw [decide_eq_true h40]
      have HR := Lib.hid (fun w => run_any s 0 1 (by omega) (Nat.zero_le _) (by omega) w)
      rw [List.drop_zero] at HR
      have HW := Lib.hid (refIsWord_any s)
      generalize hdLet (bl s) = hd at *
      generalize runN 1 (bl s) = r at *
      generalize isWordL (bl s) = iw at *
      cases hd
      · clear h40 hh
        go_enter Tryd.func22, Tryd.ntmps22
        go_wp2_with fail
        refine (HL.out _).mono ?_
        rintro e w' ⟨rfl, rfl⟩
        go_wp2
        go_ret
        exact ⟨rfl, Below.refl _ _⟩
      · by_cases hr : r = s.size
        · have d2 : ((r : Int) == (s.size : Int)) = true := by rw [beq_iff_eq]; omega
          rw [decide_eq_true hr]
          clear h40 hh hr
          cases iw
          all_goals
            go_enter Tryd.func22, Tryd.ntmps22
            go_wp2_with fail
            refine (HL.out _).mono ?_
            rintro e w' ⟨rfl, rfl⟩
            go_wp2_with fail
            refine (HR.out _).mono ?_
            rintro e w' ⟨rfl, rfl⟩
            go_wp2_with fail
            refine (HW.out _).mono ?_
            rintro e w' ⟨rfl, hb⟩
            have HB := Lib.hid hb
            clear hb
            go_wp2
            go_ret
            exact ⟨rfl, HB.out⟩
        · have d2 : ((r : Int) == (s.size : Int)) = false := by rw [beq_eq_false_iff_ne]; omega
          rw [decide_eq_false hr]
          clear h40 hh hr
          go_enter Tryd.func22, Tryd.ntmps22
          go_wp2_with fail
          refine (HL.out _).mono ?_
          rintro e w' ⟨rfl, rfl⟩
          go_wp2_with fail
          refine (HR.out _).mono ?_
          rintro e w' ⟨rfl, rfl⟩
          go_wp2
          go_ret
          exact ⟨rfl, Below.refl _ _⟩
    · have d1 : decide ((s.size : Int) ≤ 40) = false := by rw [decide_eq_false_iff_not]; omega
      rw [decide_eq_false h40]
      clear h40 hh
      go_enter Tryd.func22, Tryd.ntmps22
      go_wp2
      go_ret
      exact ⟨rfl, Below.refl _ _⟩
  · have d0 : decide ((1 : Int) ≤ (s.size : Int)) = false := by rw [decide_eq_false_iff_not]; omega
    have hn : bl s = [] := List.eq_nil_of_length_eq_zero (by rw [bl_len]; omega)
    rw [show hdLet (bl s) = false by rw [hn]; rfl, Bool.false_and, Bool.and_false]
    clear hn h0
    go_enter Tryd.func22, Tryd.ntmps22
    go_wp2
    go_ret
    exact ⟨rfl, Below.refl _ _⟩

/-- What number returns of digits. -/
def numI (l : List UInt8) : Int := if valL l ≤ maxI then (valL l : Int) else -1
theorem val_mono (a b : List UInt8) : valL a ≤ valL (a ++ b) := by
  unfold valL
  rw [List.foldl_append]
  generalize a.foldl (fun n c => 10 * n + (c.toNat - 48)) 0 = n
  have key : ∀ (b : List UInt8) (n : Nat), n ≤ b.foldl (fun n c => 10 * n + (c.toNat - 48)) n := by
    intro b
    induction b with
    | nil => intro n; exact Nat.le_refl _
    | cons c b ih => intro n; exact Nat.le_trans (by omega) (ih (10 * n + (c.toNat - 48)))
  exact key b n
theorem val_take {l : List UInt8} {k : Nat} (h : k < l.length) : valL (l.take (k + 1)) = 10 * valL (l.take k) + (l[k].toNat - 48) := by
  rw [List.take_succ_eq_append_getElem h, val_append]
theorem val_over {l : List UInt8} {k : Nat} (h : ¬ valL (l.take k) ≤ maxI) : numI l = -1 := by
  have := val_mono (l.take k) (l.drop k)
  rw [List.take_append_drop] at this
  unfold numI
  rw [if_neg (by omega)]
theorem val_end {l : List UInt8} {k : Nat} (h : ¬ k < l.length) (hv : valL (l.take k) ≤ maxI) : numI l = (valL (l.take k) : Int) := by
  rw [List.take_of_length_le (by omega)] at *
  unfold numI
  rw [if_pos hv]
theorem u8_digit {x : Nat} (h1 : 48 ≤ x) (h2 : x < 256) : IntKind.u8.wrap ((x : Int) - 48) = ((x - 48 : Nat) : Int) := by
  rw [IntKind.wrap_u8]; omega
set_option maxHeartbeats 1000000 in
theorem number_any (s : ByteArray) (hs : s.size ≤ 140737488355328) (hd : (bl s).all digB = true) (w : World) :
    Calls Tryd.prog 69 #[.string s] w fun e w' => e = .returned (.int .i64 (numI (bl s))) ∧ w = w' := by
  have HD := Lib.hid hd
  clear hd
  go_enter Tryd.func69, Tryd.ntmps69
  go_wp2_with fail
  go_loop [3, 7] (fun v i => ∃ k n : Nat, k ≤ s.size ∧ i = .int .i64 k ∧ v = .int .i64 n ∧ n ≤ 2147483647 ∧ Hid (valL ((bl s).take k) = n)) (fun _ i => s.size - (intOf i).toNat)
  case atStart => exact ⟨0, 0, Nat.zero_le _, rfl, rfl, by omega, by show _ = _; rw [List.take_zero]; rfl⟩
  case round =>
    obtain ⟨k, n, hk, rfl, rfl, hn, hr⟩ := hrel
    by_cases hlt : k < s.size
    · have hl : k < (bl s).length := by rw [bl_len]; exact hlt
      have hb : (bl s)[k]'hl = s[k]'hlt := bl_get s k hlt
      have hx : digB (s[k]'hlt) = true := by rw [← hb]; exact List.all_eq_true.1 HD.out _ (List.getElem_mem hl)
      have hv : valL ((bl s).take (k + 1)) = 10 * n + ((s[k]'hlt).toNat - 48) := by rw [val_take hl, hr.out, hb]
      clear hb
      unfold digB at hx
      simp only [digN, decide_eq_true_eq] at hx
      obtain ⟨d, hdd⟩ : ∃ d, d = (s[k]'hlt).toNat - 48 := ⟨_, rfl⟩
      have hw : IntKind.u8.wrap (((s[k]'hlt).toNat : Int) - 48) = (d : Int) := by rw [hdd]; exact u8_digit hx.1 (by omega)
      have hw2 : ((s[k]'hlt).toNat : Int) - 48 = (d : Int) := by omega
      obtain ⟨m, hm⟩ : ∃ m, m = 10 * n := ⟨_, rfl⟩
      have h10 : (10 : Int) * (n : Int) = (m : Int) := by omega
      obtain ⟨n', hn'⟩ : ∃ n', n' = m + d := ⟨_, rfl⟩
      have hsum : (m : Int) + (d : Int) = (n' : Int) := by omega
      have hd9 : d ≤ 9 := by omega
      have hm9 : m ≤ 21474836470 := by omega
      have hn9 : n' ≤ 21474836479 := by omega
      have HV : Hid (valL ((bl s).take (k + 1)) = n') := by show _ = _; rw [hv, hn', hm, hdd]
      by_cases hbig : n' ≤ 2147483647
      · have d1 : decide ((2147483647 : Int) < (n' : Int)) = false := by rw [decide_eq_false_iff_not]; omega
        clear hdd hm hn' hv hx hl hr
        go_wp2
        go_round
        case rel => exact ⟨k + 1, n', by omega, by go_num, rfl, hbig, HV⟩
        case measure => simp [intOf]; omega
      · have d1 : decide ((2147483647 : Int) < (n' : Int)) = true := by rw [decide_eq_true_eq]; omega
        have HR := Lib.hid (val_over (l := bl s) (k := k + 1) (by rw [HV.out]; unfold maxI; omega))
        clear hdd hm hn' hv hx hl hr hbig
        go_wp2
        go_ret
        exact ⟨ret_int HR.out.symm, rfl⟩
    · have HR := Lib.hid (val_end (l := bl s) (k := k) (by rw [bl_len]; exact hlt) (by rw [hr.out]; exact hn))
      rw [hr.out] at HR
      clear hr
      go_wp2
      go_ret
      exact ⟨ret_int HR.out.symm, rfl⟩
end Go.Proofs.YtfjeljehodbbmaaDoor
