/- The contracts of the reference's path and Valid. -/
import Derived.Test.YtdiagnhdigakpaaGreatDoorKb
namespace Go.Proofs.YtdiagnhdigakpaaGreatDoor
open Go.RowKit

theorem path_cases (x : Nat) : ((97 ≤ x ∧ x ≤ 122) ∨ (65 ≤ x ∧ x ≤ 90) ∨ (48 ≤ x ∧ x ≤ 57) ∨ (x = 95) ∨ (x = 46) ∨ (x < 46 ∨ x = 47) ∨ (57 < x ∧ x < 65) ∨ (90 < x ∧ x < 95 ∨ x = 96) ∨ (122 < x)) := by omega
theorem all_more {p : UInt8 → Bool} {l : List UInt8} {k : Nat} (h : k < l.length) (hk : (l.take k).all p = true) (hx : p l[k] = true) : (l.take (k + 1)).all p = true := by
  rw [List.take_succ_eq_append_getElem h, List.all_append, hk]
  simp [hx]
theorem all_stop {p : UInt8 → Bool} {l : List UInt8} {k : Nat} (h : k < l.length) (hx : p l[k] = false) : l.all p = false := by
  rw [Bool.eq_false_iff]
  intro ha
  rw [List.all_eq_true.1 ha _ (List.getElem_mem h)] at hx
  cases hx
theorem all_end {p : UInt8 → Bool} {l : List UInt8} {k : Nat} (h : ¬ k < l.length) (hk : (l.take k).all p = true) : l.all p = true := by
  rwa [List.take_of_length_le (by omega)] at hk
set_option maxHeartbeats 8000000 in
theorem path_any (s : ByteArray) (hs : s.size ≤ 9223372036854775807) (w : World) :
    Calls Tryz.prog 61 #[.string s] w fun e w' => e = .returned (.bool (pathB s)) ∧ w = w' := by
  go_enter Tryz.func61, Tryz.ntmps61
  go_wp2_with fail
  go_loop [7] (fun i => ∃ k : Nat, k ≤ s.size ∧ i = .int .i64 k ∧ Hid (((bl s).take k).all (fun c => pathN c.toNat) = true)) (fun i => s.size - (intOf i).toNat)
  case atStart => exact ⟨0, Nat.zero_le _, rfl, rfl⟩
  case round =>
    obtain ⟨k, hk, rfl, hr⟩ := hrel
    by_cases hlt : k < s.size
    · have hlb : k < (bl s).length := by rw [bl_len]; exact hlt
      have hg : (bl s)[k] = s[k] := bl_get s k hlt
      have d1 : decide ((k : Int) < (s.size : Int)) = true := by rw [decide_eq_true_eq]; omega
      have d2 : decide (k < s.size) = true := by rw [decide_eq_true_eq]; omega
      obtain ⟨x, hx⟩ : ∃ x, (s[k]'hlt).toNat = x := ⟨_, rfl⟩
      have hv : (fun c : UInt8 => pathN c.toNat) (bl s)[k] = pathN x := (congrArg (fun c : UInt8 => pathN c.toNat) hg).trans (congrArg pathN hx)
      have hc := path_cases x
      have HX : Hid ((s[k]'hlt).toNat = x) := hx
      clear hg hx
      rcases hc with h0 | h1 | h2 | h3 | h4 | h5 | h6 | h7 | h8
      · have l97 : decide ((x : Int) < 97) = false := by rw [decide_eq_false_iff_not]; omega
        have g122 : decide ((122 : Int) < (x : Int)) = false := by rw [decide_eq_false_iff_not]; omega
        have l65 : decide ((x : Int) < 65) = false := by rw [decide_eq_false_iff_not]; omega
        have g90 : decide ((90 : Int) < (x : Int)) = true := by rw [decide_eq_true_eq]; omega
        have l48 : decide ((x : Int) < 48) = false := by rw [decide_eq_false_iff_not]; omega
        have g57 : decide ((57 : Int) < (x : Int)) = true := by rw [decide_eq_true_eq]; omega
        have e95 : ((x : Int) == 95) = false := by rw [beq_eq_false_iff_ne]; omega
        have e95' : ((x : Int) != 95) = true := by rw [bne_iff_ne]; omega
        have e46 : ((x : Int) == 46) = false := by rw [beq_eq_false_iff_ne]; omega
        have e46' : ((x : Int) != 46) = true := by rw [bne_iff_ne]; omega
        have hp : pathN x = true := decide_eq_true (by omega)
        have HR := Lib.hid (all_more hlb hr.out (hv.trans hp))
        have HX2 := HX.out
        clear hv hp hr h0
        go_wp2
        go_round
        case rel => exact ⟨k + 1, by omega, by go_num, HR⟩
        case measure => simp [intOf]; omega
      · have l97 : decide ((x : Int) < 97) = true := by rw [decide_eq_true_eq]; omega
        have g122 : decide ((122 : Int) < (x : Int)) = false := by rw [decide_eq_false_iff_not]; omega
        have l65 : decide ((x : Int) < 65) = false := by rw [decide_eq_false_iff_not]; omega
        have g90 : decide ((90 : Int) < (x : Int)) = false := by rw [decide_eq_false_iff_not]; omega
        have l48 : decide ((x : Int) < 48) = false := by rw [decide_eq_false_iff_not]; omega
        have g57 : decide ((57 : Int) < (x : Int)) = true := by rw [decide_eq_true_eq]; omega
        have e95 : ((x : Int) == 95) = false := by rw [beq_eq_false_iff_ne]; omega
        have e95' : ((x : Int) != 95) = true := by rw [bne_iff_ne]; omega
        have e46 : ((x : Int) == 46) = false := by rw [beq_eq_false_iff_ne]; omega
        have e46' : ((x : Int) != 46) = true := by rw [bne_iff_ne]; omega
        have hp : pathN x = true := decide_eq_true (by omega)
        have HR := Lib.hid (all_more hlb hr.out (hv.trans hp))
        have HX2 := HX.out
        clear hv hp hr h1
        go_wp2
        go_round
        case rel => exact ⟨k + 1, by omega, by go_num, HR⟩
        case measure => simp [intOf]; omega
      · have l97 : decide ((x : Int) < 97) = true := by rw [decide_eq_true_eq]; omega
        have g122 : decide ((122 : Int) < (x : Int)) = false := by rw [decide_eq_false_iff_not]; omega
        have l65 : decide ((x : Int) < 65) = true := by rw [decide_eq_true_eq]; omega
        have g90 : decide ((90 : Int) < (x : Int)) = false := by rw [decide_eq_false_iff_not]; omega
        have l48 : decide ((x : Int) < 48) = false := by rw [decide_eq_false_iff_not]; omega
        have g57 : decide ((57 : Int) < (x : Int)) = false := by rw [decide_eq_false_iff_not]; omega
        have e95 : ((x : Int) == 95) = false := by rw [beq_eq_false_iff_ne]; omega
        have e95' : ((x : Int) != 95) = true := by rw [bne_iff_ne]; omega
        have e46 : ((x : Int) == 46) = false := by rw [beq_eq_false_iff_ne]; omega
        have e46' : ((x : Int) != 46) = true := by rw [bne_iff_ne]; omega
        have hp : pathN x = true := decide_eq_true (by omega)
        have HR := Lib.hid (all_more hlb hr.out (hv.trans hp))
        have HX2 := HX.out
        clear hv hp hr h2
        go_wp2
        go_round
        case rel => exact ⟨k + 1, by omega, by go_num, HR⟩
        case measure => simp [intOf]; omega
      · have l97 : decide ((x : Int) < 97) = true := by rw [decide_eq_true_eq]; omega
        have g122 : decide ((122 : Int) < (x : Int)) = false := by rw [decide_eq_false_iff_not]; omega
        have l65 : decide ((x : Int) < 65) = false := by rw [decide_eq_false_iff_not]; omega
        have g90 : decide ((90 : Int) < (x : Int)) = true := by rw [decide_eq_true_eq]; omega
        have l48 : decide ((x : Int) < 48) = false := by rw [decide_eq_false_iff_not]; omega
        have g57 : decide ((57 : Int) < (x : Int)) = true := by rw [decide_eq_true_eq]; omega
        have e95 : ((x : Int) == 95) = true := by rw [beq_iff_eq]; omega
        have e95' : ((x : Int) != 95) = false := by rw [bne_eq_false_iff_eq]; omega
        have e46 : ((x : Int) == 46) = false := by rw [beq_eq_false_iff_ne]; omega
        have e46' : ((x : Int) != 46) = true := by rw [bne_iff_ne]; omega
        have hp : pathN x = true := decide_eq_true (by omega)
        have HR := Lib.hid (all_more hlb hr.out (hv.trans hp))
        have HX2 := HX.out
        clear hv hp hr h3
        go_wp2
        go_round
        case rel => exact ⟨k + 1, by omega, by go_num, HR⟩
        case measure => simp [intOf]; omega
      · have l97 : decide ((x : Int) < 97) = true := by rw [decide_eq_true_eq]; omega
        have g122 : decide ((122 : Int) < (x : Int)) = false := by rw [decide_eq_false_iff_not]; omega
        have l65 : decide ((x : Int) < 65) = true := by rw [decide_eq_true_eq]; omega
        have g90 : decide ((90 : Int) < (x : Int)) = false := by rw [decide_eq_false_iff_not]; omega
        have l48 : decide ((x : Int) < 48) = true := by rw [decide_eq_true_eq]; omega
        have g57 : decide ((57 : Int) < (x : Int)) = false := by rw [decide_eq_false_iff_not]; omega
        have e95 : ((x : Int) == 95) = false := by rw [beq_eq_false_iff_ne]; omega
        have e95' : ((x : Int) != 95) = true := by rw [bne_iff_ne]; omega
        have e46 : ((x : Int) == 46) = true := by rw [beq_iff_eq]; omega
        have e46' : ((x : Int) != 46) = false := by rw [bne_eq_false_iff_eq]; omega
        have hp : pathN x = true := decide_eq_true (by omega)
        have HR := Lib.hid (all_more hlb hr.out (hv.trans hp))
        have HX2 := HX.out
        clear hv hp hr h4
        go_wp2
        go_round
        case rel => exact ⟨k + 1, by omega, by go_num, HR⟩
        case measure => simp [intOf]; omega
      · have l97 : decide ((x : Int) < 97) = true := by rw [decide_eq_true_eq]; omega
        have g122 : decide ((122 : Int) < (x : Int)) = false := by rw [decide_eq_false_iff_not]; omega
        have l65 : decide ((x : Int) < 65) = true := by rw [decide_eq_true_eq]; omega
        have g90 : decide ((90 : Int) < (x : Int)) = false := by rw [decide_eq_false_iff_not]; omega
        have l48 : decide ((x : Int) < 48) = true := by rw [decide_eq_true_eq]; omega
        have g57 : decide ((57 : Int) < (x : Int)) = false := by rw [decide_eq_false_iff_not]; omega
        have e95 : ((x : Int) == 95) = false := by rw [beq_eq_false_iff_ne]; omega
        have e95' : ((x : Int) != 95) = true := by rw [bne_iff_ne]; omega
        have e46 : ((x : Int) == 46) = false := by rw [beq_eq_false_iff_ne]; omega
        have e46' : ((x : Int) != 46) = true := by rw [bne_iff_ne]; omega
        have hp : pathN x = false := decide_eq_false (by omega)
        have HR := Lib.hid (all_stop (p := fun c : UInt8 => pathN c.toNat) hlb (hv.trans hp))
        have HX2 := HX.out
        clear hv hp hr h5
        go_wp2
        go_ret
        exact ⟨ret_bool (by unfold pathB; rw [show s.data.toList.all (fun c => pathN c.toNat) = false from HR.out]; rfl), rfl⟩
      · have l97 : decide ((x : Int) < 97) = true := by rw [decide_eq_true_eq]; omega
        have g122 : decide ((122 : Int) < (x : Int)) = false := by rw [decide_eq_false_iff_not]; omega
        have l65 : decide ((x : Int) < 65) = true := by rw [decide_eq_true_eq]; omega
        have g90 : decide ((90 : Int) < (x : Int)) = false := by rw [decide_eq_false_iff_not]; omega
        have l48 : decide ((x : Int) < 48) = false := by rw [decide_eq_false_iff_not]; omega
        have g57 : decide ((57 : Int) < (x : Int)) = true := by rw [decide_eq_true_eq]; omega
        have e95 : ((x : Int) == 95) = false := by rw [beq_eq_false_iff_ne]; omega
        have e95' : ((x : Int) != 95) = true := by rw [bne_iff_ne]; omega
        have e46 : ((x : Int) == 46) = false := by rw [beq_eq_false_iff_ne]; omega
        have e46' : ((x : Int) != 46) = true := by rw [bne_iff_ne]; omega
        have hp : pathN x = false := decide_eq_false (by omega)
        have HR := Lib.hid (all_stop (p := fun c : UInt8 => pathN c.toNat) hlb (hv.trans hp))
        have HX2 := HX.out
        clear hv hp hr h6
        go_wp2
        go_ret
        exact ⟨ret_bool (by unfold pathB; rw [show s.data.toList.all (fun c => pathN c.toNat) = false from HR.out]; rfl), rfl⟩
      · have l97 : decide ((x : Int) < 97) = true := by rw [decide_eq_true_eq]; omega
        have g122 : decide ((122 : Int) < (x : Int)) = false := by rw [decide_eq_false_iff_not]; omega
        have l65 : decide ((x : Int) < 65) = false := by rw [decide_eq_false_iff_not]; omega
        have g90 : decide ((90 : Int) < (x : Int)) = true := by rw [decide_eq_true_eq]; omega
        have l48 : decide ((x : Int) < 48) = false := by rw [decide_eq_false_iff_not]; omega
        have g57 : decide ((57 : Int) < (x : Int)) = true := by rw [decide_eq_true_eq]; omega
        have e95 : ((x : Int) == 95) = false := by rw [beq_eq_false_iff_ne]; omega
        have e95' : ((x : Int) != 95) = true := by rw [bne_iff_ne]; omega
        have e46 : ((x : Int) == 46) = false := by rw [beq_eq_false_iff_ne]; omega
        have e46' : ((x : Int) != 46) = true := by rw [bne_iff_ne]; omega
        have hp : pathN x = false := decide_eq_false (by omega)
        have HR := Lib.hid (all_stop (p := fun c : UInt8 => pathN c.toNat) hlb (hv.trans hp))
        have HX2 := HX.out
        clear hv hp hr h7
        go_wp2
        go_ret
        exact ⟨ret_bool (by unfold pathB; rw [show s.data.toList.all (fun c => pathN c.toNat) = false from HR.out]; rfl), rfl⟩
      · have l97 : decide ((x : Int) < 97) = false := by rw [decide_eq_false_iff_not]; omega
        have g122 : decide ((122 : Int) < (x : Int)) = true := by rw [decide_eq_true_eq]; omega
        have l65 : decide ((x : Int) < 65) = false := by rw [decide_eq_false_iff_not]; omega
        have g90 : decide ((90 : Int) < (x : Int)) = true := by rw [decide_eq_true_eq]; omega
        have l48 : decide ((x : Int) < 48) = false := by rw [decide_eq_false_iff_not]; omega
        have g57 : decide ((57 : Int) < (x : Int)) = true := by rw [decide_eq_true_eq]; omega
        have e95 : ((x : Int) == 95) = false := by rw [beq_eq_false_iff_ne]; omega
        have e95' : ((x : Int) != 95) = true := by rw [bne_iff_ne]; omega
        have e46 : ((x : Int) == 46) = false := by rw [beq_eq_false_iff_ne]; omega
        have e46' : ((x : Int) != 46) = true := by rw [bne_iff_ne]; omega
        have hp : pathN x = false := decide_eq_false (by omega)
        have HR := Lib.hid (all_stop (p := fun c : UInt8 => pathN c.toNat) hlb (hv.trans hp))
        have HX2 := HX.out
        clear hv hp hr h8
        go_wp2
        go_ret
        exact ⟨ret_bool (by unfold pathB; rw [show s.data.toList.all (fun c => pathN c.toNat) = false from HR.out]; rfl), rfl⟩
    · have HR := Lib.hid (all_end (by rw [bl_len]; exact hlt) hr.out)
      clear hr
      by_cases h1 : 1 ≤ s.size
      · have e1 : decide ((1 : Int) ≤ (s.size : Int)) = true := by rw [decide_eq_true_eq]; omega
        obtain ⟨b, hb⟩ : ∃ b, decide (s.size ≤ 100) = b := ⟨_, rfl⟩
        have e2 : decide ((s.size : Int) ≤ 100) = b := by rw [← hb]; exact decide_eq_decide.2 (by omega)
        have HB : Hid (pathB s = b) := by
          show _ = _
          unfold pathB
          rw [show s.data.toList.all (fun c => pathN c.toNat) = true from HR.out, decide_eq_true h1, hb]
          rfl
        clear hb h1
        go_wp2
        go_ret
        exact ⟨ret_bool HB.out.symm, rfl⟩
      · have e1 : decide ((1 : Int) ≤ (s.size : Int)) = false := by rw [decide_eq_false_iff_not]; omega
        have HB : Hid (pathB s = false) := by
          show _ = _
          unfold pathB
          rw [decide_eq_false h1, Bool.false_and, Bool.and_false]
        clear h1
        go_wp2
        go_ret
        exact ⟨ret_bool HB.out.symm, rfl⟩
end Go.Proofs.YtdiagnhdigakpaaGreatDoor
/- The contract of the reference's Valid: types that are no enumeration. -/
namespace Go.Proofs.YtdiagnhdigakpaaGreatDoor
open Go.RowKit

theorem len_zero {α : Type} (l : List α) : ((l.length : Int) == 0) = l.isEmpty := by cases l <;> simp; omega
theorem bare_cases (nm : ByteArray) (ns : List ByteArray) : (nm.toList.isEmpty = true ∧ ((ns.length : Int) == 0) = true ∧ bareT nm ns = true) ∨ (nm.toList.isEmpty = true ∧ ((ns.length : Int) == 0) = false ∧ bareT nm ns = false) ∨ (nm.toList.isEmpty = false ∧ ((0 : Int) == 0) = true ∧ bareT nm ns = false) := by
  have h1 : nm.toList.isEmpty = decide (nm.size = 0) := by
    rw [bl_toList, ← bl_len]
    cases bl nm <;> simp
  have h2 := len_zero ns
  unfold bareT
  rw [h1, h2]
  cases decide (nm.size = 0) <;> cases ns.isEmpty <;> simp
theorem int_beq (l : Int) : decide (l = 0) = (l == 0) := by cases h : (l == 0) <;> simp_all
set_option maxHeartbeats 8000000 in
theorem valid_basic (k : Int) (hk : k = 1 ∨ k = 2 ∨ k = 3) (l : Int) (nm : ByteArray) (ns : List ByteArray) (es : List Ty) (A B : Option Addr) (c d : Nat) (w : World) :
    Calls Tryz.prog 17 #[.agg #[.int .i64 k, .int .i64 l, .string nm, .slice A ns.length c, .slice B es.length d]] w fun e w' => e = .returned (.bool (decide (l = 0) && (bareT nm ns && es.isEmpty))) ∧ Below w.heap.size w w' := by
  have HB0 := Lib.hid (below_alloc w (.cells #[.int .i64 k, .int .i64 l, .string nm, .slice A ns.length c, .slice B es.length d] 26))
  rw [int_beq, ← len_zero es]
  cases e4 : (l == 0) <;> cases e5 : ((es.length : Int) == 0) <;> rcases bare_cases nm ns with ⟨h1, h2, h3⟩ | ⟨h1, h2, h3⟩ | ⟨h1, h2, h3⟩ <;> rw [h3] <;> clear h3 <;> rcases hk with rfl | rfl | rfl
  all_goals
    go_enter Tryz.func17, Tryz.ntmps17
    go_wp2
    go_ret
    exact ⟨rfl, HB0.out⟩
end Go.Proofs.YtdiagnhdigakpaaGreatDoor
/- The contract of the reference's Valid: vectors, arrays, kinds that are none. -/
namespace Go.Proofs.YtdiagnhdigakpaaGreatDoor
open Go.RowKit

theorem range_split (l : Int) : decide (1 ≤ l ∧ l ≤ 64) = (decide (1 ≤ l) && decide (l ≤ 64)) := by
  cases h1 : decide (1 ≤ l) <;> cases h2 : decide (l ≤ 64) <;> simp_all
set_option maxHeartbeats 8000000 in
theorem valid_vec (l : Int) (nm : ByteArray) (ns : List ByteArray) (es : List Ty) (A B : Option Addr) (c d : Nat) (w : World) :
    Calls Tryz.prog 17 #[.agg #[.int .i64 4, .int .i64 l, .string nm, .slice A ns.length c, .slice B es.length d]] w fun e w' => e = .returned (.bool (decide (1 ≤ l ∧ l ≤ 64) && (bareT nm ns && es.isEmpty))) ∧ Below w.heap.size w w' := by
  have HB0 := Lib.hid (below_alloc w (.cells #[.int .i64 4, .int .i64 l, .string nm, .slice A ns.length c, .slice B es.length d] 26))
  rw [range_split, ← len_zero es]
  cases e3 : decide (1 ≤ l) <;> cases e4 : decide (l ≤ 64) <;> cases e5 : ((es.length : Int) == 0) <;> rcases bare_cases nm ns with ⟨h1, h2, h3⟩ | ⟨h1, h2, h3⟩ | ⟨h1, h2, h3⟩ <;> rw [h3] <;> clear h3
  all_goals
    go_enter Tryz.func17, Tryz.ntmps17
    go_wp2
    go_ret
    exact ⟨rfl, HB0.out⟩
set_option maxHeartbeats 8000000 in
theorem valid_none (k : Int) (hk : (k == 1) = false ∧ (k == 2) = false ∧ (k == 3) = false ∧ (k == 4) = false ∧ (k == 5) = false ∧ (k == 6) = false) (l : Int) (nm : ByteArray) (ns : List ByteArray) (es : List Ty) (A B : Option Addr) (c d : Nat) (w : World) :
    Calls Tryz.prog 17 #[.agg #[.int .i64 k, .int .i64 l, .string nm, .slice A ns.length c, .slice B es.length d]] w fun e w' => e = .returned (.bool false) ∧ Below w.heap.size w w' := by
  have HB0 := Lib.hid (below_alloc w (.cells #[.int .i64 k, .int .i64 l, .string nm, .slice A ns.length c, .slice B es.length d] 26))
  obtain ⟨k1, k2, k3, k4, k5, k6⟩ := hk
  rcases bare_cases nm ns with ⟨h1, h2, h3⟩ | ⟨h1, h2, h3⟩ | ⟨h1, h2, h3⟩ <;> clear h3
  all_goals
    go_enter Tryz.func17, Tryz.ntmps17
    go_wp2
    go_ret
    exact ⟨rfl, HB0.out⟩
/-- An array whose elements are not one. -/
theorem valid_arr0 (l : Int) (nm : ByteArray) (ns : List ByteArray) (es : List Ty) (A B : Option Addr) (c d : Nat) (w : World) (hn : ¬ es.length = 1) :
    Calls Tryz.prog 17 #[.agg #[.int .i64 6, .int .i64 l, .string nm, .slice A ns.length c, .slice B es.length d]] w fun e w' => e = .returned (.bool false) ∧ Below w.heap.size w w' := by
  have HB0 := Lib.hid (below_alloc w (.cells #[.int .i64 6, .int .i64 l, .string nm, .slice A ns.length c, .slice B es.length d] 26))
  have e5 : ((es.length : Int) == 1) = false := by rw [beq_eq_false_iff_ne]; omega
  clear hn
  cases e3 : decide (1 ≤ l) <;> cases e4 : decide (l ≤ 64) <;> rcases bare_cases nm ns with ⟨h1, h2, h3⟩ | ⟨h1, h2, h3⟩ | ⟨h1, h2, h3⟩ <;> clear h3
  all_goals
    go_enter Tryz.func17, Tryz.ntmps17
    go_wp2
    go_ret
    exact ⟨rfl, HB0.out⟩
end Go.Proofs.YtdiagnhdigakpaaGreatDoor
/- The contract of the reference's Valid: arrays of one type. -/
namespace Go.Proofs.YtdiagnhdigakpaaGreatDoor
open Go.RowKit

theorem range_split2 (l : Int) : decide (1 ≤ l ∧ l ≤ 64) = (decide (1 ≤ l) && decide (l ≤ 64)) := by
  cases h1 : decide (1 ≤ l) <;> cases h2 : decide (l ≤ 64) <;> simp_all
set_option maxHeartbeats 8000000 in
theorem valid_arr1 (l : Int) (nm : ByteArray) (ns : List ByteArray) (A : Option Addr) (c d b o : Nat) (k1 l1 : Int) (nm1 : ByteArray) (v1 v2 : Value) (z : Bool) (w : World)
    (p0 : w.cell? ⟨b, o, none⟩ = some (.int .i64 k1)) (p1 : w.cell? ⟨b, o + 1, none⟩ = some (.int .i64 l1)) (p2 : w.cell? ⟨b, o + 2, none⟩ = some (.string nm1)) (p3 : w.cell? ⟨b, o + 3, none⟩ = some v1) (p4 : w.cell? ⟨b, o + 4, none⟩ = some v2)
    (HV : Hid (∀ u, Below w.heap.size w u → Calls Tryz.prog 17 #[.agg #[.int .i64 k1, .int .i64 l1, .string nm1, v1, v2]] u fun e w' => e = .returned (.bool z) ∧ Below u.heap.size u w')) :
    Calls Tryz.prog 17 #[.agg #[.int .i64 6, .int .i64 l, .string nm, .slice A ns.length c, .slice (some ⟨b, o, none⟩) 1 d]] w fun e w' => e = .returned (.bool (decide (1 ≤ l ∧ l ≤ 64) && (bareT nm ns && (!(k1 == 6) && z)))) ∧ Below w.heap.size w w' := by
  have ha := below_alloc w (.cells #[.int .i64 6, .int .i64 l, .string nm, .slice A ns.length c, .slice (some ⟨b, o, none⟩) 1 d] 26)
  have HB0 := Lib.hid ha
  have q0 := cell_stays ha p0
  have q1 := cell_stays ha p1
  have q2 := cell_stays ha p2
  have q3 := cell_stays ha p3
  have q4 := cell_stays ha p4
  clear p0 p1 p2 p3 p4 ha
  rw [range_split2]
  have hk6 : ((k1 == 6) = true ∧ (k1 != 6) = false) ∨ ((k1 == 6) = false ∧ (k1 != 6) = true) := by unfold bne; cases (k1 == 6) <;> simp
  cases e3 : decide (1 ≤ l) <;> cases e4 : decide (l ≤ 64) <;> rcases hk6 with ⟨e5, e6⟩ | ⟨e5, e6⟩ <;> rw [e5] <;> rcases bare_cases nm ns with ⟨h1, h2, h3⟩ | ⟨h1, h2, h3⟩ | ⟨h1, h2, h3⟩ <;> rw [h3] <;> clear h3
  all_goals
    go_enter Tryz.func17, Tryz.ntmps17
    go_wp2_with fail
    first
      | (go_ret
         exact ⟨rfl, HB0.out⟩)
      | (refine (HV.out _ HB0.out).mono ?_
         rintro e w1 ⟨rfl, hb1⟩
         have HB1 := Lib.hid (below_then HB0.out hb1)
         clear hb1
         go_wp2
         go_ret
         exact ⟨rfl, HB1.out⟩)
end Go.Proofs.YtdiagnhdigakpaaGreatDoor
/- The contract of the reference's Valid: enumerations. -/
namespace Go.Proofs.YtdiagnhdigakpaaGreatDoor
open Go.RowKit

/-- The names of an enumeration. -/
def enumB (ns : List ByteArray) : Bool := ns.all (fun s => isNameL (bl s)) && decide ns.Nodup
theorem enum_none (ns : List ByteArray) : enumB (ns.take 0) = true := by rw [List.take_zero]; rfl
theorem enum_end {ns : List ByteArray} {k : Nat} (h : ¬ k < ns.length) (hk : enumB (ns.take k) = true) : enumB ns = true := by
  rwa [List.take_of_length_le (by omega)] at hk
theorem enum_more {ns : List ByteArray} {k : Nat} (h : k < ns.length) (hk : enumB (ns.take k) = true) (h1 : isNameL (bl ns[k]) = true) (h2 : ∀ (j : Nat) (hj : j < k), ns[j] ≠ ns[k]) : enumB (ns.take (k + 1)) = true := by
  unfold enumB at hk ⊢
  rw [Bool.and_eq_true, decide_eq_true_eq] at hk ⊢
  rw [List.take_succ_eq_append_getElem h, List.all_append, hk.1]
  refine ⟨by simp [h1], ?_⟩
  rw [List.nodup_append]
  refine ⟨hk.2, by simp, ?_⟩
  intro a ha b hb e
  rw [List.mem_singleton] at hb
  subst hb
  obtain ⟨j, hj, rfl⟩ := List.mem_iff_getElem.1 ha
  rw [List.length_take] at hj
  rw [List.getElem_take] at e
  exact h2 j (by omega) e
theorem enum_bad {ns : List ByteArray} {k : Nat} (h : k < ns.length) (h1 : isNameL (bl ns[k]) = false) : enumB ns = false := by
  unfold enumB
  have : ns.all (fun s => isNameL (bl s)) = false := by
    rw [Bool.eq_false_iff]
    intro ha
    rw [List.all_eq_true.1 ha _ (List.getElem_mem h)] at h1
    cases h1
  rw [this]; rfl
theorem enum_twice {ns : List ByteArray} {k j : Nat} (h : k < ns.length) (hj : j < k) (e : ns[j] = ns[k]) : enumB ns = false := by
  unfold enumB
  have : decide ns.Nodup = false := by
    rw [decide_eq_false_iff_not]
    intro hn
    have := (List.getElem_inj hn).1 e
    omega
  rw [this, Bool.and_false]
theorem str_ne {a b : ByteArray} (h : a ≠ b) : (a.toList == b.toList) = false := by
  rw [beq_eq_false_iff_ne, bl_toList, bl_toList]
  intro e
  exact h (bl_inj e)
theorem ne_more {ns : List ByteArray} {k j : Nat} (hk : k < ns.length) (h : ∀ (m : Nat) (_hm : m < j) (hmk : m < k), ns[m] ≠ ns[k]) (hj : j < k) (hne : ns[j] ≠ ns[k]) : ∀ (m : Nat) (_hm : m < j + 1) (hmk : m < k), ns[m] ≠ ns[k] := by
  intro m hm hmk
  by_cases e : m < j
  · exact h m e hmk
  · have : m = j := by omega
    subst this
    exact hne
set_option maxHeartbeats 8000000 in
theorem valid_enum (nm : ByteArray) (ns : List ByteArray) (b o : Nat) (B : Option Addr) (c d : Nat) (w : World) (h16 : ns.length ≤ 16) (h1' : 1 ≤ ns.length) (hnm : nm.size ≤ 9223372036854775807)
    (hcell : ∀ (k : Nat) (h : k < ns.length), w.cell? ⟨b, o + k, none⟩ = some (.string ns[k])) :
    Calls Tryz.prog 17 #[.agg #[.int .i64 5, .int .i64 0, .string nm, .slice (some ⟨b, o, none⟩) ns.length c, .slice B 0 d]] w fun e w' => e = .returned (.bool (pathB nm && enumB ns)) ∧ Below w.heap.size w w' := by
  have ha := below_alloc w (.cells #[.int .i64 5, .int .i64 0, .string nm, .slice (some ⟨b, o, none⟩) ns.length c, .slice B 0 d] 26)
  have HB0 := Lib.hid ha
  have HC := Lib.hid (fun (w' : World) (hb : Below w.heap.size w w') (k : Nat) (h : k < ns.length) => cell_stays hb (hcell k h))
  have HQ : Hid ((w.alloc (.cells #[.int .i64 5, .int .i64 0, .string nm, .slice (some ⟨b, o, none⟩) ns.length c, .slice B 0 d] 26)).cell? ⟨w.heap.size, 3, none⟩ = some (.slice (some ⟨b, o, none⟩) ns.length c)) := by
    show _ = _
    rw [World.cell?_alloc_at _ _ _ _ rfl]; rfl
  clear hcell ha
  have e1 : decide ((ns.length : Int) < 1) = false := by rw [decide_eq_false_iff_not]; omega
  have e2 : decide ((16 : Int) < (ns.length : Int)) = false := by rw [decide_eq_false_iff_not]; omega
  have e3 : decide (16 < ns.length) = false := by rw [decide_eq_false_iff_not]; omega
  have e4 : ((ns.length : Int) == 0) = false := by rw [beq_eq_false_iff_ne]; omega
  have HP := Lib.hid (path_any nm hnm)
  have HN := Lib.hid refIsName_any
  cases hp : pathB nm <;> cases he : nm.toList.isEmpty <;> rw [hp] at HP
  all_goals
    go_enter Tryz.func17, Tryz.ntmps17
    go_wp2_with fail
    refine (HP.out _).mono ?_
    rintro e w1 ⟨rfl, rfl⟩
    go_wp2_with fail
    first
      | (go_ret
         exact ⟨rfl, HB0.out⟩)
      | skip
  all_goals
    go_loopw [119] (fun i wr => ∃ k : Nat, k ≤ ns.length ∧ i = .int .i64 k ∧ Hid (enumB (ns.take k) = true) ∧ Hid (Below (w.alloc (.cells #[.int .i64 5, .int .i64 0, .string nm, .slice (some ⟨b, o, none⟩) ns.length c, .slice B 0 d] 26)).heap.size (w.alloc (.cells #[.int .i64 5, .int .i64 0, .string nm, .slice (some ⟨b, o, none⟩) ns.length c, .slice B 0 d] 26)) wr)) (fun i _ => ns.length - (intOf i).toNat)
    case atStart => exact ⟨0, Nat.zero_le _, rfl, enum_none ns, Below.refl _ _⟩
    case round =>
      obtain ⟨k, hk, rfl, hr, hb⟩ := hrel
      by_cases hlt : k < ns.length
      · have HBw := Lib.hid (below_then HB0.out hb.out)
        have q3 := cell_stays hb.out HQ.out
        have qk := HC.out _ HBw.out k hlt
        have d1 : decide ((k : Int) < (ns.length : Int)) = true := by rw [decide_eq_true_eq]; omega
        have d2 : decide (k < ns.length) = true := by rw [decide_eq_true_eq]; omega
        have hki : (k : Int) < (ns.length : Int) := by omega
        have hk0 : (0 : Int) ≤ (k : Int) := by omega
        have HH := Lib.hid (HN.out ns[k])
        cases hx : isNameL (bl ns[k]) with
        | false =>
          have HX := Lib.hid (enum_bad hlt hx)
          rw [hx] at HH
          clear hx hr
          go_wp2_with fail
          refine (HH.out _).mono ?_
          rintro e w2 ⟨rfl, hb2⟩
          have HB2 := Lib.hid (below_then HBw.out hb2)
          clear hb2
          go_wp2
          go_ret
          exact ⟨by rw [HX.out]; rfl, HB2.out⟩
        | true =>
          have HX := Lib.hid hx
          rw [hx] at HH
          clear hx
          go_wp2_with fail
          refine (HH.out _).mono ?_
          rintro e w2 ⟨rfl, hb2⟩
          have HB2 := Lib.hid (below_then HBw.out hb2)
          have HB2' := Lib.hid (below_then hb.out hb2)
          have q3' := cell_stays hb2 q3
          clear hb2 q3 qk
          go_wp2_with fail
          go_loop [128] (fun i => ∃ j : Nat, j ≤ k ∧ i = .int .i64 j ∧ Hid (∀ (m : Nat) (hm : m < j) (hmk : m < k), ns[m] ≠ ns[k])) (fun i => k - (intOf i).toNat)
          case atStart => exact ⟨0, Nat.zero_le _, rfl, fun m hm => absurd hm (Nat.not_lt_zero _)⟩
          case round =>
            obtain ⟨j, hj, rfl, hne⟩ := hrel
            have qk2 := HC.out _ HB2.out k hlt
            by_cases hjk : j < k
            · have qj := HC.out _ HB2.out j (by omega)
              have f1 : decide ((j : Int) < (k : Int)) = true := by rw [decide_eq_true_eq]; omega
              have f2 : decide (j < k) = true := by rw [decide_eq_true_eq]; omega
              have hji : (j : Int) < (ns.length : Int) := by omega
              have hj0 : (0 : Int) ≤ (j : Int) := by omega
              by_cases he2 : ns[j] = ns[k]
              · have HT := Lib.hid (enum_twice hlt hjk he2)
                rw [he2] at qj
                clear he2
                go_wp2
                go_ret
                exact ⟨by rw [HT.out]; rfl, HB2.out⟩
              · have HT := Lib.hid (ne_more hlt hne.out hjk he2)
                have hs := str_ne he2
                clear he2
                go_wp2
                go_round
                case rel => exact ⟨j + 1, by omega, by go_num, HT⟩
                case measure => simp [intOf]; omega
            · have f1 : decide ((j : Int) < (k : Int)) = false := by rw [decide_eq_false_iff_not]; omega
              have f2 : decide (j < k) = false := by rw [decide_eq_false_iff_not]; omega
              have HM := Lib.hid (enum_more hlt hr.out HX.out (fun m hm => hne.out m (by omega) hm))
              go_wp2
              go_round
              case rel => exact ⟨k + 1, by omega, by go_num, HM, HB2'⟩
              case measure => simp [intOf]; omega
      · have d1 : decide ((k : Int) < (ns.length : Int)) = false := by rw [decide_eq_false_iff_not]; omega
        have d2 : decide (k < ns.length) = false := by rw [decide_eq_false_iff_not]; omega
        have HX := Lib.hid (enum_end hlt hr.out)
        have HBw := Lib.hid (below_then HB0.out hb.out)
        clear hr
        go_wp2
        go_ret
        exact ⟨by rw [HX.out]; rfl, HBw.out⟩
end Go.Proofs.YtdiagnhdigakpaaGreatDoor
/- The contract of the reference's Valid: enumerations that are none; all types. -/
namespace Go.Proofs.YtdiagnhdigakpaaGreatDoor
open Go.RowKit

set_option maxHeartbeats 8000000 in
theorem valid_enum0 (l : Int) (nm : ByteArray) (ns : List ByteArray) (es : List Ty) (A B : Option Addr) (c d : Nat) (w : World) (hn : ¬ (l = 0 ∧ es.length = 0)) :
    Calls Tryz.prog 17 #[.agg #[.int .i64 5, .int .i64 l, .string nm, .slice A ns.length c, .slice B es.length d]] w fun e w' => e = .returned (.bool false) ∧ Below w.heap.size w w' := by
  have HB0 := Lib.hid (below_alloc w (.cells #[.int .i64 5, .int .i64 l, .string nm, .slice A ns.length c, .slice B es.length d] 26))
  have h : ((l != 0) = true) ∨ ((l != 0) = false ∧ ((es.length : Int) != 0) = true) := by
    by_cases hl : l = 0
    · have : (es.length : Int) ≠ 0 := by omega
      exact .inr ⟨by simp [hl], by rw [bne_iff_ne]; exact this⟩
    · exact .inl (by rw [bne_iff_ne]; exact hl)
  clear hn
  rcases h with h4 | ⟨h4, h5⟩ <;> rcases bare_cases nm ns with ⟨h1, h2, h3⟩ | ⟨h1, h2, h3⟩ | ⟨h1, h2, h3⟩ <;> clear h3
  all_goals
    go_enter Tryz.func17, Tryz.ntmps17
    go_wp2
    go_ret
    exact ⟨rfl, HB0.out⟩
set_option maxHeartbeats 8000000 in
theorem valid_enum1 (nm : ByteArray) (ns : List ByteArray) (A B : Option Addr) (c d : Nat) (w : World) (hnm : nm.size ≤ 9223372036854775807) (hn : ¬ (1 ≤ ns.length ∧ ns.length ≤ 16)) :
    Calls Tryz.prog 17 #[.agg #[.int .i64 5, .int .i64 0, .string nm, .slice A ns.length c, .slice B 0 d]] w fun e w' => e = .returned (.bool false) ∧ Below w.heap.size w w' := by
  have HB0 := Lib.hid (below_alloc w (.cells #[.int .i64 5, .int .i64 0, .string nm, .slice A ns.length c, .slice B 0 d] 26))
  have h : (decide ((ns.length : Int) < 1) = true) ∨ (decide ((ns.length : Int) < 1) = false ∧ decide ((16 : Int) < (ns.length : Int)) = true ∧ decide (16 < ns.length) = true) := by
    by_cases hl : ns.length < 1
    · exact .inl (by rw [decide_eq_true_eq]; omega)
    · exact .inr ⟨by rw [decide_eq_false_iff_not]; omega, by rw [decide_eq_true_eq]; omega, by rw [decide_eq_true_eq]; omega⟩
  clear hn
  have HP := Lib.hid (path_any nm hnm)
  cases hp : pathB nm <;> rw [hp] at HP <;> rcases h with h4 | ⟨h4, h5, h6⟩ <;> rcases bare_cases nm ns with ⟨h1, h2, h3⟩ | ⟨h1, h2, h3⟩ | ⟨h1, h2, h3⟩ <;> clear h3
  all_goals
    go_enter Tryz.func17, Tryz.ntmps17
    go_wp2_with fail
    refine (HP.out _).mono ?_
    rintro e w1 ⟨rfl, rfl⟩
    go_wp2
    go_ret
    exact ⟨rfl, HB0.out⟩
/-- The names of a type have lengths that an int holds. -/
def NmT : Ty → Prop
  | .mk _ _ nm _ es => nm.size ≤ 9223372036854775807 ∧ (match es with | [e] => NmT e | _ => True)
theorem nmT_def (k l : Int) (nm : ByteArray) (ns : List ByteArray) (es : List Ty) : NmT (.mk k l nm ns es) = (nm.size ≤ 9223372036854775807 ∧ (match es with | [e] => NmT e | _ => True)) := by
  match es with
  | [] => simp [NmT]
  | [e] => simp [NmT]
  | e :: e2 :: r => simp [NmT]
theorem validT_def (f : List UInt8 → Bool) (k l : Int) (nm : ByteArray) (ns : List ByteArray) (es : List Ty) : validT f (.mk k l nm ns es) =
    (if k = 1 ∨ k = 2 ∨ k = 3 then decide (l = 0) && (bareT nm ns && es.isEmpty)
    else if k = 4 then decide (1 ≤ l ∧ l ≤ 64) && (bareT nm ns && es.isEmpty)
    else if k = 6 then decide (1 ≤ l ∧ l ≤ 64) && (bareT nm ns && (match es with | [e] => decide (e.kind ≠ 6) && validT f e | _ => false))
    else if k = 5 then decide (l = 0) && (es.isEmpty && (pathB nm && namesOk f ns))
    else false) := by
  match es with
  | [] => simp [validT]
  | [e] => simp [validT]
  | e :: e2 :: r => simp [validT]
theorem tyAt_one {w : World} {e : Ty} {b off : Nat} (h : TyAt w [e] b off) : ∃ cs : List Value, TyC w e cs ∧ ∀ j, j < 5 → w.cell? ⟨b, off + j, none⟩ = cs[j]? := by
  rw [TyAt] at h
  exact h.1
theorem size_one {k l : Int} {nm : ByteArray} {ns : List ByteArray} {e : Ty} {n : Nat} (h : SizeOf.sizeOf (Ty.mk k l nm ns [e]) < n + 1) : SizeOf.sizeOf e < n := by
  rw [Ty.mk.sizeOf_spec, List.cons.sizeOf_spec] at h
  omega
theorem valid_upto : ∀ (n : Nat) (t : Ty) (cs : List Value) (w : World), SizeOf.sizeOf t < n → NmT t → TyC w t cs →
    Calls Tryz.prog 17 #[.agg cs.toArray] w fun e w' => e = .returned (.bool (validT isNameL t)) ∧ Below w.heap.size w w'
  | 0, _, _, _, hz, _, _ => absurd hz (Nat.not_lt_zero _)
  | n + 1, .mk k l nm ns es, cs, w, hz, hnm, h => by
    rw [TyC] at h
    obtain ⟨vn, A, c, rfl, ⟨B, d, rfl, hs1, hs2, hs3⟩, h1, h2, h3⟩ := h
    rw [validT_def]
    by_cases k123 : k = 1 ∨ k = 2 ∨ k = 3
    · rw [if_pos k123]
      exact valid_basic k k123 l nm ns es B A d c w
    rw [if_neg k123]
    by_cases k4 : k = 4
    · rw [if_pos k4]
      subst k4
      exact valid_vec l nm ns es B A d c w
    rw [if_neg k4]
    by_cases k6 : k = 6
    · rw [if_pos k6]
      subst k6
      match es, hz, hnm, h1, h2, h3 with
      | [], _, _, _, _, _ =>
        rw [Bool.and_false, Bool.and_false]
        exact valid_arr0 l nm ns [] B A d c w (by simp)
      | [e], hz, hnm, _, _, g3 =>
        rw [nmT_def] at hnm
        rcases g3 with g3 | ⟨b, off, rfl, g3⟩
        · cases g3
        obtain ⟨cs1, hc1, hc2⟩ := tyAt_one g3
        have hv := fun (u : World) (hb : Below w.heap.size w u) => valid_upto n e cs1 u (size_one hz) hnm.2 (hc1.later hb)
        have hk : ∃ l1 nm1 v1 v2, cs1 = [.int .i64 e.kind, .int .i64 l1, .string nm1, v1, v2] := by
          cases e
          rw [TyC] at hc1
          obtain ⟨vn, A', c', rfl, _⟩ := hc1
          exact ⟨_, _, _, _, rfl⟩
        obtain ⟨l1, nm1, v1, v2, rfl⟩ := hk
        have hd : decide (e.kind ≠ 6) = !(e.kind == 6) := by
          cases hh : (e.kind == 6) <;> simp_all
        show Calls _ _ _ _ fun e1 w' => e1 = .returned (.bool (decide (1 ≤ l ∧ l ≤ 64) && (bareT nm ns && (decide (e.kind ≠ 6) && validT isNameL e)))) ∧ Below w.heap.size w w'
        rw [hd]
        exact valid_arr1 l nm ns B d c b off e.kind l1 nm1 v1 v2 (validT isNameL e) w (hc2 0 (by omega)) (hc2 1 (by omega)) (hc2 2 (by omega)) (hc2 3 (by omega)) (hc2 4 (by omega)) hv
      | e :: e2 :: r, _, _, _, _, _ =>
        rw [Bool.and_false, Bool.and_false]
        exact valid_arr0 l nm ns (e :: e2 :: r) B A d c w (by simp)
    rw [if_neg k6]
    by_cases k5 : k = 5
    · rw [if_pos k5]
      subst k5
      by_cases hl : l = 0 ∧ es.length = 0
      · obtain ⟨rfl, he⟩ := hl
        have := List.length_eq_zero_iff.1 he
        subst this
        have hnm' : nm.size ≤ 9223372036854775807 := by rw [nmT_def] at hnm; exact hnm.1
        by_cases hn : 1 ≤ ns.length ∧ ns.length ≤ 16
        · rcases hs3 with rfl | ⟨b, off, rfl, hs3⟩
          · exact absurd hn.1 (by simp)
          have hr : (decide ((0 : Int) = 0) && (List.isEmpty ([] : List Ty) && (pathB nm && namesOk isNameL ns))) = (pathB nm && enumB ns) := by
            unfold namesOk enumB bl
            simp [hn.1, hn.2]
          rw [hr]
          exact valid_enum nm ns b off A d c w hn.2 hn.1 hnm' hs3
        · have hr : (decide ((0 : Int) = 0) && (List.isEmpty ([] : List Ty) && (pathB nm && namesOk isNameL ns))) = false := by
            unfold namesOk
            by_cases h : 1 ≤ ns.length
            · have : ¬ ns.length ≤ 16 := fun h' => hn ⟨h, h'⟩
              simp [this]
            · simp [h]
          rw [hr]
          exact valid_enum1 nm ns B A d c w hnm' hn
      · have hr : (decide (l = 0) && (es.isEmpty && (pathB nm && namesOk isNameL ns))) = false := by
          cases es with
          | nil =>
            have : ¬ l = 0 := fun h => hl ⟨h, rfl⟩
            simp [this]
          | cons => simp
        rw [hr]
        exact valid_enum0 l nm ns es B A d c w hl
    rw [if_neg k5]
    refine valid_none k ?_ l nm ns es B A d c w
    simp only [beq_eq_false_iff_ne]
    omega
theorem valid_any (t : Ty) (cs : List Value) (w : World) (hn : NmT t) (h : TyC w t cs) :
    Calls Tryz.prog 17 #[.agg cs.toArray] w fun e w' => e = .returned (.bool (validT isNameL t)) ∧ Below w.heap.size w w' := valid_upto _ t cs w (Nat.lt_succ_self _) hn h
end Go.Proofs.YtdiagnhdigakpaaGreatDoor
