/- Slices of bits: what it means that a slice reads as a list of numbers, and the contracts of the functions that only read slices. -/
import Derived.Test.YtkapephlfbabjaaOps
import Derived.Deep.QuietTactic
import Derived.BigQuiet
import Derived.Deep.Draws
namespace Go.Proofs.Ytkapephlfbabjaa
open Go.RowKit

/-- v is a slice that reads as the numbers zs. -/
def Sl (w : World) (v : Value) (zs : List Nat) : Prop :=
  ∃ (A : Option Addr) (c : Nat), v = .slice A zs.length c ∧ zs.length ≤ 140737488355328 ∧ (∀ z ∈ zs, z < 256) ∧ zs.length ≤ c ∧
    (zs = [] ∨ ∃ b off, A = some ⟨b, off, none⟩ ∧ ∀ (k : Nat) (h : k < zs.length), w.cell? ⟨b, off + k, none⟩ = some (.int .u8 (zs[k] : Nat)))

theorem Sl.later {w w' : World} {v : Value} {zs : List Nat} (h : Sl w v zs) (hb : Below w.heap.size w w') : Sl w' v zs := by
  obtain ⟨A, c, e, hn, hz, hq, hc⟩ := h
  refine ⟨A, c, e, hn, hz, hq, ?_⟩
  rcases hc with hc | ⟨b, off, e', hc⟩
  · exact .inl hc
  · exact .inr ⟨b, off, e', fun k hk => (hb.cell (block_lt_of_cell (hc k hk))).trans (hc k hk)⟩

/-- All are bits. -/
def bitsB (zs : List Nat) : Bool := zs.all fun z => decide (z ≤ 3)
theorem bitsB_take {zs : List Nat} {k : Nat} (h : k < zs.length) (hk : bitsB (zs.take k) = true) (hz : zs[k] ≤ 3) : bitsB (zs.take (k + 1)) = true := by
  unfold bitsB at *
  rw [List.take_succ_eq_append_getElem h, List.all_append, hk]
  simpa using hz
theorem bitsB_no {zs : List Nat} {k : Nat} (h : k < zs.length) (hz : 3 < zs[k]) : bitsB zs = false := by
  unfold bitsB
  rw [List.all_eq_false]
  exact ⟨zs[k], List.getElem_mem h, by simpa using hz⟩
theorem bitsB_end {zs : List Nat} (hk : bitsB (zs.take zs.length) = true) : bitsB zs = true := by rwa [List.take_length] at hk

theorem ret_bool {a b : Bool} (h : a = b) : Ending.returned (.bool a) = .returned (.bool b) := by rw [h]

set_option maxHeartbeats 400000 in
theorem areBits_any (v : Value) (zs : List Nat) (w : World) (h : Sl w v zs) :
    Calls Try.prog 87 #[v] w fun e w' => e = .returned (.bool (bitsB zs)) ∧ w = w' := by
  obtain ⟨A, c, rfl, hn, hz, hq, hc⟩ := h
  clear hz
  go_enter Try.func87, Try.ntmps87
  go_wp2_with fail
  go_loop [7] (fun i => ∃ k : Nat, k ≤ zs.length ∧ i = .int .i64 k ∧ Hid (bitsB (zs.take k) = true)) (fun i => zs.length - (intOf i).toNat)
  case atStart => exact ⟨0, Nat.zero_le _, rfl, rfl⟩
  case round =>
    obtain ⟨k, hk, rfl, hr⟩ := hrel
    by_cases hlt : k < zs.length
    · rcases hc with rfl | ⟨b, off, rfl, hc⟩
      · exact absurd hlt (by simp)
      have g := hc k hlt
      clear hc
      by_cases h3 : zs[k] ≤ 3
      · have HR := Lib.hid (bitsB_take hlt hr.out h3)
        generalize zs[k] = z at g h3
        go_wp2_with (go_at_call 92; refine (isBit_yes _ _ (by omega)).mono ?_; rintro e w' ⟨rfl, rfl⟩)
        go_round
        case rel => exact ⟨k + 1, by omega, by go_num, HR⟩
        case measure => simp [intOf]; omega
      · have HR := Lib.hid (bitsB_no hlt (by omega))
        generalize zs[k] = z at g h3
        go_wp2_with (go_at_call 92; refine (isBit_no _ _ (by omega)).mono ?_; rintro e w' ⟨rfl, rfl⟩)
        go_ret
        exact ⟨ret_bool HR.out.symm, rfl⟩
    · have HR := Lib.hid (bitsB_end (zs := zs) (by have := hr.out; rwa [show k = zs.length by omega] at this))
      clear hc
      go_wp2
      go_ret
      exact ⟨ret_bool HR.out.symm, rfl⟩

/-- v is a vector. -/
def isV (zs : List Nat) : Bool := decide (1 ≤ zs.length) && decide (zs.length ≤ 64) && bitsB zs
theorem isV_none {zs : List Nat} (h : ¬ 1 ≤ zs.length) : isV zs = false := by simp [isV, h]
theorem isV_long {zs : List Nat} (h : ¬ zs.length ≤ 64) : isV zs = false := by simp [isV, h]
theorem isV_fits {zs : List Nat} (h : 1 ≤ zs.length) (h' : zs.length ≤ 64) : isV zs = bitsB zs := by simp [isV, h, h']

theorem is_any (v : Value) (zs : List Nat) (w : World) (h : Sl w v zs) :
    Calls Try.prog 60 #[v] w fun e w' => e = .returned (.bool (isV zs)) ∧ w = w' := by
  have hA := fun w h => areBits_any v zs w h
  obtain ⟨A, c, rfl, hn, hz, hq, hc⟩ := h
  have hS : Hid (Sl w (.slice A zs.length c) zs) := ⟨A, c, rfl, hn, hz, hq, hc⟩
  clear hz hc
  by_cases h1 : 1 ≤ zs.length
  · by_cases h2 : zs.length ≤ 64
    · rw [isV_fits h1 h2]
      go_enter Try.func60, Try.ntmps60
      go_wp2_with (go_at_call 87; refine (areBits_any _ _ _ hS.out).mono ?_; rintro e w' ⟨rfl, rfl⟩)
      go_ret
      exact ⟨rfl, rfl⟩
    · rw [isV_long h2]
      go_enter Try.func60, Try.ntmps60
      go_wp2
      go_ret
      exact ⟨rfl, rfl⟩
  · rw [isV_none h1]
    go_enter Try.func60, Try.ntmps60
    go_wp2
    go_ret
    exact ⟨rfl, rfl⟩

set_option maxHeartbeats 400000 in
theorem refIs_any (v : Value) (zs : List Nat) (w : World) (h : Sl w v zs) :
    Calls Try.prog 53 #[v] w fun e w' => e = .returned (.bool (isV zs)) ∧ w = w' := by
  obtain ⟨A, c, rfl, hn, hz, hq, hc⟩ := h
  clear hz
  go_enter Try.func53, Try.ntmps53
  go_wp2_with fail
  go_loop [7] (fun i => ∃ k : Nat, k ≤ zs.length ∧ i = .int .i64 k ∧ Hid (bitsB (zs.take k) = true)) (fun i => zs.length - (intOf i).toNat)
  case atStart => exact ⟨0, Nat.zero_le _, rfl, rfl⟩
  case round =>
    obtain ⟨k, hk, rfl, hr⟩ := hrel
    by_cases hlt : k < zs.length
    · rcases hc with rfl | ⟨b, off, rfl, hc⟩
      · exact absurd hlt (by simp)
      have g := hc k hlt
      clear hc
      by_cases h3 : zs[k] ≤ 3
      · have HR := Lib.hid (bitsB_take hlt hr.out h3)
        generalize zs[k] = z at g h3
        go_wp2_with (go_at_call 82; refine (bit_yes _ _ (by omega)).mono ?_; rintro e w' ⟨rfl, rfl⟩)
        go_round
        case rel => exact ⟨k + 1, by omega, by go_num, HR⟩
        case measure => simp [intOf]; omega
      · have HR : Hid (isV zs = false) := by
          have := bitsB_no hlt (show 3 < zs[k] by omega)
          show isV zs = false
          simp [isV, this]
        generalize zs[k] = z at g h3
        go_wp2_with (go_at_call 82; refine (bit_no _ _ (by omega)).mono ?_; rintro e w' ⟨rfl, rfl⟩)
        go_ret
        exact ⟨ret_bool HR.out.symm, rfl⟩
    · have hB := bitsB_end (zs := zs) (by have := hr.out; rwa [show k = zs.length by omega] at this)
      clear hc
      by_cases h1 : 1 ≤ zs.length
      · by_cases h2 : zs.length ≤ 64
        · have HR : Hid (isV zs = true) := by
            show isV zs = true
            rw [isV_fits h1 h2, hB]
          clear hB
          go_wp2
          go_ret
          exact ⟨ret_bool (by rw [HR.out, decide_eq_true_eq]; omega), rfl⟩
        · have HR := Lib.hid (isV_long h2)
          clear hB
          go_wp2
          go_ret
          exact ⟨ret_bool (by rw [HR.out, decide_eq_false_iff_not]; omega), rfl⟩
      · have HR := Lib.hid (isV_none h1)
        clear hB
        go_wp2
        go_ret
        exact ⟨ret_bool HR.out.symm, rfl⟩

/-- Two lists are the same. -/
def eqL (xs ys : List Nat) : Bool := decide (xs = ys)
theorem eqL_len {xs ys : List Nat} (h : xs.length ≠ ys.length) : eqL xs ys = false := by
  unfold eqL; rw [decide_eq_false_iff_not]; intro e; exact h (by rw [e])
theorem eqL_no {xs ys : List Nat} {k : Nat} (hx : k < xs.length) (hy : k < ys.length) (h : xs[k] ≠ ys[k]) : eqL xs ys = false := by
  unfold eqL; rw [decide_eq_false_iff_not]; intro e; subst e; exact h rfl
theorem eqL_take {xs ys : List Nat} {k : Nat} (hx : k < xs.length) (hy : k < ys.length) (hk : xs.take k = ys.take k) (h : xs[k] = ys[k]) : xs.take (k + 1) = ys.take (k + 1) := by
  rw [List.take_succ_eq_append_getElem hx, List.take_succ_eq_append_getElem hy, hk, h]
theorem eqL_end {xs ys : List Nat} {k : Nat} (hl : xs.length = ys.length) (hk : ¬ k < xs.length) (h : xs.take k = ys.take k) : eqL xs ys = true := by
  rw [List.take_of_length_le (by omega), List.take_of_length_le (by omega)] at h
  unfold eqL; rw [decide_eq_true_eq]; exact h

set_option maxHeartbeats 400000 in
theorem same_any (v u : Value) (xs ys : List Nat) (w : World) (h : Sl w v xs) (h' : Sl w u ys) :
    Calls Try.prog 24 #[v, u] w fun e w' => e = .returned (.bool (eqL xs ys)) ∧ Below w.heap.size w w' := by
  obtain ⟨A, c, rfl, hn, hz, hq, hc⟩ := h
  obtain ⟨A', c', rfl, hn', hz', hq', hc'⟩ := h'
  clear hz hz'
  by_cases hl : xs.length = ys.length
  · have HL := Lib.hid hl
    have ht : ((xs.length : Int) != (ys.length : Int)) = false := by rw [hl]; simp
    have ht' : ((xs.length : Int) == (ys.length : Int)) = true := by rw [hl]; simp
    clear hl
    go_enter Try.func24, Try.ntmps24
    go_wp2_with fail
    go_loopw [13] (fun i wr => ∃ k : Nat, k ≤ xs.length ∧ i = .int .i64 k ∧ Hid (xs.take k = ys.take k) ∧ Below w.heap.size w wr) (fun i _ => xs.length - (intOf i).toNat)
    case atStart => exact ⟨0, Nat.zero_le _, rfl, rfl, Below.refl _ _⟩
    case round =>
      obtain ⟨k, hk, rfl, hr, hb⟩ := hrel
      by_cases hlt : k < xs.length
      · have hlt' : k < ys.length := by have := HL.out; omega
        rcases hc with rfl | ⟨b, off, rfl, hc⟩
        · exact absurd hlt (by simp)
        rcases hc' with rfl | ⟨b', off', rfl, hc'⟩
        · exact absurd hlt' (by simp)
        have g := (hb.cell (block_lt_of_cell (hc k hlt))).trans (hc k hlt)
        have g' := (hb.cell (block_lt_of_cell (hc' k hlt'))).trans (hc' k hlt')
        clear hc hc'
        by_cases h3 : xs[k] = ys[k]
        · have HR := Lib.hid (eqL_take hlt hlt' hr.out h3)
          rw [← h3] at g'
          clear h3 ht ht'
          generalize xs[k] = z at g g'
          have HB := Lib.hid hb
          clear hb
          go_wp2
          go_quiet (fail)
          go_wp2
          go_roundw
          case rel => exact ⟨k + 1, by omega, by go_num, HR, below_drewN HB.out _⟩
          case measure => simp [intOf]; omega
        · have HR := Lib.hid (eqL_no hlt hlt' h3)
          have hne := beq_nat_no h3
          have hne' : ((xs[k] : Int) != (ys[k] : Int)) = true := by rw [bne_iff_ne]; omega
          generalize xs[k] = z at g hne hne'
          generalize ys[k] = z' at g' hne hne'
          clear ht ht' h3
          have HB := Lib.hid hb
          clear hb
          go_wp2
          go_quiet (fail)
          go_wp2
          go_ret
          exact ⟨ret_bool HR.out.symm, below_drewN HB.out _⟩
      · have HR := Lib.hid (eqL_end HL.out hlt hr.out)
        clear hc hc' ht ht'
        go_wp2
        go_ret
        exact ⟨ret_bool HR.out.symm, hb⟩
  · have HR := Lib.hid (eqL_len hl)
    have ht : ((xs.length : Int) != (ys.length : Int)) = true := by simp; omega
    have ht' : ((xs.length : Int) == (ys.length : Int)) = false := by simp; omega
    clear hl hc hc'
    go_enter Try.func24, Try.ntmps24
    go_wp2
    go_ret
    exact ⟨ret_bool HR.out.symm, Below.refl _ _⟩

end Go.Proofs.Ytkapephlfbabjaa
