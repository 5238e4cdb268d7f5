/- The contracts of compare, Less, Signed and Same. -/
import Derived.Test.YtkapephlfbabjaaAdd
namespace Go.Proofs.Ytkapephlfbabjaa
open Go.RowKit

theorem lessFn (x y : Nat) (w : World) : Calls Try.prog 73 #[.int .u64 (x : Nat), .int .u64 (y : Nat)] w fun e w' => e = .returned (.bool (decide (x < y))) ∧ w = w' := by
  go_enter Try.func73, Try.ntmps73
  go_wp2
  go_ret
  exact ⟨ret_bool (by simp), rfl⟩

/-- A number's place among the numbers of 64 bits with a sign, when its highest bit is made the sign. -/
def sgnI (n x : Nat) : Int := wrap64 (IntKind.u64.wrap ((x : Int) * 2 ^ (64 - n)))
set_option maxHeartbeats 1000000 in
theorem sgnFn (B : Nat) (A : Option Addr) (n c : Nat) (x y : Nat) (w : World) (hg : w.cell? ⟨B, 0, none⟩ = some (.slice A n c)) (h64 : n ≤ 64) :
    Calls Try.prog 75 #[.int .u64 (x : Nat), .int .u64 (y : Nat), .pointer (some ⟨B, 0, none⟩)] w fun e w' => e = .returned (.bool (decide (sgnI n x < sgnI n y))) ∧ Below w.heap.size w w' := by
  have hs : ((64 : Int) - (n : Int)) = ((64 - n : Nat) : Int) := by omega
  have hm : min (64 - n) 64 = 64 - n := by omega
  go_enter Try.func75, Try.ntmps75
  go_wp2
  go_quiet (fail)
  go_wp2
  go_ret
  exact ⟨rfl, below_drewN (Below.refl _ _) _⟩
/-- What Less and Signed return, by the comparison of the numbers. -/
def cmpV (p : Bool) (a b : List Nat) : Bool := two a b && both a b && p
theorem cmp_yes (p : Bool) {a b : List Nat} (h : two a b = true) (h' : both a b = true) : cmpV p a b = p ∧ calE a b = 0 := by unfold cmpV calE; rw [h, h']; exact ⟨rfl, rfl⟩
theorem cmp_unk (p : Bool) {a b : List Nat} (h : two a b = true) (h' : both a b = false) : cmpV p a b = false ∧ calE a b = 0 := by unfold cmpV calE; rw [h, h']; exact ⟨rfl, rfl⟩
theorem cmp_no (p : Bool) {a b : List Nat} (h : two a b = false) : cmpV p a b = false ∧ calE a b = 2 := by unfold cmpV calE; rw [h]; exact ⟨rfl, rfl⟩

set_option maxHeartbeats 1000000 in
theorem lessCmp (u v : Value) (a b : List Nat) (w : World) (hu : Sl w u a) (hv : Sl w v b) :
    Calls Try.prog 72 #[u, v, .func (.func 73) #[] #[]] w fun e w' => e = .returned (.tuple #[.bool (cmpV (decide (num a < num b)) a b), .int .i64 (calE a b : Nat)]) ∧ Below w.heap.size w w' := by
  have hN := numbers_any u v a b w hu hv
  obtain ⟨A, c, rfl, hn, _⟩ := hu
  obtain ⟨A', c', rfl, hn', _⟩ := hv
  by_cases ht : two a b = true
  · by_cases hb : both a b = true
    · rw [(nb_yes ht hb).1, (nb_yes ht hb).2.1, (nb_yes ht hb).2.2] at hN
      rw [(cmp_yes (decide (num a < num b)) ht hb).1, (cmp_yes (decide (num a < num b)) ht hb).2]
      have HN := Lib.hid hN
      have HF := Lib.hid (lessFn (num a) (num b) w)
      clear hN ht hb
      go_enter Try.func72, Try.ntmps72
      go_wp2_with fail
      refine (HN.out).mono ?_
      rintro e w' ⟨rfl, rfl⟩
      go_wp2_with fail
      refine (HF.out).mono ?_
      rintro e w' ⟨rfl, rfl⟩
      go_wp2
      go_ret2
      exact ⟨rfl, Below.refl _ _⟩
    · have hb' : both a b = false := by simpa using hb
      rw [(nb_unk ht hb').1, (nb_unk ht hb').2.1, (nb_unk ht hb').2.2] at hN
      rw [(cmp_unk (decide (num a < num b)) ht hb').1, (cmp_unk (decide (num a < num b)) ht hb').2]
      have HN := Lib.hid hN
      clear hN ht hb hb'
      go_enter Try.func72, Try.ntmps72
      go_wp2_with fail
      refine (HN.out).mono ?_
      rintro e w' ⟨rfl, rfl⟩
      go_wp2
      go_ret2
      exact ⟨rfl, Below.refl _ _⟩
  · have ht' : two a b = false := by simpa using ht
    rw [(nb_no ht').1, (nb_no ht').2.1, (nb_no ht').2.2] at hN
    rw [(cmp_no (decide (num a < num b)) ht').1, (cmp_no (decide (num a < num b)) ht').2]
    have HN := Lib.hid hN
    clear hN ht ht'
    go_enter Try.func72, Try.ntmps72
    go_wp2_with fail
    refine (HN.out).mono ?_
    rintro e w' ⟨rfl, rfl⟩
    go_wp2
    go_ret2
    exact ⟨rfl, Below.refl _ _⟩
set_option maxHeartbeats 1000000 in
theorem sgnCmp (u v : Value) (a b : List Nat) (w : World) (hu : Sl w u a) (hv : Sl w v b) (B : Nat) (hB : w.cell? ⟨B, 0, none⟩ = some u) :
    Calls Try.prog 72 #[u, v, .func (.func 75) #[] #[.pointer (some ⟨B, 0, none⟩)]] w fun e w' => e = .returned (.tuple #[.bool (cmpV (decide (sgnI a.length (num a) < sgnI a.length (num b))) a b), .int .i64 (calE a b : Nat)]) ∧ Below w.heap.size w w' := by
  have hN := numbers_any u v a b w hu hv
  obtain ⟨A, c, rfl, hn, _⟩ := hu
  obtain ⟨A', c', rfl, hn', _⟩ := hv
  by_cases ht : two a b = true
  · by_cases hb : both a b = true
    · rw [(nb_yes ht hb).1, (nb_yes ht hb).2.1, (nb_yes ht hb).2.2] at hN
      rw [(cmp_yes (decide (sgnI a.length (num a) < sgnI a.length (num b))) ht hb).1, (cmp_yes (decide (sgnI a.length (num a) < sgnI a.length (num b))) ht hb).2]
      have HN := Lib.hid hN
      have HF := Lib.hid (sgnFn B A a.length c (num a) (num b) w hB (isV_bits (two_yes ht).1).2.2)
      clear hN ht hb
      go_enter Try.func72, Try.ntmps72
      go_wp2_with fail
      refine (HN.out).mono ?_
      rintro e w' ⟨rfl, rfl⟩
      go_wp2_with fail
      refine (HF.out).mono ?_
      rintro e w2 ⟨rfl, hb2⟩
      have HB2 := Lib.hid hb2
      clear hb2
      go_wp2
      go_ret2
      exact ⟨rfl, HB2.out⟩
    · have hb' : both a b = false := by simpa using hb
      rw [(nb_unk ht hb').1, (nb_unk ht hb').2.1, (nb_unk ht hb').2.2] at hN
      rw [(cmp_unk (decide (sgnI a.length (num a) < sgnI a.length (num b))) ht hb').1, (cmp_unk (decide (sgnI a.length (num a) < sgnI a.length (num b))) ht hb').2]
      have HN := Lib.hid hN
      clear hN ht hb hb'
      go_enter Try.func72, Try.ntmps72
      go_wp2_with fail
      refine (HN.out).mono ?_
      rintro e w' ⟨rfl, rfl⟩
      go_wp2
      go_ret2
      exact ⟨rfl, Below.refl _ _⟩
  · have ht' : two a b = false := by simpa using ht
    rw [(nb_no ht').1, (nb_no ht').2.1, (nb_no ht').2.2] at hN
    rw [(cmp_no (decide (sgnI a.length (num a) < sgnI a.length (num b))) ht').1, (cmp_no (decide (sgnI a.length (num a) < sgnI a.length (num b))) ht').2]
    have HN := Lib.hid hN
    clear hN ht ht'
    go_enter Try.func72, Try.ntmps72
    go_wp2_with fail
    refine (HN.out).mono ?_
    rintro e w' ⟨rfl, rfl⟩
    go_wp2
    go_ret2
    exact ⟨rfl, Below.refl _ _⟩

theorem less_any (u v : Value) (a b : List Nat) (w : World) (hu : Sl w u a) (hv : Sl w v b) :
    Calls Try.prog 35 #[u, v] w fun e w' => e = .returned (.tuple #[.bool (cmpV (decide (num a < num b)) a b), .int .i64 (calE a b : Nat)]) ∧ Below w.heap.size w w' := by
  have HC := Lib.hid (lessCmp u v a b w hu hv)
  obtain ⟨A, c, rfl, hn, _⟩ := hu
  obtain ⟨A', c', rfl, hn', _⟩ := hv
  go_enter Try.func35, Try.ntmps35
  go_wp2_with fail
  refine (HC.out).mono ?_
  rintro e w2 ⟨rfl, hb⟩
  have HB2 := Lib.hid hb
  clear hb
  go_wp2
  go_ret2
  exact ⟨rfl, HB2.out⟩
theorem signed_any (u v : Value) (a b : List Nat) (w : World) (hu : Sl w u a) (hv : Sl w v b) :
    Calls Try.prog 37 #[u, v] w fun e w' => e = .returned (.tuple #[.bool (cmpV (decide (sgnI a.length (num a) < sgnI a.length (num b))) a b), .int .i64 (calE a b : Nat)]) ∧ Below w.heap.size w w' := by
  have HU := Lib.hid hu
  have HV := Lib.hid hv
  obtain ⟨A, c, rfl, hn, _⟩ := hu
  obtain ⟨A', c', rfl, hn', _⟩ := hv
  go_enter Try.func37, Try.ntmps37
  go_wp2_with fail
  have hb1 := below_alloc w (.cells #[.slice A a.length c] 22)
  refine (sgnCmp _ _ a b _ (HU.out.later hb1) (HV.out.later hb1) w.heap.size (by rw [World.cell?_alloc_at _ _ _ _ rfl]; rfl)).mono ?_
  rintro e w2 ⟨rfl, hb⟩
  have HB2 := Lib.hid (below_then hb1 hb)
  clear hb hb1
  go_wp2
  go_ret2
  exact ⟨rfl, HB2.out⟩

set_option maxHeartbeats 1000000 in
theorem equal_any (v u : Value) (xs ys : List Nat) (w : World) (h : Sl w v xs) (h' : Sl w u ys) :
    Calls Try.prog 77 #[v, u] w fun e w' => e = .returned (.bool (eqL xs ys)) ∧ Below w.heap.size w w' := by
  obtain ⟨A, c, rfl, hn, hz, hq, hc⟩ := h
  obtain ⟨A', c', rfl, hn', hz', hq', hc'⟩ := h'
  clear hz hz'
  by_cases hl : xs.length = ys.length
  · have HL := Lib.hid hl
    have ht : ((xs.length : Int) != (ys.length : Int)) = false := by rw [hl]; simp
    clear hl
    go_enter Try.func77, Try.ntmps77
    go_wp2_with fail
    go_loopw [13] (fun i wr => ∃ k : Nat, k ≤ xs.length ∧ i = .int .i64 k ∧ Hid (xs.take k = ys.take k) ∧ Below w.heap.size w wr) (fun i _ => xs.length - (intOf i).toNat)
    case atStart => exact ⟨0, Nat.zero_le _, rfl, rfl, Below.refl _ _⟩
    case round =>
      obtain ⟨k, hk, rfl, hr, hb⟩ := hrel
      by_cases hlt : k < xs.length
      · have hlt' : k < ys.length := by have := HL.out; omega
        rcases hc with rfl | ⟨b, off, rfl, hc⟩
        · exact absurd hlt (by simp)
        rcases hc' with rfl | ⟨b', off', rfl, hc'⟩
        · exact absurd hlt' (by simp)
        have g := (hb.cell (block_lt_of_cell (hc k hlt))).trans (hc k hlt)
        have g' := (hb.cell (block_lt_of_cell (hc' k hlt'))).trans (hc' k hlt')
        clear hc hc'
        by_cases h3 : xs[k] = ys[k]
        · have HR := Lib.hid (eqL_take hlt hlt' hr.out h3)
          rw [← h3] at g'
          clear h3 ht
          generalize xs[k] = z at g g'
          have HB := Lib.hid hb
          clear hb
          go_wp2
          go_quiet (fail)
          go_wp2
          go_roundw
          case rel => exact ⟨k + 1, by omega, by go_num, HR, below_drewN HB.out _⟩
          case measure => simp [intOf]; omega
        · have HR := Lib.hid (eqL_no hlt hlt' h3)
          have hne' : ((xs[k] : Int) != (ys[k] : Int)) = true := by rw [bne_iff_ne]; omega
          generalize xs[k] = z at g hne'
          generalize ys[k] = z' at g' hne'
          clear ht h3
          have HB := Lib.hid hb
          clear hb
          go_wp2
          go_quiet (fail)
          go_wp2
          go_ret
          exact ⟨ret_bool HR.out.symm, below_drewN HB.out _⟩
      · have HR := Lib.hid (eqL_end HL.out hlt hr.out)
        clear hc hc' ht
        go_wp2
        go_ret
        exact ⟨ret_bool HR.out.symm, hb⟩
  · have HR := Lib.hid (eqL_len hl)
    have ht : ((xs.length : Int) != (ys.length : Int)) = true := by simp; omega
    clear hl hc hc'
    go_enter Try.func77, Try.ntmps77
    go_wp2
    go_ret
    exact ⟨ret_bool HR.out.symm, Below.refl _ _⟩

/-- What Same returns. -/
def samV (a b : List Nat) : Bool := two a b && eqL a b
theorem vsame_any (u v : Value) (a b : List Nat) (w : World) (hu : Sl w u a) (hv : Sl w v b) :
    Calls Try.prog 39 #[u, v] w fun e w' => e = .returned (.tuple #[.bool (samV a b), .int .i64 (calE a b : Nat)]) ∧ Below w.heap.size w w' := by
  have hO := vone_any u v a b w hu hv
  have HE := Lib.hid (equal_any u v a b w hu hv)
  obtain ⟨A, c, rfl, hn, _⟩ := hu
  obtain ⟨A', c', rfl, hn', _⟩ := hv
  by_cases ht : two a b = true
  · rw [ht] at hO
    have HO := Lib.hid hO
    rw [show samV a b = eqL a b by unfold samV; rw [ht]; rfl, show calE a b = 0 by unfold calE; rw [ht]; rfl]
    clear hO ht
    go_enter Try.func39, Try.ntmps39
    go_wp2_with fail
    refine (HO.out).mono ?_
    rintro e w' ⟨rfl, rfl⟩
    go_wp2_with fail
    refine (HE.out).mono ?_
    rintro e w2 ⟨rfl, hb2⟩
    have HB2 := Lib.hid hb2
    clear hb2
    go_wp2
    go_ret2
    exact ⟨rfl, HB2.out⟩
  · have ht' : two a b = false := by simpa using ht
    rw [ht'] at hO
    have HO := Lib.hid hO
    rw [show samV a b = false by unfold samV; rw [ht']; rfl, show calE a b = 2 by unfold calE; rw [ht']; rfl]
    clear hO ht ht'
    go_enter Try.func39, Try.ntmps39
    go_wp2_with fail
    refine (HO.out).mono ?_
    rintro e w' ⟨rfl, rfl⟩
    go_wp2
    go_ret2
    exact ⟨rfl, Below.refl _ _⟩
end Go.Proofs.Ytkapephlfbabjaa
