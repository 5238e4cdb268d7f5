/- The contracts of calculate, Add, Sub and Mul. -/
import Derived.Test.YtkapephlfbabjaaRep
namespace Go.Proofs.Ytkapephlfbabjaa
open Go.RowKit

/-- What Add, Sub and Mul return, by the operation on numbers. -/
def calV (op : Nat → Nat → Nat) (a b : List Nat) : List Nat := if two a b then (if both a b then bitsL (op (num a) (num b)) a.length else List.replicate a.length 2) else []
def calE (a b : List Nat) : Nat := if two a b then 0 else 2
theorem cal_yes {op : Nat → Nat → Nat} {a b : List Nat} (h : two a b = true) (h' : both a b = true) : calV op a b = bitsL (op (num a) (num b)) a.length ∧ calE a b = 0 := by unfold calV calE; rw [h, h']; exact ⟨rfl, rfl⟩
theorem cal_unk {op : Nat → Nat → Nat} {a b : List Nat} (h : two a b = true) (h' : both a b = false) : calV op a b = List.replicate a.length 2 ∧ calE a b = 0 := by unfold calV calE; rw [h, h']; exact ⟨rfl, rfl⟩
theorem cal_no {op : Nat → Nat → Nat} {a b : List Nat} (h : two a b = false) : calV op a b = [] ∧ calE a b = 2 := by unfold calV calE; rw [h]; exact ⟨rfl, rfl⟩

def addO (x y : Nat) : Nat := toU ((x : Int) + (y : Int))
def subO (x y : Nat) : Nat := toU ((x : Int) - (y : Int))
def mulO (x y : Nat) : Nat := toU ((x : Int) * (y : Int))
set_option maxHeartbeats 1000000 in
theorem addCalc (u v : Value) (a b : List Nat) (w : World) (hu : Sl w u a) (hv : Sl w v b) :
    Calls Try.prog 65 #[u, v, .func (.func 66) #[] #[]] w fun e w' => ∃ x, e = .returned (.tuple #[x, .int .i64 (calE a b : Nat)]) ∧ Sl w' x (calV addO a b) ∧ Below w.heap.size w w' := by
  have hN := numbers_any u v a b w hu hv
  obtain ⟨A, c, rfl, hn, _⟩ := hu
  obtain ⟨A', c', rfl, hn', _⟩ := hv
  by_cases ht : two a b = true
  · obtain ⟨va, vb, hl⟩ := two_yes ht
    have a64 := (isV_bits va).2.2
    have a1 := (isV_bits va).2.1
    by_cases hb : both a b = true
    · rw [(nb_yes ht hb).1, (nb_yes ht hb).2.1, (nb_yes ht hb).2.2] at hN
      rw [(cal_yes ht hb).1, (cal_yes (op := addO) ht hb).2]
      have HN := Lib.hid hN
      have HB := Lib.hid (fun w => bitsOf_any (addO (num a) (num b)) a.length w (toU_lt _) a64)
      have HF := Lib.hid (addFn (num a) (num b))
      clear hN ht va vb hl hb a1 a64
      go_enter Try.func65, Try.ntmps65
      go_wp2_with fail
      refine (HN.out).mono ?_
      rintro e w' ⟨rfl, rfl⟩
      go_wp2_with (first | (go_at_call 66; refine (HF.out _).mono ?_; rintro e w' ⟨rfl, rfl⟩) | (go_at_call 62; refine (HB.out _).mono ?_; rintro e w2 ⟨x, rfl, ho, hb⟩))
      have HO := Lib.hid ho
      have HB2 := Lib.hid hb
      clear ho hb
      go_wp2
      go_ret2
      exact ⟨_, rfl, HO.out.sl, HB2.out⟩
    · have hb' : both a b = false := by simpa using hb
      rw [(nb_unk ht hb').1, (nb_unk ht hb').2.1, (nb_unk ht hb').2.2] at hN
      rw [(cal_unk ht hb').1, (cal_unk (op := addO) ht hb').2]
      have HN := Lib.hid hN
      have HR : Hid (∀ v w, Sl w v [2] → Calls Try.prog 89 #[v, .int .i64 (a.length : Nat)] w fun e w' => ∃ u, e = .returned u ∧ Sl w' u (List.replicate a.length 2) ∧ Below w.heap.size w w') := fun v w h => repeat_any v _ w h a1 a64
      clear hN ht va vb hl hb hb' a1 a64
      go_enter Try.func65, Try.ntmps65
      go_wp2_with fail
      refine (HN.out).mono ?_
      rintro e w' ⟨rfl, rfl⟩
      go_wp2_with fail
      refine (HR.out _ _ (Sl.one w 2 (by omega))).mono ?_
      rintro e w2 ⟨x, rfl, ho, hb⟩
      have HO := Lib.hid ho
      have HB2 := Lib.hid (below_then (below_alloc _ _) hb)
      clear ho hb
      go_wp2
      go_ret2
      exact ⟨_, rfl, HO.out, HB2.out⟩
  · have ht' : two a b = false := by simpa using ht
    rw [(nb_no ht').1, (nb_no ht').2.1, (nb_no ht').2.2] at hN
    rw [(cal_no ht').1, (cal_no (op := addO) ht').2]
    have HN := Lib.hid hN
    clear hN ht ht'
    go_enter Try.func65, Try.ntmps65
    go_wp2_with fail
    refine (HN.out).mono ?_
    rintro e w' ⟨rfl, rfl⟩
    go_wp2
    go_ret2
    exact ⟨_, rfl, sl_nil _, Below.refl _ _⟩

set_option maxHeartbeats 1000000 in
theorem subCalc (u v : Value) (a b : List Nat) (w : World) (hu : Sl w u a) (hv : Sl w v b) :
    Calls Try.prog 65 #[u, v, .func (.func 69) #[] #[]] w fun e w' => ∃ x, e = .returned (.tuple #[x, .int .i64 (calE a b : Nat)]) ∧ Sl w' x (calV subO a b) ∧ Below w.heap.size w w' := by
  have hN := numbers_any u v a b w hu hv
  obtain ⟨A, c, rfl, hn, _⟩ := hu
  obtain ⟨A', c', rfl, hn', _⟩ := hv
  by_cases ht : two a b = true
  · obtain ⟨va, vb, hl⟩ := two_yes ht
    have a64 := (isV_bits va).2.2
    have a1 := (isV_bits va).2.1
    by_cases hb : both a b = true
    · rw [(nb_yes ht hb).1, (nb_yes ht hb).2.1, (nb_yes ht hb).2.2] at hN
      rw [(cal_yes ht hb).1, (cal_yes (op := subO) ht hb).2]
      have HN := Lib.hid hN
      have HB := Lib.hid (fun w => bitsOf_any (subO (num a) (num b)) a.length w (toU_lt _) a64)
      have HF := Lib.hid (subFn (num a) (num b))
      clear hN ht va vb hl hb a1 a64
      go_enter Try.func65, Try.ntmps65
      go_wp2_with fail
      refine (HN.out).mono ?_
      rintro e w' ⟨rfl, rfl⟩
      go_wp2_with (first | (go_at_call 69; refine (HF.out _).mono ?_; rintro e w' ⟨rfl, rfl⟩) | (go_at_call 62; refine (HB.out _).mono ?_; rintro e w2 ⟨x, rfl, ho, hb⟩))
      have HO := Lib.hid ho
      have HB2 := Lib.hid hb
      clear ho hb
      go_wp2
      go_ret2
      exact ⟨_, rfl, HO.out.sl, HB2.out⟩
    · have hb' : both a b = false := by simpa using hb
      rw [(nb_unk ht hb').1, (nb_unk ht hb').2.1, (nb_unk ht hb').2.2] at hN
      rw [(cal_unk ht hb').1, (cal_unk (op := subO) ht hb').2]
      have HN := Lib.hid hN
      have HR : Hid (∀ v w, Sl w v [2] → Calls Try.prog 89 #[v, .int .i64 (a.length : Nat)] w fun e w' => ∃ u, e = .returned u ∧ Sl w' u (List.replicate a.length 2) ∧ Below w.heap.size w w') := fun v w h => repeat_any v _ w h a1 a64
      clear hN ht va vb hl hb hb' a1 a64
      go_enter Try.func65, Try.ntmps65
      go_wp2_with fail
      refine (HN.out).mono ?_
      rintro e w' ⟨rfl, rfl⟩
      go_wp2_with fail
      refine (HR.out _ _ (Sl.one w 2 (by omega))).mono ?_
      rintro e w2 ⟨x, rfl, ho, hb⟩
      have HO := Lib.hid ho
      have HB2 := Lib.hid (below_then (below_alloc _ _) hb)
      clear ho hb
      go_wp2
      go_ret2
      exact ⟨_, rfl, HO.out, HB2.out⟩
  · have ht' : two a b = false := by simpa using ht
    rw [(nb_no ht').1, (nb_no ht').2.1, (nb_no ht').2.2] at hN
    rw [(cal_no ht').1, (cal_no (op := subO) ht').2]
    have HN := Lib.hid hN
    clear hN ht ht'
    go_enter Try.func65, Try.ntmps65
    go_wp2_with fail
    refine (HN.out).mono ?_
    rintro e w' ⟨rfl, rfl⟩
    go_wp2
    go_ret2
    exact ⟨_, rfl, sl_nil _, Below.refl _ _⟩

set_option maxHeartbeats 1000000 in
theorem mulCalc (u v : Value) (a b : List Nat) (w : World) (hu : Sl w u a) (hv : Sl w v b) :
    Calls Try.prog 65 #[u, v, .func (.func 71) #[] #[]] w fun e w' => ∃ x, e = .returned (.tuple #[x, .int .i64 (calE a b : Nat)]) ∧ Sl w' x (calV mulO a b) ∧ Below w.heap.size w w' := by
  have hN := numbers_any u v a b w hu hv
  obtain ⟨A, c, rfl, hn, _⟩ := hu
  obtain ⟨A', c', rfl, hn', _⟩ := hv
  by_cases ht : two a b = true
  · obtain ⟨va, vb, hl⟩ := two_yes ht
    have a64 := (isV_bits va).2.2
    have a1 := (isV_bits va).2.1
    by_cases hb : both a b = true
    · rw [(nb_yes ht hb).1, (nb_yes ht hb).2.1, (nb_yes ht hb).2.2] at hN
      rw [(cal_yes ht hb).1, (cal_yes (op := mulO) ht hb).2]
      have HN := Lib.hid hN
      have HB := Lib.hid (fun w => bitsOf_any (mulO (num a) (num b)) a.length w (toU_lt _) a64)
      have HF := Lib.hid (mulFn (num a) (num b))
      clear hN ht va vb hl hb a1 a64
      go_enter Try.func65, Try.ntmps65
      go_wp2_with fail
      refine (HN.out).mono ?_
      rintro e w' ⟨rfl, rfl⟩
      go_wp2_with (first | (go_at_call 71; refine (HF.out _).mono ?_; rintro e w' ⟨rfl, rfl⟩) | (go_at_call 62; refine (HB.out _).mono ?_; rintro e w2 ⟨x, rfl, ho, hb⟩))
      have HO := Lib.hid ho
      have HB2 := Lib.hid hb
      clear ho hb
      go_wp2
      go_ret2
      exact ⟨_, rfl, HO.out.sl, HB2.out⟩
    · have hb' : both a b = false := by simpa using hb
      rw [(nb_unk ht hb').1, (nb_unk ht hb').2.1, (nb_unk ht hb').2.2] at hN
      rw [(cal_unk ht hb').1, (cal_unk (op := mulO) ht hb').2]
      have HN := Lib.hid hN
      have HR : Hid (∀ v w, Sl w v [2] → Calls Try.prog 89 #[v, .int .i64 (a.length : Nat)] w fun e w' => ∃ u, e = .returned u ∧ Sl w' u (List.replicate a.length 2) ∧ Below w.heap.size w w') := fun v w h => repeat_any v _ w h a1 a64
      clear hN ht va vb hl hb hb' a1 a64
      go_enter Try.func65, Try.ntmps65
      go_wp2_with fail
      refine (HN.out).mono ?_
      rintro e w' ⟨rfl, rfl⟩
      go_wp2_with fail
      refine (HR.out _ _ (Sl.one w 2 (by omega))).mono ?_
      rintro e w2 ⟨x, rfl, ho, hb⟩
      have HO := Lib.hid ho
      have HB2 := Lib.hid (below_then (below_alloc _ _) hb)
      clear ho hb
      go_wp2
      go_ret2
      exact ⟨_, rfl, HO.out, HB2.out⟩
  · have ht' : two a b = false := by simpa using ht
    rw [(nb_no ht').1, (nb_no ht').2.1, (nb_no ht').2.2] at hN
    rw [(cal_no ht').1, (cal_no (op := mulO) ht').2]
    have HN := Lib.hid hN
    clear hN ht ht'
    go_enter Try.func65, Try.ntmps65
    go_wp2_with fail
    refine (HN.out).mono ?_
    rintro e w' ⟨rfl, rfl⟩
    go_wp2
    go_ret2
    exact ⟨_, rfl, sl_nil _, Below.refl _ _⟩

theorem add_any (u v : Value) (a b : List Nat) (w : World) (hu : Sl w u a) (hv : Sl w v b) :
    Calls Try.prog 29 #[u, v] w fun e w' => ∃ x, e = .returned (.tuple #[x, .int .i64 (calE a b : Nat)]) ∧ Sl w' x (calV addO a b) ∧ Below w.heap.size w w' := by
  have HC := Lib.hid (addCalc u v a b w hu hv)
  obtain ⟨A, c, rfl, hn, _⟩ := hu
  obtain ⟨A', c', rfl, hn', _⟩ := hv
  go_enter Try.func29, Try.ntmps29
  go_wp2_with fail
  refine (HC.out).mono ?_
  rintro e w2 ⟨x, rfl, ho, hb⟩
  have HO := Lib.hid ho
  have HB2 := Lib.hid hb
  clear ho hb
  go_wp2
  go_ret2
  exact ⟨_, rfl, HO.out, HB2.out⟩
theorem sub_any (u v : Value) (a b : List Nat) (w : World) (hu : Sl w u a) (hv : Sl w v b) :
    Calls Try.prog 31 #[u, v] w fun e w' => ∃ x, e = .returned (.tuple #[x, .int .i64 (calE a b : Nat)]) ∧ Sl w' x (calV subO a b) ∧ Below w.heap.size w w' := by
  have HC := Lib.hid (subCalc u v a b w hu hv)
  obtain ⟨A, c, rfl, hn, _⟩ := hu
  obtain ⟨A', c', rfl, hn', _⟩ := hv
  go_enter Try.func31, Try.ntmps31
  go_wp2_with fail
  refine (HC.out).mono ?_
  rintro e w2 ⟨x, rfl, ho, hb⟩
  have HO := Lib.hid ho
  have HB2 := Lib.hid hb
  clear ho hb
  go_wp2
  go_ret2
  exact ⟨_, rfl, HO.out, HB2.out⟩
theorem mul_any (u v : Value) (a b : List Nat) (w : World) (hu : Sl w u a) (hv : Sl w v b) :
    Calls Try.prog 33 #[u, v] w fun e w' => ∃ x, e = .returned (.tuple #[x, .int .i64 (calE a b : Nat)]) ∧ Sl w' x (calV mulO a b) ∧ Below w.heap.size w w' := by
  have HC := Lib.hid (mulCalc u v a b w hu hv)
  obtain ⟨A, c, rfl, hn, _⟩ := hu
  obtain ⟨A', c', rfl, hn', _⟩ := hv
  go_enter Try.func33, Try.ntmps33
  go_wp2_with fail
  refine (HC.out).mono ?_
  rintro e w2 ⟨x, rfl, ho, hb⟩
  have HO := Lib.hid ho
  have HB2 := Lib.hid hb
  clear ho hb
  go_wp2
  go_ret2
  exact ⟨_, rfl, HO.out, HB2.out⟩
end Go.Proofs.Ytkapephlfbabjaa
