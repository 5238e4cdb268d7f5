/- The contract of the reference's Has: what is no value of a type; bools. -/
import Derived.Test.YtdiagnhdigakpaaGreatDoorKe
import Derived.Deep.RegionWith
import Derived.Shelf.Abstract
namespace Go.Proofs.YtdiagnhdigakpaaGreatDoor
open Go.RowKit

/-- The cells of a box of a type and one of a value. -/
theorem box2_cells {w wr : World} {a0 a1 a2 a3 a4 b0 b1 b2 b3 : Value} (hb : Below ((w.alloc (.cells #[a0, a1, a2, a3, a4] 26)).alloc (.cells #[b0, b1, b2, b3] 38)).heap.size ((w.alloc (.cells #[a0, a1, a2, a3, a4] 26)).alloc (.cells #[b0, b1, b2, b3] 38)) wr) :
    (wr.cell? ⟨w.heap.size, 0, none⟩ = some a0 ∧ wr.cell? ⟨w.heap.size, 1, none⟩ = some a1 ∧ wr.cell? ⟨w.heap.size, 2, none⟩ = some a2 ∧ wr.cell? ⟨w.heap.size, 3, none⟩ = some a3 ∧ wr.cell? ⟨w.heap.size, 4, none⟩ = some a4) ∧
    (wr.cell? ⟨w.heap.size + 1, 0, none⟩ = some b0 ∧ wr.cell? ⟨w.heap.size + 1, 1, none⟩ = some b1 ∧ wr.cell? ⟨w.heap.size + 1, 2, none⟩ = some b2 ∧ wr.cell? ⟨w.heap.size + 1, 3, none⟩ = some b3) := by
  have hs : (w.alloc (.cells #[a0, a1, a2, a3, a4] 26)).heap.size = w.heap.size + 1 := Array.size_push _
  have h2 := below_alloc (w.alloc (.cells #[a0, a1, a2, a3, a4] 26)) (.cells #[b0, b1, b2, b3] 38)
  refine ⟨⟨?_, ?_, ?_, ?_, ?_⟩, ⟨?_, ?_, ?_, ?_⟩⟩
  iterate 5
    · refine cell_stays hb (cell_stays h2 ?_)
      rw [World.cell?_alloc_at _ _ _ _ rfl]; rfl
  iterate 4
    · refine cell_stays hb ?_
      rw [← hs, World.cell?_alloc_at _ _ _ _ rfl]; rfl
set_option maxHeartbeats 8000000 in
theorem has_no (k l k' n : Int) (nm : ByteArray) (v1 v2 v3 v4 : Value) (a : Bool) (w : World)
    (HA : Hid (∀ u, Below w.heap.size w u → Calls Tryz.prog 17 #[.agg #[.int .i64 k, .int .i64 l, .string nm, v1, v2]] u fun e w' => e = .returned (.bool a) ∧ Below u.heap.size u w'))
    (hn : a = false ∨ k' ≠ k) :
    Calls Tryz.prog 31 #[.agg #[.int .i64 k, .int .i64 l, .string nm, v1, v2], .agg #[.int .i64 k', .int .i64 n, v3, v4]] w fun e w' => e = .returned (.bool false) ∧ Below w.heap.size w w' := by
  have h0 := below_then (below_alloc w (.cells #[.int .i64 k, .int .i64 l, .string nm, v1, v2] 26)) (below_alloc (w.alloc (.cells #[.int .i64 k, .int .i64 l, .string nm, v1, v2] 26)) (.cells #[.int .i64 k', .int .i64 n, v3, v4] 38))
  have H0 := Lib.hid h0
  clear h0
  cases a with
  | false =>
    clear hn
    go_enter Tryz.func31, Tryz.ntmps31
    go_wp2_with fail
    refine (HA.out _ H0.out).mono ?_
    rintro e w1 ⟨rfl, hb1⟩
    have H1 := Lib.hid (below_then H0.out hb1)
    clear hb1
    go_wp2
    go_ret
    exact ⟨rfl, H1.out⟩
  | true =>
    have h : (k' != k) = true := by rw [bne_iff_ne]; simpa using hn
    clear hn
    go_enter Tryz.func31, Tryz.ntmps31
    go_wp2_with fail
    refine (HA.out _ H0.out).mono ?_
    rintro e w1 ⟨rfl, hb1⟩
    have H1 := Lib.hid (below_then H0.out hb1)
    obtain ⟨⟨p0, p1, p2, p3, p4⟩, q0, q1, q2, q3⟩ := box2_cells hb1
    clear hb1
    go_wp2
    go_ret
    exact ⟨rfl, H1.out⟩
set_option maxHeartbeats 8000000 in
theorem has_bool (l n : Int) (nm : ByteArray) (v1 v2 : Value) (C D : Option Addr) (x y p q : Nat) (w : World)
    (HA : Hid (∀ u, Below w.heap.size w u → Calls Tryz.prog 17 #[.agg #[.int .i64 2, .int .i64 l, .string nm, v1, v2]] u fun e w' => e = .returned (.bool true) ∧ Below u.heap.size u w')) :
    Calls Tryz.prog 31 #[.agg #[.int .i64 2, .int .i64 l, .string nm, v1, v2], .agg #[.int .i64 2, .int .i64 n, .slice C x p, .slice D y q]] w fun e w' => e = .returned (.bool (((n == 0) || (n == 1)) && (((x : Int) == 0) && ((y : Int) == 0)))) ∧ Below w.heap.size w w' := by
  have h0 := below_then (below_alloc w (.cells #[.int .i64 2, .int .i64 l, .string nm, v1, v2] 26)) (below_alloc (w.alloc (.cells #[.int .i64 2, .int .i64 l, .string nm, v1, v2] 26)) (.cells #[.int .i64 2, .int .i64 n, .slice C x p, .slice D y q] 38))
  have H0 := Lib.hid h0
  clear h0
  cases e1 : (n == 0) <;> cases e2 : (n == 1) <;> cases e3 : ((x : Int) == 0) <;> cases e4 : ((y : Int) == 0)
  all_goals
    go_enter Tryz.func31, Tryz.ntmps31
    go_wp2_with fail
    refine (HA.out _ H0.out).mono ?_
    rintro e w1 ⟨rfl, hb1⟩
    have H1 := Lib.hid (below_then H0.out hb1)
    obtain ⟨⟨p0, p1, p2, p3, p4⟩, q0, q1, q2, q3⟩ := box2_cells hb1
    clear hb1
    go_wp2
    go_ret
    exact ⟨rfl, H1.out⟩
end Go.Proofs.YtdiagnhdigakpaaGreatDoor
/- The contract of the reference's Has: ints, enumerations. -/
namespace Go.Proofs.YtdiagnhdigakpaaGreatDoor
open Go.RowKit

/-- Does an int lie in the 32 bits? -/
def fits32 (n : Int) : Bool := decide (-2147483648 ≤ n) && decide (n ≤ 2147483647)
set_option maxHeartbeats 2000000 in
theorem fits_any (n : Int) (w : World) : Calls Tryz.prog 76 #[.int .i64 n] w fun e w' => e = .returned (.bool (fits32 n)) ∧ w = w' := by
  unfold fits32
  cases e1 : decide (-2147483648 ≤ n) <;> cases e2 : decide (n ≤ 2147483647)
  all_goals
    go_enter Tryz.func76, Tryz.ntmps76
    go_wp2
    go_ret
    exact ⟨rfl, rfl⟩
set_option maxHeartbeats 8000000 in
theorem has_enum (l n : Int) (nm : ByteArray) (A C D : Option Addr) (v2 : Value) (m c x y p q : Nat) (w : World)
    (HA : Hid (∀ u, Below w.heap.size w u → Calls Tryz.prog 17 #[.agg #[.int .i64 5, .int .i64 l, .string nm, .slice A m c, v2]] u fun e w' => e = .returned (.bool true) ∧ Below u.heap.size u w')) :
    Calls Tryz.prog 31 #[.agg #[.int .i64 5, .int .i64 l, .string nm, .slice A m c, v2], .agg #[.int .i64 5, .int .i64 n, .slice C x p, .slice D y q]] w fun e w' => e = .returned (.bool ((decide (0 ≤ n) && decide (n < (m : Int))) && (((x : Int) == 0) && ((y : Int) == 0)))) ∧ Below w.heap.size w w' := by
  have h0 := below_then (below_alloc w (.cells #[.int .i64 5, .int .i64 l, .string nm, .slice A m c, v2] 26)) (below_alloc (w.alloc (.cells #[.int .i64 5, .int .i64 l, .string nm, .slice A m c, v2] 26)) (.cells #[.int .i64 5, .int .i64 n, .slice C x p, .slice D y q] 38))
  have H0 := Lib.hid h0
  clear h0
  cases e1 : decide (0 ≤ n) <;> cases e2 : decide (n < (m : Int)) <;> cases e3 : ((x : Int) == 0) <;> cases e4 : ((y : Int) == 0)
  all_goals
    go_enter Tryz.func31, Tryz.ntmps31
    go_wp2_with fail
    refine (HA.out _ H0.out).mono ?_
    rintro e w1 ⟨rfl, hb1⟩
    have H1 := Lib.hid (below_then H0.out hb1)
    obtain ⟨⟨p0, p1, p2, p3, p4⟩, q0, q1, q2, q3⟩ := box2_cells hb1
    clear hb1
    go_wp2
    go_ret
    exact ⟨rfl, H1.out⟩
set_option maxHeartbeats 8000000 in
theorem has_int (l n : Int) (nm : ByteArray) (C D : Option Addr) (v1 v2 : Value) (x y p q : Nat) (w : World)
    (HA : Hid (∀ u, Below w.heap.size w u → Calls Tryz.prog 17 #[.agg #[.int .i64 3, .int .i64 l, .string nm, v1, v2]] u fun e w' => e = .returned (.bool true) ∧ Below u.heap.size u w')) :
    Calls Tryz.prog 31 #[.agg #[.int .i64 3, .int .i64 l, .string nm, v1, v2], .agg #[.int .i64 3, .int .i64 n, .slice C x p, .slice D y q]] w fun e w' => e = .returned (.bool (fits32 n && (((x : Int) == 0) && ((y : Int) == 0)))) ∧ Below w.heap.size w w' := by
  have h0 := below_then (below_alloc w (.cells #[.int .i64 3, .int .i64 l, .string nm, v1, v2] 26)) (below_alloc (w.alloc (.cells #[.int .i64 3, .int .i64 l, .string nm, v1, v2] 26)) (.cells #[.int .i64 3, .int .i64 n, .slice C x p, .slice D y q] 38))
  have H0 := Lib.hid h0
  clear h0
  have HF := Lib.hid (fits_any n)
  cases e1 : fits32 n <;> rw [e1] at HF <;> cases e3 : ((x : Int) == 0) <;> cases e4 : ((y : Int) == 0)
  all_goals
    go_enter Tryz.func31, Tryz.ntmps31
    go_wp2_with fail
    refine (HA.out _ H0.out).mono ?_
    rintro e w1 ⟨rfl, hb1⟩
    have H1 := Lib.hid (below_then H0.out hb1)
    obtain ⟨⟨p0, p1, p2, p3, p4⟩, q0, q1, q2, q3⟩ := box2_cells hb1
    clear hb1
    go_wp2_with fail
    refine (HF.out _).mono ?_
    rintro e w2 ⟨rfl, rfl⟩
    go_wp2
    go_ret
    exact ⟨rfl, H1.out⟩
end Go.Proofs.YtdiagnhdigakpaaGreatDoor
/- The contract of the reference's Is over slices of bits. -/
namespace Go.Proofs.YtdiagnhdigakpaaGreatDoor
open Go.RowKit

theorem bit_yes (b : Nat) (w : World) (h : b ≤ 3) :
    Calls Tryz.prog 111 #[.int .u8 b] w fun e w' => e = .returned (.bool true) ∧ w = w' := by
  obtain rfl | rfl | rfl | rfl : b = 0 ∨ b = 1 ∨ b = 2 ∨ b = 3 := by omega
  all_goals
    go_enter Tryz.func111, Tryz.ntmps111
    go_wp2
    go_ret
    exact ⟨rfl, rfl⟩
theorem bit_no (b : Nat) (w : World) (h : 3 < b) :
    Calls Tryz.prog 111 #[.int .u8 b] w fun e w' => e = .returned (.bool false) ∧ w = w' := by
  have h0 : ((b : Int) == 0) = false := by rw [beq_eq_false_iff_ne]; omega
  have h1 : ((b : Int) == 1) = false := by rw [beq_eq_false_iff_ne]; omega
  have h2 : ((b : Int) == 2) = false := by rw [beq_eq_false_iff_ne]; omega
  have h3 : ((b : Int) == 3) = false := by rw [beq_eq_false_iff_ne]; omega
  go_enter Tryz.func111, Tryz.ntmps111
  go_wp2
  go_ret
  exact ⟨rfl, rfl⟩

/-- All are bits. -/
def bitsB (zs : List Nat) : Bool := zs.all fun z => decide (z ≤ 3)
theorem bitsB_take {zs : List Nat} {k : Nat} (h : k < zs.length) (hk : bitsB (zs.take k) = true) (hz : zs[k] ≤ 3) : bitsB (zs.take (k + 1)) = true := by
  unfold bitsB at *
  rw [List.take_succ_eq_append_getElem h, List.all_append, hk]
  simpa using hz
theorem bitsB_no {zs : List Nat} {k : Nat} (h : k < zs.length) (hz : 3 < zs[k]) : bitsB zs = false := by
  unfold bitsB
  rw [List.all_eq_false]
  exact ⟨zs[k], List.getElem_mem h, by simpa using hz⟩
theorem bitsB_end {zs : List Nat} (hk : bitsB (zs.take zs.length) = true) : bitsB zs = true := by rwa [List.take_length] at hk

/-- v is a vector. -/
def isV (zs : List Nat) : Bool := decide (1 ≤ zs.length) && decide (zs.length ≤ 64) && bitsB zs
theorem isV_none {zs : List Nat} (h : ¬ 1 ≤ zs.length) : isV zs = false := by simp [isV, h]
theorem isV_long {zs : List Nat} (h : ¬ zs.length ≤ 64) : isV zs = false := by simp [isV, h]
theorem isV_fits {zs : List Nat} (h : 1 ≤ zs.length) (h' : zs.length ≤ 64) : isV zs = bitsB zs := by simp [isV, h, h']

set_option maxHeartbeats 400000 in
theorem refIs_any (v : Value) (zs : List Nat) (w : World) (h : BitS w v zs) :
    Calls Tryz.prog 75 #[v] w fun e w' => e = .returned (.bool (isV zs)) ∧ w = w' := by
  obtain ⟨A, c, rfl, hcap, hn, hz, hc⟩ := h
  clear hz
  go_enter Tryz.func75, Tryz.ntmps75
  go_wp2_with fail
  go_loop [7] (fun i => ∃ k : Nat, k ≤ zs.length ∧ i = .int .i64 k ∧ Hid (bitsB (zs.take k) = true)) (fun i => zs.length - (intOf i).toNat)
  case atStart => exact ⟨0, Nat.zero_le _, rfl, rfl⟩
  case round =>
    obtain ⟨k, hk, rfl, hr⟩ := hrel
    by_cases hlt : k < zs.length
    · rcases hc with rfl | ⟨b, off, rfl, hc⟩
      · exact absurd hlt (by simp)
      have g := hc k hlt
      clear hc
      by_cases h3 : zs[k] ≤ 3
      · have HR := Lib.hid (bitsB_take hlt hr.out h3)
        generalize zs[k] = z at g h3
        go_wp2_with (go_at_call 111; refine (bit_yes _ _ (by omega)).mono ?_; rintro e w' ⟨rfl, rfl⟩)
        go_round
        case rel => exact ⟨k + 1, by omega, by go_num, HR⟩
        case measure => simp [intOf]; omega
      · have HR : Hid (isV zs = false) := by
          have := bitsB_no hlt (show 3 < zs[k] by omega)
          show isV zs = false
          simp [isV, this]
        generalize zs[k] = z at g h3
        go_wp2_with (go_at_call 111; refine (bit_no _ _ (by omega)).mono ?_; rintro e w' ⟨rfl, rfl⟩)
        go_ret
        exact ⟨ret_bool HR.out.symm, rfl⟩
    · have hB := bitsB_end (zs := zs) (by have := hr.out; rwa [show k = zs.length by omega] at this)
      clear hc
      by_cases h1 : 1 ≤ zs.length
      · by_cases h2 : zs.length ≤ 64
        · have HR : Hid (isV zs = true) := by
            show isV zs = true
            rw [isV_fits h1 h2, hB]
          clear hB
          go_wp2
          go_ret
          exact ⟨ret_bool (by rw [HR.out, decide_eq_true_eq]; omega), rfl⟩
        · have HR := Lib.hid (isV_long h2)
          clear hB
          go_wp2
          go_ret
          exact ⟨ret_bool (by rw [HR.out, decide_eq_false_iff_not]; omega), rfl⟩
      · have HR := Lib.hid (isV_none h1)
        clear hB
        go_wp2
        go_ret
        exact ⟨ret_bool HR.out.symm, rfl⟩

end Go.Proofs.YtdiagnhdigakpaaGreatDoor
/- The contract of the reference's Has: bits, vectors. -/
namespace Go.Proofs.YtdiagnhdigakpaaGreatDoor
open Go.RowKit

set_option maxHeartbeats 8000000 in
theorem has_bit (l n : Int) (nm : ByteArray) (C D : Option Addr) (v1 v2 : Value) (x y p q : Nat) (r : Bool) (w : World)
    (HA : Hid (∀ u, Below w.heap.size w u → Calls Tryz.prog 17 #[.agg #[.int .i64 1, .int .i64 l, .string nm, v1, v2]] u fun e w' => e = .returned (.bool true) ∧ Below u.heap.size u w'))
    (HI : Hid (∀ u, Below w.heap.size w u → Calls Tryz.prog 75 #[.slice C x p] u fun e w' => e = .returned (.bool r) ∧ u = w')) :
    Calls Tryz.prog 31 #[.agg #[.int .i64 1, .int .i64 l, .string nm, v1, v2], .agg #[.int .i64 1, .int .i64 n, .slice C x p, .slice D y q]] w fun e w' => e = .returned (.bool ((n == 0) && (((x : Int) == 1) && (r && ((y : Int) == 0))))) ∧ Below w.heap.size w w' := by
  have h0 := below_then (below_alloc w (.cells #[.int .i64 1, .int .i64 l, .string nm, v1, v2] 26)) (below_alloc (w.alloc (.cells #[.int .i64 1, .int .i64 l, .string nm, v1, v2] 26)) (.cells #[.int .i64 1, .int .i64 n, .slice C x p, .slice D y q] 38))
  have H0 := Lib.hid h0
  clear h0
  cases e1 : (n == 0) <;> cases e2 : ((x : Int) == 1) <;> cases r <;> cases e4 : ((y : Int) == 0)
  all_goals
    go_enter Tryz.func31, Tryz.ntmps31
    go_wp2_with fail
    refine (HA.out _ H0.out).mono ?_
    rintro e w1 ⟨rfl, hb1⟩
    have H1 := Lib.hid (below_then H0.out hb1)
    obtain ⟨⟨p0, p1, p2, p3, p4⟩, q0, q1, q2, q3⟩ := box2_cells hb1
    clear hb1
    go_wp2_with fail
    first
      | (go_ret
         exact ⟨rfl, H1.out⟩)
      | (refine (HI.out _ H1.out).mono ?_
         rintro e w2 ⟨rfl, rfl⟩
         go_wp2
         go_ret
         exact ⟨rfl, H1.out⟩)
set_option maxHeartbeats 8000000 in
theorem has_vec (l n : Int) (nm : ByteArray) (C D : Option Addr) (v1 v2 : Value) (x y p q : Nat) (r : Bool) (w : World)
    (HA : Hid (∀ u, Below w.heap.size w u → Calls Tryz.prog 17 #[.agg #[.int .i64 4, .int .i64 l, .string nm, v1, v2]] u fun e w' => e = .returned (.bool true) ∧ Below u.heap.size u w'))
    (HI : Hid (∀ u, Below w.heap.size w u → Calls Tryz.prog 75 #[.slice C x p] u fun e w' => e = .returned (.bool r) ∧ u = w')) :
    Calls Tryz.prog 31 #[.agg #[.int .i64 4, .int .i64 l, .string nm, v1, v2], .agg #[.int .i64 4, .int .i64 n, .slice C x p, .slice D y q]] w fun e w' => e = .returned (.bool ((n == 0) && (((x : Int) == l) && (r && ((y : Int) == 0))))) ∧ Below w.heap.size w w' := by
  have h0 := below_then (below_alloc w (.cells #[.int .i64 4, .int .i64 l, .string nm, v1, v2] 26)) (below_alloc (w.alloc (.cells #[.int .i64 4, .int .i64 l, .string nm, v1, v2] 26)) (.cells #[.int .i64 4, .int .i64 n, .slice C x p, .slice D y q] 38))
  have H0 := Lib.hid h0
  clear h0
  cases e1 : (n == 0) <;> cases e2 : ((x : Int) == l) <;> cases r <;> cases e4 : ((y : Int) == 0)
  all_goals
    go_enter Tryz.func31, Tryz.ntmps31
    go_wp2_with fail
    refine (HA.out _ H0.out).mono ?_
    rintro e w1 ⟨rfl, hb1⟩
    have H1 := Lib.hid (below_then H0.out hb1)
    obtain ⟨⟨p0, p1, p2, p3, p4⟩, q0, q1, q2, q3⟩ := box2_cells hb1
    clear hb1
    go_wp2_with fail
    first
      | (go_ret
         exact ⟨rfl, H1.out⟩)
      | (refine (HI.out _ H1.out).mono ?_
         rintro e w2 ⟨rfl, rfl⟩
         go_wp2
         go_ret
         exact ⟨rfl, H1.out⟩)
end Go.Proofs.YtdiagnhdigakpaaGreatDoor
/- The contract of the reference's Has: arrays. -/
namespace Go.Proofs.YtdiagnhdigakpaaGreatDoor
open Go.RowKit

theorem row_at {w : World} {b : Nat} : ∀ (ls : List Va) (o : Nat), VaAt w ls b o → ∀ (k : Nat) (h : k < ls.length), ∃ kk n A1 m1 c1 A2 m2 c2, VaC w ls[k] [.int .i64 kk, .int .i64 n, .slice A1 m1 c1, .slice A2 m2 c2] ∧ w.cell? ⟨b, o + k * 4, none⟩ = some (.int .i64 kk) ∧ w.cell? ⟨b, o + k * 4 + 1, none⟩ = some (.int .i64 n) ∧ w.cell? ⟨b, o + k * 4 + 2, none⟩ = some (.slice A1 m1 c1) ∧ w.cell? ⟨b, o + k * 4 + 3, none⟩ = some (.slice A2 m2 c2)
  | [], _, _, k, h => absurd h (Nat.not_lt_zero _)
  | v :: r, o, hr, 0, _ => by
    rw [VaAt] at hr
    obtain ⟨⟨cs, h1, h2⟩, _⟩ := hr
    obtain ⟨kk, n, bs, ls⟩ := v
    have h1' := h1
    rw [VaC] at h1'
    obtain ⟨vb, A, c, rfl, ⟨A1, c1, rfl, _⟩, _⟩ := h1'
    rw [Nat.zero_mul]
    exact ⟨_, _, _, _, _, _, _, _, h1, h2 0 (by omega), h2 1 (by omega), h2 2 (by omega), h2 3 (by omega)⟩
  | v :: r, o, hr, k + 1, h => by
    rw [VaAt] at hr
    have hk : k < r.length := by simpa using h
    obtain ⟨kk, n, A1, m1, c1, A2, m2, c2, g⟩ := row_at r (o + 4) hr.2 k hk
    rw [show o + 4 + k * 4 = o + (k + 1) * 4 by omega] at g
    exact ⟨kk, n, A1, m1, c1, A2, m2, c2, g⟩
theorem allh_more {f : Va → Bool} {ls : List Va} {k : Nat} (h : k < ls.length) (hk : (ls.take k).all f = true) (hx : f ls[k] = true) : (ls.take (k + 1)).all f = true := by
  rw [List.take_succ_eq_append_getElem h, List.all_append, hk]
  simp [hx]
theorem allh_no {f : Va → Bool} {ls : List Va} {k : Nat} (h : k < ls.length) (hx : f ls[k] = false) : ls.all f = false := by
  rw [Bool.eq_false_iff]
  intro ha
  rw [List.all_eq_true.1 ha _ (List.getElem_mem h)] at hx
  cases hx
theorem allh_end {f : Va → Bool} {ls : List Va} {k : Nat} (h : ¬ k < ls.length) (hk : (ls.take k).all f = true) : ls.all f = true := by
  rwa [List.take_of_length_le (by omega)] at hk
set_option maxRecDepth 100000 in
set_option maxHeartbeats 8000000 in
theorem has_arr (f : Va → Bool) (l : Int) (nm : ByteArray) (b o b' o' : Nat) (C D : Option Addr) (d p q : Nat) (v1 : Value) (k1 l1 : Int) (nm1 : ByteArray) (x1 x2 : Value) (ls : List Va) (w : World)
    (HA : Hid (∀ u, Below w.heap.size w u → Calls Tryz.prog 17 #[.agg #[.int .i64 6, .int .i64 l, .string nm, v1, .slice (some ⟨b, o, none⟩) 1 d]] u fun e w' => e = .returned (.bool true) ∧ Below u.heap.size u w'))
    (HS : Hid (∀ (k : Nat) (h : k < ls.length) (u : World) (cs : List Value), Below w.heap.size w u → VaC u ls[k] cs → Calls Tryz.prog 31 #[.agg #[.int .i64 k1, .int .i64 l1, .string nm1, x1, x2], .agg cs.toArray] u fun e w' => e = .returned (.bool (f ls[k])) ∧ Below u.heap.size u w'))
    (HE : Hid (w.cell? ⟨b, o, none⟩ = some (.int .i64 k1) ∧ w.cell? ⟨b, o + 1, none⟩ = some (.int .i64 l1) ∧ w.cell? ⟨b, o + 2, none⟩ = some (.string nm1) ∧ w.cell? ⟨b, o + 3, none⟩ = some x1 ∧ w.cell? ⟨b, o + 4, none⟩ = some x2))
    (hl : ((ls.length : Int) != l) = false) (hx : ls.length ≤ 9223372036854775807)
    (HD : Hid (ls.length = 0 ∨ D = some ⟨b', o', none⟩)) (HV : Hid (VaAt w ls b' o' ∨ ls.length = 0)) :
    Calls Tryz.prog 31 #[.agg #[.int .i64 6, .int .i64 l, .string nm, v1, .slice (some ⟨b, o, none⟩) 1 d], .agg #[.int .i64 6, .int .i64 0, .slice C 0 p, .slice D ls.length q]] w fun e w' => e = .returned (.bool (ls.all f)) ∧ Below w.heap.size w w' := by
  have H0 := Lib.hid (below_then (below_alloc w (.cells #[.int .i64 6, .int .i64 l, .string nm, v1, .slice (some ⟨b, o, none⟩) 1 d] 26)) (below_alloc (w.alloc (.cells #[.int .i64 6, .int .i64 l, .string nm, v1, .slice (some ⟨b, o, none⟩) 1 d] 26)) (.cells #[.int .i64 6, .int .i64 0, .slice C 0 p, .slice D ls.length q] 38)))
  go_enter Tryz.func31, Tryz.ntmps31
  go_wp2_with fail
  refine (HA.out _ H0.out).mono ?_
  rintro e w1 ⟨rfl, hb1⟩
  have H1 := Lib.hid (below_then H0.out hb1)
  obtain ⟨⟨p0, p1, p2, p3, p4⟩, q0, q1, q2, q3⟩ := box2_cells hb1
  have HC := Lib.hid hb1
  clear hb1
  go_wp2_with fail
  clear p0 p1 p2 p3 p4 q0 q1 q2 q3
  go_loopw [149] (fun i wr => ∃ k : Nat, k ≤ ls.length ∧ i = .int .i64 k ∧ Hid ((ls.take k).all f = true) ∧ Hid (Below ((w.alloc (.cells #[.int .i64 6, .int .i64 l, .string nm, v1, .slice (some ⟨b, o, none⟩) 1 d] 26)).alloc (.cells #[.int .i64 6, .int .i64 0, .slice C 0 p, .slice D ls.length q] 38)).heap.size ((w.alloc (.cells #[.int .i64 6, .int .i64 l, .string nm, v1, .slice (some ⟨b, o, none⟩) 1 d] 26)).alloc (.cells #[.int .i64 6, .int .i64 0, .slice C 0 p, .slice D ls.length q] 38)) wr)) (fun i _ => ls.length - (intOf i).toNat)
  case atStart => exact ⟨0, Nat.zero_le _, rfl, rfl, HC.out⟩
  case round =>
    obtain ⟨k, hk, rfl, hr, hbr⟩ := hrel
    have HBR := Lib.hid (below_then H0.out hbr.out)
    by_cases hlt : k < ls.length
    · have hD : D = some ⟨b', o', none⟩ := HD.out.resolve_left (by omega)
      subst hD
      obtain ⟨⟨p0, p1, p2, p3, p4⟩, q0, q1, q2, q3⟩ := box2_cells hbr.out
      obtain ⟨kk, nn, A1, m1, c1, A2, m2, c2, hva, g0, g1, g2, g3⟩ := row_at ls o' (HV.out.resolve_right (by omega)) k hlt
      replace g0 := cell_stays HBR.out g0
      replace g1 := cell_stays HBR.out g1
      replace g2 := cell_stays HBR.out g2
      replace g3 := cell_stays HBR.out g3
      have hba := below_alloc wr (.cells #[.int .i64 kk, .int .i64 nn, .slice A1 m1 c1, .slice A2 m2 c2] 38)
      have hbb := below_then HBR.out hba
      have hbc := Lib.hid (below_then hbr.out hba)
      obtain ⟨e0, e1, e2, e3, e4⟩ := HE.out
      replace e0 := cell_stays hbb e0
      replace e1 := cell_stays hbb e1
      replace e2 := cell_stays hbb e2
      replace e3 := cell_stays hbb e3
      replace e4 := cell_stays hbb e4
      have p4' := cell_stays hba p4
      have d1 : decide ((k : Int) < (ls.length : Int)) = true := by rw [decide_eq_true_eq]; omega
      have d2 : decide (k < ls.length) = true := by rw [decide_eq_true_eq]; omega
      have hki : (k : Int) < (ls.length : Int) := by omega
      have hk0 : (0 : Int) ≤ (k : Int) := by omega
      have HX := Lib.hid (HS.out k hlt _ _ (below_drewN hbb 1) (VaC.later (below_drewN hbb 1) _ _ hva))
      have HBB := Lib.hid hbb
      cases hf : f ls[k] with
      | false =>
        have HR := Lib.hid (allh_no hlt hf)
        rw [hf] at HX
        clear hf hr hva hba hbb hbr HE HA
        go_wp2_with fail
        go_region_with (go_at_call 31; refine (HX.out).mono ?_; rintro e w3 ⟨rfl, hb3⟩; have HB3 := Lib.hid (below_then (below_drewN HBB.out 1) hb3); clear hb3)
        all_goals
          go_wp2
          go_ret
          exact ⟨by rw [HR.out]; rfl, HB3.out⟩
      | true =>
        have HR := Lib.hid (allh_more hlt hr.out hf)
        rw [hf] at HX
        clear hf hr hva hba hbb hbr HE HA
        go_wp2_with fail
        go_region_with (go_at_call 31; refine (HX.out).mono ?_; rintro e w3 ⟨rfl, hb3⟩; have HB3 := Lib.hid (below_then (below_drewN hbc.out 1) hb3); clear hb3)
        all_goals
          go_wp2
          go_round
          case rel => exact ⟨k + 1, by omega, by go_num, HR, HB3.out⟩
          case measure => simp [intOf]; omega
    · have d1 : decide ((k : Int) < (ls.length : Int)) = false := by rw [decide_eq_false_iff_not]; omega
      have d2 : decide (k < ls.length) = false := by rw [decide_eq_false_iff_not]; omega
      have HR := Lib.hid (allh_end hlt hr.out)
      clear hr
      go_wp2
      go_ret
      exact ⟨by rw [HR.out]; rfl, HBR.out⟩
end Go.Proofs.YtdiagnhdigakpaaGreatDoor
/- The contracts of the program's isRow and isNumber, and of the library's IndexFunc and ContainsFunc over values. -/
namespace Go.Proofs.YtdiagnhdigakpaaGreatDoor
open Go.RowKit

set_option maxRecDepth 100000 in
set_option maxHeartbeats 8000000 in
theorem isRow_gen (kk nn n : Int) (C D : Option Addr) (x y p q : Nat) (r : Bool) (w : World)
    (HI : Hid ((x : Int) = n → ∀ u, Below w.heap.size w u → Calls Tryz.prog 126 #[.slice C x p] u fun e w' => e = .returned (.bool r) ∧ u = w')) :
    Calls Tryz.prog 108 #[.agg #[.int .i64 kk, .int .i64 nn, .slice C x p, .slice D y q], .int .i64 n] w fun e w' => e = .returned (.bool ((nn == 0) && (((x : Int) == n) && (r && ((y : Int) == 0))))) ∧ Below w.heap.size w w' := by
  have H0 := Lib.hid (below_alloc w (.cells #[.int .i64 kk, .int .i64 nn, .slice C x p, .slice D y q] 38))
  cases e1 : (nn == 0)
  · clear HI
    go_enter Tryz.func108, Tryz.ntmps108
    go_wp2
    go_ret
    exact ⟨rfl, H0.out⟩
  cases e2 : ((x : Int) == n)
  · clear HI
    go_enter Tryz.func108, Tryz.ntmps108
    go_wp2
    go_ret
    exact ⟨rfl, H0.out⟩
  have HJ := Lib.hid (HI.out (by simpa using e2))
  clear HI
  cases r <;> cases e4 : ((y : Int) == 0)
  all_goals
    go_enter Tryz.func108, Tryz.ntmps108
    go_wp2_with fail
    refine (HJ.out _ H0.out).mono ?_
    rintro e w2 ⟨rfl, rfl⟩
    go_wp2
    go_ret
    exact ⟨rfl, H0.out⟩
set_option maxRecDepth 100000 in
set_option maxHeartbeats 8000000 in
theorem isNumber_gen (kk nn lo hi : Int) (C D : Option Addr) (x y p q : Nat) (w : World) :
    Calls Tryz.prog 109 #[.agg #[.int .i64 kk, .int .i64 nn, .slice C x p, .slice D y q], .int .i64 lo, .int .i64 hi] w fun e w' => e = .returned (.bool ((decide (lo ≤ nn) && decide (nn ≤ hi)) && (((x : Int) == 0) && ((y : Int) == 0)))) ∧ Below w.heap.size w w' := by
  have H0 := Lib.hid (below_alloc w (.cells #[.int .i64 kk, .int .i64 nn, .slice C x p, .slice D y q] 38))
  have HW := Lib.hid (fun w => within_any nn lo hi w)
  generalize (decide (lo ≤ nn) && decide (nn ≤ hi)) = b0 at *
  cases b0 <;> cases e1 : ((x : Int) == 0) <;> cases e2 : ((y : Int) == 0)
  all_goals
    go_enter Tryz.func109, Tryz.ntmps109
    go_wp2_with fail
    refine (HW.out _).mono ?_
    rintro e w2 ⟨rfl, rfl⟩
    go_wp2
    go_ret
    exact ⟨rfl, H0.out⟩
theorem any_more {f : Va → Bool} {ls : List Va} {k : Nat} (h : k < ls.length) (hk : (ls.take k).any f = false) (hx : f ls[k] = false) : (ls.take (k + 1)).any f = false := by
  rw [List.take_succ_eq_append_getElem h, List.any_append, hk]
  simp [hx]
theorem any_hit {f : Va → Bool} {ls : List Va} {k : Nat} (h : k < ls.length) (hx : f ls[k] = true) : ls.any f = true :=
  List.any_eq_true.2 ⟨_, List.getElem_mem h, hx⟩
theorem any_end {f : Va → Bool} {ls : List Va} {k : Nat} (h : ¬ k < ls.length) (hk : (ls.take k).any f = false) : ls.any f = false := by
  rwa [List.take_of_length_le (by omega)] at hk
/-- What IndexFunc gives: a place, or -1, as one of the values is so or none. -/
def IdxPost (b : Bool) (w : World) (e : Ending) (w' : World) : Prop := ∃ i : Int, e = .returned (.int .i64 i) ∧ decide (0 ≤ i) = b ∧ Below w.heap.size w w'
set_option maxRecDepth 100000 in
set_option maxHeartbeats 8000000 in
theorem indexFunc_va (f : Va → Bool) (g : FuncId) (cap : Value) (b' o' : Nat) (D : Option Addr) (q : Nat) (ls : List Va) (w : World)
    (hx : ls.length ≤ 9223372036854775807) (HD : Hid (ls.length = 0 ∨ D = some ⟨b', o', none⟩)) (HV : Hid (VaAt w ls b' o' ∨ ls.length = 0))
    (HE : ∀ args w, (callFunc g args).run Tryz.prog w = .ok (.enter g args) w)
    (HS : Hid (∀ (k : Nat) (h : k < ls.length) (u : World) (cs : List Value), Below w.heap.size w u → VaC u ls[k] cs → Calls Tryz.prog g #[.agg cs.toArray, cap] u fun e w' => e = .returned (.bool (f ls[k])) ∧ Below u.heap.size u w')) :
    Calls Tryz.prog 129 #[.slice D ls.length q, .func (.func g) #[] #[cap]] w (IdxPost (ls.any f) w) := by
  go_enter Tryz.func129, Tryz.ntmps129
  go_wp2_with fail
  go_loopw [8] (fun i wr => ∃ k : Nat, k ≤ ls.length ∧ i = .int .i64 k ∧ Hid ((ls.take k).any f = false) ∧ Hid (Below w.heap.size w wr)) (fun i _ => ls.length - (intOf i).toNat)
  case atStart => exact ⟨0, Nat.zero_le _, rfl, rfl, Below.refl _ _⟩
  case round =>
    obtain ⟨k, hk, rfl, hr, hbr⟩ := hrel
    by_cases hlt : k < ls.length
    · have hD : D = some ⟨b', o', none⟩ := HD.out.resolve_left (by omega)
      subst hD
      obtain ⟨kk, nn, A1, m1, c1, A2, m2, c2, hva, g0, g1, g2, g3⟩ := row_at ls o' (HV.out.resolve_right (by omega)) k hlt
      replace g0 := cell_stays hbr.out g0
      replace g1 := cell_stays hbr.out g1
      replace g2 := cell_stays hbr.out g2
      replace g3 := cell_stays hbr.out g3
      have d1 : decide ((k : Int) < (ls.length : Int)) = true := by rw [decide_eq_true_eq]; omega
      have d2 : decide (k < ls.length) = true := by rw [decide_eq_true_eq]; omega
      have hki : (k : Int) < (ls.length : Int) := by omega
      have hk0 : (0 : Int) ≤ (k : Int) := by omega
      have HX := Lib.hid (HS.out k hlt _ _ hbr.out (VaC.later hbr.out _ _ hva))
      cases hf : f ls[k] with
      | true =>
        have HR := Lib.hid (any_hit hlt hf)
        rw [hf] at HX
        clear hf hr hva
        go_wp2_with fail
        refine (HX.out).mono ?_
        rintro e w3 ⟨rfl, hb3⟩
        have HB3 := Lib.hid (below_then hbr.out hb3)
        clear hb3
        go_wp2
        go_ret
        exact ⟨k, rfl, by rw [HR.out, decide_eq_true_eq]; omega, HB3.out⟩
      | false =>
        have HR := Lib.hid (any_more hlt hr.out hf)
        rw [hf] at HX
        clear hf hr hva
        go_wp2_with fail
        refine (HX.out).mono ?_
        rintro e w3 ⟨rfl, hb3⟩
        have HB3 := Lib.hid (below_then hbr.out hb3)
        clear hb3
        go_wp2
        go_roundw
        case rel => exact ⟨k + 1, by omega, by go_num, HR, HB3.out⟩
        case measure => simp [intOf]; omega
    · have d1 : decide ((k : Int) < (ls.length : Int)) = false := by rw [decide_eq_false_iff_not]; omega
      have d2 : decide (k < ls.length) = false := by rw [decide_eq_false_iff_not]; omega
      have HR := Lib.hid (any_end hlt hr.out)
      clear hr
      go_wp2
      go_ret
      exact ⟨-1, rfl, by rw [HR.out]; rfl, hbr.out⟩
theorem containsFunc_va (f : Va → Bool) (g : FuncId) (cap : Value) (b' o' : Nat) (D : Option Addr) (q : Nat) (ls : List Va) (w : World)
    (hx : ls.length ≤ 9223372036854775807) (HD : Hid (ls.length = 0 ∨ D = some ⟨b', o', none⟩)) (HV : Hid (VaAt w ls b' o' ∨ ls.length = 0))
    (HE : ∀ args w, (callFunc g args).run Tryz.prog w = .ok (.enter g args) w)
    (HS : Hid (∀ (k : Nat) (h : k < ls.length) (u : World) (cs : List Value), Below w.heap.size w u → VaC u ls[k] cs → Calls Tryz.prog g #[.agg cs.toArray, cap] u fun e w' => e = .returned (.bool (f ls[k])) ∧ Below u.heap.size u w')) :
    Calls Tryz.prog 95 #[.slice D ls.length q, .func (.func g) #[] #[cap]] w fun e w' => e = .returned (.bool (ls.any f)) ∧ Below w.heap.size w w' := by
  have HX := Lib.hid (indexFunc_va f g cap b' o' D q ls w hx HD HV HE HS)
  clear HS HD HV HE
  go_enter Tryz.func95, Tryz.ntmps95
  go_wp2_with fail
  refine (HX.out).mono ?_
  rintro e w1 ⟨i, rfl, hi, hb⟩
  have HB := Lib.hid hb
  have HI := Lib.hid hi
  clear hb hi
  go_wp2
  go_ret
  exact ⟨by rw [← HI.out]; rfl, HB.out⟩
end Go.Proofs.YtdiagnhdigakpaaGreatDoor
/- The contracts of the program's fits and Has. -/
namespace Go.Proofs.YtdiagnhdigakpaaGreatDoor
open Go.RowKit

set_option maxHeartbeats 4000000 in
theorem fits_kind (k l kk nn : Int) (nm : ByteArray) (v3 v4 v5 v6 : Value) (w : World) (h : (kk != k) = true) :
    Calls Tryz.prog 74 #[.agg #[.int .i64 k, .int .i64 l, .string nm, v3, v4], .agg #[.int .i64 kk, .int .i64 nn, v5, v6]] w fun e w' => e = .returned (.bool false) ∧ Below w.heap.size w w' := by
  have H0 := Lib.hid (below_then (below_alloc w (.cells #[.int .i64 k, .int .i64 l, .string nm, v3, v4] 26)) (below_alloc (w.alloc (.cells #[.int .i64 k, .int .i64 l, .string nm, v3, v4] 26)) (.cells #[.int .i64 kk, .int .i64 nn, v5, v6] 38)))
  go_enter Tryz.func74, Tryz.ntmps74
  go_wp2
  go_ret
  exact ⟨rfl, H0.out⟩
set_option maxRecDepth 100000 in
set_option maxHeartbeats 8000000 in
theorem fits_row (k l n nn : Int) (hk : (k = 1 ∧ n = 1) ∨ (k = 4 ∧ n = l)) (nm : ByteArray) (v3 v4 v5 v6 : Value) (z : Bool) (w : World)
    (HR : Hid (∀ u, Below w.heap.size w u → Calls Tryz.prog 108 #[.agg #[.int .i64 k, .int .i64 nn, v5, v6], .int .i64 n] u fun e w' => e = .returned (.bool z) ∧ Below u.heap.size u w')) :
    Calls Tryz.prog 74 #[.agg #[.int .i64 k, .int .i64 l, .string nm, v3, v4], .agg #[.int .i64 k, .int .i64 nn, v5, v6]] w fun e w' => e = .returned (.bool z) ∧ Below w.heap.size w w' := by
  have H0 := Lib.hid (below_then (below_alloc w (.cells #[.int .i64 k, .int .i64 l, .string nm, v3, v4] 26)) (below_alloc (w.alloc (.cells #[.int .i64 k, .int .i64 l, .string nm, v3, v4] 26)) (.cells #[.int .i64 k, .int .i64 nn, v5, v6] 38)))
  rcases hk with ⟨rfl, rfl⟩ | ⟨rfl, rfl⟩
  all_goals
    go_enter Tryz.func74, Tryz.ntmps74
    go_wp2_with fail
    refine (HR.out _ H0.out).mono ?_
    rintro e w1 ⟨rfl, hb1⟩
    have H1 := Lib.hid (below_then H0.out hb1)
    clear hb1
    go_wp2
    go_ret
    exact ⟨rfl, H1.out⟩
set_option maxRecDepth 100000 in
set_option maxHeartbeats 8000000 in
theorem fits_number (k l lo hi nn : Int) (A : Option Addr) (n c : Nat) (hn : n ≤ 40) (hk : (k = 2 ∧ lo = 0 ∧ hi = 1) ∨ (k = 3 ∧ lo = -2147483648 ∧ hi = 2147483647) ∨ (k = 5 ∧ lo = 0 ∧ hi = (n : Int) - 1)) (nm : ByteArray) (v4 v5 v6 : Value) (z : Bool) (w : World)
    (HR : Hid (∀ u, Below w.heap.size w u → Calls Tryz.prog 109 #[.agg #[.int .i64 k, .int .i64 nn, v5, v6], .int .i64 lo, .int .i64 hi] u fun e w' => e = .returned (.bool z) ∧ Below u.heap.size u w')) :
    Calls Tryz.prog 74 #[.agg #[.int .i64 k, .int .i64 l, .string nm, .slice A n c, v4], .agg #[.int .i64 k, .int .i64 nn, v5, v6]] w fun e w' => e = .returned (.bool z) ∧ Below w.heap.size w w' := by
  have H0 := Lib.hid (below_then (below_alloc w (.cells #[.int .i64 k, .int .i64 l, .string nm, .slice A n c, v4] 26)) (below_alloc (w.alloc (.cells #[.int .i64 k, .int .i64 l, .string nm, .slice A n c, v4] 26)) (.cells #[.int .i64 k, .int .i64 nn, v5, v6] 38)))
  rcases hk with ⟨rfl, rfl, rfl⟩ | ⟨rfl, rfl, rfl⟩ | ⟨rfl, rfl, rfl⟩
  all_goals
    go_enter Tryz.func74, Tryz.ntmps74
    go_wp2_with fail
    refine (HR.out _ H0.out).mono ?_
    rintro e w1 ⟨rfl, hb1⟩
    have H1 := Lib.hid (below_then H0.out hb1)
    clear hb1
    go_wp2
    go_ret
    exact ⟨rfl, H1.out⟩
set_option maxRecDepth 100000 in
set_option maxHeartbeats 8000000 in
theorem fitsFn_any (B : Nat) (l : Int) (nm : ByteArray) (v3 : Value) (b off d : Nat) (k1 l1 : Int) (nm1 : ByteArray) (A1 A2 : Option Addr) (n1 c1 n2 c2 : Nat) (kk nn : Int) (C D : Option Addr) (x p y q : Nat) (z : Bool) (w : World)
    (HT : Hid (Blk w B 26 #[.int .i64 6, .int .i64 l, .string nm, v3, .slice (some ⟨b, off, none⟩) 1 d])) (h5 : Hid (Ty5 w b off k1 l1 nm1 (.slice A1 n1 c1) (.slice A2 n2 c2)))
    (HX : Hid (∀ u, Below w.heap.size w u → Calls Tryz.prog 74 #[.agg #[.int .i64 k1, .int .i64 l1, .string nm1, .slice A1 n1 c1, .slice A2 n2 c2], .agg #[.int .i64 kk, .int .i64 nn, .slice C x p, .slice D y q]] u fun e w' => e = .returned (.bool z) ∧ Below u.heap.size u w')) :
    Calls Tryz.prog 110 #[.agg #[.int .i64 kk, .int .i64 nn, .slice C x p, .slice D y q], .pointer (some ⟨B, 0, none⟩)] w fun e w' => e = .returned (.bool (!z)) ∧ Below w.heap.size w w' := by
  have hba := below_alloc w (.cells #[.int .i64 kk, .int .i64 nn, .slice C x p, .slice D y q] 38)
  have H0 := Lib.hid (below_drewN hba 1)
  obtain ⟨p0, p1, p2, p3, p4⟩ := fives (HT.out.later hba)
  obtain ⟨e0, e1, e2, e3, e4⟩ := h5.out.later hba
  have HY := Lib.hid (HX.out _ H0.out)
  clear hba HX HT h5
  cases z
  all_goals
    go_enter Tryz.func110, Tryz.ntmps110
    go_wp2_with fail
    go_region_with (go_at_call 74; refine (HY.out).mono ?_; rintro e w3 ⟨rfl, hb3⟩; have HB3 := Lib.hid (below_then H0.out hb3); clear hb3)
    all_goals
      go_wp2
      go_ret
      exact ⟨rfl, HB3.out⟩
set_option maxRecDepth 100000 in
set_option maxHeartbeats 8000000 in
theorem fits_arr (l nn : Int) (nm : ByteArray) (v3 v4 : Value) (C D : Option Addr) (x p y q : Nat) (r : Bool) (w : World)
    (HC : Hid (nn = 0 → (y : Int) = l → ∀ u, Blk u w.heap.size 26 #[.int .i64 6, .int .i64 l, .string nm, v3, v4] → Below w.heap.size w u → Calls Tryz.prog 95 #[.slice D y q, .func (.func 110) #[] #[.pointer (some ⟨w.heap.size, 0, none⟩)]] u fun e w' => e = .returned (.bool r) ∧ Below u.heap.size u w')) :
    Calls Tryz.prog 74 #[.agg #[.int .i64 6, .int .i64 l, .string nm, v3, v4], .agg #[.int .i64 6, .int .i64 nn, .slice C x p, .slice D y q]] w fun e w' => e = .returned (.bool ((nn == 0) && (((x : Int) == 0) && (((y : Int) == l) && !r)))) ∧ Below w.heap.size w w' := by
  have hba := below_alloc w (.cells #[.int .i64 6, .int .i64 l, .string nm, v3, v4] 26)
  have hbb := below_alloc (w.alloc (.cells #[.int .i64 6, .int .i64 l, .string nm, v3, v4] 26)) (.cells #[.int .i64 6, .int .i64 nn, .slice C x p, .slice D y q] 38)
  have H0 := Lib.hid (below_then hba hbb)
  have HK := Lib.hid ((box1 w 26 #[.int .i64 6, .int .i64 l, .string nm, v3, v4]).later hbb)
  clear hba hbb
  cases e1 : (nn == 0)
  · clear HC HK
    go_enter Tryz.func74, Tryz.ntmps74
    go_wp2
    go_ret
    exact ⟨rfl, H0.out⟩
  cases e2 : ((x : Int) == 0)
  · clear HC HK
    go_enter Tryz.func74, Tryz.ntmps74
    go_wp2
    go_ret
    exact ⟨rfl, H0.out⟩
  cases e3 : ((y : Int) == l)
  · clear HC HK
    go_enter Tryz.func74, Tryz.ntmps74
    go_wp2
    go_ret
    exact ⟨rfl, H0.out⟩
  have HJ := Lib.hid (HC.out (by simpa using e1) (by simpa using e3) _ HK.out H0.out)
  clear HC HK
  cases r
  all_goals
    go_enter Tryz.func74, Tryz.ntmps74
    go_wp2_with fail
    refine (HJ.out).mono ?_
    rintro e w1 ⟨rfl, hb1⟩
    have H1 := Lib.hid (below_then H0.out hb1)
    clear hb1
    go_wp2
    go_ret
    exact ⟨rfl, H1.out⟩
end Go.Proofs.YtdiagnhdigakpaaGreatDoor
/- The contracts of the program's fits and Has: put together. -/
namespace Go.Proofs.YtdiagnhdigakpaaGreatDoor
open Go.RowKit

/-- A value's four cells with its two slices written out. -/
theorem vaC_open {w : World} {v : Va} {cs : List Value} (h : VaC w v cs) : ∃ C x p D y q, cs = [.int .i64 v.kind, .int .i64 v.n, .slice C x p, .slice D y q] ∧ x = v.bits.length ∧ y = v.list.length ∧ BitS w (.slice C x p) v.bits ∧ y ≤ q ∧ y ≤ 9223372036854775807 ∧ (v.list = [] ∨ ∃ b off, D = some ⟨b, off, none⟩ ∧ VaAt w v.list b off) := by
  obtain ⟨k, n, bs, ls⟩ := v
  rw [VaC] at h
  obtain ⟨vb, A, c, rfl, hs, h1, h2, h3⟩ := h
  have hs' := hs
  obtain ⟨C, p, rfl, _⟩ := hs
  exact ⟨C, _, p, A, _, c, rfl, rfl, rfl, hs', h1, h2, h3⟩
theorem row_eq {bs : List Nat} {n : Int} (h1 : 1 ≤ n) (h2 : n ≤ 64) (b : Bool) : (((bs.length : Int) == n) && (Lg.isV bs && b)) = (decide ((bs.length : Int) = n) && (bitOk bs && b)) := by
  rw [int_beq']
  by_cases h : (bs.length : Int) = n
  · have : Lg.isV bs = bitOk bs := by
      rw [Lg.isV_fits (by omega) (by omega)]
      rfl
    rw [this]
  · rw [decide_eq_false h, Bool.false_and, Bool.false_and]
theorem nat_beq0 {α : Type} (l : List α) : ((l.length : Int) == 0) = l.isEmpty := len_zero l
theorem is_yes {w : World} {C : Option Addr} {p : Nat} {bs : List Nat} (hb : BitS w (.slice C bs.length p) bs) {n : Int} (hn : n ≤ 64) (he : (bs.length : Int) = n) (u : World) (hu : Below w.heap.size w u) :
    Calls Tryz.prog 126 #[.slice C bs.length p] u fun e w' => e = .returned (.bool (Lg.isV bs)) ∧ u = w' :=
  Lg.is_any _ bs u (bitS_sl (hb.later hu) (by omega))
theorem pfits_flat {t : Ty} {v : Va} {cs cs' : List Value} {w : World} (ht : Flat isNameL t) (hsm : t.names.length ≤ 40) (h : TyC w t cs) (h' : VaC w v cs') :
    Calls Tryz.prog 74 #[.agg cs.toArray, .agg cs'.toArray] w fun e w' => e = .returned (.bool (hasV t v)) ∧ Below w.heap.size w w' := by
  obtain ⟨A, n, c, B, m, d, rfl, hn, _, _, _⟩ := tyC_open h
  obtain ⟨C, x, p, D, y, q, rfl, hx, hy, hb, _, _, _⟩ := vaC_open h'
  obtain ⟨kk, nn, bs, ls⟩ := v
  obtain ⟨k, l, nm, ns, es⟩ := t
  obtain rfl : x = bs.length := hx
  obtain rfl : y = ls.length := hy
  obtain rfl : n = ns.length := hn
  have hb : BitS w (.slice C bs.length p) bs := hb
  show Calls _ _ #[.agg #[.int .i64 k, .int .i64 l, .string nm, .slice A ns.length c, .slice B m d], .agg #[.int .i64 kk, .int .i64 nn, .slice C bs.length p, .slice D ls.length q]] _ _
  rw [hasV_eq]
  by_cases hk : kk = k
  · subst hk
    have hd : decide (kk = kk) = true := decide_eq_true rfl
    rw [hd, Bool.true_and]
    cases ht with
    | sc _ hk =>
      rcases hk with rfl | rfl | rfl
      · rw [if_pos rfl]
        refine (fits_row 1 0 1 nn (.inl ⟨rfl, rfl⟩) noName _ _ _ _ _ w (fun u hu => isRow_gen 1 nn 1 C D bs.length ls.length p q (Lg.isV bs) u (fun he v hv => is_yes hb (n := 1) (by omega) he v (below_then hu hv)))).mono ?_
        rintro e w' ⟨rfl, hB⟩
        refine ⟨?_, hB⟩
        rw [row_eq (by omega) (by omega), int_beq', nat_beq0]
        congr 4
        exact decide_eq_decide.2 (by omega)
      · rw [if_neg (by omega), if_pos rfl]
        refine (fits_number 2 0 0 1 nn A ([] : List ByteArray).length c (by simp) (.inl ⟨rfl, rfl, rfl⟩) noName _ _ _ _ w (fun u hu => isNumber_gen 2 nn 0 1 C D bs.length ls.length p q u)).mono ?_
        rintro e w' ⟨rfl, hB⟩
        refine ⟨?_, hB⟩
        rw [nat_beq0, nat_beq0, ← Bool.decide_and]
        congr 3
        exact decide_eq_decide.2 (by omega)
      · rw [if_neg (by omega), if_neg (by omega), if_pos rfl]
        refine (fits_number 3 0 (-2147483648) 2147483647 nn A ([] : List ByteArray).length c (by simp) (.inr (.inl ⟨rfl, rfl, rfl⟩)) noName _ _ _ _ w (fun u hu => isNumber_gen 3 nn (-2147483648) 2147483647 C D bs.length ls.length p q u)).mono ?_
        rintro e w' ⟨rfl, hB⟩
        refine ⟨?_, hB⟩
        rw [nat_beq0, nat_beq0, ← Bool.decide_and]
    | vec l h1 h2 =>
      rw [if_neg (by omega), if_neg (by omega), if_neg (by omega), if_pos rfl]
      refine (fits_row 4 l l nn (.inr ⟨rfl, rfl⟩) noName _ _ _ _ _ w (fun u hu => isRow_gen 4 nn l C D bs.length ls.length p q (Lg.isV bs) u (fun he v hv => is_yes hb (n := (l : Int)) (by omega) he v (below_then hu hv)))).mono ?_
      rintro e w' ⟨rfl, hB⟩
      refine ⟨?_, hB⟩
      rw [row_eq (by omega) (by omega), int_beq', nat_beq0]
    | en _ _ hp hnm =>
      rw [if_neg (by omega), if_neg (by omega), if_neg (by omega), if_neg (by omega), if_pos rfl]
      refine (fits_number 5 0 0 ((ns.length : Int) - 1) nn A ns.length c hsm (.inr (.inr ⟨rfl, rfl, rfl⟩)) nm _ _ _ _ w (fun u hu => isNumber_gen 5 nn 0 ((ns.length : Int) - 1) C D bs.length ls.length p q u)).mono ?_
      rintro e w' ⟨rfl, hB⟩
      refine ⟨?_, hB⟩
      rw [nat_beq0, nat_beq0, ← Bool.decide_and]
      congr 3
      exact decide_eq_decide.2 (by omega)
  · have hd : decide (kk = k) = false := decide_eq_false hk
    rw [hd, Bool.false_and]
    exact fits_kind k l kk nn nm _ _ _ _ w (by rw [bne_iff_ne]; exact hk)
theorem any_not {f : Va → Bool} (ls : List Va) : (!(ls.any fun w => !f w)) = ls.all f := by
  induction ls with
  | nil => rfl
  | cons v r ih => rw [List.any_cons, List.all_cons, ← ih]; cases f v <;> simp
theorem pfits_any {t : Ty} {v : Va} {cs cs' : List Value} {w : World} (ht : Good isNameL t) (hsm : smT t) (h : TyC w t cs) (h' : VaC w v cs') :
    Calls Tryz.prog 74 #[.agg cs.toArray, .agg cs'.toArray] w fun e w' => e = .returned (.bool (hasV t v)) ∧ Below w.heap.size w w' := by
  cases ht with
  | flat t ht =>
    refine pfits_flat ht ?_ h h'
    obtain ⟨k, l, nm, ns, es⟩ := t
    exact ((smT_def _ _ _ _ _).1 hsm).2.1
  | arr l e h1 h2 he =>
    obtain ⟨A, n, c, B, m, d, rfl, hn, hm, _, hT⟩ := tyC_open h
    obtain ⟨C, x, p, D, y, q, rfl, hx, hy, hb, _, hy2, hL⟩ := vaC_open h'
    obtain ⟨kk, nn, bs, ls⟩ := v
    obtain rfl : x = bs.length := hx
    obtain rfl : y = ls.length := hy
    obtain rfl : n = 0 := hn
    obtain rfl : m = 1 := hm
    show Calls _ _ #[.agg #[.int .i64 6, .int .i64 l, .string noName, .slice A 0 c, .slice B 1 d], .agg #[.int .i64 kk, .int .i64 nn, .slice C bs.length p, .slice D ls.length q]] _ _
    rw [hasV_eq]
    by_cases hk : kk = 6
    · subst hk
      rcases hT with hT | ⟨b, off, rfl, hT⟩
      · cases hT
      obtain ⟨A1, n1, c1, A2, n2, c2, k1, k5⟩ := one_open hT
      have hse : e.names.length ≤ 40 := by
        have hm := ((smT_def _ _ _ _ _).1 hsm).2.2.2.2 e (by simp)
        cases e
        exact ((smT_def _ _ _ _ _).1 hm).2.1
      rw [if_neg (by omega), if_neg (by omega), if_neg (by omega), if_neg (by omega), if_neg (by omega)]
      have hD : ∃ b' o', (ls.length = 0 ∨ D = some ⟨b', o', none⟩) ∧ (VaAt w ls b' o' ∨ ls.length = 0) := by
        rcases hL with hL | ⟨b', o', hL, hL2⟩
        · exact ⟨0, 0, .inl (by rw [show ls = [] from hL]; rfl), .inr (by rw [show ls = [] from hL]; rfl)⟩
        · exact ⟨b', o', .inr hL, .inl hL2⟩
      obtain ⟨b', o', hD1, hD2⟩ := hD
      refine (fits_arr l nn noName _ _ C D bs.length p ls.length q (ls.any fun w => !hasV e w) w (fun _ _ u hK hu => containsFunc_va (fun w => !hasV e w) 110 _ b' o' D q ls u hy2 hD1 (by
        rcases hD2 with g | g
        · exact .inl (VaAt.later hu _ _ _ g)
        · exact .inr g) (enters_of Tryz.func110 (by kernel_rfl) rfl) (fun k hk v cs' hv hc => by
        obtain ⟨C', x', p', D', y', q', rfl, _⟩ := vaC_open hc
        exact fitsFn_any w.heap.size l noName _ b off d e.kind e.len e.name A1 A2 n1 c1 n2 c2 ls[k].kind ls[k].n C' D' x' p' y' q' (hasV e ls[k]) v (hK.later hv) (k5.later (below_then hu hv)) (fun z hz => pfits_flat he hse (TyC.later (below_then (below_then hu hv) hz) _ _ k1) (VaC.later hz _ _ hc))))).mono ?_
      rintro ee w' ⟨rfl, hB⟩
      refine ⟨?_, hB⟩
      rw [any_not, nat_beq0, int_beq', int_beq']
      rfl
    · have hd : decide (kk = 6) = false := decide_eq_false hk
      rw [hd, Bool.false_and]
      exact fits_kind 6 l kk nn noName _ _ _ _ w (by rw [bne_iff_ne]; exact hk)
/-- The cells of a type's box and a value's. -/
theorem boxtv_cells {w wr : World} {a0 a1 a2 a3 a4 b0 b1 b2 b3 : Value} (hb : Below ((w.alloc (.cells #[a0, a1, a2, a3, a4] 26)).alloc (.cells #[b0, b1, b2, b3] 38)).heap.size ((w.alloc (.cells #[a0, a1, a2, a3, a4] 26)).alloc (.cells #[b0, b1, b2, b3] 38)) wr) :
    Blk wr w.heap.size 26 #[a0, a1, a2, a3, a4] ∧ Blk wr (w.heap.size + 1) 38 #[b0, b1, b2, b3] := by
  have h2 := boxes2 w 26 38 #[a0, a1, a2, a3, a4] #[b0, b1, b2, b3]
  exact ⟨h2.1.later hb, h2.2.1.later hb⟩
set_option maxRecDepth 100000 in
set_option maxHeartbeats 8000000 in
theorem phas_gen (k l kk nn : Int) (nm : ByteArray) (v3 v4 v5 v6 : Value) (a z : Bool) (w : World)
    (HA : Hid (∀ u, Below w.heap.size w u → Calls Tryz.prog 16 #[.agg #[.int .i64 k, .int .i64 l, .string nm, v3, v4]] u fun e w' => e = .returned (.bool a) ∧ Below u.heap.size u w'))
    (HX : Hid (a = true → ∀ u, Below w.heap.size w u → Calls Tryz.prog 74 #[.agg #[.int .i64 k, .int .i64 l, .string nm, v3, v4], .agg #[.int .i64 kk, .int .i64 nn, v5, v6]] u fun e w' => e = .returned (.bool z) ∧ Below u.heap.size u w')) :
    Calls Tryz.prog 30 #[.agg #[.int .i64 k, .int .i64 l, .string nm, v3, v4], .agg #[.int .i64 kk, .int .i64 nn, v5, v6]] w fun e w' => e = .returned (.bool (a && z)) ∧ Below w.heap.size w w' := by
  have H0 := Lib.hid (boxes2 w 26 38 #[.int .i64 k, .int .i64 l, .string nm, v3, v4] #[.int .i64 kk, .int .i64 nn, v5, v6]).2.2.1
  cases a
  · clear HX
    go_enter Tryz.func30, Tryz.ntmps30
    go_wp2_with fail
    refine (HA.out _ H0.out).mono ?_
    rintro e w1 ⟨rfl, hb1⟩
    have H1 := Lib.hid (below_then H0.out hb1)
    clear hb1
    go_wp2
    go_ret
    exact ⟨rfl, H1.out⟩
  · have HY := Lib.hid (HX.out rfl)
    clear HX
    go_enter Tryz.func30, Tryz.ntmps30
    go_wp2_with fail
    refine (HA.out _ H0.out).mono ?_
    rintro e w1 ⟨rfl, hb1⟩
    have H1 := Lib.hid (below_then H0.out hb1)
    obtain ⟨kt, kv⟩ := boxtv_cells hb1
    obtain ⟨p0, p1, p2, p3, p4⟩ := fives kt
    obtain ⟨q0, q1, q2, q3⟩ := four kv
    clear hb1 kt kv
    go_wp2_with fail
    refine (HY.out _ H1.out).mono ?_
    rintro e w2 ⟨rfl, hb2⟩
    have H2 := Lib.hid (below_then H1.out hb2)
    clear hb2 p0 p1 p2 p3 p4 q0 q1 q2 q3
    go_wp2
    go_ret
    exact ⟨rfl, H2.out⟩
/-- Has a value a type? -/
def hasT (t : Ty) (v : Va) : Bool := validT isNameL t && hasV t v
theorem phas_any (t : Ty) (v : Va) (cs cs' : List Value) (w : World) (ht : smT t) (h : TyC w t cs) (h' : VaC w v cs') :
    Calls Tryz.prog 30 #[.agg cs.toArray, .agg cs'.toArray] w fun e w' => e = .returned (.bool (hasT t v)) ∧ Below w.heap.size w w' := by
  have h0 := h
  have h0' := h'
  obtain ⟨A, n, c, B, m, d, rfl, _⟩ := tyC_open h
  obtain ⟨C, x, p, D, y, q, rfl, _⟩ := vaC_open h'
  exact phas_gen _ _ _ _ _ _ _ _ _ _ _ w (fun v hb => pvalid_any t _ v ht (h0.later hb)) (fun hv u hb => pfits_any (valid_good hv) ht (TyC.later hb _ _ h0) (VaC.later hb _ _ h0'))
end Go.Proofs.YtdiagnhdigakpaaGreatDoor
/- The contract of the reference's Has, put together. -/
namespace Go.Proofs.YtdiagnhdigakpaaGreatDoor
open Go.RowKit

set_option maxRecDepth 100000 in
set_option maxHeartbeats 8000000 in
theorem has_arr0 (l n : Int) (nm : ByteArray) (v1 v2 : Value) (C D : Option Addr) (x p y q : Nat) (w : World)
    (HA : Hid (∀ u, Below w.heap.size w u → Calls Tryz.prog 17 #[.agg #[.int .i64 6, .int .i64 l, .string nm, v1, v2]] u fun e w' => e = .returned (.bool true) ∧ Below u.heap.size u w'))
    (hn : (n != 0) = true ∨ ((n != 0) = false ∧ ((x : Int) != 0) = true) ∨ ((n != 0) = false ∧ ((x : Int) != 0) = false ∧ ((y : Int) != l) = true)) :
    Calls Tryz.prog 31 #[.agg #[.int .i64 6, .int .i64 l, .string nm, v1, v2], .agg #[.int .i64 6, .int .i64 n, .slice C x p, .slice D y q]] w fun e w' => e = .returned (.bool false) ∧ Below w.heap.size w w' := by
  have H0 := Lib.hid (boxes2 w 26 38 #[.int .i64 6, .int .i64 l, .string nm, v1, v2] #[.int .i64 6, .int .i64 n, .slice C x p, .slice D y q]).2.2.1
  rcases hn with h1 | ⟨h1, h2⟩ | ⟨h1, h2, h3⟩
  all_goals
    go_enter Tryz.func31, Tryz.ntmps31
    go_wp2_with fail
    refine (HA.out _ H0.out).mono ?_
    rintro e w1 ⟨rfl, hb1⟩
    have H1 := Lib.hid (below_then H0.out hb1)
    obtain ⟨⟨p0, p1, p2, p3, p4⟩, q0, q1, q2, q3⟩ := box2_cells hb1
    clear hb1
    go_wp2
    go_ret
    exact ⟨rfl, H1.out⟩
theorem row_eq' {bs : List Nat} {n : Int} (h1 : 1 ≤ n) (h2 : n ≤ 64) (b : Bool) : (((bs.length : Int) == n) && (isV bs && b)) = (decide ((bs.length : Int) = n) && (bitOk bs && b)) := by
  rw [int_beq']
  by_cases h : (bs.length : Int) = n
  · have : isV bs = bitOk bs := by
      rw [isV_fits (by omega) (by omega)]
      rfl
    rw [this]
  · rw [decide_eq_false h, Bool.false_and, Bool.false_and]
/-- The reference's Has, where the type is valid. -/
theorem rhas_flat {t : Ty} {v : Va} {cs cs' : List Value} {w : World} (ht : Flat isNameL t) (hnm : NmT t) (h : TyC w t cs) (h' : VaC w v cs') :
    Calls Tryz.prog 31 #[.agg cs.toArray, .agg cs'.toArray] w fun e w' => e = .returned (.bool (hasV t v)) ∧ Below w.heap.size w w' := by
  have h0 := h
  have h0' := h'
  have HA := fun (u : World) (hu : Below w.heap.size w u) => valid_any t cs u hnm (h0.later hu)
  rw [flat_valid ht] at HA
  obtain ⟨A, n, c, B, m, d, rfl, hn, _, _, _⟩ := tyC_open h
  obtain ⟨C, x, p, D, y, q, rfl, hx, hy, hb, _, _, _⟩ := vaC_open h'
  obtain ⟨kk, nn, bs, ls⟩ := v
  obtain ⟨k, l, nm, ns, es⟩ := t
  obtain rfl : x = bs.length := hx
  obtain rfl : y = ls.length := hy
  obtain rfl : n = ns.length := hn
  have hb : BitS w (.slice C bs.length p) bs := hb
  have HI := fun (u : World) (hu : Below w.heap.size w u) => refIs_any _ bs u (hb.later hu)
  show Calls _ _ #[.agg #[.int .i64 k, .int .i64 l, .string nm, .slice A ns.length c, .slice B m d], .agg #[.int .i64 kk, .int .i64 nn, .slice C bs.length p, .slice D ls.length q]] _ _
  rw [hasV_eq]
  by_cases hk : kk = k
  · subst hk
    have hd : decide (kk = kk) = true := decide_eq_true rfl
    rw [hd, Bool.true_and]
    cases ht with
    | sc _ hk =>
      rcases hk with rfl | rfl | rfl
      · rw [if_pos rfl]
        refine (has_bit 0 nn noName C D _ _ bs.length ls.length p q (isV bs) w HA (fun u hu => (HI u hu).mono fun _ _ ⟨a, b⟩ => ⟨a, b⟩)).mono ?_
        rintro e w' ⟨rfl, hB⟩
        refine ⟨?_, hB⟩
        rw [row_eq' (by omega) (by omega), int_beq', nat_beq0]
        congr 4
        exact decide_eq_decide.2 (by omega)
      · rw [if_neg (by omega), if_pos rfl]
        refine (has_bool 0 nn noName _ _ C D bs.length ls.length p q w HA).mono ?_
        rintro e w' ⟨rfl, hB⟩
        refine ⟨?_, hB⟩
        rw [nat_beq0, nat_beq0, int_beq', int_beq', Bool.decide_or]
      · rw [if_neg (by omega), if_neg (by omega), if_pos rfl]
        refine (has_int 0 nn noName C D _ _ bs.length ls.length p q w HA).mono ?_
        rintro e w' ⟨rfl, hB⟩
        refine ⟨?_, hB⟩
        rw [nat_beq0, nat_beq0]
        unfold fits32
        rw [← Bool.decide_and]
    | vec l h1 h2 =>
      rw [if_neg (by omega), if_neg (by omega), if_neg (by omega), if_pos rfl]
      refine (has_vec l nn noName C D _ _ bs.length ls.length p q (isV bs) w HA (fun u hu => (HI u hu).mono fun _ _ ⟨a, b⟩ => ⟨a, b⟩)).mono ?_
      rintro e w' ⟨rfl, hB⟩
      refine ⟨?_, hB⟩
      rw [row_eq' (by omega) (by omega), int_beq', nat_beq0]
    | en _ _ hp hnm =>
      rw [if_neg (by omega), if_neg (by omega), if_neg (by omega), if_neg (by omega), if_pos rfl]
      refine (has_enum 0 nn nm A C D _ ns.length c bs.length ls.length p q w HA).mono ?_
      rintro e w' ⟨rfl, hB⟩
      refine ⟨?_, hB⟩
      rw [nat_beq0, nat_beq0, ← Bool.decide_and]
  · have hd : decide (kk = k) = false := decide_eq_false hk
    rw [hd, Bool.false_and]
    exact has_no k l kk nn nm _ _ _ _ true w HA (.inr hk)
theorem rhas_good {t : Ty} {v : Va} {cs cs' : List Value} {w : World} (ht : Good isNameL t) (hnm : NmT t) (h : TyC w t cs) (h' : VaC w v cs') :
    Calls Tryz.prog 31 #[.agg cs.toArray, .agg cs'.toArray] w fun e w' => e = .returned (.bool (hasV t v)) ∧ Below w.heap.size w w' := by
  cases ht with
  | flat t ht => exact rhas_flat ht hnm h h'
  | arr l e h1 h2 he =>
    have h0 := h
    have HA := fun (u : World) (hu : Below w.heap.size w u) => valid_any _ cs u hnm (h0.later hu)
    rw [good_valid (.arr l e h1 h2 he)] at HA
    obtain ⟨A, n, c, B, m, d, rfl, hn, hm, _, hT⟩ := tyC_open h
    obtain ⟨C, x, p, D, y, q, rfl, hx, hy, hb, _, hy2, hL⟩ := vaC_open h'
    obtain ⟨kk, nn, bs, ls⟩ := v
    obtain rfl : x = bs.length := hx
    obtain rfl : y = ls.length := hy
    obtain rfl : n = 0 := hn
    obtain rfl : m = 1 := hm
    show Calls _ _ #[.agg #[.int .i64 6, .int .i64 l, .string noName, .slice A 0 c, .slice B 1 d], .agg #[.int .i64 kk, .int .i64 nn, .slice C bs.length p, .slice D ls.length q]] _ _
    rw [hasV_eq]
    by_cases hk : kk = 6
    · subst hk
      rw [if_neg (by omega), if_neg (by omega), if_neg (by omega), if_neg (by omega), if_neg (by omega)]
      have hsix : decide ((6 : Int) = 6) = true := rfl
      rw [hsix, Bool.true_and]
      by_cases hn0 : nn = 0
      · by_cases hb0 : bs.length = 0
        · by_cases hl0 : (ls.length : Int) = l
          · subst hn0
            have hbs : bs = [] := List.eq_nil_of_length_eq_zero hb0
            subst hbs
            rcases hT with hT | ⟨b, off, rfl, hT⟩
            · cases hT
            obtain ⟨A1, n1, c1, A2, n2, c2, k1, k5⟩ := one_open hT
            have hD : ∃ b' o', (ls.length = 0 ∨ D = some ⟨b', o', none⟩) ∧ (VaAt w ls b' o' ∨ ls.length = 0) := by
              rcases hL with hL | ⟨b', o', hL, hL2⟩
              · exact ⟨0, 0, .inl (by rw [show ls = [] from hL]; rfl), .inr (by rw [show ls = [] from hL]; rfl)⟩
              · exact ⟨b', o', .inr hL, .inl hL2⟩
            obtain ⟨b', o', hD1, hD2⟩ := hD
            have hne : NmT e := by
              rw [nmT_def] at hnm
              exact hnm.2
            refine (has_arr (hasV e) l noName b off b' o' C D d p q (.slice A 0 c) e.kind e.len e.name (.slice A1 n1 c1) (.slice A2 n2 c2) ls w HA (fun k hk u cs hu hc => rhas_flat he hne (k1.later hu) hc) k5 (by rw [hl0]; simp) hy2 hD1 hD2).mono ?_
            rintro ee w' ⟨rfl, hB⟩
            refine ⟨?_, hB⟩
            rw [decide_eq_true hl0]
            rfl
          · refine (has_arr0 l nn noName _ _ C D bs.length p ls.length q w HA (.inr (.inr ⟨by rw [hn0]; rfl, by rw [hb0]; rfl, by rw [bne_iff_ne]; exact hl0⟩))).mono ?_
            rintro ee w' ⟨rfl, hB⟩
            refine ⟨?_, hB⟩
            rw [decide_eq_false hl0, Bool.false_and, Bool.and_false, Bool.and_false]
        · refine (has_arr0 l nn noName _ _ C D bs.length p ls.length q w HA (.inr (.inl ⟨by rw [hn0]; rfl, by rw [bne_iff_ne]; omega⟩))).mono ?_
          rintro ee w' ⟨rfl, hB⟩
          refine ⟨?_, hB⟩
          have : bs.isEmpty = false := by cases bs with
            | nil => exact absurd rfl hb0
            | cons => rfl
          rw [this, Bool.false_and, Bool.and_false]
      · refine (has_arr0 l nn noName _ _ C D bs.length p ls.length q w HA (.inl (by rw [bne_iff_ne]; exact hn0))).mono ?_
        rintro ee w' ⟨rfl, hB⟩
        refine ⟨?_, hB⟩
        rw [decide_eq_false hn0, Bool.false_and]
    · have hd : decide (kk = 6) = false := decide_eq_false hk
      rw [hd, Bool.false_and]
      exact has_no 6 l kk nn noName _ _ _ _ true w HA (.inr hk)
theorem rhas_any (t : Ty) (v : Va) (cs cs' : List Value) (w : World) (hnm : NmT t) (h : TyC w t cs) (h' : VaC w v cs') :
    Calls Tryz.prog 31 #[.agg cs.toArray, .agg cs'.toArray] w fun e w' => e = .returned (.bool (hasT t v)) ∧ Below w.heap.size w w' := by
  unfold hasT
  cases hv : validT isNameL t with
  | true =>
    rw [Bool.true_and]
    exact rhas_good (valid_good hv) hnm h h'
  | false =>
    rw [Bool.false_and]
    have HA := fun (u : World) (hu : Below w.heap.size w u) => valid_any t cs u hnm (h.later hu)
    rw [hv] at HA
    obtain ⟨A, n, c, B, m, d, rfl, _⟩ := tyC_open h
    obtain ⟨C, x, p, D, y, q, rfl, _⟩ := vaC_open h'
    exact has_no _ _ _ _ _ _ _ _ _ false w HA (.inl rfl)
end Go.Proofs.YtdiagnhdigakpaaGreatDoor
