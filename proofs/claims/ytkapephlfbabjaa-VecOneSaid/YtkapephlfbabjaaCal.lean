/- The contracts of Number, Of, ToVec, ToInt, numbers, calculate, Add, Sub and Mul. -/
import Derived.Test.YtkapephlfbabjaaSum
namespace Go.Proofs.Ytkapephlfbabjaa
open Go.RowKit

theorem isLength_any (n : Int) (w : World) :
    Calls Try.prog 61 #[.int .i64 n] w fun e w' => e = .returned (.bool (decide (1 ≤ n) && decide (n ≤ 64))) ∧ w = w' := by
  by_cases h1 : 1 ≤ n
  · by_cases h2 : n ≤ 64
    · have hd : (decide (1 ≤ n) && decide (n ≤ 64)) = true := by simp [h1, h2]
      rw [hd]
      have hd1 : decide (1 ≤ n) = true := by simpa using h1
      have hd2 : decide (n ≤ 64) = true := by simpa using h2
      clear hd
      go_enter Try.func61, Try.ntmps61
      go_wp2
      go_ret
      exact ⟨rfl, rfl⟩
    · have hd : (decide (1 ≤ n) && decide (n ≤ 64)) = false := by simp [h2]
      rw [hd]
      have hd1 : decide (1 ≤ n) = true := by simpa using h1
      have hd2 : decide (n ≤ 64) = false := by simpa using h2
      clear hd
      go_enter Try.func61, Try.ntmps61
      go_wp2
      go_ret
      exact ⟨rfl, rfl⟩
  · have hd : (decide (1 ≤ n) && decide (n ≤ 64)) = false := by simp [h1]
    rw [hd]
    have hd1 : decide (1 ≤ n) = false := by simpa using h1
    clear hd
    go_enter Try.func61, Try.ntmps61
    go_wp2
    go_ret
    exact ⟨rfl, rfl⟩

/-- The number of an int as 64 bits. -/
def toU (k : Int) : Nat := (k % 18446744073709551616).toNat
theorem toU_lt (k : Int) : toU k < 18446744073709551616 := by unfold toU; omega
theorem toU_wrap (k : Int) : IntKind.u64.wrap k = (toU k : Nat) := by rw [IntKind.wrap_u64]; unfold toU; omega
theorem toU_nat (k : Nat) (h : k < 18446744073709551616) : toU (k : Int) = k := by unfold toU; omega
/-- What Of and ToVec return. -/
def okN (n : Int) : Bool := decide (1 ≤ n) && decide (n ≤ 64)
def ofV (k n : Int) : List Nat := if okN n then bitsL (toU k) n.toNat else []
def ofE (r : Nat) (n : Int) : Nat := if okN n then 0 else r
theorem okN_nat {n : Int} (h : okN n = true) : ∃ m : Nat, n = m ∧ 1 ≤ m ∧ m ≤ 64 := by
  unfold okN at h
  simp at h
  exact ⟨n.toNat, by omega, by omega, by omega⟩

theorem length_yes {n : Int} (h : okN n = true) (w : World) : Calls Try.prog 61 #[.int .i64 n] w fun e w' => e = .returned (.bool true) ∧ w = w' := by
  have := isLength_any n w
  unfold okN at h
  rwa [h] at this
theorem length_no {n : Int} (h : okN n = false) (w : World) : Calls Try.prog 61 #[.int .i64 n] w fun e w' => e = .returned (.bool false) ∧ w = w' := by
  have := isLength_any n w
  unfold okN at h
  rwa [h] at this

theorem of_any (k n : Int) (w : World) :
    Calls Try.prog 22 #[.int .i64 k, .int .i64 n] w fun e w' => ∃ u, e = .returned (.tuple #[u, .int .i64 (ofE 2 n : Nat)]) ∧ Sl w' u (ofV k n) ∧ Below w.heap.size w w' := by
  by_cases h : okN n = true
  · have hV : ofV k n = bitsL (toU k) n.toNat := by unfold ofV; rw [h]; rfl
    have hE : ofE 2 n = 0 := by unfold ofE; rw [h]; rfl
    rw [hV, hE]
    have HL := Lib.hid (length_yes h)
    obtain ⟨m, rfl, h1, h64⟩ := okN_nat h
    clear h hV hE
    rw [Int.toNat_natCast]
    have HU := Lib.hid (toU_wrap k)
    have HB := Lib.hid (bitsOf_any (toU k) m w (toU_lt k) h64)
    rw [← HU.out] at HB
    go_enter Try.func22, Try.ntmps22
    go_wp2_with (first | (go_at_call 61; refine (HL.out _).mono ?_; rintro e w' ⟨rfl, rfl⟩) | (go_at_call 62; refine (HB.out).mono ?_; rintro e w2 ⟨u, rfl, ho, hb⟩))
    go_ret2
    exact ⟨_, rfl, ho.sl, hb⟩
  · have h' : okN n = false := by simpa using h
    have hV : ofV k n = [] := by unfold ofV; rw [h']; rfl
    have hE : ofE 2 n = 2 := by unfold ofE; rw [h']; rfl
    rw [hV, hE]
    have HL := Lib.hid (length_no h')
    clear h h' hV hE
    go_enter Try.func22, Try.ntmps22
    go_wp2_with (first | (go_at_call 61; refine (HL.out _).mono ?_; rintro e w' ⟨rfl, rfl⟩))
    go_ret2
    exact ⟨_, rfl, sl_nil _, Below.refl _ _⟩
theorem toVec_any (k n : Int) (w : World) :
    Calls Try.prog 25 #[.int .i64 k, .int .i64 n] w fun e w' => ∃ u, e = .returned (.tuple #[u, .int .i64 (ofE 19 n : Nat)]) ∧ Sl w' u (ofV k n) ∧ Below w.heap.size w w' := by
  by_cases h : okN n = true
  · have hV : ofV k n = bitsL (toU k) n.toNat := by unfold ofV; rw [h]; rfl
    have hE : ofE 19 n = 0 := by unfold ofE; rw [h]; rfl
    rw [hV, hE]
    have HL := Lib.hid (length_yes h)
    obtain ⟨m, rfl, h1, h64⟩ := okN_nat h
    clear h hV hE
    rw [Int.toNat_natCast]
    have HU := Lib.hid (toU_wrap k)
    have HB := Lib.hid (bitsOf_any (toU k) m w (toU_lt k) h64)
    rw [← HU.out] at HB
    go_enter Try.func25, Try.ntmps25
    go_wp2_with (first | (go_at_call 61; refine (HL.out _).mono ?_; rintro e w' ⟨rfl, rfl⟩) | (go_at_call 62; refine (HB.out).mono ?_; rintro e w2 ⟨u, rfl, ho, hb⟩))
    go_ret2
    exact ⟨_, rfl, ho.sl, hb⟩
  · have h' : okN n = false := by simpa using h
    have hV : ofV k n = [] := by unfold ofV; rw [h']; rfl
    have hE : ofE 19 n = 19 := by unfold ofE; rw [h']; rfl
    rw [hV, hE]
    have HL := Lib.hid (length_no h')
    clear h h' hV hE
    go_enter Try.func25, Try.ntmps25
    go_wp2_with (first | (go_at_call 61; refine (HL.out _).mono ?_; rintro e w' ⟨rfl, rfl⟩))
    go_ret2
    exact ⟨_, rfl, sl_nil _, Below.refl _ _⟩

/-- What Number returns. -/
def numV (zs : List Nat) : Nat := if isV zs && knB zs then num zs else 0
def numE (zs : List Nat) : Nat := if isV zs then (if knB zs then 0 else 4) else 2
theorem num_yes {zs : List Nat} (h : isV zs = true) (hk : knB zs = true) : numV zs = num zs ∧ numE zs = 0 := by unfold numV numE; rw [h, hk]; exact ⟨rfl, rfl⟩
theorem num_unk {zs : List Nat} (h : isV zs = true) (hk : knB zs = false) : numV zs = 0 ∧ numE zs = 4 := by unfold numV numE; rw [h, hk]; exact ⟨rfl, rfl⟩
theorem num_no {zs : List Nat} (h : isV zs = false) : numV zs = 0 ∧ numE zs = 2 := by unfold numV numE; rw [h]; exact ⟨rfl, rfl⟩
theorem ret_uu {a b : Nat} {c d : Nat} (h : a = b) (h' : c = d) : Ending.returned (.tuple #[.int .u64 (a : Nat), .int .i64 (c : Nat)]) = .returned (.tuple #[.int .u64 (b : Nat), .int .i64 (d : Nat)]) := by rw [h, h']

theorem number_any (v : Value) (zs : List Nat) (w : World) (h : Sl w v zs) :
    Calls Try.prog 18 #[v] w fun e w' => e = .returned (.tuple #[.int .u64 (numV zs : Nat), .int .i64 (numE zs : Nat)]) ∧ w = w' := by
  have hK := known_any v zs w h
  have HS := Lib.hid h
  obtain ⟨A, c, rfl, hn, _⟩ := h
  by_cases hv : isV zs = true
  · have h64 := (isV_bits hv).2.2
    rw [txtE_yes hv] at hK
    by_cases hk : knB zs = true
    · rw [show knV zs = true by unfold knV; rw [hv, hk]; rfl] at hK
      rw [(num_yes hv hk).1, (num_yes hv hk).2]
      have HK := Lib.hid hK
      clear hK hv hk
      go_enter Try.func18, Try.ntmps18
      go_wp2_with (first | (go_at_call 57; refine (HK.out).mono ?_; rintro e w' ⟨rfl, rfl⟩) | (go_at_call 58; refine (sumOfOnes_any _ _ _ HS.out h64).mono ?_; rintro e w' ⟨rfl, rfl⟩))
      go_ret2
      exact ⟨rfl, rfl⟩
    · have hk' : knB zs = false := by simpa using hk
      rw [show knV zs = false by unfold knV; rw [hv, hk']; rfl] at hK
      rw [(num_unk hv hk').1, (num_unk hv hk').2]
      have HK := Lib.hid hK
      clear hK hv hk hk'
      go_enter Try.func18, Try.ntmps18
      go_wp2_with (first | (go_at_call 57; refine (HK.out).mono ?_; rintro e w' ⟨rfl, rfl⟩))
      go_ret2
      exact ⟨rfl, rfl⟩
  · have hv' : isV zs = false := by simpa using hv
    rw [txtE_no hv', show knV zs = false by unfold knV; rw [hv']; rfl] at hK
    rw [(num_no hv').1, (num_no hv').2]
    have HK := Lib.hid hK
    clear hK hv hv'
    go_enter Try.func18, Try.ntmps18
    go_wp2_with (first | (go_at_call 57; refine (HK.out).mono ?_; rintro e w' ⟨rfl, rfl⟩))
    go_ret2
    exact ⟨rfl, rfl⟩

/-- What ToInt returns. -/
def intV (zs : List Nat) : Nat := if isV zs && decide (zs.length ≤ 31) then num zs else 0
def intE (zs : List Nat) : Nat := if isV zs then (if zs.length ≤ 31 then 0 else 19) else 2
theorem wrap_i64 {a : Nat} (h : a < 9223372036854775808) : IntKind.i64.wrap (a : Int) = (a : Int) := by rw [IntKind.wrap_i64]; omega
theorem toInt_any (v : Value) (zs : List Nat) (w : World) (h : Sl w v zs) :
    Calls Try.prog 20 #[v] w fun e w' => e = .returned (.tuple #[.int .i64 (intV zs : Nat), .int .i64 (intE zs : Nat)]) ∧ w = w' := by
  have hI := is_any v zs w h
  have HS := Lib.hid h
  obtain ⟨A, c, rfl, hn, _⟩ := h
  by_cases hv : isV zs = true
  · have h64 := (isV_bits hv).2.2
    rw [hv] at hI
    have HI := Lib.hid hI
    by_cases hk : zs.length ≤ 31
    · rw [show intV zs = num zs by unfold intV; simp [hv, hk], show intE zs = 0 by unfold intE; simp [hv, hk]]
      have hlt := num_lt zs
      have h31 : 2 ^ zs.length ≤ 2 ^ 31 := Nat.pow_le_pow_right (by omega) hk
      have HW := Lib.hid (wrap_i64 (show num zs < 9223372036854775808 by omega))
      clear hI hv
      go_enter Try.func20, Try.ntmps20
      go_wp2_with (first | (go_at_call 60; refine (HI.out).mono ?_; rintro e w' ⟨rfl, rfl⟩) | (go_at_call 58; refine (sumOfOnes_any _ _ _ HS.out h64).mono ?_; rintro e w' ⟨rfl, rfl⟩))
      go_ret2
      exact ⟨by first | rfl | rw [HW.out]; rfl, rfl⟩
    · rw [show intV zs = 0 by unfold intV; simp [hv, hk], show intE zs = 19 by unfold intE; simp [hv, hk]]
      clear hI hv
      go_enter Try.func20, Try.ntmps20
      go_wp2_with (first | (go_at_call 60; refine (HI.out).mono ?_; rintro e w' ⟨rfl, rfl⟩))
      go_ret2
      exact ⟨rfl, rfl⟩
  · have hv' : isV zs = false := by simpa using hv
    rw [hv'] at hI
    have HI := Lib.hid hI
    rw [show intV zs = 0 by unfold intV; simp [hv'], show intE zs = 2 by unfold intE; simp [hv']]
    clear hI hv hv'
    go_enter Try.func20, Try.ntmps20
    go_wp2_with (first | (go_at_call 60; refine (HI.out).mono ?_; rintro e w' ⟨rfl, rfl⟩))
    go_ret2
    exact ⟨rfl, rfl⟩

theorem two_nb {a b : List Nat} (h : isV b = false) : two a b = false := by unfold two; rw [h, Bool.and_false, Bool.false_and]
theorem two_na {a b : List Nat} (h : isV a = false) : two a b = false := by unfold two; rw [h]; rfl
theorem vone_any (u v : Value) (a b : List Nat) (w : World) (hu : Sl w u a) (hv : Sl w v b) :
    Calls Try.prog 76 #[u, v] w fun e w' => e = .returned (.bool (two a b)) ∧ w = w' := by
  have hI := is_any u a w hu
  have hJ := is_any v b w hv
  obtain ⟨A, c, rfl, hn, _⟩ := hu
  obtain ⟨A', c', rfl, hn', _⟩ := hv
  by_cases va : isV a = true
  · rw [va] at hI
    have HI := Lib.hid hI
    by_cases vb : isV b = true
    · rw [vb] at hJ
      have HJ := Lib.hid hJ
      have ht : two a b = ((a.length : Int) == (b.length : Int)) := by
        unfold two
        rw [va, vb]
        by_cases hl : a.length = b.length
        · rw [beq_nat hl]; simpa using hl
        · rw [beq_nat_no hl]; simpa using hl
      rw [ht]
      clear hI hJ va vb ht
      go_enter Try.func76, Try.ntmps76
      go_wp2_with fail
      refine (HI.out).mono ?_
      rintro e w' ⟨rfl, rfl⟩
      go_wp2_with fail
      refine (HJ.out).mono ?_
      rintro e w' ⟨rfl, rfl⟩
      go_wp2
      all_goals (go_ret; exact ⟨ret_bool (by simp), rfl⟩)
    · have vb' : isV b = false := by simpa using vb
      rw [vb'] at hJ
      have HJ := Lib.hid hJ
      rw [two_nb vb']
      clear hI hJ va vb vb'
      go_enter Try.func76, Try.ntmps76
      go_wp2_with fail
      refine (HI.out).mono ?_
      rintro e w' ⟨rfl, rfl⟩
      go_wp2_with fail
      refine (HJ.out).mono ?_
      rintro e w' ⟨rfl, rfl⟩
      go_wp2
      go_ret
      exact ⟨rfl, rfl⟩
  · have va' : isV a = false := by simpa using va
    rw [va'] at hI
    have HI := Lib.hid hI
    rw [two_na va']
    clear hI hJ va va'
    go_enter Try.func76, Try.ntmps76
    go_wp2_with fail
    refine (HI.out).mono ?_
    rintro e w' ⟨rfl, rfl⟩
    go_wp2
    go_ret
    exact ⟨rfl, rfl⟩

/-- Two vectors of one length, and both known. -/
def both (a b : List Nat) : Bool := knB a && knB b
def nbE (a b : List Nat) : Nat := if two a b then (if both a b then 0 else 4) else 2
def nbX (a b : List Nat) : Nat := if two a b && both a b then num a else 0
def nbY (a b : List Nat) : Nat := if two a b && both a b then num b else 0
theorem nb_yes {a b : List Nat} (h : two a b = true) (h' : both a b = true) : nbX a b = num a ∧ nbY a b = num b ∧ nbE a b = 0 := by unfold nbX nbY nbE; rw [h, h']; exact ⟨rfl, rfl, rfl⟩
theorem nb_unk {a b : List Nat} (h : two a b = true) (h' : both a b = false) : nbX a b = 0 ∧ nbY a b = 0 ∧ nbE a b = 4 := by unfold nbX nbY nbE; rw [h, h']; exact ⟨rfl, rfl, rfl⟩
theorem nb_no {a b : List Nat} (h : two a b = false) : nbX a b = 0 ∧ nbY a b = 0 ∧ nbE a b = 2 := by unfold nbX nbY nbE; rw [h]; exact ⟨rfl, rfl, rfl⟩

theorem numbers_any (u v : Value) (a b : List Nat) (w : World) (hu : Sl w u a) (hv : Sl w v b) :
    Calls Try.prog 88 #[u, v] w fun e w' => e = .returned (.tuple #[.int .u64 (nbX a b : Nat), .int .u64 (nbY a b : Nat), .int .i64 (nbE a b : Nat)]) ∧ w = w' := by
  have hO := vone_any u v a b w hu hv
  have hA := number_any u a w hu
  have hB := number_any v b w hv
  obtain ⟨A, c, rfl, hn, _⟩ := hu
  obtain ⟨A', c', rfl, hn', _⟩ := hv
  by_cases ht : two a b = true
  · obtain ⟨va, vb, hl⟩ := two_yes ht
    rw [ht] at hO
    have HO := Lib.hid hO
    by_cases ka : knB a = true
    · rw [(num_yes va ka).1, (num_yes va ka).2] at hA
      have HA := Lib.hid hA
      by_cases kb : knB b = true
      · have hb : both a b = true := by unfold both; rw [ka, kb]; rfl
        rw [(num_yes vb kb).1, (num_yes vb kb).2] at hB
        have HB := Lib.hid hB
        rw [(nb_yes ht hb).1, (nb_yes ht hb).2.1, (nb_yes ht hb).2.2]
        clear hO hA hB ht va vb ka kb hb hl
        go_enter Try.func88, Try.ntmps88
        go_wp2_with fail
        refine (HO.out).mono ?_
        rintro e w' ⟨rfl, rfl⟩
        go_wp2_with fail
        refine (HA.out).mono ?_
        rintro e w' ⟨rfl, rfl⟩
        go_wp2_with fail
        refine (HB.out).mono ?_
        rintro e w' ⟨rfl, rfl⟩
        go_wp2
        go_ret3
        exact ⟨rfl, rfl⟩
      · have kb' : knB b = false := by simpa using kb
        have hb : both a b = false := by unfold both; rw [ka, kb']; rfl
        rw [(num_unk vb kb').1, (num_unk vb kb').2] at hB
        have HB := Lib.hid hB
        rw [(nb_unk ht hb).1, (nb_unk ht hb).2.1, (nb_unk ht hb).2.2]
        clear hO hA hB ht va vb ka kb kb' hb hl
        go_enter Try.func88, Try.ntmps88
        go_wp2_with fail
        refine (HO.out).mono ?_
        rintro e w' ⟨rfl, rfl⟩
        go_wp2_with fail
        refine (HA.out).mono ?_
        rintro e w' ⟨rfl, rfl⟩
        go_wp2_with fail
        refine (HB.out).mono ?_
        rintro e w' ⟨rfl, rfl⟩
        go_wp2
        go_ret3
        exact ⟨rfl, rfl⟩
    · have ka' : knB a = false := by simpa using ka
      have hb : both a b = false := by unfold both; rw [ka']; rfl
      rw [(num_unk va ka').1, (num_unk va ka').2] at hA
      have HA := Lib.hid hA
      rw [(nb_unk ht hb).1, (nb_unk ht hb).2.1, (nb_unk ht hb).2.2]
      clear hO hA hB ht va vb ka ka' hb hl
      go_enter Try.func88, Try.ntmps88
      go_wp2_with fail
      refine (HO.out).mono ?_
      rintro e w' ⟨rfl, rfl⟩
      go_wp2_with fail
      refine (HA.out).mono ?_
      rintro e w' ⟨rfl, rfl⟩
      go_wp2
      go_ret3
      exact ⟨rfl, rfl⟩
  · have ht' : two a b = false := by simpa using ht
    rw [ht'] at hO
    have HO := Lib.hid hO
    rw [(nb_no ht').1, (nb_no ht').2.1, (nb_no ht').2.2]
    clear hO hA hB ht ht'
    go_enter Try.func88, Try.ntmps88
    go_wp2_with fail
    refine (HO.out).mono ?_
    rintro e w' ⟨rfl, rfl⟩
    go_wp2
    go_ret3
    exact ⟨rfl, rfl⟩

theorem addFn (x y : Nat) (w : World) : Calls Try.prog 66 #[.int .u64 (x : Nat), .int .u64 (y : Nat)] w fun e w' => e = .returned (.int .u64 (toU ((x : Int) + (y : Int)) : Nat)) ∧ w = w' := by
  rw [← toU_wrap]
  go_enter Try.func66, Try.ntmps66
  go_wp2
  go_ret
  exact ⟨rfl, rfl⟩
theorem subFn (x y : Nat) (w : World) : Calls Try.prog 69 #[.int .u64 (x : Nat), .int .u64 (y : Nat)] w fun e w' => e = .returned (.int .u64 (toU ((x : Int) - (y : Int)) : Nat)) ∧ w = w' := by
  rw [← toU_wrap]
  go_enter Try.func69, Try.ntmps69
  go_wp2
  go_ret
  exact ⟨rfl, rfl⟩
theorem mulFn (x y : Nat) (w : World) : Calls Try.prog 71 #[.int .u64 (x : Nat), .int .u64 (y : Nat)] w fun e w' => e = .returned (.int .u64 (toU ((x : Int) * (y : Int)) : Nat)) ∧ w = w' := by
  rw [← toU_wrap]
  go_enter Try.func71, Try.ntmps71
  go_wp2
  go_ret
  exact ⟨rfl, rfl⟩
end Go.Proofs.Ytkapephlfbabjaa
