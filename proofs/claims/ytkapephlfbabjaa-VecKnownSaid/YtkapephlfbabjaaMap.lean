/- The contracts of the reference's Inverse and Covers; rows that are filled from the front. -/
import Derived.Test.YtkapephlfbabjaaKn
namespace Go.Proofs.Ytkapephlfbabjaa
open Go.RowKit

theorem same_w {P : Program} {f : FuncId} {args : Array Value} {w : World} {v : Value} (h : Calls P f args w fun e w' => e = .returned v ∧ w = w') : Calls P f args w fun e w' => e = .returned v ∧ w' = w :=
  h.mono fun _ _ ⟨a, b⟩ => ⟨a, b.symm⟩
theorem Own.drewN {w : World} {base : Nat} {v : Value} {zs : List Nat} (h : Own w base v zs) (n : Nat) : Own (w.drewN n) base v zs := h.kept (below_drewN (Below.refl _ _) n)
/-- A row of the call's own that is filled from the front. -/
def fillF (n : Nat) (ys : List Nat) : List Nat := ys ++ List.replicate (n - ys.length) 0
theorem fillF_len {n : Nat} {ys : List Nat} (h : ys.length ≤ n) : (fillF n ys).length = n := by unfold fillF; simp; omega
theorem fillF_set {n k : Nat} {ys : List Nat} (hk : ys.length = k) (h : k < n) (z : Nat) : (fillF n ys).set k z = fillF n (ys ++ [z]) := by
  subst hk
  unfold fillF
  rw [List.set_append_right _ _ (Nat.le_refl _), Nat.sub_self]
  obtain ⟨m, hm⟩ : ∃ m, n - ys.length = m + 1 := ⟨n - ys.length - 1, by omega⟩
  rw [hm, List.replicate_succ, List.set_cons_zero]
  simp
  omega
theorem fillF_end {n : Nat} {ys : List Nat} (h : ys.length = n) : fillF n ys = ys := by unfold fillF; rw [h, Nat.sub_self]; simp
/-- What Inverse returns. -/
def invV (zs : List Nat) : List Nat := if isV zs then zs.map notN else []
def invK (zs : List Nat) (k : Nat) : List Nat := (zs.take k).map notN
theorem invK_succ {zs : List Nat} {k : Nat} (h : k < zs.length) : invK zs (k + 1) = invK zs k ++ [notN zs[k]] := by
  unfold invK; rw [List.take_succ_eq_append_getElem h, List.map_append]; rfl
theorem invK_end {zs : List Nat} {k : Nat} (h : ¬ k < zs.length) : invK zs k = zs.map notN := by unfold invK; rw [List.take_of_length_le (by omega)]
theorem invK_len {zs : List Nat} {k : Nat} (h : k ≤ zs.length) : (invK zs k).length = k := by unfold invK; simp; omega
theorem invV_yes {zs : List Nat} (h : isV zs = true) : invV zs = zs.map notN := by unfold invV; rw [h]; rfl
theorem invV_no {zs : List Nat} (h : isV zs = false) : invV zs = [] := by unfold invV; rw [h]; rfl
theorem refNot_good {a : Nat} (h : a ≤ 3) (w : World) :
    Calls Try.prog 90 #[.int .u8 a] w fun e w' => e = .returned (.tuple #[.int .u8 (notN a : Nat), .int .i64 0]) ∧ w = w' := by
  have := refNot_any a w
  unfold notV notE at this
  rwa [if_pos h, if_pos h] at this
set_option maxHeartbeats 1000000 in
theorem refInverse_any (v : Value) (zs : List Nat) (w : World) (h : Sl w v zs) :
    Calls Try.prog 70 #[v] w fun e w' => ∃ u, e = .returned (.tuple #[u, .int .i64 (txtE zs : Nat)]) ∧ Sl w' u (invV zs) ∧ Below w.heap.size w w' := by
  have hI := refIs_any v zs w h
  obtain ⟨A, c, rfl, hn, hz, hq, hc⟩ := h
  clear hz
  by_cases hv : isV zs = true
  · rw [hv] at hI
    have HI := Lib.hid hI
    have HB := Lib.hid (isV_bits hv)
    have h64 := (isV_bits hv).2.2
    rw [txtE_yes hv, invV_yes hv]
    clear hI hv hn
    go_enter Try.func70, Try.ntmps70
    go_wp2_with (go_at_call 53; refine (HI.out).mono ?_; rintro e w' ⟨rfl, rfl⟩)
    go_loopw [4, 14] (fun v i wr => ∃ k : Nat, k ≤ zs.length ∧ i = .int .i64 k ∧ Own wr w.heap.size v (invK zs k) ∧ Below w.heap.size w wr) (fun _ i _ => zs.length - (intOf i).toNat)
    case atStart => exact ⟨0, Nat.zero_le _, rfl, Own.nil w (Nat.le_refl _), Below.refl _ _⟩
    case round =>
      obtain ⟨k, hk, rfl, hown, hb⟩ := hrel
      have HO := Lib.hid hown
      have Hb := Lib.hid hb
      clear hown hb
      by_cases hlt : k < zs.length
      · rcases hc with rfl | ⟨b, off, rfl, hc⟩
        · exact absurd hlt (by simp)
        have g := (Hb.out.cell (block_lt_of_cell (hc k hlt))).trans (hc k hlt)
        clear hc
        have h3 := bitsB_at HB.out.1 hlt
        have HR := Lib.hid (invK_succ hlt)
        have HLen := Lib.hid (invK_len hk)
        have n2 := notN_le zs[k]
        generalize zs[k] = z at g h3 HR n2
        have HI2 := Lib.hid (refNot_good h3)
        go_wp2_with (first | (go_at_call 90; refine (HI2.out _).mono ?_; rintro e w' ⟨rfl, rfl⟩) | (at_builtin; refine wpList_append_sl rfl _ _ rfl w.heap.size _ _ _ [notN z] rfl rfl (HO.out.alloc _) (Sl.one _ _ (by omega)) (by rw [HLen.out, List.length_singleton]; omega) ?_; intro v' w2 hown2 hb2))
        have HO2 := Lib.hid hown2
        have HB2 := Lib.hid hb2
        clear hown2 hb2
        go_wp2
        go_roundw
        case rel => exact ⟨k + 1, by omega, by go_num, by rw [HR.out]; exact HO2.out, (Hb.out.alloc HO.out.2.2.2 _).trans (HB2.out _ (Nat.le_refl _))⟩
        case measure => simp [intOf]; omega
      · have HR := Lib.hid (invK_end hlt)
        clear hc
        go_wp2
        go_ret2
        exact ⟨_, rfl, by rw [← HR.out]; exact HO.out.sl, Hb.out⟩
  · have hv' : isV zs = false := by simpa using hv
    rw [hv'] at hI
    have HI := Lib.hid hI
    rw [txtE_no hv', invV_no hv']
    clear hI hv hv' hn hc
    go_enter Try.func70, Try.ntmps70
    go_wp2_with (go_at_call 53; refine (HI.out).mono ?_; rintro e w' ⟨rfl, rfl⟩)
    go_ret2
    exact ⟨_, rfl, sl_nil _, Below.refl _ _⟩
/-- Two vectors of one length. -/
def two (a b : List Nat) : Bool := isV a && isV b && decide (a.length = b.length)
theorem two_yes {a b : List Nat} (h : two a b = true) : isV a = true ∧ isV b = true ∧ a.length = b.length := by
  unfold two at h; simp at h; exact ⟨h.1.1, h.1.2, h.2⟩
/-- The first k bits of b are those of a, with perhaps more known. -/
def covK (a b : List Nat) (k : Nat) : Bool := (List.range k).all fun j => decide (2 ≤ a.getD j 0 ∨ a.getD j 0 = b.getD j 0)
theorem covK_succ {a b : List Nat} {k : Nat} (h : k < a.length) (h' : k < b.length) (hk : covK a b k = true) (hz : 2 ≤ a[k] ∨ a[k] = b[k]) : covK a b (k + 1) = true := by
  unfold covK at *
  rw [List.range_succ, List.all_append, hk]
  simp [h, h']
  simpa using hz
theorem covK_no {a b : List Nat} {k : Nat} (h : k < a.length) (h' : k < b.length) (hz : ¬ (2 ≤ a[k] ∨ a[k] = b[k])) : covK a b a.length = false := by
  unfold covK
  rw [List.all_eq_false]
  refine ⟨k, List.mem_range.2 h, ?_⟩
  simp [h, h']
  omega
theorem covK_at {a b : List Nat} {k : Nat} (hk : covK a b a.length = true) (h : k < a.length) (h' : k < b.length) : 2 ≤ a[k] ∨ a[k] = b[k] := by
  unfold covK at hk
  have := List.all_eq_true.1 hk k (List.mem_range.2 h)
  simpa [h, h'] using this
theorem covK_of {a b : List Nat} (hl : a.length = b.length) (h : ∀ k (h : k < a.length) (h' : k < b.length), 2 ≤ a[k] ∨ a[k] = b[k]) : covK a b a.length = true := by
  unfold covK
  rw [List.all_eq_true]
  intro k hk
  have h1 := List.mem_range.1 hk
  have := h k h1 (by omega)
  simp [h1, show k < b.length by omega]
  simpa using this
/-- What Covers returns. -/
def covV (a b : List Nat) : Bool := two a b && covK a b a.length
def covE (a b : List Nat) : Nat := if two a b then 0 else 2
theorem cov_yes {a b : List Nat} (h : two a b = true) : covV a b = covK a b a.length ∧ covE a b = 0 := by unfold covV covE; rw [h]; exact ⟨rfl, rfl⟩
theorem cov_no {a b : List Nat} (h : two a b = false) : covV a b = false ∧ covE a b = 2 := by unfold covV covE; rw [h]; exact ⟨rfl, rfl⟩
set_option maxHeartbeats 2000000 in
theorem refCovers_any (u v : Value) (a b : List Nat) (w : World) (hu : Sl w u a) (hv : Sl w v b) :
    Calls Try.prog 84 #[u, v] w fun e w' => e = .returned (.tuple #[.bool (covV a b), .int .i64 (covE a b : Nat)]) ∧ Below w.heap.size w w' := by
  have hI := refIs_any u a w hu
  have hJ := refIs_any v b w hv
  obtain ⟨A, c, rfl, hn, _, hq, hc⟩ := hu
  obtain ⟨A', c', rfl, hn', _, hq', hc'⟩ := hv
  by_cases va : isV a = true
  · rw [va] at hI
    have HI := Lib.hid hI
    by_cases vb : isV b = true
    · rw [vb] at hJ
      have HJ := Lib.hid hJ
      by_cases hl : a.length = b.length
      · have ht : two a b = true := by unfold two; rw [va, vb]; simpa using hl
        have HA := Lib.hid (isV_bits va)
        have HB := Lib.hid (isV_bits vb)
        have HL := Lib.hid hl
        have hne0 : ((a.length : Int) != (b.length : Int)) = false := by rw [hl]; simp
        have hne0' : ((a.length : Int) == (b.length : Int)) = true := by rw [hl]; simp
        rw [(cov_yes ht).1, (cov_yes ht).2]
        clear hI hJ ht va vb hl
        go_enter Try.func84, Try.ntmps84
        go_wp2_with fail
        refine (HI.out).mono ?_
        rintro e w' ⟨rfl, rfl⟩
        go_wp2_with fail
        refine (HJ.out).mono ?_
        rintro e w' ⟨rfl, rfl⟩
        go_wp2_with fail
        clear hne0 hne0'
        go_loopw [24] (fun i wr => ∃ k : Nat, k ≤ a.length ∧ i = .int .i64 k ∧ Hid (covK a b k = true) ∧ Below w.heap.size w wr) (fun i _ => a.length - (intOf i).toNat)
        case atStart => exact ⟨0, Nat.zero_le _, rfl, rfl, Below.refl _ _⟩
        case round =>
          obtain ⟨k, hk, rfl, hr, hb⟩ := hrel
          have Hb := Lib.hid hb
          clear hb
          by_cases hlt : k < a.length
          · have hlt' : k < b.length := by have := HL.out; omega
            rcases hc with rfl | ⟨ba, off, rfl, hc⟩
            · exact absurd hlt (by simp)
            rcases hc' with rfl | ⟨ba', off', rfl, hc'⟩
            · exact absurd hlt' (by simp)
            have g := (Hb.out.cell (block_lt_of_cell (hc k hlt))).trans (hc k hlt)
            have g' := (Hb.out.cell (block_lt_of_cell (hc' k hlt'))).trans (hc' k hlt')
            clear hc hc'
            by_cases h2 : 2 ≤ a[k]
            · have HR := Lib.hid (covK_succ hlt hlt' hr.out (.inl h2))
              have hd : decide ((a[k] : Int) < 2) = false := by rw [decide_eq_false_iff_not]; omega
              generalize a[k] = z at g h2 hd
              generalize b[k] = z' at g'
              clear hr
              go_wp2
              go_quiet (fail)
              go_wp2
              go_roundw
              case rel => exact ⟨k + 1, by omega, by go_num, HR, below_drewN Hb.out _⟩
              case measure => simp [intOf]; omega
            · have hd : decide ((a[k] : Int) < 2) = true := by rw [decide_eq_true_eq]; omega
              by_cases he : a[k] = b[k]
              · have HR := Lib.hid (covK_succ hlt hlt' hr.out (.inr he))
                rw [← he] at g'
                clear he
                generalize a[k] = z at g h2 g' hd
                clear hr
                go_wp2
                go_quiet (fail)
                go_wp2
                go_roundw
                case rel => exact ⟨k + 1, by omega, by go_num, HR, below_drewN Hb.out _⟩
                case measure => simp [intOf]; omega
              · have HR := Lib.hid (covK_no hlt hlt' (by omega))
                have hne := beq_nat_no (Ne.symm he)
                have hne' : ((b[k] : Int) != (a[k] : Int)) = true := by rw [bne_iff_ne]; omega
                clear he
                generalize a[k] = z at g h2 hne hne' hd
                generalize b[k] = z' at g' hne hne'
                clear hr
                go_wp2
                go_quiet (fail)
                go_wp2
                go_ret2
                exact ⟨ret_bi HR.out.symm rfl, below_drewN Hb.out _⟩
          · have HR : Hid (covK a b a.length = true) := by
              have h1 := hr.out
              rwa [show k = a.length by omega] at h1
            clear hc hc' hr
            go_wp2
            go_ret2
            exact ⟨ret_bi HR.out.symm rfl, Hb.out⟩
      · have hne : ((a.length : Int) != (b.length : Int)) = true := by rw [bne_iff_ne]; omega
        have hne' : ((a.length : Int) == (b.length : Int)) = false := by rw [beq_eq_false_iff_ne]; omega
        have ht' : two a b = false := by unfold two; simp [hl]
        rw [(cov_no ht').1, (cov_no ht').2]
        clear hI hJ va vb hl ht' hc hc'
        go_enter Try.func84, Try.ntmps84
        go_wp2_with fail
        refine (HI.out).mono ?_
        rintro e w' ⟨rfl, rfl⟩
        go_wp2_with fail
        refine (HJ.out).mono ?_
        rintro e w' ⟨rfl, rfl⟩
        go_wp2
        go_ret2
        exact ⟨rfl, Below.refl _ _⟩
    · have vb' : isV b = false := by simpa using vb
      rw [vb'] at hJ
      have HJ := Lib.hid hJ
      have ht' : two a b = false := by unfold two; simp [vb']
      rw [(cov_no ht').1, (cov_no ht').2]
      clear hI hJ va vb vb' ht' hc hc'
      go_enter Try.func84, Try.ntmps84
      go_wp2_with fail
      refine (HI.out).mono ?_
      rintro e w' ⟨rfl, rfl⟩
      go_wp2_with fail
      refine (HJ.out).mono ?_
      rintro e w' ⟨rfl, rfl⟩
      go_wp2
      go_ret2
      exact ⟨rfl, Below.refl _ _⟩
  · have va' : isV a = false := by simpa using va
    rw [va'] at hI
    have HI := Lib.hid hI
    have ht' : two a b = false := by unfold two; simp [va']
    rw [(cov_no ht').1, (cov_no ht').2]
    clear hI hJ va va' ht' hc hc'
    go_enter Try.func84, Try.ntmps84
    go_wp2_with fail
    refine (HI.out).mono ?_
    rintro e w' ⟨rfl, rfl⟩
    go_wp2
    go_ret2
    exact ⟨rfl, Below.refl _ _⟩
end Go.Proofs.Ytkapephlfbabjaa
