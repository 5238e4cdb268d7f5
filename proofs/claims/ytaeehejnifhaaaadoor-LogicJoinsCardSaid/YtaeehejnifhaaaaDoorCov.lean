/- The contracts of Covers, of the program and of the reference. -/
import Derived.Test.YtaeehejnifhaaaaDoorZip
namespace Go.Proofs.YtaeehejnifhaaaaDoor
open Go.RowKit

/-- The first k bits of b are those of a, with perhaps more known. -/
def covK (a b : List Nat) (k : Nat) : Bool := (List.range k).all fun j => decide (2 ≤ a.getD j 0 ∨ a.getD j 0 = b.getD j 0)
theorem covK_succ {a b : List Nat} {k : Nat} (h : k < a.length) (h' : k < b.length) (hk : covK a b k = true) (hz : 2 ≤ a[k] ∨ a[k] = b[k]) : covK a b (k + 1) = true := by
  unfold covK at *
  rw [List.range_succ, List.all_append, hk]
  simp [h, h']
  simpa using hz
theorem covK_no {a b : List Nat} {k : Nat} (h : k < a.length) (h' : k < b.length) (hz : ¬ (2 ≤ a[k] ∨ a[k] = b[k])) : covK a b a.length = false := by
  unfold covK
  rw [List.all_eq_false]
  refine ⟨k, List.mem_range.2 h, ?_⟩
  simp [h, h']
  omega
theorem covK_at {a b : List Nat} {k : Nat} (hk : covK a b a.length = true) (h : k < a.length) (h' : k < b.length) : 2 ≤ a[k] ∨ a[k] = b[k] := by
  unfold covK at hk
  have := List.all_eq_true.1 hk k (List.mem_range.2 h)
  simpa [h, h'] using this
theorem covK_of {a b : List Nat} (hl : a.length = b.length) (h : ∀ k (h : k < a.length) (h' : k < b.length), 2 ≤ a[k] ∨ a[k] = b[k]) : covK a b a.length = true := by
  unfold covK
  rw [List.all_eq_true]
  intro k hk
  have h1 := List.mem_range.1 hk
  have := h k h1 (by omega)
  simp [h1, show k < b.length by omega]
  simpa using this
/-- What Covers returns. -/
def covV (a b : List Nat) : Bool := two a b && covK a b a.length
def covE (a b : List Nat) : Nat := if two a b then 0 else 2
theorem cov_yes {a b : List Nat} (h : two a b = true) : covV a b = covK a b a.length ∧ covE a b = 0 := by unfold covV covE; rw [h]; exact ⟨rfl, rfl⟩
theorem cov_no {a b : List Nat} (h : two a b = false) : covV a b = false ∧ covE a b = 2 := by unfold covV covE; rw [h]; exact ⟨rfl, rfl⟩

set_option maxHeartbeats 2000000 in
theorem covers_any (u v : Value) (a b : List Nat) (w : World) (hu : Sl w u a) (hv : Sl w v b) :
    Calls Tryd.prog 33 #[u, v] w fun e w' => e = .returned (.tuple #[.bool (covV a b), .int .i64 (covE a b : Nat)]) ∧ Below w.heap.size w w' := by
  have hI := two_any u v a b w hu hv
  obtain ⟨A, c, rfl, hn, _, hc⟩ := hu
  obtain ⟨A', c', rfl, hn', _, hc'⟩ := hv
  by_cases ht : two a b = true
  · rw [ht] at hI
    have HI := Lib.hid hI
    obtain ⟨va, vb, hl⟩ := two_yes ht
    have HA := Lib.hid (isV_bits va)
    have HB := Lib.hid (isV_bits vb)
    have HL := Lib.hid hl
    rw [(cov_yes ht).1, (cov_yes ht).2]
    clear hI ht va vb hl
    go_enter Tryd.func33, Tryd.ntmps33
    go_wp2_with fail
    refine (HI.out).mono ?_
    rintro e w' ⟨rfl, rfl⟩
    have HB0 := Lib.hid (below_alloc w (.cells #[.slice A a.length c, .slice A' b.length c'] 31))
    go_wp2_with fail
    go_loopw [14] (fun i wr => ∃ k : Nat, k ≤ a.length ∧ i = .int .i64 k ∧ Hid (covK a b k = true) ∧ Below w.heap.size w wr) (fun i _ => a.length - (intOf i).toNat)
    case atStart => exact ⟨0, Nat.zero_le _, rfl, rfl, HB0.out⟩
    case round =>
      obtain ⟨k, hk, rfl, hr, hb⟩ := hrel
      have Hb := Lib.hid hb
      clear hb
      by_cases hlt : k < a.length
      · have hlt' : k < b.length := by have := HL.out; omega
        rcases hc with rfl | ⟨ba, off, rfl, hc⟩
        · exact absurd hlt (by simp)
        rcases hc' with rfl | ⟨ba', off', rfl, hc'⟩
        · exact absurd hlt' (by simp)
        have g := (Hb.out.cell (block_lt_of_cell (hc k hlt))).trans (hc k hlt)
        have g' := (Hb.out.cell (block_lt_of_cell (hc' k hlt'))).trans (hc' k hlt')
        clear hc hc'
        have h3 := bitsB_at HA.out.1 hlt
        by_cases h2 : 2 ≤ a[k]
        · have HR := Lib.hid (covK_succ hlt hlt' hr.out (.inl h2))
          generalize a[k] = z at g h3 h2
          generalize b[k] = z' at g'
          have HU := Lib.hid (fun w => same_w (unk_yes z w (by omega) h3))
          clear hr
          go_wp2
          go_quiet ((go_at_call 47; exact Calls.quiet_of_same (HU.out _)))
          go_wp2
          go_roundw
          case rel => exact ⟨k + 1, by omega, by go_num, HR, below_drewN Hb.out _⟩
          case measure => simp [intOf]; omega
        · by_cases he : a[k] = b[k]
          · have HR := Lib.hid (covK_succ hlt hlt' hr.out (.inr he))
            rw [← he] at g'
            clear he
            generalize a[k] = z at g h3 h2 g'
            have HU := Lib.hid (fun w => same_w (unk_no z w (by omega)))
            clear hr
            go_wp2
            go_quiet ((go_at_call 47; exact Calls.quiet_of_same (HU.out _)))
            go_wp2
            go_roundw
            case rel => exact ⟨k + 1, by omega, by go_num, HR, below_drewN Hb.out _⟩
            case measure => simp [intOf]; omega
          · have HR := Lib.hid (covK_no hlt hlt' (by omega))
            have hne := beq_nat_no he
            have hne' : ((a[k] : Int) != (b[k] : Int)) = true := by rw [bne_iff_ne]; omega
            clear he
            generalize a[k] = z at g h3 h2 hne hne'
            generalize b[k] = z' at g' hne hne'
            have HU := Lib.hid (fun w => same_w (unk_no z w (by omega)))
            clear hr
            go_wp2
            go_quiet ((go_at_call 47; exact Calls.quiet_of_same (HU.out _)))
            go_wp2
            go_ret2
            exact ⟨ret_bi HR.out.symm rfl, below_drewN Hb.out _⟩
      · have HR : Hid (covK a b a.length = true) := by
          have h1 := hr.out
          rwa [show k = a.length by omega] at h1
        clear hc hc' hr
        go_wp2
        go_ret2
        exact ⟨ret_bi HR.out.symm rfl, Hb.out⟩
  · have ht' : two a b = false := by simpa using ht
    rw [(cov_no ht').1, (cov_no ht').2]
    rw [ht'] at hI
    have HI := Lib.hid hI
    clear hI ht ht' hc hc'
    go_enter Tryd.func33, Tryd.ntmps33
    go_wp2_with fail
    refine (HI.out).mono ?_
    rintro e w' ⟨rfl, rfl⟩
    go_wp2
    go_ret2
    exact ⟨rfl, below_alloc _ _⟩

set_option maxHeartbeats 2000000 in
theorem refCovers_any (u v : Value) (a b : List Nat) (w : World) (hu : Sl w u a) (hv : Sl w v b) :
    Calls Tryd.prog 34 #[u, v] w fun e w' => e = .returned (.tuple #[.bool (covV a b), .int .i64 (covE a b : Nat)]) ∧ Below w.heap.size w w' := by
  have hI := refIs_any u a w hu
  have hJ := refIs_any v b w hv
  obtain ⟨A, c, rfl, hn, _, hc⟩ := hu
  obtain ⟨A', c', rfl, hn', _, hc'⟩ := hv
  by_cases va : isV a = true
  · rw [va] at hI
    have HI := Lib.hid hI
    by_cases vb : isV b = true
    · rw [vb] at hJ
      have HJ := Lib.hid hJ
      by_cases hl : a.length = b.length
      · have ht : two a b = true := by unfold two; rw [va, vb]; simpa using hl
        have HA := Lib.hid (isV_bits va)
        have HB := Lib.hid (isV_bits vb)
        have HL := Lib.hid hl
        have hne0 : ((a.length : Int) != (b.length : Int)) = false := by rw [hl]; simp
        have hne0' : ((a.length : Int) == (b.length : Int)) = true := by rw [hl]; simp
        rw [(cov_yes ht).1, (cov_yes ht).2]
        clear hI hJ ht va vb hl
        go_enter Tryd.func34, Tryd.ntmps34
        go_wp2_with fail
        refine (HI.out).mono ?_
        rintro e w' ⟨rfl, rfl⟩
        go_wp2_with fail
        refine (HJ.out).mono ?_
        rintro e w' ⟨rfl, rfl⟩
        go_wp2_with fail
        clear hne0 hne0'
        go_loopw [24] (fun i wr => ∃ k : Nat, k ≤ a.length ∧ i = .int .i64 k ∧ Hid (covK a b k = true) ∧ Below w.heap.size w wr) (fun i _ => a.length - (intOf i).toNat)
        case atStart => exact ⟨0, Nat.zero_le _, rfl, rfl, Below.refl _ _⟩
        case round =>
          obtain ⟨k, hk, rfl, hr, hb⟩ := hrel
          have Hb := Lib.hid hb
          clear hb
          by_cases hlt : k < a.length
          · have hlt' : k < b.length := by have := HL.out; omega
            rcases hc with rfl | ⟨ba, off, rfl, hc⟩
            · exact absurd hlt (by simp)
            rcases hc' with rfl | ⟨ba', off', rfl, hc'⟩
            · exact absurd hlt' (by simp)
            have g := (Hb.out.cell (block_lt_of_cell (hc k hlt))).trans (hc k hlt)
            have g' := (Hb.out.cell (block_lt_of_cell (hc' k hlt'))).trans (hc' k hlt')
            clear hc hc'
            by_cases h2 : 2 ≤ a[k]
            · have HR := Lib.hid (covK_succ hlt hlt' hr.out (.inl h2))
              have hd : decide ((a[k] : Int) < 2) = false := by rw [decide_eq_false_iff_not]; omega
              generalize a[k] = z at g h2 hd
              generalize b[k] = z' at g'
              clear hr
              go_wp2
              go_quiet (fail)
              go_wp2
              go_roundw
              case rel => exact ⟨k + 1, by omega, by go_num, HR, below_drewN Hb.out _⟩
              case measure => simp [intOf]; omega
            · have hd : decide ((a[k] : Int) < 2) = true := by rw [decide_eq_true_eq]; omega
              by_cases he : a[k] = b[k]
              · have HR := Lib.hid (covK_succ hlt hlt' hr.out (.inr he))
                rw [← he] at g'
                clear he
                generalize a[k] = z at g h2 g' hd
                clear hr
                go_wp2
                go_quiet (fail)
                go_wp2
                go_roundw
                case rel => exact ⟨k + 1, by omega, by go_num, HR, below_drewN Hb.out _⟩
                case measure => simp [intOf]; omega
              · have HR := Lib.hid (covK_no hlt hlt' (by omega))
                have hne := beq_nat_no (Ne.symm he)
                have hne' : ((b[k] : Int) != (a[k] : Int)) = true := by rw [bne_iff_ne]; omega
                clear he
                generalize a[k] = z at g h2 hne hne' hd
                generalize b[k] = z' at g' hne hne'
                clear hr
                go_wp2
                go_quiet (fail)
                go_wp2
                go_ret2
                exact ⟨ret_bi HR.out.symm rfl, below_drewN Hb.out _⟩
          · have HR : Hid (covK a b a.length = true) := by
              have h1 := hr.out
              rwa [show k = a.length by omega] at h1
            clear hc hc' hr
            go_wp2
            go_ret2
            exact ⟨ret_bi HR.out.symm rfl, Hb.out⟩
      · have hne : ((a.length : Int) != (b.length : Int)) = true := by rw [bne_iff_ne]; omega
        have hne' : ((a.length : Int) == (b.length : Int)) = false := by rw [beq_eq_false_iff_ne]; omega
        have ht' : two a b = false := by unfold two; simp [hl]
        rw [(cov_no ht').1, (cov_no ht').2]
        clear hI hJ va vb hl ht' hc hc'
        go_enter Tryd.func34, Tryd.ntmps34
        go_wp2_with fail
        refine (HI.out).mono ?_
        rintro e w' ⟨rfl, rfl⟩
        go_wp2_with fail
        refine (HJ.out).mono ?_
        rintro e w' ⟨rfl, rfl⟩
        go_wp2
        go_ret2
        exact ⟨rfl, Below.refl _ _⟩
    · have vb' : isV b = false := by simpa using vb
      rw [vb'] at hJ
      have HJ := Lib.hid hJ
      have ht' : two a b = false := by unfold two; simp [vb']
      rw [(cov_no ht').1, (cov_no ht').2]
      clear hI hJ va vb vb' ht' hc hc'
      go_enter Tryd.func34, Tryd.ntmps34
      go_wp2_with fail
      refine (HI.out).mono ?_
      rintro e w' ⟨rfl, rfl⟩
      go_wp2_with fail
      refine (HJ.out).mono ?_
      rintro e w' ⟨rfl, rfl⟩
      go_wp2
      go_ret2
      exact ⟨rfl, Below.refl _ _⟩
  · have va' : isV a = false := by simpa using va
    rw [va'] at hI
    have HI := Lib.hid hI
    have ht' : two a b = false := by unfold two; simp [va']
    rw [(cov_no ht').1, (cov_no ht').2]
    clear hI hJ va va' ht' hc hc'
    go_enter Tryd.func34, Tryd.ntmps34
    go_wp2_with fail
    refine (HI.out).mono ?_
    rintro e w' ⟨rfl, rfl⟩
    go_wp2
    go_ret2
    exact ⟨rfl, Below.refl _ _⟩
end Go.Proofs.YtaeehejnifhaaaaDoor
