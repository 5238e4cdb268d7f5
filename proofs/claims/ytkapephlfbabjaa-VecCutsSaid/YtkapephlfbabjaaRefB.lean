/- The contracts of the reference's Left, Right and Resize. -/
import Derived.Test.YtkapephlfbabjaaRefA
import Derived.Test.YtkapephlfbabjaaCut
namespace Go.Proofs.Ytkapephlfbabjaa
open Go.RowKit

theorem Own.form {w : World} {base : Nat} {v : Value} {zs : List Nat} (h : Own w base v zs) (h1 : 1 ≤ zs.length) : ∃ g cap, v = .slice (some ⟨g, 0, none⟩) zs.length cap := by
  obtain ⟨g, cap, e, _⟩ := h.1.form h1
  exact ⟨g, cap, e⟩

/-- A row in which the first k places hold what they shall, the others 0. -/
def partF (r : List Nat) (k : Nat) : List Nat := fillF r.length (r.take k)
theorem partF_len (r : List Nat) (k : Nat) : (partF r k).length = r.length := fillF_len (by simp; omega)
theorem partF_zero (r : List Nat) : partF r 0 = List.replicate r.length 0 := by simp [partF, fillF]
theorem partF_end {r : List Nat} {k : Nat} (h : ¬ k < r.length) : partF r k = r := by
  unfold partF
  rw [List.take_of_length_le (by omega)]
  exact fillF_end rfl
theorem partF_set {r : List Nat} {k : Nat} (h : k < r.length) : (partF r k).set k r[k] = partF r (k + 1) := by
  unfold partF
  rw [fillF_set (by simp; omega) h, List.take_succ_eq_append_getElem h]
theorem partF_skip {r : List Nat} {k : Nat} (h : k < r.length) (h0 : r[k] = 0) : partF r k = partF r (k + 1) := by
  have hl : (r.take k).length = k := by simp; omega
  unfold partF fillF
  rw [List.take_succ_eq_append_getElem h, h0, List.length_append, hl, List.length_singleton, List.append_assoc]
  obtain ⟨m, hm⟩ : ∃ m, r.length - k = m + 1 := ⟨r.length - k - 1, by omega⟩
  rw [hm, List.replicate_succ, show r.length - (k + 1) = m by omega]
  rfl

theorem shl_get {zs : List Nat} {m k : Nat} (h : k < (shl zs m).length) : (shl zs m)[k] = if m ≤ k then zs.getD (k - m) 0 else 0 := by
  have hl := shl_len zs m
  have e : shl zs m = (List.replicate zs.length 0).take (min m zs.length) ++ (((zs.drop 0).take (zs.length - m)) ++ (List.replicate zs.length 0).drop (min m zs.length + ((zs.drop 0).take (zs.length - m)).length)) := rfl
  rw [List.getElem_of_eq e h]
  by_cases hm : m ≤ k
  · rw [if_pos hm, List.getElem_append_right (by simp; omega), List.getElem_append_left (by simp; omega)]
    simp only [List.getElem_take, List.getElem_drop, List.length_take, List.length_replicate, List.getD_eq_getElem?_getD]
    rw [List.getElem?_eq_getElem (by omega)]
    simp only [Option.getD_some]
    congr 1
    omega
  · rw [if_neg hm, List.getElem_append_left (by simp; omega)]
    simp
theorem shr_get {zs : List Nat} {m k : Nat} (h : k < (shr zs m).length) : (shr zs m)[k] = if k + m < zs.length then zs.getD (k + m) 0 else 0 := by
  have hl := shr_len zs m
  have e : shr zs m = zs.drop m ++ (List.replicate zs.length 0).drop (0 + (zs.drop m).length) := rfl
  rw [List.getElem_of_eq e h]
  by_cases hm : k + m < zs.length
  · rw [if_pos hm, List.getElem_append_left (by simp; omega)]
    simp only [List.getElem_drop, List.getD_eq_getElem?_getD]
    rw [List.getElem?_eq_getElem (by omega)]
    simp only [Option.getD_some]
    congr 1
    omega
  · rw [if_neg hm, List.getElem_append_right (by simp; omega)]
    simp
theorem rsz_get {zs : List Nat} {n k : Nat} (h : k < (rsz zs n).length) : (rsz zs n)[k] = if k < zs.length then zs.getD k 0 else 0 := by
  have hl := rsz_len zs n
  have e : rsz zs n = (zs.drop 0).take (min n zs.length) ++ (List.replicate n 0).drop (0 + ((zs.drop 0).take (min n zs.length)).length) := rfl
  rw [List.getElem_of_eq e h]
  by_cases hm : k < zs.length
  · rw [if_pos hm, List.getElem_append_left (by simp; omega)]
    simp only [List.getElem_take, List.getElem_drop, List.getD_eq_getElem?_getD]
    rw [List.getElem?_eq_getElem hm]
    simp
  · rw [if_neg hm, List.getElem_append_right (by simp; omega)]
    simp
theorem getD_at {zs : List Nat} {k : Nat} (h : k < zs.length) : zs.getD k 0 = zs[k] := by simp [List.getD_eq_getElem?_getD, List.getElem?_eq_getElem h]


set_option maxHeartbeats 2000000 in
theorem refLeft_any (v : Value) (zs : List Nat) (k : Int) (w : World) (hs : Sl w v zs) :
    Calls Try.prog 42 #[v, .int .i64 k] w fun e w' => ∃ u, e = .returned (.tuple #[u, .int .i64 (lrE zs k : Nat)]) ∧ Sl w' u (leftV zs k) ∧ Below w.heap.size w w' := by
  have hI := refIs_any v zs w hs
  by_cases hv : isV zs = true
  · have h64 := (isV_bits hv).2.2
    have h1 := (isV_bits hv).2.1
    obtain ⟨b, off, c, rfl, ⟨hn, hq⟩, hz, hc⟩ := hs.cells h1
    rw [hv] at hI
    have HI := Lib.hid hI
    by_cases hk0 : 0 ≤ k
    · rw [show leftV zs k = shl zs k.toNat by unfold leftV; rw [hv, decide_eq_true hk0]; rfl, show lrE zs k = 0 by unfold lrE; rw [hv, if_pos hk0]; rfl]
      obtain ⟨m, rfl⟩ : ∃ m : Nat, k = m := ⟨k.toNat, by omega⟩
      have hd : decide ((m : Int) < 0) = false := by rw [decide_eq_false_iff_not]; omega
      rw [Int.toNat_natCast]
      have HC := Lib.hid hc
      have HZ := Lib.hid hz
      have HL := Lib.hid (shl_len zs m)
      have H1 : Hid (1 ≤ zs.length) := h1
      obtain ⟨R, hR⟩ : ∃ R, R = shl zs m := ⟨_, rfl⟩
      rw [← hR] at HL ⊢
      have HRg : Hid (∀ j (h : j < R.length), R[j] = if m ≤ j then zs.getD (j - m) 0 else 0) := fun j h => by subst hR; exact shl_get h
      clear hI hv hz hc hk0 h1 hs hR
      go_enter Try.func42, Try.ntmps42
      go_wp2_with fail
      refine (HI.out).mono ?_
      rintro e w' ⟨rfl, rfl⟩
      go_wp2_with fail
      refine (all_any 0 zs.length _ (by omega) (by omega)).mono ?_
      rintro e w1 ⟨u, rfl, ho, hb⟩
      obtain ⟨g, cap, rfl⟩ := ho.form (by have := H1.out; rw [List.length_replicate]; exact this)
      rw [List.length_replicate] at ho ⊢
      rw [← HL.out, ← partF_zero] at ho
      have HO1 := Lib.hid ho
      have HB1 := Lib.hid hb
      clear ho hb
      rw [HL.out] at HO1
      go_wp2_with fail
      go_loopw [20] (fun i wr => ∃ j : Nat, j ≤ zs.length ∧ i = .int .i64 j ∧ Own wr w.heap.size (.slice (some ⟨g, 0, none⟩) zs.length cap) (partF R j) ∧ Below w.heap.size w wr) (fun i _ => zs.length - (intOf i).toNat)
      case atStart => exact ⟨0, Nat.zero_le _, rfl, HO1.out, HB1.out⟩
      case round =>
        obtain ⟨j, hj, rfl, hown, hb⟩ := hrel
        have HO := Lib.hid hown
        have Hb := Lib.hid hb
        clear hown hb HO1
        by_cases hlt : j < zs.length
        · have hjR : j < R.length := by rw [HL.out]; exact hlt
          have hg := HRg.out j hjR
          by_cases hm : m ≤ j
          · have hg0 := (Hb.out.cell (block_lt_of_cell (HC.out (j - m) (by omega)))).trans (HC.out (j - m) (by omega))
            rw [if_pos hm, getD_at (show j - m < zs.length by omega)] at hg
            have hz0 := HZ.out _ (List.getElem_mem (show j - m < zs.length by omega))
            have d1 : decide ((m : Int) ≤ (j : Int)) = true := by rw [decide_eq_true_eq]; omega
            have hS := HO.out.stored j (zs[j - m]'(by omega)) hz0
            rw [← hg, partF_set hjR, hg] at hS
            have HS := Lib.hid hS
            obtain ⟨gc, gf⟩ := HO.out.cell j (by rw [partF_len]; exact hjR)
            generalize (partF R j)[j]'(by rw [partF_len]; exact hjR) = y at gc
            generalize zs[j - m]'(by omega) = z at hg0 HS hz0
            clear hg hS hz0
            go_wp2
            go_roundw
            case rel => exact ⟨j + 1, by omega, by go_num, HS.out.1, Hb.out.trans (HS.out.2 _ (Nat.le_refl _))⟩
            case measure => simp [intOf]; omega
          · rw [if_neg hm] at hg
            have d1 : decide ((m : Int) ≤ (j : Int)) = false := by rw [decide_eq_false_iff_not]; omega
            have HS : Hid (partF R j = partF R (j + 1)) := partF_skip hjR hg
            clear hg
            go_wp2
            go_roundw
            case rel => exact ⟨j + 1, by omega, by go_num, by rw [← HS.out]; exact HO.out, Hb.out⟩
            case measure => simp [intOf]; omega
        · have hO := HO.out
          rw [partF_end (r := R) (k := j) (by rw [HL.out]; omega)] at hO
          have HO2 := Lib.hid hO
          clear hO HO
          go_wp2
          go_ret2
          exact ⟨_, rfl, HO2.out.sl, Hb.out⟩
    · have hd : decide (k < 0) = true := by rw [decide_eq_true_eq]; omega
      rw [show leftV zs k = [] by unfold leftV; rw [hv, decide_eq_false hk0]; rfl, show lrE zs k = 19 by unfold lrE; rw [hv, if_neg hk0]; rfl]
      clear hI hv hz hc hk0 h1 hs
      go_enter Try.func42, Try.ntmps42
      go_wp2_with fail
      refine (HI.out).mono ?_
      rintro e w' ⟨rfl, rfl⟩
      go_wp2
      go_ret2
      exact ⟨_, rfl, sl_nil _, Below.refl _ _⟩
  · have hv' : isV zs = false := by simpa using hv
    rw [hv'] at hI
    have HI := Lib.hid hI
    rw [show leftV zs k = [] by unfold leftV; rw [hv']; rfl, show lrE zs k = 2 by unfold lrE; rw [hv']; rfl]
    obtain ⟨A, c, rfl, hn, hz, hq, hc⟩ := hs
    clear hI hv hv' hz hc
    go_enter Try.func42, Try.ntmps42
    go_wp2_with fail
    refine (HI.out).mono ?_
    rintro e w' ⟨rfl, rfl⟩
    go_wp2
    go_ret2
    exact ⟨_, rfl, sl_nil _, Below.refl _ _⟩

set_option maxHeartbeats 2000000 in
theorem refRight_any (v : Value) (zs : List Nat) (k : Int) (w : World) (hs : Sl w v zs) :
    Calls Try.prog 44 #[v, .int .i64 k] w fun e w' => ∃ u, e = .returned (.tuple #[u, .int .i64 (lrE zs k : Nat)]) ∧ Sl w' u (rightV zs k) ∧ Below w.heap.size w w' := by
  have hI := refIs_any v zs w hs
  by_cases hv : isV zs = true
  · have h64 := (isV_bits hv).2.2
    have h1 := (isV_bits hv).2.1
    obtain ⟨b, off, c, rfl, ⟨hn, hq⟩, hz, hc⟩ := hs.cells h1
    rw [hv] at hI
    have HI := Lib.hid hI
    by_cases hk0 : 0 ≤ k
    · rw [show rightV zs k = shr zs k.toNat by unfold rightV; rw [hv, decide_eq_true hk0]; rfl, show lrE zs k = 0 by unfold lrE; rw [hv, if_pos hk0]; rfl]
      obtain ⟨m, rfl⟩ : ∃ m : Nat, k = m := ⟨k.toNat, by omega⟩
      have hd : decide ((m : Int) < 0) = false := by rw [decide_eq_false_iff_not]; omega
      rw [Int.toNat_natCast]
      have HC := Lib.hid hc
      have HZ := Lib.hid hz
      have HL := Lib.hid (shr_len zs m)
      have H1 : Hid (1 ≤ zs.length) := h1
      obtain ⟨R, hR⟩ : ∃ R, R = shr zs m := ⟨_, rfl⟩
      rw [← hR] at HL ⊢
      have HRg : Hid (∀ j (h : j < R.length), R[j] = if j + m < zs.length then zs.getD (j + m) 0 else 0) := fun j h => by subst hR; exact shr_get h
      clear hI hv hz hc hk0 h1 hs hR
      go_enter Try.func44, Try.ntmps44
      go_wp2_with fail
      refine (HI.out).mono ?_
      rintro e w' ⟨rfl, rfl⟩
      go_wp2_with fail
      refine (all_any 0 zs.length _ (by omega) (by omega)).mono ?_
      rintro e w1 ⟨u, rfl, ho, hb⟩
      obtain ⟨g, cap, rfl⟩ := ho.form (by have := H1.out; rw [List.length_replicate]; exact this)
      rw [List.length_replicate] at ho ⊢
      rw [← HL.out, ← partF_zero] at ho
      have HO1 := Lib.hid ho
      have HB1 := Lib.hid hb
      clear ho hb
      rw [HL.out] at HO1
      go_wp2_with fail
      go_loopw [20] (fun i wr => ∃ j : Nat, j ≤ zs.length ∧ i = .int .i64 j ∧ Own wr w.heap.size (.slice (some ⟨g, 0, none⟩) zs.length cap) (partF R j) ∧ Below w.heap.size w wr) (fun i _ => zs.length - (intOf i).toNat)
      case atStart => exact ⟨0, Nat.zero_le _, rfl, HO1.out, HB1.out⟩
      case round =>
        obtain ⟨j, hj, rfl, hown, hb⟩ := hrel
        have HO := Lib.hid hown
        have Hb := Lib.hid hb
        clear hown hb HO1
        by_cases hlt : j < zs.length
        · have hjR : j < R.length := by rw [HL.out]; exact hlt
          have hg := HRg.out j hjR
          by_cases hm : j + m < zs.length
          · have hg0 := (Hb.out.cell (block_lt_of_cell (HC.out (j + m) (by omega)))).trans (HC.out (j + m) (by omega))
            rw [if_pos hm, getD_at (show j + m < zs.length by omega)] at hg
            have hz0 := HZ.out _ (List.getElem_mem (show j + m < zs.length by omega))
            have d1 : decide ((m : Int) < (zs.length : Int) - (j : Int)) = true := by rw [decide_eq_true_eq]; omega
            have hS := HO.out.stored j (zs[j + m]'(by omega)) hz0
            rw [← hg, partF_set hjR, hg] at hS
            have HS := Lib.hid hS
            obtain ⟨gc, gf⟩ := HO.out.cell j (by rw [partF_len]; exact hjR)
            generalize (partF R j)[j]'(by rw [partF_len]; exact hjR) = y at gc
            generalize zs[j + m]'(by omega) = z at hg0 HS hz0
            clear hg hS hz0
            go_wp2
            go_roundw
            case rel => exact ⟨j + 1, by omega, by go_num, HS.out.1, Hb.out.trans (HS.out.2 _ (Nat.le_refl _))⟩
            case measure => simp [intOf]; omega
          · rw [if_neg hm] at hg
            have d1 : decide ((m : Int) < (zs.length : Int) - (j : Int)) = false := by rw [decide_eq_false_iff_not]; omega
            have HS : Hid (partF R j = partF R (j + 1)) := partF_skip hjR hg
            clear hg
            go_wp2
            go_roundw
            case rel => exact ⟨j + 1, by omega, by go_num, by rw [← HS.out]; exact HO.out, Hb.out⟩
            case measure => simp [intOf]; omega
        · have hO := HO.out
          rw [partF_end (r := R) (k := j) (by rw [HL.out]; omega)] at hO
          have HO2 := Lib.hid hO
          clear hO HO
          go_wp2
          go_ret2
          exact ⟨_, rfl, HO2.out.sl, Hb.out⟩
    · have hd : decide (k < 0) = true := by rw [decide_eq_true_eq]; omega
      rw [show rightV zs k = [] by unfold rightV; rw [hv, decide_eq_false hk0]; rfl, show lrE zs k = 19 by unfold lrE; rw [hv, if_neg hk0]; rfl]
      clear hI hv hz hc hk0 h1 hs
      go_enter Try.func44, Try.ntmps44
      go_wp2_with fail
      refine (HI.out).mono ?_
      rintro e w' ⟨rfl, rfl⟩
      go_wp2
      go_ret2
      exact ⟨_, rfl, sl_nil _, Below.refl _ _⟩
  · have hv' : isV zs = false := by simpa using hv
    rw [hv'] at hI
    have HI := Lib.hid hI
    rw [show rightV zs k = [] by unfold rightV; rw [hv']; rfl, show lrE zs k = 2 by unfold lrE; rw [hv']; rfl]
    obtain ⟨A, c, rfl, hn, hz, hq, hc⟩ := hs
    clear hI hv hv' hz hc
    go_enter Try.func44, Try.ntmps44
    go_wp2_with fail
    refine (HI.out).mono ?_
    rintro e w' ⟨rfl, rfl⟩
    go_wp2
    go_ret2
    exact ⟨_, rfl, sl_nil _, Below.refl _ _⟩

set_option maxHeartbeats 2000000 in
theorem refResize_any (v : Value) (zs : List Nat) (k : Int) (w : World) (hs : Sl w v zs) :
    Calls Try.prog 28 #[v, .int .i64 k] w fun e w' => ∃ u, e = .returned (.tuple #[u, .int .i64 (rszE zs k : Nat)]) ∧ Sl w' u (rszV zs k) ∧ Below w.heap.size w w' := by
  have hI := refIs_any v zs w hs
  by_cases hv : isV zs = true
  · have h64 := (isV_bits hv).2.2
    have h1 := (isV_bits hv).2.1
    obtain ⟨b, off, c, rfl, ⟨hn, hq⟩, hz, hc⟩ := hs.cells h1
    rw [hv] at hI
    have HI := Lib.hid hI
    by_cases hk0 : okN k = true
    · rw [show rszV zs k = rsz zs k.toNat by unfold rszV; rw [hv, hk0]; rfl, show rszE zs k = 0 by unfold rszE; rw [hv, hk0]; rfl]
      obtain ⟨m, rfl, m1, m64⟩ := okN_nat hk0
      have d1 : decide ((m : Int) < 1) = false := by rw [decide_eq_false_iff_not]; omega
      have d2 : decide (64 < (m : Int)) = false := by rw [decide_eq_false_iff_not]; omega
      rw [Int.toNat_natCast]
      have HC := Lib.hid hc
      have HZ := Lib.hid hz
      have HL := Lib.hid (rsz_len zs m)
      have H1 : Hid (1 ≤ m) := m1
      obtain ⟨R, hR⟩ : ∃ R, R = rsz zs m := ⟨_, rfl⟩
      rw [← hR] at HL ⊢
      have HRg : Hid (∀ j (h : j < R.length), R[j] = if j < zs.length then zs.getD j 0 else 0) := fun j h => by subst hR; exact rsz_get h
      clear hI hv hz hc hk0 h1 hs hR
      go_enter Try.func28, Try.ntmps28
      go_wp2_with fail
      refine (HI.out).mono ?_
      rintro e w' ⟨rfl, rfl⟩
      go_wp2_with fail
      refine (all_any 0 m _ (by omega) (by omega)).mono ?_
      rintro e w1 ⟨u, rfl, ho, hb⟩
      obtain ⟨g, cap, rfl⟩ := ho.form (by have := H1.out; rw [List.length_replicate]; exact this)
      rw [List.length_replicate] at ho ⊢
      rw [← HL.out, ← partF_zero] at ho
      have HO1 := Lib.hid ho
      have HB1 := Lib.hid hb
      clear ho hb
      rw [HL.out] at HO1
      go_wp2_with fail
      go_loopw [23] (fun i wr => ∃ j : Nat, j ≤ m ∧ i = .int .i64 j ∧ Own wr w.heap.size (.slice (some ⟨g, 0, none⟩) m cap) (partF R j) ∧ Below w.heap.size w wr) (fun i _ => m - (intOf i).toNat)
      case atStart => exact ⟨0, Nat.zero_le _, rfl, HO1.out, HB1.out⟩
      case round =>
        obtain ⟨j, hj, rfl, hown, hb⟩ := hrel
        have HO := Lib.hid hown
        have Hb := Lib.hid hb
        clear hown hb HO1
        by_cases hlt : j < m
        · have hjR : j < R.length := by rw [HL.out]; exact hlt
          have hg := HRg.out j hjR
          by_cases hm : j < zs.length
          · have hg0 := (Hb.out.cell (block_lt_of_cell (HC.out (j) (by omega)))).trans (HC.out (j) (by omega))
            rw [if_pos hm, getD_at (show j < zs.length by omega)] at hg
            have hz0 := HZ.out _ (List.getElem_mem (show j < zs.length by omega))
            have d1 : decide ((j : Int) < (zs.length : Int)) = true := by rw [decide_eq_true_eq]; omega
            have hS := HO.out.stored j (zs[j]'(by omega)) hz0
            rw [← hg, partF_set hjR, hg] at hS
            have HS := Lib.hid hS
            obtain ⟨gc, gf⟩ := HO.out.cell j (by rw [partF_len]; exact hjR)
            generalize (partF R j)[j]'(by rw [partF_len]; exact hjR) = y at gc
            generalize zs[j]'(by omega) = z at hg0 HS hz0
            clear hg hS hz0
            go_wp2
            go_roundw
            case rel => exact ⟨j + 1, by omega, by go_num, HS.out.1, Hb.out.trans (HS.out.2 _ (Nat.le_refl _))⟩
            case measure => simp [intOf]; omega
          · rw [if_neg hm] at hg
            have d1 : decide ((j : Int) < (zs.length : Int)) = false := by rw [decide_eq_false_iff_not]; omega
            have HS : Hid (partF R j = partF R (j + 1)) := partF_skip hjR hg
            clear hg
            go_wp2
            go_roundw
            case rel => exact ⟨j + 1, by omega, by go_num, by rw [← HS.out]; exact HO.out, Hb.out⟩
            case measure => simp [intOf]; omega
        · have hO := HO.out
          rw [partF_end (r := R) (k := j) (by rw [HL.out]; omega)] at hO
          have HO2 := Lib.hid hO
          clear hO HO
          go_wp2
          go_ret2
          exact ⟨_, rfl, HO2.out.sl, Hb.out⟩
    · have h' : okN k = false := by simpa using hk0
      rw [show rszV zs k = [] by unfold rszV; rw [hv, h']; rfl, show rszE zs k = 19 by unfold rszE; rw [hv, h']; rfl]
      by_cases hk1 : k < 1
      · have d1 : decide (k < 1) = true := by simpa using hk1
        clear hI hv hz hc hk0 h1 hs h' hk1
        go_enter Try.func28, Try.ntmps28
        go_wp2_with fail
        refine (HI.out).mono ?_
        rintro e w' ⟨rfl, rfl⟩
        go_wp2
        go_ret2
        exact ⟨_, rfl, sl_nil _, Below.refl _ _⟩
      · have d1 : decide (k < 1) = false := by simpa using hk1
        have d2 : decide (64 < k) = true := by
          unfold okN at h'
          rw [decide_eq_true (show 1 ≤ k by omega), Bool.true_and, decide_eq_false_iff_not] at h'
          rw [decide_eq_true_eq]; omega
        clear hI hv hz hc hk0 h1 hs h' hk1
        go_enter Try.func28, Try.ntmps28
        go_wp2_with fail
        refine (HI.out).mono ?_
        rintro e w' ⟨rfl, rfl⟩
        go_wp2
        go_ret2
        exact ⟨_, rfl, sl_nil _, Below.refl _ _⟩
  · have hv' : isV zs = false := by simpa using hv
    rw [hv'] at hI
    have HI := Lib.hid hI
    rw [show rszV zs k = [] by unfold rszV; rw [hv']; rfl, show rszE zs k = 2 by unfold rszE; rw [hv']; rfl]
    obtain ⟨A, c, rfl, hn, hz, hq, hc⟩ := hs
    clear hI hv hv' hz hc
    go_enter Try.func28, Try.ntmps28
    go_wp2_with fail
    refine (HI.out).mono ?_
    rintro e w' ⟨rfl, rfl⟩
    go_wp2
    go_ret2
    exact ⟨_, rfl, sl_nil _, Below.refl _ _⟩
end Go.Proofs.Ytkapephlfbabjaa
