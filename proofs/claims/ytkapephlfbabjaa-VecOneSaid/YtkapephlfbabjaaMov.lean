/- The contracts of Left and Right. -/
import Derived.Test.YtkapephlfbabjaaCpy
import Derived.Test.YtkapephlfbabjaaCal
namespace Go.Proofs.Ytkapephlfbabjaa
open Go.RowKit

/-- What Left and Right return. -/
def shl (zs : List Nat) (m : Nat) : List Nat := splice (List.replicate zs.length 0) (min m zs.length) ((zs.drop 0).take (zs.length - m))
def shr (zs : List Nat) (m : Nat) : List Nat := splice (List.replicate zs.length 0) 0 (zs.drop m)
def lrE (zs : List Nat) (k : Int) : Nat := if isV zs then (if 0 ≤ k then 0 else 19) else 2
def leftV (zs : List Nat) (k : Int) : List Nat := if isV zs && decide (0 ≤ k) then shl zs k.toNat else []
def rightV (zs : List Nat) (k : Int) : List Nat := if isV zs && decide (0 ≤ k) then shr zs k.toNat else []
theorem len_splice (L cs : List Nat) (off : Nat) : (splice L off cs).length = min off L.length + (cs.length + (L.length - (off + cs.length))) := by simp [splice]
theorem shl_len (zs : List Nat) (m : Nat) : (shl zs m).length = zs.length := by unfold shl; rw [len_splice]; simp only [List.length_take, List.length_drop, List.length_replicate]; omega
theorem shr_len (zs : List Nat) (m : Nat) : (shr zs m).length = zs.length := by unfold shr; rw [len_splice]; simp only [List.length_drop, List.length_replicate]; omega
theorem shl_256 {zs : List Nat} (h : ∀ z ∈ zs, z < 256) (m : Nat) : ∀ z ∈ shl zs m, z < 256 := splice_256 (zeros_256 _) fun z hz => h z (List.mem_of_mem_take hz)
theorem shr_256 {zs : List Nat} (h : ∀ z ∈ zs, z < 256) (m : Nat) : ∀ z ∈ shr zs m, z < 256 := splice_256 (zeros_256 _) fun z hz => h z (List.mem_of_mem_drop hz)
theorem shl_none {zs : List Nat} {m : Nat} (h : ¬ m < zs.length) : shl zs m = splice (List.replicate zs.length 0) 0 [] := by
  unfold shl
  rw [show zs.length - m = 0 by omega, Nat.min_eq_right (by omega)]
  simp [splice]
theorem shr_none {zs : List Nat} {m : Nat} (h : ¬ m < zs.length) : shr zs m = splice (List.replicate zs.length 0) 0 [] := by
  unfold shr
  rw [List.drop_eq_nil_of_le (by omega)]

set_option maxHeartbeats 1000000 in
theorem left_any (v : Value) (zs : List Nat) (k : Int) (w : World) (h : Sl w v zs) :
    Calls Try.prog 41 #[v, .int .i64 k] w fun e w' => ∃ u, e = .returned (.tuple #[u, .int .i64 (lrE zs k : Nat)]) ∧ Sl w' u (leftV zs k) ∧ Below w.heap.size w w' := by
  have hI := is_any v zs w h
  by_cases hv : isV zs = true
  · have h64 := (isV_bits hv).2.2
    have h1 := (isV_bits hv).2.1
    obtain ⟨b, off, c, rfl, ⟨hn, hq⟩, hz, hc⟩ := h.cells h1
    rw [hv] at hI
    have HI := Lib.hid hI
    by_cases hk0 : 0 ≤ k
    · rw [show leftV zs k = shl zs k.toNat by unfold leftV; rw [hv, decide_eq_true hk0]; rfl, show lrE zs k = 0 by unfold lrE; rw [hv, if_pos hk0]; rfl]
      obtain ⟨m, rfl⟩ : ∃ m : Nat, k = m := ⟨k.toNat, by omega⟩
      rw [Int.toNat_natCast]
      have hd : decide ((m : Int) < 0) = false := by rw [decide_eq_false_iff_not]; omega
      have HZ := Lib.hid (shl_256 hz m)
      have HC := Lib.hid hc
      have HL := Lib.hid (shl_len zs m)
      clear hI hv hz hc hk0 h1 h
      by_cases hm : m < zs.length
      · have HY : Hid (shl zs m = splice (List.replicate zs.length 0) m ((zs.drop 0).take (zs.length - m))) := by unfold shl; rw [Nat.min_eq_left (by omega)]; exact rfl
        go_enter Try.func41, Try.ntmps41
        go_wp2_with fail
        refine (HI.out).mono ?_
        rintro e w' ⟨rfl, rfl⟩
        go_wp2_with (first | (refine wpList_make_bits rfl _ _ rfl zs.length rfl rfl (by omega) ?_; intro w1 hown1 hb1; have HO1 := Lib.hid hown1; have HB1 := Lib.hid hb1; clear hown1 hb1) | (refine wpList_copy_bits rfl _ _ rfl _ _ _ _ _ _ rfl rfl w.heap.size m (List.replicate zs.length 0) ((zs.drop 0).take (zs.length - m)) HO1.out.raw.1 (by show _ = min _ _; simp only [List.length_take, List.length_drop]; omega) (fun _ => ⟨rfl, b, off, rfl, below_cells HB1.out HC.out 0 (by omega)⟩) (by simp only [List.length_take, List.length_drop, List.length_replicate]; omega) w.heap.size w HB1.out (Nat.le_refl _) ?_; intro w2 HR2 hb2; have HB2 := Lib.hid hb2; clear hb2))
        rw [← HY.out] at HR2
        go_wp2
        go_ret2
        exact ⟨_, rfl, HR2.out.sl HL.out hn HZ.out, HB2.out⟩
      · have HY : Hid (shl zs m = splice (List.replicate zs.length 0) 0 []) := shl_none hm
        go_enter Try.func41, Try.ntmps41
        go_wp2_with fail
        refine (HI.out).mono ?_
        rintro e w' ⟨rfl, rfl⟩
        go_wp2_with (first | (refine wpList_make_bits rfl _ _ rfl zs.length rfl rfl (by omega) ?_; intro w1 hown1 hb1; have HO1 := Lib.hid hown1; have HB1 := Lib.hid hb1; clear hown1 hb1) | (refine wpList_copy_bits rfl _ _ rfl _ _ _ _ _ _ rfl rfl w.heap.size 0 (List.replicate zs.length 0) [] HO1.out.raw.1 (by show _ = min _ _; simp only [List.length_nil]; omega) (fun h => absurd h (by simp)) (by simp only [List.length_replicate, List.length_nil]; omega) w.heap.size w HB1.out (Nat.le_refl _) ?_; intro w2 HR2 hb2; have HB2 := Lib.hid hb2; clear hb2))
        all_goals
          rw [← HY.out] at HR2
          go_wp2
          go_ret2
          exact ⟨_, rfl, HR2.out.sl HL.out hn HZ.out, HB2.out⟩
    · have hd : decide (k < 0) = true := by rw [decide_eq_true_eq]; omega
      rw [show leftV zs k = [] by unfold leftV; rw [hv, decide_eq_false hk0]; rfl, show lrE zs k = 19 by unfold lrE; rw [hv, if_neg hk0]; rfl]
      clear hI hv hz hc hk0 h1 h
      go_enter Try.func41, Try.ntmps41
      go_wp2_with fail
      refine (HI.out).mono ?_
      rintro e w' ⟨rfl, rfl⟩
      go_wp2
      go_ret2
      exact ⟨_, rfl, sl_nil _, Below.refl _ _⟩
  · have hv' : isV zs = false := by simpa using hv
    rw [hv'] at hI
    have HI := Lib.hid hI
    rw [show leftV zs k = [] by unfold leftV; rw [hv']; rfl, show lrE zs k = 2 by unfold lrE; rw [hv']; rfl]
    obtain ⟨A, c, rfl, hn, hz, hq, hc⟩ := h
    clear hI hv hv' hz hc
    go_enter Try.func41, Try.ntmps41
    go_wp2_with fail
    refine (HI.out).mono ?_
    rintro e w' ⟨rfl, rfl⟩
    go_wp2
    go_ret2
    exact ⟨_, rfl, sl_nil _, Below.refl _ _⟩

set_option maxHeartbeats 1000000 in
theorem right_any (v : Value) (zs : List Nat) (k : Int) (w : World) (h : Sl w v zs) :
    Calls Try.prog 43 #[v, .int .i64 k] w fun e w' => ∃ u, e = .returned (.tuple #[u, .int .i64 (lrE zs k : Nat)]) ∧ Sl w' u (rightV zs k) ∧ Below w.heap.size w w' := by
  have hI := is_any v zs w h
  by_cases hv : isV zs = true
  · have h64 := (isV_bits hv).2.2
    have h1 := (isV_bits hv).2.1
    obtain ⟨b, off, c, rfl, ⟨hn, hq⟩, hz, hc⟩ := h.cells h1
    rw [hv] at hI
    have HI := Lib.hid hI
    by_cases hk0 : 0 ≤ k
    · rw [show rightV zs k = shr zs k.toNat by unfold rightV; rw [hv, decide_eq_true hk0]; rfl, show lrE zs k = 0 by unfold lrE; rw [hv, if_pos hk0]; rfl]
      obtain ⟨m, rfl⟩ : ∃ m : Nat, k = m := ⟨k.toNat, by omega⟩
      rw [Int.toNat_natCast]
      have hd : decide ((m : Int) < 0) = false := by rw [decide_eq_false_iff_not]; omega
      have HZ := Lib.hid (shr_256 hz m)
      have HC := Lib.hid hc
      have HL := Lib.hid (shr_len zs m)
      clear hI hv hz hc hk0 h1 h
      by_cases hm : m < zs.length
      · have HY : Hid (shr zs m = splice (List.replicate zs.length 0) 0 ((zs.drop m).take (zs.length - m))) := by unfold shr; rw [List.take_of_length_le (by simp)]; exact rfl
        go_enter Try.func43, Try.ntmps43
        go_wp2_with fail
        refine (HI.out).mono ?_
        rintro e w' ⟨rfl, rfl⟩
        go_wp2_with (first | (refine wpList_make_bits rfl _ _ rfl zs.length rfl rfl (by omega) ?_; intro w1 hown1 hb1; have HO1 := Lib.hid hown1; have HB1 := Lib.hid hb1; clear hown1 hb1) | (refine wpList_copy_bits rfl _ _ rfl _ _ _ _ _ _ rfl rfl w.heap.size 0 (List.replicate zs.length 0) ((zs.drop m).take (zs.length - m)) HO1.out.raw.1 (by show _ = min _ _; simp only [List.length_take, List.length_drop]; omega) (fun _ => ⟨rfl, b, off + m, rfl, below_cells HB1.out HC.out m (by omega)⟩) (by simp only [List.length_take, List.length_drop, List.length_replicate]; omega) w.heap.size w HB1.out (Nat.le_refl _) ?_; intro w2 HR2 hb2; have HB2 := Lib.hid hb2; clear hb2))
        rw [← HY.out] at HR2
        go_wp2
        go_ret2
        exact ⟨_, rfl, HR2.out.sl HL.out hn HZ.out, HB2.out⟩
      · have HY : Hid (shr zs m = splice (List.replicate zs.length 0) 0 []) := shr_none hm
        go_enter Try.func43, Try.ntmps43
        go_wp2_with fail
        refine (HI.out).mono ?_
        rintro e w' ⟨rfl, rfl⟩
        go_wp2_with (first | (refine wpList_make_bits rfl _ _ rfl zs.length rfl rfl (by omega) ?_; intro w1 hown1 hb1; have HO1 := Lib.hid hown1; have HB1 := Lib.hid hb1; clear hown1 hb1) | (refine wpList_copy_bits rfl _ _ rfl _ _ _ _ _ _ rfl rfl w.heap.size 0 (List.replicate zs.length 0) [] HO1.out.raw.1 (by show _ = min _ _; simp only [List.length_nil]; omega) (fun h => absurd h (by simp)) (by simp only [List.length_replicate, List.length_nil]; omega) w.heap.size w HB1.out (Nat.le_refl _) ?_; intro w2 HR2 hb2; have HB2 := Lib.hid hb2; clear hb2))
        all_goals
          rw [← HY.out] at HR2
          go_wp2
          go_ret2
          exact ⟨_, rfl, HR2.out.sl HL.out hn HZ.out, HB2.out⟩
    · have hd : decide (k < 0) = true := by rw [decide_eq_true_eq]; omega
      rw [show rightV zs k = [] by unfold rightV; rw [hv, decide_eq_false hk0]; rfl, show lrE zs k = 19 by unfold lrE; rw [hv, if_neg hk0]; rfl]
      clear hI hv hz hc hk0 h1 h
      go_enter Try.func43, Try.ntmps43
      go_wp2_with fail
      refine (HI.out).mono ?_
      rintro e w' ⟨rfl, rfl⟩
      go_wp2
      go_ret2
      exact ⟨_, rfl, sl_nil _, Below.refl _ _⟩
  · have hv' : isV zs = false := by simpa using hv
    rw [hv'] at hI
    have HI := Lib.hid hI
    rw [show rightV zs k = [] by unfold rightV; rw [hv']; rfl, show lrE zs k = 2 by unfold lrE; rw [hv']; rfl]
    obtain ⟨A, c, rfl, hn, hz, hq, hc⟩ := h
    clear hI hv hv' hz hc
    go_enter Try.func43, Try.ntmps43
    go_wp2_with fail
    refine (HI.out).mono ?_
    rintro e w' ⟨rfl, rfl⟩
    go_wp2
    go_ret2
    exact ⟨_, rfl, sl_nil _, Below.refl _ _⟩

end Go.Proofs.Ytkapephlfbabjaa
