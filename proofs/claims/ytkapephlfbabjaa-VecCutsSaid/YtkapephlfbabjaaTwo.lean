/- Left as a product, Right of Left; what stands behind VecMoves. -/
import Derived.Test.YtkapephlfbabjaaSure
import Derived.Test.YtkapephlfbabjaaRefB
namespace Go.Proofs.Ytkapephlfbabjaa
open Go.RowKit

theorem num_split (zs : List Nat) (k : Nat) (h : k ≤ zs.length) : num zs = num (zs.take k) + 2 ^ k * num (zs.drop k) := by
  have := num_append (zs.take k) (zs.drop k)
  rw [List.take_append_drop, List.length_take, Nat.min_eq_left h] at this
  exact this
theorem num_low (zs : List Nat) (k : Nat) (h : k ≤ zs.length) : num (zs.take k) = num zs % 2 ^ k := by
  rw [num_split zs k h, Nat.add_mul_mod_self_left]
  have := num_lt (zs.take k)
  rw [List.length_take, Nat.min_eq_left h] at this
  exact (Nat.mod_eq_of_lt this).symm
/-- A list of 0s with a 1 at m. -/
def unit (n m : Nat) : List Nat := (List.replicate n 0).set m 1
theorem unit_len (n m : Nat) : (unit n m).length = n := by simp [unit]
theorem unit_le {n m z : Nat} (h : z ∈ unit n m) : z ≤ 1 := by
  rcases List.mem_or_eq_of_mem_set h with h | h
  · have := List.eq_of_mem_replicate h; omega
  · omega
theorem unit_known (n m : Nat) : knB (unit n m) = true := by
  unfold knB
  rw [List.all_eq_true]
  intro z hz
  simpa using unit_le hz
theorem unit_isV {n m : Nat} (h1 : 1 ≤ n) (h2 : n ≤ 64) : isV (unit n m) = true :=
  isV_of (by rw [unit_len]; exact h1) (by rw [unit_len]; exact h2) (bitsB_of fun z hz => by have := unit_le hz; omega)
theorem num_unit {n m : Nat} (h : m < n) : num (unit n m) = 2 ^ m := by
  have e : unit n m = List.replicate m 0 ++ 1 :: List.replicate (n - m - 1) 0 := by
    apply List.ext_getElem
    · simp [unit]; omega
    · intro i h1 h2
      rw [List.getElem_of_eq (show unit n m = (List.replicate n 0).set m 1 from rfl) h1, List.getElem_set]
      by_cases hi : m = i
      · subst hi
        rw [if_pos rfl, List.getElem_append_right (by simp)]
        simp
      · rw [if_neg hi]
        by_cases hlt : i < m
        · rw [List.getElem_append_left (by simpa using hlt)]
          simp
        · rw [List.getElem_append_right (by simp; omega)]
          simp only [List.length_replicate]
          rw [List.getElem_cons]
          rw [dif_neg (by omega)]
          simp
  rw [e, num_append, num_replicate_zero, num, num_replicate_zero]
  simp
theorem shl_form {zs : List Nat} {m : Nat} (h : m < zs.length) : shl zs m = List.replicate m 0 ++ zs.take (zs.length - m) := by
  have e : shl zs m = (List.replicate zs.length 0).take (min m zs.length) ++ (((zs.drop 0).take (zs.length - m)) ++ (List.replicate zs.length 0).drop (min m zs.length + ((zs.drop 0).take (zs.length - m)).length)) := rfl
  rw [e, Nat.min_eq_left (by omega), List.take_replicate, Nat.min_eq_left (by omega), List.drop_zero, List.drop_of_length_le (by simp; omega), List.append_nil]
theorem shl_known {zs : List Nat} {m : Nat} (hk : knB zs = true) : knB (shl zs m) = true := by
  unfold knB at *
  rw [List.all_eq_true] at *
  intro z hz
  rcases mem_splice hz with h | h
  · have := List.eq_of_mem_replicate h; subst this; rfl
  · exact hk z (List.mem_of_mem_drop (List.mem_of_mem_take h))
theorem shl_isV {zs : List Nat} {m : Nat} (hv : isV zs = true) : isV (shl zs m) = true := by
  obtain ⟨hb, h1, h2⟩ := isV_bits hv
  refine isV_of (by rw [shl_len]; exact h1) (by rw [shl_len]; exact h2) (bitsB_of fun z hz => ?_)
  rcases mem_splice hz with h | h
  · have := List.eq_of_mem_replicate h; omega
  · exact bitsB_mem hb (List.mem_of_mem_drop (List.mem_of_mem_take h))
theorem shl_mul {zs : List Nat} {m : Nat} (hv : isV zs = true) (hk : knB zs = true) (h : m < zs.length) : calV mulO zs (unit zs.length m) = shl zs m := by
  obtain ⟨_, h1, h2⟩ := isV_bits hv
  have t : two zs (unit zs.length m) = true := two_of hv (unit_isV h1 h2) (unit_len _ _)
  have b : both zs (unit zs.length m) = true := by unfold both; rw [hk, unit_known]; rfl
  rw [(cal_yes t b).1]
  apply num_inj (bitsL_known _ _) (shl_known hk) (by rw [bitsL_len, shl_len])
  rw [num_bitsL, mulO_mod h2, num_unit h, shl_form h, num_append, num_replicate_zero, List.length_replicate, Nat.zero_add, num_low zs _ (by omega)]
  have e : 2 ^ zs.length = 2 ^ m * 2 ^ (zs.length - m) := by rw [← Nat.pow_add]; congr 1; omega
  rw [e, Nat.mul_comm (num zs), Nat.mul_mod_mul_left]
theorem back_get {zs : List Nat} {m j : Nat} (h : j < (shr (shl zs m) m).length) : (shr (shl zs m) m)[j] = if j + m < zs.length then zs.getD j 0 else 0 := by
  have hj : j < zs.length := by rw [shr_len, shl_len] at h; exact h
  rw [shr_get, shl_len]
  by_cases hm : j + m < zs.length
  · have hl : j + m < (shl zs m).length := by rw [shl_len]; exact hm
    rw [if_pos hm, if_pos hm, getD_at hl, shl_get hl, if_pos (by omega), Nat.add_sub_cancel]
  · rw [if_neg hm, if_neg hm]
theorem left_at {v : Value} {zs : List Nat} {m : Nat} {w : World} (hv : isV zs = true) (h : Sl w v zs) :
    Calls Try.prog 41 #[v, .int .i64 (m : Nat)] w fun e w' => ∃ u, e = .returned (.tuple #[u, .int .i64 0]) ∧ Sl w' u (shl zs m) ∧ Below w.heap.size w w' := by
  have := left_any v zs m w h
  rwa [show lrE zs (m : Int) = 0 by unfold lrE; rw [hv, if_pos (Int.natCast_nonneg m)]; rfl, show leftV zs (m : Int) = shl zs m by unfold leftV; rw [hv, decide_eq_true (Int.natCast_nonneg m)]; rfl] at this
theorem right_at {v : Value} {zs : List Nat} {m : Nat} {w : World} (hv : isV zs = true) (h : Sl w v zs) :
    Calls Try.prog 43 #[v, .int .i64 (m : Nat)] w fun e w' => ∃ u, e = .returned (.tuple #[u, .int .i64 0]) ∧ Sl w' u (shr zs m) ∧ Below w.heap.size w w' := by
  have := right_any v zs m w h
  rwa [show lrE zs (m : Int) = 0 by unfold lrE; rw [hv, if_pos (Int.natCast_nonneg m)]; rfl, show rightV zs (m : Int) = shr zs m by unfold rightV; rw [hv, decide_eq_true (Int.natCast_nonneg m)]; rfl] at this
end Go.Proofs.Ytkapephlfbabjaa
