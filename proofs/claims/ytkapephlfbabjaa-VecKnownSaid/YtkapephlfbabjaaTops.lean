/- Comparisons of vectors: just one is so; the highest bits turned; what stands behind VecOne. -/
import Derived.Test.YtkapephlfbabjaaSure
import Derived.Test.YtkapephlfbabjaaRefB
import Derived.Test.YtkapephlfbabjaaRefE
namespace Go.Proofs.Ytkapephlfbabjaa
open Go.RowKit

theorem less_at {u v : Value} {a b : List Nat} {r : Bool} {w : World} (h : two a b = true) (h' : both a b = true) (hr : decide (num a < num b) = r) (hu : Sl w u a) (hv : Sl w v b) :
    Calls Try.prog 35 #[u, v] w fun e w' => e = .returned (.tuple #[.bool r, .int .i64 0]) ∧ Below w.heap.size w w' := by
  subst hr
  have := less_any u v a b w hu hv
  rwa [(cmp_yes _ h h').1, (cmp_yes (decide (num a < num b)) h h').2] at this
theorem signed_at {u v : Value} {a b : List Nat} {r : Bool} {w : World} (h : two a b = true) (h' : both a b = true) (hr : decide (sgnI a.length (num a) < sgnI a.length (num b)) = r) (hu : Sl w u a) (hv : Sl w v b) :
    Calls Try.prog 37 #[u, v] w fun e w' => e = .returned (.tuple #[.bool r, .int .i64 0]) ∧ Below w.heap.size w w' := by
  subst hr
  have := signed_any u v a b w hu hv
  rwa [(cmp_yes _ h h').1, (cmp_yes (decide (num a < num b)) h h').2] at this
theorem vsame_at {u v : Value} {a b : List Nat} {r : Bool} {w : World} (h : two a b = true) (hr : eqL a b = r) (hu : Sl w u a) (hv : Sl w v b) :
    Calls Try.prog 39 #[u, v] w fun e w' => e = .returned (.tuple #[.bool r, .int .i64 0]) ∧ Below w.heap.size w w' := by
  subst hr
  have := vsame_any u v a b w hu hv
  rwa [show samV a b = eqL a b by unfold samV; rw [h]; rfl, show calE a b = 0 by unfold calE; rw [h]; rfl] at this
/-- A list with the bit at q turned. -/
def turnL (a : List Nat) (q x : Nat) : List Nat := a.set q x
theorem turnL_len (a : List Nat) (q x : Nat) : (turnL a q x).length = a.length := by simp [turnL]
theorem turnL_known {a : List Nat} {q x : Nat} (h : knB a = true) (hx : x ≤ 1) : knB (turnL a q x) = true := by
  unfold knB at *
  rw [List.all_eq_true] at *
  intro z hz
  rcases List.mem_or_eq_of_mem_set hz with h' | h'
  · exact h z h'
  · subst h'; simpa using hx
theorem turnL_isV {a : List Nat} {q x : Nat} (h : isV a = true) (hx : x ≤ 1) : isV (turnL a q x) = true := by
  obtain ⟨hb, h1, h64⟩ := isV_bits h
  refine isV_of (by rw [turnL_len]; exact h1) (by rw [turnL_len]; exact h64) (bitsB_of fun z hz => ?_)
  rcases List.mem_or_eq_of_mem_set hz with h' | h'
  · exact bitsB_mem hb h'
  · omega
theorem num_turnL {a : List Nat} {q x : Nat} (hq : a.length = q + 1) : num (turnL a q x) = num (a.take q) + 2 ^ q * (if x = 1 then 1 else 0) := by
  have h := num_top (zs := turnL a q x) (by rw [turnL_len]; omega)
  have e : (turnL a q x).length - 1 = q := by rw [turnL_len]; omega
  have e1 : (turnL a q x)[(turnL a q x).length - 1]'(by rw [turnL_len]; omega) = x := by
    rw [List.getElem_of_eq (show turnL a q x = a.set q x from rfl), List.getElem_set, if_pos e.symm]
  rw [e1, e, show (turnL a q x).take q = a.take q by unfold turnL; rw [List.take_set_of_le (Nat.le_refl q)]] at h
  exact h
theorem top_le {a : List Nat} {q : Nat} (hq : a.length = q + 1) (h : knB a = true) : a[q]'(by omega) ≤ 1 := knB_at h (by omega)
theorem num_at {a : List Nat} {q : Nat} (hq : a.length = q + 1) : num a = num (a.take q) + 2 ^ q * (if a[q]'(by omega) = 1 then 1 else 0) := by
  have h := num_top (zs := a) (by omega)
  simpa only [hq, Nat.add_sub_cancel] using h
theorem sgn_at {a b : List Nat} {q : Nat} (ha : a.length = q + 1) (hb : b.length = q + 1) (h64 : q + 1 ≤ 64) (ka : knB a = true) (kb : knB b = true) :
    decide (sgnI a.length (num a) < sgnI a.length (num b)) = if a[q]'(by omega) = b[q]'(by omega) then decide (num a < num b) else decide (a[q]'(by omega) = 1) := by
  have h := sgn_tops (a := a) (b := b) (by omega) (by omega) (by omega) (knB_at ka (by omega)) (knB_at kb (by omega))
  simpa only [ha, Nat.add_sub_cancel] using h
/-- Signed is Less with the highest bits turned. -/
theorem turned_less {a b : List Nat} {q : Nat} (ha : a.length = q + 1) (hb : b.length = q + 1) (h64 : q + 1 ≤ 64) (ka : knB a = true) (kb : knB b = true) :
    decide (num (turnL a q (1 - a[q]'(by omega))) < num (turnL b q (1 - b[q]'(by omega)))) = decide (sgnI a.length (num a) < sgnI a.length (num b)) := by
  rw [sgn_at ha hb h64 ka kb, num_turnL ha, num_turnL hb]
  have na := num_at ha
  have nb := num_at hb
  have la := num_take_lt a q
  have lb := num_take_lt b q
  have ta := top_le ha ka
  have tb := top_le hb kb
  rw [na, nb]
  generalize num (a.take q) = x at *
  generalize num (b.take q) = y at *
  generalize a[q]'(by omega) = s at *
  generalize b[q]'(by omega) = t at *
  generalize 2 ^ q = p at *
  obtain rfl | rfl : s = 0 ∨ s = 1 := by omega
  · obtain rfl | rfl : t = 0 ∨ t = 1 := by omega
    · simp
    · simp; omega
  · obtain rfl | rfl : t = 0 ∨ t = 1 := by omega
    · simp; omega
    · simp
/-- Just one is so. -/
theorem one_ways {a b : List Nat} {q : Nat} (ha : a.length = q + 1) (hb : b.length = q + 1) (h64 : q + 1 ≤ 64) (ka : knB a = true) (kb : knB b = true) :
    (decide (num a < num b) = false ∧ decide (num b < num a) = false ∧ eqL a b = true ∧ decide (sgnI a.length (num a) < sgnI a.length (num b)) = false ∧ decide (sgnI b.length (num b) < sgnI b.length (num a)) = false) ∨
    (((decide (num a < num b) = true ∧ decide (num b < num a) = false) ∨ (decide (num a < num b) = false ∧ decide (num b < num a) = true)) ∧ eqL a b = false ∧
      ((decide (sgnI a.length (num a) < sgnI a.length (num b)) = true ∧ decide (sgnI b.length (num b) < sgnI b.length (num a)) = false) ∨ (decide (sgnI a.length (num a) < sgnI a.length (num b)) = false ∧ decide (sgnI b.length (num b) < sgnI b.length (num a)) = true))) := by
  by_cases he : a = b
  · left
    subst he
    exact ⟨decide_eq_false (by omega), decide_eq_false (by omega), decide_eq_true rfl, decide_eq_false (by omega), decide_eq_false (by omega)⟩
  · right
    have hne : num a ≠ num b := fun h => he (num_inj ka kb (by omega) h)
    have hc : (decide (num a < num b) = true ∧ decide (num b < num a) = false) ∨ (decide (num a < num b) = false ∧ decide (num b < num a) = true) := by
      rcases Nat.lt_or_gt_of_ne hne with h | h
      · left; exact ⟨decide_eq_true h, decide_eq_false (by omega)⟩
      · right; exact ⟨decide_eq_false (by omega), decide_eq_true h⟩
    refine ⟨hc, decide_eq_false he, ?_⟩
    rw [sgn_at ha hb h64 ka kb, sgn_at hb ha h64 kb ka]
    have ta := top_le ha ka
    have tb := top_le hb kb
    generalize a[q]'(by omega) = s at *
    generalize b[q]'(by omega) = t at *
    by_cases hs : s = t
    · subst hs
      rw [if_pos rfl, if_pos rfl]
      exact hc
    · rw [if_neg hs, if_neg (Ne.symm hs)]
      obtain ⟨rfl, rfl⟩ | ⟨rfl, rfl⟩ : (s = 0 ∧ t = 1) ∨ (s = 1 ∧ t = 0) := by omega
      · right; exact ⟨rfl, rfl⟩
      · left; exact ⟨rfl, rfl⟩
theorem Own.block {w : World} {base g n cap : Nat} {zs : List Nat} (h : Own w base (.slice (some ⟨g, 0, none⟩) n cap) zs) : base ≤ g ∧ g < w.heap.size := by
  obtain ⟨h1, h2⟩ := h.1.lt g rfl
  exact ⟨h1, h2⟩
/-- A store to one slice of the call's own leaves another one as it is. -/
theorem Own.other {w : World} {base base' g g' n n' cap cap' : Nat} {zs ys : List Nat} (h : Own w base (.slice (some ⟨g, 0, none⟩) n cap) zs) (h' : Own w base' (.slice (some ⟨g', 0, none⟩) n' cap') ys) (hne : g' ≠ g) (j : Nat) (z : Value) :
    Own (w.setCell ⟨g, j, none⟩ z) base' (.slice (some ⟨g', 0, none⟩) n' cap') ys := by
  obtain ⟨ho, _⟩ := h
  have hlen : n = zs.length := by
    rcases ho.2 with ⟨e, _⟩ | ⟨_, _, _, e, _, _⟩
    · simp at e
    · simp only [Value.slice.injEq] at e
      omega
  subst hlen
  obtain ⟨_, h2⟩ := ho.stored j z
  refine ⟨h'.1.kept h2 (.inr ?_), h'.2.1, h'.2.2.1, Nat.le_trans h'.2.2.2 h2.size⟩
  show some g' ≠ some g
  intro e
  injection e with e
  exact hne e
end Go.Proofs.Ytkapephlfbabjaa
