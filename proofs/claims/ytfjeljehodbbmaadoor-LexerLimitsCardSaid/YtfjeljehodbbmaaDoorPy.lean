/- The program's own ways to read a number and to pass over a gap, as functions of lists of bytes; what its first token is. No program stands here. -/
import Derived.Test.YtfjeljehodbbmaaDoorPx
namespace Go.Proofs.YtfjeljehodbbmaaDoor

theorem parse_digits : ∀ (l : List UInt8) (acc u : Nat), Lib.parseUint10 acc l = .ok u → l.all digB = true ∧ u = l.foldl (fun n c => 10 * n + (c.toNat - 48)) acc
  | [], acc, u, h => by
    simp only [Lib.parseUint10] at h
    injection h with h
    exact ⟨rfl, h.symm⟩
  | c :: r, acc, u, h => by
    simp only [Lib.parseUint10] at h
    split at h
    · rename_i hd
      split at h
      · cases h
      · split at h
        · cases h
        · obtain ⟨h1, h2⟩ := parse_digits r _ u h
          refine ⟨?_, ?_⟩
          · rw [List.all_cons, h1, Bool.and_true]
            exact decide_eq_true hd
          · rw [List.foldl_cons, h2, Nat.mul_comm]
    · cases h
theorem fold_ge : ∀ (l : List UInt8) (acc : Nat), acc ≤ l.foldl (fun n c => 10 * n + (c.toNat - 48)) acc
  | [], acc => Nat.le_refl _
  | c :: r, acc => by
    rw [List.foldl_cons]
    exact Nat.le_trans (by omega) (fold_ge r _)
theorem digits_parse : ∀ (l : List UInt8) (acc : Nat), l.all digB = true → l.foldl (fun n c => 10 * n + (c.toNat - 48)) acc ≤ maxI → Lib.parseUint10 acc l = .ok (l.foldl (fun n c => 10 * n + (c.toNat - 48)) acc)
  | [], _, _, _ => rfl
  | c :: r, acc, hd, h => by
    rw [List.all_cons, Bool.and_eq_true] at hd
    have hc : 48 ≤ c.toNat ∧ c.toNat ≤ 57 := of_decide_eq_true hd.1
    rw [List.foldl_cons] at h ⊢
    have h1 := fold_ge r (10 * acc + (c.toNat - 48))
    have hm : maxI = 2147483647 := rfl
    rw [hm] at h
    simp only [Lib.parseUint10]
    rw [if_pos hc, if_neg (by omega), if_neg (by omega), Nat.mul_comm acc 10]
    exact digits_parse r _ hd.2 (by rw [hm]; exact h)
/-- What the program makes of a run that begins with a digit. -/
theorem atoi_ok {c : UInt8} {r : List UInt8} (hc : digB c = true) {v : Int} (h : Lib.atoiAll (c :: r) = .ok v) : (c :: r).all digB = true ∧ v = (valL (c :: r) : Int) := by
  have hd : 48 ≤ c.toNat ∧ c.toNat ≤ 57 := of_decide_eq_true hc
  have hm : Lib.parseMag (c :: r) = Lib.parseUint10 0 (c :: r) := by unfold Lib.parseMag; rw [if_neg (by simp)]
  rw [Lib.atoiAll_plain c r (by omega) (by omega), hm] at h
  unfold Lib.signless at h
  cases hp : Lib.parseUint10 0 (c :: r)
  case ok u =>
    rw [hp] at h
    simp only at h
    split at h
    · cases h
    · obtain ⟨h1, h2⟩ := parse_digits _ _ _ hp
      injection h with h
      exact ⟨h1, by rw [← h, h2]; rfl⟩
  all_goals
    rw [hp] at h
    cases h
theorem atoi_val {c : UInt8} {r : List UInt8} (hd : (c :: r).all digB = true) (hv : valL (c :: r) ≤ maxI) : Lib.atoiAll (c :: r) = .ok (valL (c :: r) : Int) := by
  have hc : digB c = true := by rw [List.all_cons, Bool.and_eq_true] at hd; exact hd.1
  have hd' : 48 ≤ c.toNat ∧ c.toNat ≤ 57 := of_decide_eq_true hc
  have hm : Lib.parseMag (c :: r) = Lib.parseUint10 0 (c :: r) := by unfold Lib.parseMag; rw [if_neg (by simp)]
  have hp := digits_parse (c :: r) 0 hd hv
  have hM : maxI = 2147483647 := rfl
  rw [Lib.atoiAll_plain c r (by omega) (by omega), hm, hp]
  show (if 9223372036854775808 ≤ _ then _ else _) = _
  rw [if_neg (by unfold valL at hv; omega)]
  rfl
theorem all_inn {l : List UInt8} (h : l.all digB = true) : l.all innB = true := by
  rw [List.all_eq_true] at *
  exact fun x hx => inn_dig (h x hx)
/-- A run of what may stand in a name, that begins with a digit: a number just if all of it are digits, and it is not too great. -/
theorem num_run {c : UInt8} {r : List UInt8} (_hc : digB c = true) :
    (valL ((c :: r).takeWhile digB) ≤ maxI ∧ ((c :: r).takeWhile innB).length = ((c :: r).takeWhile digB).length) ↔ (((c :: r).takeWhile innB).all digB = true ∧ valL ((c :: r).takeWhile innB) ≤ maxI) := by
  have key : ((c :: r).takeWhile innB).length = ((c :: r).takeWhile digB).length → (c :: r).takeWhile innB = (c :: r).takeWhile digB := by
    intro h
    rw [← tw_take innB, ← tw_take digB, h]
  constructor
  · rintro ⟨h1, h2⟩
    rw [key h2]
    exact ⟨tw_all _ _, h1⟩
  · rintro ⟨h1, h2⟩
    have hs := tw_split innB (c :: r)
    have hz : ∀ x, ((c :: r).dropWhile innB).head? = some x → digB x = false := by
      intro x hx
      cases hd : (c :: r).dropWhile innB with
      | nil => rw [hd] at hx; cases hx
      | cons y z =>
        rw [hd] at hx
        injection hx with hx
        subst hx
        have := List.head?_dropWhile_not innB (c :: r)
        rw [hd] at this
        simp only [List.head?_cons] at this
        cases hy : digB y with
        | false => rfl
        | true => rw [inn_dig hy] at this; exact absurd this (by simp)
    have ht : (c :: r).takeWhile digB = (c :: r).takeWhile innB := by
      conv => lhs; rw [hs]
      exact (tw_stop h1 hz).1
    rw [ht]
    exact ⟨h2, rfl⟩
/-- How long a blank or a comment at the front is. -/
def gapL : List UInt8 → Nat
  | [] => 0
  | c :: r => if c = 45 ∧ r.head? = some 45 then (befL 10 (c :: r)).length else if blkB c then 1 else 0
theorem skip_bef (l : List UInt8) : skipM true l = skipL (l.drop (befL 10 l).length) := by
  unfold befL
  induction l with
  | nil => rfl
  | cons c r ih =>
    rw [skipM]
    by_cases h : c = 10
    · subst h
      rw [if_pos rfl, List.takeWhile_cons, if_neg (by simp)]
      exact (skip_blank (by decide) r).symm
    · rw [if_neg h, List.takeWhile_cons, if_pos (by simpa using h), List.length_cons, List.drop_succ_cons]
      exact ih
theorem gap_more {l : List UInt8} (h : gapL l ≠ 0) : skipL l = skipL (l.drop (gapL l)) ∧ gapL l ≤ l.length := by
  cases l with
  | nil => exact absurd rfl h
  | cons c r =>
    rw [gapL] at h ⊢
    by_cases hc : c = 45 ∧ r.head? = some 45
    · rw [if_pos hc]
      refine ⟨?_, tw_len _ _⟩
      rw [← skip_bef]
      obtain ⟨rfl, hr⟩ := hc
      have e1 : skipL (45 :: r) = skipM true r := by unfold skipL; rw [skipM, if_neg (by decide), if_pos ⟨rfl, hr⟩]
      have e2 : skipM true (45 :: r) = skipM true r := by rw [skipM]; exact if_neg (by decide)
      rw [e1, e2]
    · rw [if_neg hc] at h ⊢
      cases hb : blkB c with
      | true => rw [if_pos rfl]; exact ⟨skip_blank hb r, by simp⟩
      | false => rw [hb] at h; exact absurd (if_neg (by decide)) h
theorem gap_none {l : List UInt8} (h : gapL l = 0) : skipL l = l := by
  cases l with
  | nil => rfl
  | cons c r =>
    rw [gapL] at h
    by_cases hc : c = 45 ∧ r.head? = some 45
    · rw [if_pos hc] at h
      obtain ⟨rfl, hr⟩ := hc
      unfold befL at h
      rw [List.takeWhile_cons, if_pos (by decide)] at h
      cases h
    · rw [if_neg hc] at h
      cases hb : blkB c with
      | true => rw [hb] at h; cases h
      | false =>
        unfold skipL
        rw [skipM, if_neg (by rw [hb]; decide), if_neg hc]
/-- The four parts of a first token, and its length. -/
def fO : Option (Tok × Nat) → Nat | some (t, _) => t.op | none => 0
def fT : Option (Tok × Nat) → List UInt8 | some (t, _) => t.text | none => []
def fN : Option (Tok × Nat) → Nat | some (t, _) => t.n | none => 0
def fL : Option (Tok × Nat) → Nat | some (_, n) => n | none => 0
end Go.Proofs.YtfjeljehodbbmaaDoor
