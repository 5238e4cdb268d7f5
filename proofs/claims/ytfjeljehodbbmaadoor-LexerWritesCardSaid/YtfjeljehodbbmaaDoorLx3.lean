/- What the token at the beginning of a list of bytes is like. No program stands here. -/
import Derived.Test.YtfjeljehodbbmaaDoorLx2
namespace Go.Proofs.YtfjeljehodbbmaaDoor

theorem tw_all (p : UInt8 → Bool) (l : List UInt8) : (l.takeWhile p).all p = true := by
  induction l with
  | nil => rfl
  | cons a l ih =>
    rw [List.takeWhile_cons]
    split
    · rename_i h; rw [List.all_cons, h, ih]; rfl
    · rfl
theorem tw_split (p : UInt8 → Bool) (l : List UInt8) : l = l.takeWhile p ++ l.dropWhile p := (List.takeWhile_append_dropWhile ..).symm
theorem tw_len (p : UInt8 → Bool) (l : List UInt8) : (l.takeWhile p).length ≤ l.length := by
  have := congrArg List.length (tw_split p l)
  rw [List.length_append] at this
  omega
theorem tw_take (p : UInt8 → Bool) (l : List UInt8) : l.take (l.takeWhile p).length = l.takeWhile p := by
  have h := tw_split p l
  generalize l.takeWhile p = a at *
  rw [h, List.take_left']
  rfl
theorem tw_cons {p : UInt8 → Bool} {c : UInt8} (h : p c = true) (r : List UInt8) : (c :: r).takeWhile p = c :: r.takeWhile p := by rw [List.takeWhile_cons, if_pos h]
theorem val_lt {w : List UInt8} (h : w.all digB = true) : valL w < 10 ^ w.length := by
  have key : ∀ (w : List UInt8) (n k : Nat), w.all digB = true → n < 10 ^ k → w.foldl (fun n c => 10 * n + (c.toNat - 48)) n < 10 ^ (k + w.length) := by
    intro w
    induction w with
    | nil => intro n k _ hn; exact hn
    | cons c r ih =>
      intro n k h hn
      rw [List.all_cons, Bool.and_eq_true] at h
      have hc : c.toNat - 48 < 10 := by
        have := h.1
        unfold digB at this
        simp only [digN, decide_eq_true_eq] at this
        omega
      have := ih (10 * n + (c.toNat - 48)) (k + 1) h.2 (by rw [Nat.pow_succ]; omega)
      rw [List.foldl_cons, List.length_cons, show k + (r.length + 1) = k + 1 + r.length by omega]
      exact this
  have := key w 0 0 h (by decide)
  rwa [Nat.zero_add] at this
theorem dec_len {k n : Nat} (hk : 1 ≤ k) (h : n < 10 ^ k) : (decL n).length ≤ k := by
  induction k generalizing n with
  | zero => omega
  | succ k ih =>
    by_cases hn : n < 10
    · rw [dec_small hn]; simp
    · rw [dec_big hn, List.length_append]
      have : k ≠ 0 := by rintro rfl; omega
      have := ih (n := n / 10) (by omega) (by rw [Nat.pow_succ] at h; omega)
      simp only [List.length_cons, List.length_nil]
      omega
theorem quo_facts {p : UInt8 → Bool} {least most : Nat} {d q : List UInt8} (h : quoL p least most d = some q) : q.all p = true ∧ least ≤ q.length ∧ q.length ≤ most ∧ ∃ z, d = q ++ 34 :: z := by
  unfold quoL at h
  split at h
  · rename_i hc
    injection h with h
    subst h
    refine ⟨tw_all _ _, hc.1, hc.2.1, ?_⟩
    have hs := tw_split p d
    cases hd : d.dropWhile p with
    | nil => rw [hd] at hc; exact absurd hc.2.2 (by simp)
    | cons a z =>
      rw [hd] at hc hs
      have : a = 34 := by simpa using hc.2.2
      subst this
      exact ⟨z, hs⟩
  · cases h
/-- What holds of a token that is read. -/
def Read (x : List UInt8) (t : Tok) (n : Nat) : Prop :=
  posL t = true ∧ 1 ≤ n ∧ n ≤ x.length ∧ (wriL t).length ≤ n ∧ (t.op ≠ 3 → x.take n = wriL t) ∧ (t.op = 3 → ∃ c r, x = c :: r ∧ digB c = true)
theorem tok_facts {x : List UInt8} {t : Tok} {n : Nat} (h : tokL x = some (t, n)) : Read x t n := by
  cases x with
  | nil => cases h
  | cons c r =>
    rw [tokL] at h
    split at h
    · rename_i hc
      obtain ⟨rfl, hr⟩ := hc
      obtain ⟨q, hq, he⟩ := Option.map_eq_some_iff.1 h
      injection he with h1 h2
      subst h1 h2
      obtain ⟨ha, hl, hm, z, hz⟩ := quo_facts hq
      cases r with
      | nil => cases hr
      | cons a d =>
        injection hr with hr
        subst hr
        rw [List.tail_cons] at hz
        subst hz
        refine ⟨?_, by omega, by simp, ?_, fun _ => ?_, fun h => by simp at h⟩
        · show (decide (0 = 0) && (decide (1 ≤ q.length) && (decide (q.length ≤ 64) && q.all bitB))) = true
          rw [ha, decide_eq_true hl, decide_eq_true hm]; rfl
        · show ([98, 34] ++ q ++ [34]).length ≤ q.length + 3
          simp
        · show (98 :: 34 :: (q ++ 34 :: z)).take (q.length + 3) = [98, 34] ++ q ++ [34]
          have e : 98 :: 34 :: (q ++ 34 :: z) = ([98, 34] ++ q ++ [34]) ++ z := by simp
          rw [e]
          exact List.take_left' (by simp)
    · split at h
      · rename_i hc
        have hw : (c :: r).takeWhile innB = c :: r.takeWhile innB := tw_cons (inn_let hc) r
        have ha := tw_all innB (c :: r)
        have hl := tw_len innB (c :: r)
        have ht := tw_take innB (c :: r)
        generalize hg : (c :: r).takeWhile innB = w at *
        have hh : hdLet w = true := by rw [hw]; exact hc
        have h1 : 1 ≤ w.length := by rw [hw]; simp
        split at h
        · rename_i hi
          injection h with h
          injection h with h1' h2
          subst h1' h2
          exact ⟨by show (decide (0 = 0) && isWordL w) = true; rw [hi]; rfl, h1, hl, Nat.le_refl _, fun _ => ht, fun h => by simp at h⟩
        · rename_i hi
          split at h
          · rename_i h40
            injection h with h
            injection h with h1' h2
            subst h1' h2
            refine ⟨?_, h1, hl, Nat.le_refl _, fun _ => ht, fun h => by simp at h⟩
            show (decide (0 = 0) && isNameL w) = true
            unfold isNameL
            rw [decide_eq_true h40, hh, ha, Bool.not_eq_true] at *
            rw [hi]
            rfl
          · cases h
      · split at h
        · rename_i hc
          split at h
          · rename_i hv
            have hw : (c :: r).takeWhile digB = c :: r.takeWhile digB := tw_cons hc r
            have ha := tw_all digB (c :: r)
            have hl := tw_len digB (c :: r)
            generalize hg : (c :: r).takeWhile digB = w at *
            have h1 : 1 ≤ w.length := by rw [hw]; simp
            injection h with h
            injection h with h1' h2
            subst h1' h2
            refine ⟨?_, h1, hl, dec_len h1 (val_lt ha), fun h => absurd rfl h, fun _ => ⟨c, r, rfl, hc⟩⟩
            show (decide (([] : List UInt8) = []) && decide (valL w ≤ maxI)) = true
            rw [decide_eq_true hv.1]; rfl
          · cases h
        · split at h
          · rename_i hc
            subst hc
            match r, h with
            | a :: b :: z, h =>
              rw [bitTok] at h
              split at h
              · rename_i hb
                injection h with h
                injection h with h1' h2
                obtain ⟨hb1, rfl⟩ := hb
                subst h1' h2
                refine ⟨?_, by omega, by simp, Nat.le_refl _, fun _ => rfl, fun h => by simp at h⟩
                show (decide (0 = 0) && (decide ([a].length = 1) && [a].all bitB)) = true
                rw [List.all_cons, hb1]; rfl
              · cases h
            | [], h => cases h
            | [_], h => cases h
          · split at h
            · rename_i hc
              subst hc
              obtain ⟨q, hq, he⟩ := Option.map_eq_some_iff.1 h
              injection he with h1 h2
              subst h1 h2
              obtain ⟨ha, _, hm, z, hz⟩ := quo_facts hq
              subst hz
              refine ⟨?_, by omega, by simp, ?_, fun _ => ?_, fun h => by simp at h⟩
              · show (decide (0 = 0) && (decide (q.length ≤ 60) && q.all plnB)) = true
                rw [ha, decide_eq_true hm]; rfl
              · show ([34] ++ q ++ [34]).length ≤ q.length + 2
                simp
              · show (34 :: (q ++ 34 :: z)).take (q.length + 2) = [34] ++ q ++ [34]
                have e : 34 :: (q ++ 34 :: z) = ([34] ++ q ++ [34]) ++ z := by simp
                rw [e]
                exact List.take_left' (by simp)
            · obtain ⟨x, hx, he⟩ := Option.map_eq_some_iff.1 h
              injection he with h1 h2
              subst h1 h2
              have hm := List.mem_of_find?_eq_some hx
              have hp : x.isPrefixOf (c :: r) = true := by have := List.find?_some hx; simpa using this
              obtain ⟨z, hz⟩ := List.isPrefixOf_iff_prefix.1 hp
              have hne : ∀ x, x ∈ signsL → 1 ≤ x.length := by decide
              refine ⟨?_, hne x hm, by rw [← hz, List.length_append]; omega, Nat.le_refl _, fun _ => ?_, fun h => by simp at h⟩
              · show (decide (0 = 0) && signsL.contains x) = true
                rw [List.contains_iff_mem.2 hm]; rfl
              · show (c :: r).take x.length = x
                rw [← hz]
                exact List.take_left' rfl
end Go.Proofs.YtfjeljehodbbmaaDoor
