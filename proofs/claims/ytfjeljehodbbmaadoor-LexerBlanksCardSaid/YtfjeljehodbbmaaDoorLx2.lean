/- Tokens that are written are read again: the plain facts. No program stands here. -/
import Derived.Test.YtfjeljehodbbmaaDoorLx
namespace Go.Proofs.YtfjeljehodbbmaaDoor

theorem tw_stop {p : UInt8 → Bool} {x z : List UInt8} (hx : x.all p = true) (hz : ∀ c, z.head? = some c → p c = false) : (x ++ z).takeWhile p = x ∧ (x ++ z).dropWhile p = z := by
  induction x with
  | nil =>
    cases z with
    | nil => exact ⟨rfl, rfl⟩
    | cons c z => have := hz c rfl; simp [this]
  | cons a x ih =>
    rw [List.all_cons, Bool.and_eq_true] at hx
    obtain ⟨h1, h2⟩ := ih hx.2
    rw [List.cons_append, List.takeWhile_cons, List.dropWhile_cons, hx.1, if_pos rfl, if_pos rfl, h1, h2]
    exact ⟨rfl, rfl⟩
/-- What may stand behind a token: a blank, or nothing. -/
def Gap (z : List UInt8) : Prop := z = [] ∨ z.head? = some 32
theorem Gap.no {z : List UInt8} (h : Gap z) {p : UInt8 → Bool} (hp : p 32 = false) : ∀ c, z.head? = some c → p c = false := by
  intro c hc
  rcases h with rfl | h
  · cases hc
  · rw [h] at hc; injection hc with hc; subst hc; exact hp
theorem Gap.ne {z : List UInt8} (h : Gap z) {k : UInt8} (hk : k ≠ 32) : z.head? ≠ some k := by
  intro hc
  rcases h with rfl | h
  · cases hc
  · rw [h] at hc; injection hc with hc; exact hk hc.symm
theorem inn_let {c : UInt8} (h : letB c = true) : innB c = true := by
  unfold letB innB at *; simp only [letN, innN, decide_eq_true_eq] at *; omega
theorem inn_dig {c : UInt8} (h : digB c = true) : innB c = true := by
  unfold digB innB at *; simp only [digN, innN, decide_eq_true_eq] at *; omega
theorem dig_let {c : UInt8} (h : digB c = true) : letB c = false := by
  unfold digB letB at *; simp only [digN, letN, decide_eq_true_eq, decide_eq_false_iff_not] at *; omega
theorem let_ne {c : UInt8} (h : letB c = true) : c ≠ 34 ∧ c ≠ 39 ∧ c ≠ 45 ∧ c ≠ 10 ∧ blkB c = false := by
  refine ⟨?_, ?_, ?_, ?_, ?_⟩
  · rintro rfl; exact absurd h (by decide)
  · rintro rfl; exact absurd h (by decide)
  · rintro rfl; exact absurd h (by decide)
  · rintro rfl; exact absurd h (by decide)
  · unfold letB blkB at *; simp only [letN, blkN, decide_eq_true_eq, decide_eq_false_iff_not] at *; omega
theorem inn_ne {c : UInt8} (h : innB c = true) : c ≠ 34 := by rintro rfl; exact absurd h (by decide)
theorem dig_ne {c : UInt8} (h : digB c = true) : c ≠ 98 ∧ c ≠ 45 ∧ blkB c = false := by
  refine ⟨?_, ?_, ?_⟩
  · rintro rfl; exact absurd h (by decide)
  · rintro rfl; exact absurd h (by decide)
  · unfold digB blkB at *; simp only [digN, blkN, decide_eq_true_eq, decide_eq_false_iff_not] at *; omega
/-- A reserved word begins with a letter and has letters, digits and _ alone. -/
theorem words_ok : ∀ w, w ∈ wordsL → hdLet w = true ∧ w.all innB = true := by decide
theorem isWord_ok {w : List UInt8} (h : isWordL w = true) : hdLet w = true ∧ w.all innB = true := by
  unfold isWordL at h
  exact words_ok w (by simpa using h)

/-- A word that is read: its first byte is a letter. -/
theorem tok_word {c : UInt8} {r z : List UInt8} (hc : letB c = true) (hr : r.all innB = true) (hz : Gap z) :
    tokL ((c :: r) ++ z) = if isWordL (c :: r) then some (⟨2, c :: r, 0⟩, (c :: r).length) else if (c :: r).length ≤ 40 then some (⟨1, c :: r, 0⟩, (c :: r).length) else none := by
  have hn : ¬ (c = 98 ∧ (r ++ z).head? = some 34) := by
    rintro ⟨_, h⟩
    cases r with
    | nil => exact hz.ne (by decide) h
    | cons a r =>
      rw [List.all_cons, Bool.and_eq_true] at hr
      injection h with h
      exact inn_ne hr.1 h
  have ht := (tw_stop (p := innB) (x := c :: r) (z := z) (by rw [List.all_cons, inn_let hc, hr]; rfl) (hz.no (by decide))).1
  rw [List.cons_append] at ht ⊢
  rw [tokL, if_neg hn, if_pos hc, ht]
theorem tok_int {c : UInt8} {r z : List UInt8} (hc : digB c = true) (hr : r.all digB = true) (hz : Gap z) (hv : valL (c :: r) ≤ maxI) :
    tokL ((c :: r) ++ z) = some (⟨3, [], valL (c :: r)⟩, (c :: r).length) := by
  have hn : ¬ (c = 98 ∧ (r ++ z).head? = some 34) := fun h => (dig_ne hc).1 h.1
  have hd : (c :: r).all digB = true := by rw [List.all_cons, hc, hr]; rfl
  have hi : (c :: r).all innB = true := by
    rw [List.all_eq_true] at hd ⊢
    exact fun x hx => inn_dig (hd x hx)
  have t1 := (tw_stop (p := innB) hi (hz.no (by decide))).1
  have t2 := (tw_stop (p := digB) hd (hz.no (by decide))).1
  rw [List.cons_append] at t1 t2 ⊢
  rw [tokL, if_neg hn, dig_let hc, if_neg Bool.false_ne_true, if_pos hc, t1, t2, if_pos ⟨hv, rfl⟩]
theorem quo_at {p : UInt8 → Bool} {least most : Nat} {q z : List UInt8} (hq : q.all p = true) (hp : p 34 = false) (h1 : least ≤ q.length) (h2 : q.length ≤ most) : quoL p least most (q ++ 34 :: z) = some q := by
  obtain ⟨t1, t2⟩ := tw_stop (p := p) (x := q) (z := 34 :: z) hq (by intro c hc; injection hc with hc; subst hc; exact hp)
  unfold quoL
  rw [t1, t2, if_pos ⟨h1, h2, rfl⟩]
theorem tok_sign : ∀ x, x ∈ signsL → ∀ z, Gap z → tokL (x ++ z) = some (⟨7, x, 0⟩, x.length) := by
  intro x hx z hz
  have hz' : z = [] ∨ ∃ y, z = 32 :: y := by
    rcases hz with rfl | h
    · exact .inl rfl
    · cases z with
      | nil => cases h
      | cons a y => injection h with h; subst h; exact .inr ⟨y, rfl⟩
  unfold signsL at hx
  simp only [List.mem_cons, List.not_mem_nil, or_false] at hx
  rcases hz' with rfl | ⟨y, rfl⟩
  all_goals
    rcases hx with rfl | rfl | rfl | rfl | rfl | rfl | rfl | rfl | rfl | rfl | rfl | rfl | rfl | rfl | rfl | rfl | rfl | rfl
    all_goals rfl

theorem dec_small {n : Nat} (h : n < 10) : decL n = [UInt8.ofNat (48 + n)] := by rw [decL, dif_pos h]
theorem dec_big {n : Nat} (h : ¬ n < 10) : decL n = decL (n / 10) ++ [UInt8.ofNat (48 + n % 10)] := by rw [decL, dif_neg h]
theorem digit_nat {k : Nat} (h : k < 10) : (UInt8.ofNat (48 + k)).toNat = 48 + k := by simp; omega
theorem digit_digB {k : Nat} (h : k < 10) : digB (UInt8.ofNat (48 + k)) = true := by
  unfold digB
  rw [digit_nat h]
  simp only [digN, decide_eq_true_eq]; omega
theorem val_append (w : List UInt8) (c : UInt8) : valL (w ++ [c]) = 10 * valL w + (c.toNat - 48) := by unfold valL; rw [List.foldl_append]; rfl
theorem dec_facts (n : Nat) : decL n ≠ [] ∧ (decL n).all digB = true ∧ valL (decL n) = n := by
  induction n using Nat.strongRecOn with
  | ind n ih =>
    by_cases h : n < 10
    · rw [dec_small h]
      refine ⟨by simp, ?_, ?_⟩
      · rw [List.all_cons, digit_digB h]; rfl
      · show 10 * 0 + ((UInt8.ofNat (48 + n)).toNat - 48) = n
        rw [digit_nat h]; omega
    · obtain ⟨h1, h2, h3⟩ := ih (n / 10) (by omega)
      rw [dec_big h]
      refine ⟨by simp, ?_, ?_⟩
      · rw [List.all_append, h2, List.all_cons, digit_digB (Nat.mod_lt _ (by omega))]; rfl
      · rw [val_append, h3, digit_nat (Nat.mod_lt _ (by omega))]; omega

/-- What is written of a token is read as it. -/
theorem tok_wri {t : Tok} (h : posL t = true) {z : List UInt8} (hz : Gap z) : tokL (wriL t ++ z) = some (t, (wriL t).length) := by
  obtain ⟨op, text, n⟩ := t
  unfold posL at h
  simp only at h
  unfold wriL
  simp only
  split at h
  · rename_i e
    subst e
    rw [Bool.and_eq_true, decide_eq_true_eq] at h
    obtain ⟨rfl, hn⟩ := h
    rw [if_neg (by decide), if_neg (by decide), if_neg (by decide), if_neg (by decide)]
    unfold isNameL at hn
    rw [Bool.and_eq_true, Bool.and_eq_true, Bool.and_eq_true, decide_eq_true_eq] at hn
    obtain ⟨h40, hc, hi, hw⟩ := hn
    cases text with
    | nil => cases hc
    | cons c r =>
      rw [List.all_cons, Bool.and_eq_true] at hi
      rw [tok_word hc hi.2 hz, if_neg (by simpa using hw), if_pos h40]
  · split at h
    · rename_i _ e
      subst e
      rw [Bool.and_eq_true, decide_eq_true_eq] at h
      obtain ⟨rfl, hw⟩ := h
      rw [if_neg (by decide), if_neg (by decide), if_neg (by decide), if_neg (by decide)]
      obtain ⟨hc, hi⟩ := isWord_ok hw
      cases text with
      | nil => cases hc
      | cons c r =>
        rw [List.all_cons, Bool.and_eq_true] at hi
        rw [tok_word hc hi.2 hz, if_pos hw]
    · split at h
      · rename_i _ _ e
        subst e
        rw [Bool.and_eq_true, decide_eq_true_eq, decide_eq_true_eq] at h
        obtain ⟨rfl, hn⟩ := h
        rw [if_pos rfl]
        obtain ⟨d1, d2, d3⟩ := dec_facts n
        generalize hl : decL n = l at *
        cases l with
        | nil => exact absurd rfl d1
        | cons c r =>
          rw [List.all_cons, Bool.and_eq_true] at d2
          rw [tok_int d2.1 d2.2 hz (by rw [d3]; exact hn), d3]
      · split at h
        · rename_i _ _ _ e
          subst e
          rw [Bool.and_eq_true, Bool.and_eq_true, decide_eq_true_eq, decide_eq_true_eq] at h
          obtain ⟨rfl, hl, hb⟩ := h
          rw [if_neg (by decide), if_pos rfl]
          match text, hl, hb with
          | [a], _, hb =>
            rw [List.all_cons, Bool.and_eq_true] at hb
            show tokL (39 :: a :: 39 :: z) = _
            rw [tokL, if_neg (by rintro ⟨h, _⟩; exact absurd h (by decide)), if_neg (by decide), if_neg (by decide), if_pos rfl]
            rw [bitTok, if_pos ⟨hb.1, rfl⟩]
            rfl
        · split at h
          · rename_i _ _ _ _ e
            subst e
            rw [Bool.and_eq_true, Bool.and_eq_true, Bool.and_eq_true, decide_eq_true_eq, decide_eq_true_eq, decide_eq_true_eq] at h
            obtain ⟨rfl, h1, h2, hb⟩ := h
            rw [if_neg (by decide), if_neg (by decide), if_pos rfl]
            have e : [98, 34] ++ text ++ [34] ++ z = 98 :: 34 :: (text ++ 34 :: z) := by simp
            rw [e, tokL, if_pos ⟨rfl, rfl⟩, List.tail_cons, quo_at hb (by decide) h1 h2]
            simp
          · split at h
            · rename_i _ _ _ _ _ e
              subst e
              rw [Bool.and_eq_true, Bool.and_eq_true, decide_eq_true_eq, decide_eq_true_eq] at h
              obtain ⟨rfl, h1, hb⟩ := h
              rw [if_neg (by decide), if_neg (by decide), if_neg (by decide), if_pos rfl]
              have e : [34] ++ text ++ [34] ++ z = 34 :: (text ++ 34 :: z) := by simp
              rw [e, tokL, if_neg (by rintro ⟨h, _⟩; exact absurd h (by decide)), if_neg (by decide), if_neg (by decide), if_neg (by decide), if_pos rfl, quo_at hb (by decide) (Nat.zero_le _) h1]
              simp
            · split at h
              · rename_i _ _ _ _ _ _ e
                subst e
                rw [Bool.and_eq_true, decide_eq_true_eq] at h
                obtain ⟨rfl, hs⟩ := h
                rw [if_neg (by decide), if_neg (by decide), if_neg (by decide), if_neg (by decide)]
                exact tok_sign text (by simpa using hs) z hz
              · cases h
end Go.Proofs.YtfjeljehodbbmaaDoor
