/- All tokens of a list of bytes; what is written of tokens is read as these tokens. No program stands here. -/
import Derived.Test.YtfjeljehodbbmaaDoorLx3
namespace Go.Proofs.YtfjeljehodbbmaaDoor

theorem skip_len (m : Bool) (l : List UInt8) : (skipM m l).length ≤ l.length := by
  induction l generalizing m with
  | nil => cases m <;> exact Nat.le_refl _
  | cons c r ih =>
    cases m
    · rw [skipM]
      split
      · have := ih false; rw [List.length_cons]; omega
      · split
        · have := ih true; rw [List.length_cons]; omega
        · exact Nat.le_refl _
    · rw [skipM]
      split
      · have := ih false; rw [List.length_cons]; omega
      · have := ih true; rw [List.length_cons]; omega
theorem skip_suffix (m : Bool) (l : List UInt8) : ∃ p, l = p ++ skipM m l := by
  induction l generalizing m with
  | nil => exact ⟨[], by cases m <;> rfl⟩
  | cons c r ih =>
    cases m
    · rw [skipM]
      split
      · obtain ⟨p, h⟩ := ih false; exact ⟨c :: p, by rw [List.cons_append, ← h]⟩
      · split
        · obtain ⟨p, h⟩ := ih true; exact ⟨c :: p, by rw [List.cons_append, ← h]⟩
        · exact ⟨[], rfl⟩
    · rw [skipM]
      split
      · obtain ⟨p, h⟩ := ih false; exact ⟨c :: p, by rw [List.cons_append, ← h]⟩
      · obtain ⟨p, h⟩ := ih true; exact ⟨c :: p, by rw [List.cons_append, ← h]⟩

/-- The tokens, each with how many bytes there are from its first one on; at last, if there is a fault, how many there are from it on. -/
def mostF : Nat → List UInt8 → List (Tok × Nat) × Option Nat
  | 0, _ => ([], none)
  | f + 1, l =>
    if skipL l = [] then ([], none) else
    match tokL (skipL l) with
    | none => ([], some (skipL l).length)
    | some (t, n) => ((t, (skipL l).length) :: (mostF f ((skipL l).drop n)).1, (mostF f ((skipL l).drop n)).2)
def lexM (l : List UInt8) : List (Tok × Nat) × Option Nat := mostF (l.length + 1) l
theorem most_enough {f g : Nat} {l : List UInt8} (hf : l.length < f) (hg : l.length < g) : mostF f l = mostF g l := by
  induction f generalizing g l with
  | zero => omega
  | succ f ih =>
    cases g with
    | zero => omega
    | succ g =>
      rw [mostF, mostF]
      split
      · rfl
      · cases ht : tokL (skipL l) with
        | none => rfl
        | some p =>
          obtain ⟨t, n⟩ := p
          obtain ⟨_, h1, h2, _⟩ := tok_facts ht
          have hs : (skipL l).length ≤ l.length := skip_len false l
          have e := ih (g := g) (l := (skipL l).drop n) (by rw [List.length_drop]; omega) (by rw [List.length_drop]; omega)
          simp only
          rw [e]
theorem lex_end {l : List UInt8} (h : skipL l = []) : lexM l = ([], none) := by unfold lexM; rw [mostF, if_pos h]
theorem lex_none {l : List UInt8} (h : skipL l ≠ []) (ht : tokL (skipL l) = none) : lexM l = ([], some (skipL l).length) := by unfold lexM; rw [mostF, if_neg h, ht]
theorem lex_some {l : List UInt8} {t : Tok} {n : Nat} (ht : tokL (skipL l) = some (t, n)) :
    lexM l = ((t, (skipL l).length) :: (lexM ((skipL l).drop n)).1, (lexM ((skipL l).drop n)).2) := by
  have h : skipL l ≠ [] := by intro e; rw [e] at ht; cases ht
  obtain ⟨_, h1, h2, _⟩ := tok_facts ht
  have hs : (skipL l).length ≤ l.length := skip_len false l
  unfold lexM
  rw [mostF, if_neg h, ht]
  simp only
  rw [most_enough (f := l.length) (g := ((skipL l).drop n).length + 1) (l := (skipL l).drop n) (by rw [List.length_drop]; omega) (by omega)]

/-- The tokens alone. -/
def toksL (l : List UInt8) : List Tok := (lexM l).1.map (·.1)
theorem skip_at {c : UInt8} {r : List UInt8} (h : blkB c = false) (h' : c ≠ 45) : skipL (c :: r) = c :: r := by
  unfold skipL
  rw [skipM, if_neg (by rw [h]; decide), if_neg (fun e => h' e.1)]
theorem skip_blank {c : UInt8} (h : blkB c = true) (r : List UInt8) : skipL (c :: r) = skipL r := by
  unfold skipL
  rw [skipM, if_pos h]
theorem skip_sign : ∀ x, x ∈ signsL → ∀ z, Gap z → skipL (x ++ z) = x ++ z := by
  intro x hx z hz
  have hz' : z = [] ∨ ∃ y, z = 32 :: y := by
    rcases hz with rfl | h
    · exact .inl rfl
    · cases z with
      | nil => cases h
      | cons a y => injection h with h; subst h; exact .inr ⟨y, rfl⟩
  unfold signsL at hx
  simp only [List.mem_cons, List.not_mem_nil, or_false] at hx
  rcases hz' with rfl | ⟨y, rfl⟩
  all_goals
    rcases hx with rfl | rfl | rfl | rfl | rfl | rfl | rfl | rfl | rfl | rfl | rfl | rfl | rfl | rfl | rfl | rfl | rfl | rfl
    all_goals rfl
theorem skip_wri {t : Tok} (h : posL t = true) {z : List UInt8} (hz : Gap z) : skipL (wriL t ++ z) = wriL t ++ z := by
  have key : ∀ w, hdLet w = true → skipL (w ++ z) = w ++ z := by
    intro w hw
    cases w with
    | nil => cases hw
    | cons c r => exact skip_at (let_ne hw).2.2.2.2 (let_ne hw).2.2.1
  obtain ⟨op, text, n⟩ := t
  unfold posL at h
  simp only at h
  unfold wriL
  simp only
  split at h
  · rename_i e
    subst e
    rw [Bool.and_eq_true] at h
    have hn := h.2
    unfold isNameL at hn
    rw [Bool.and_eq_true, Bool.and_eq_true] at hn
    exact key text hn.2.1
  · split at h
    · rename_i _ e
      subst e
      rw [Bool.and_eq_true] at h
      exact key text (isWord_ok h.2).1
    · split at h
      · rename_i _ _ e
        subst e
        rw [if_pos rfl]
        obtain ⟨d1, d2, _⟩ := dec_facts n
        generalize hl : decL n = l at *
        cases l with
        | nil => exact absurd rfl d1
        | cons c r =>
          rw [List.all_cons, Bool.and_eq_true] at d2
          exact skip_at (dig_ne d2.1).2.2 (dig_ne d2.1).2.1
      · split at h
        · rename_i _ _ _ e
          subst e
          exact skip_at (c := 39) (by decide) (by decide)
        · split at h
          · rename_i _ _ _ _ e
            subst e
            exact skip_at (c := 98) (by decide) (by decide)
          · split at h
            · rename_i _ _ _ _ _ e
              subst e
              exact skip_at (c := 34) (by decide) (by decide)
            · split at h
              · rename_i _ _ _ _ _ _ e
                subst e
                rw [Bool.and_eq_true] at h
                rw [if_neg (by decide), if_neg (by decide), if_neg (by decide), if_neg (by decide)]
                exact skip_sign text (by simpa using h.2) z hz
              · cases h
/-- A token that is written, and what stands behind it. -/
theorem lex_wri {t : Tok} (h : posL t = true) {l z : List UInt8} (hl : skipL l = skipL (wriL t ++ z)) (hz : Gap z) : lexM l = ((t, (wriL t ++ z).length) :: (lexM z).1, (lexM z).2) := by
  rw [skip_wri h hz] at hl
  have := lex_some (l := l) (t := t) (n := (wriL t).length) (by rw [hl]; exact tok_wri h hz)
  rw [hl, List.drop_left'] at this
  · exact this
  · rfl

/-- Tokens as they are written, with a blank between two. -/
def tailL : List Tok → List UInt8
  | [] => []
  | t :: ts => 32 :: (wriL t ++ tailL ts)
def joinL : List Tok → List UInt8
  | [] => []
  | t :: ts => wriL t ++ tailL ts
theorem tail_gap (ts : List Tok) : Gap (tailL ts) := by
  cases ts with
  | nil => exact .inl rfl
  | cons t ts => exact .inr rfl
theorem lex_tail {ts : List Tok} (h : ∀ t ∈ ts, posL t = true) : toksL (tailL ts) = ts ∧ (lexM (tailL ts)).2 = none := by
  induction ts with
  | nil => exact ⟨rfl, rfl⟩
  | cons t ts ih =>
    obtain ⟨h1, h2⟩ := ih fun x hx => h x (List.mem_cons_of_mem _ hx)
    have e := lex_wri (h t (List.mem_cons_self ..)) (l := tailL (t :: ts)) (z := tailL ts) (skip_blank (by decide) _) (tail_gap ts)
    unfold toksL at *
    rw [e]
    exact ⟨by rw [List.map_cons, h1], h2⟩
theorem lex_join {ts : List Tok} (h : ∀ t ∈ ts, posL t = true) : toksL (joinL ts) = ts ∧ (lexM (joinL ts)).2 = none := by
  cases ts with
  | nil => exact ⟨rfl, rfl⟩
  | cons t ts =>
    obtain ⟨h1, h2⟩ := lex_tail fun x hx => h x (List.mem_cons_of_mem t hx)
    have e := lex_wri (h t (List.mem_cons_self ..)) (l := joinL (t :: ts)) (z := tailL ts) rfl (tail_gap ts)
    unfold toksL at *
    rw [e]
    exact ⟨by rw [List.map_cons, h1], h2⟩

/-- Blanks and comments that may stand between two tokens. -/
def gapsL : List (List UInt8) := [[], [32], [9], [10], [13, 10], [45, 45, 32, 97, 32, 99, 111, 109, 109, 101, 110, 116, 32, 34, 111, 102, 34, 32, 39, 120, 10], [45, 45, 10, 32, 32]]
def endL : List UInt8 := [32, 45, 45, 32, 116, 104, 101, 32, 101, 110, 100]
def spreadL : List (List UInt8 × Tok) → List UInt8
  | [] => endL
  | (g, t) :: r => 32 :: (g ++ (wriL t ++ spreadL r))
theorem skip_gap : ∀ g, g ∈ gapsL → ∀ x, skipL (g ++ x) = skipL x := by
  intro g hg x
  unfold gapsL at hg
  simp only [List.mem_cons, List.not_mem_nil, or_false] at hg
  rcases hg with rfl | rfl | rfl | rfl | rfl | rfl | rfl
  all_goals rfl
theorem spread_gap (r : List (List UInt8 × Tok)) : Gap (spreadL r) := by
  cases r with
  | nil => exact .inr rfl
  | cons p r => exact .inr rfl
theorem lex_spread {r : List (List UInt8 × Tok)} (h : ∀ p ∈ r, p.1 ∈ gapsL ∧ posL p.2 = true) : toksL (spreadL r) = r.map (·.2) ∧ (lexM (spreadL r)).2 = none := by
  induction r with
  | nil => exact ⟨rfl, rfl⟩
  | cons p r ih =>
    obtain ⟨g, t⟩ := p
    obtain ⟨h1, h2⟩ := ih fun x hx => h x (List.mem_cons_of_mem _ hx)
    obtain ⟨hg, ht⟩ := h (g, t) (List.mem_cons_self ..)
    have e := lex_wri ht (l := spreadL ((g, t) :: r)) (z := spreadL r) ((skip_blank (by decide) _).trans (skip_gap g hg _)) (spread_gap r)
    unfold toksL at *
    rw [e]
    exact ⟨by rw [List.map_cons, List.map_cons, h1], h2⟩

/-- What holds of all tokens that are read: they can be written, and not with more bytes; they stand one behind another. -/
def wsum : List Tok → Nat
  | [] => 0
  | t :: ts => (wriL t).length + wsum ts
theorem lex_read (f : Nat) : ∀ l : List UInt8, (∀ p ∈ (mostF f l).1, posL p.1 = true) ∧ (mostF f l).1.length ≤ l.length ∧ wsum ((mostF f l).1.map (·.1)) ≤ l.length := by
  induction f with
  | zero => intro l; exact ⟨(fun p hp => by cases hp), Nat.zero_le _, Nat.zero_le _⟩
  | succ f ih =>
    intro l
    rw [mostF]
    split
    · exact ⟨(fun p hp => by cases hp), Nat.zero_le _, Nat.zero_le _⟩
    · cases ht : tokL (skipL l) with
      | none => exact ⟨(fun p hp => by cases hp), Nat.zero_le _, Nat.zero_le _⟩
      | some q =>
        obtain ⟨t, n⟩ := q
        obtain ⟨hp, h1, h2, h3, _⟩ := tok_facts ht
        have hs : (skipL l).length ≤ l.length := skip_len false l
        obtain ⟨i1, i2, i3⟩ := ih ((skipL l).drop n)
        rw [List.length_drop] at i2 i3
        simp only
        refine ⟨?_, ?_, ?_⟩
        · intro p hm
          rcases List.mem_cons.1 hm with rfl | hm
          · exact hp
          · exact i1 p hm
        · rw [List.length_cons]; omega
        · rw [List.map_cons, wsum]
          show (wriL t).length + _ ≤ _
          omega
theorem tail_len (ts : List Tok) : (tailL ts).length = wsum ts + ts.length := by
  induction ts with
  | nil => rfl
  | cons t ts ih => rw [tailL, List.length_cons, List.length_append, ih, wsum, List.length_cons]; omega
theorem join_len (ts : List Tok) : (joinL ts).length ≤ wsum ts + ts.length := by
  cases ts with
  | nil => exact Nat.zero_le _
  | cons t ts => rw [joinL, List.length_append, tail_len, wsum, List.length_cons]; omega
/-- What is read, written, is read the same. -/
theorem lex_twice (l : List UInt8) : (∀ t ∈ toksL l, posL t = true) ∧ (toksL l).length ≤ l.length ∧ (joinL (toksL l)).length ≤ 2 * l.length := by
  obtain ⟨h1, h2, h3⟩ := lex_read (l.length + 1) l
  have e : (toksL l).length = (mostF (l.length + 1) l).1.length := by unfold toksL lexM; rw [List.length_map]
  have h4 : wsum (toksL l) ≤ l.length := h3
  have := join_len (toksL l)
  refine ⟨?_, by omega, by omega⟩
  intro t ht
  obtain ⟨p, hp, rfl⟩ := List.mem_map.1 ht
  exact h1 p hp
end Go.Proofs.YtfjeljehodbbmaaDoor
