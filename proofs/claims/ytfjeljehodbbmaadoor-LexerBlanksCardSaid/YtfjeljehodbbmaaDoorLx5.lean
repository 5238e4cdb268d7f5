/- Places: lines and columns of the bytes of a list, and of the tokens that are read. No program stands here. -/
import Derived.Test.YtfjeljehodbbmaaDoorLx4
namespace Go.Proofs.YtfjeljehodbbmaaDoor

/-- The line and the column of what stands behind these bytes. -/
def placeL (p : List UInt8) : Nat × Nat := p.foldl (fun a c => if c = 10 then (a.1 + 1, 1) else (a.1, a.2 + 1)) (1, 1)
theorem place_snoc (p : List UInt8) (c : UInt8) : placeL (p ++ [c]) = if c = 10 then ((placeL p).1 + 1, 1) else ((placeL p).1, (placeL p).2 + 1) := by unfold placeL; rw [List.foldl_append]; rfl
/-- Where lines begin. -/
def startsF : Nat → List UInt8 → List Nat
  | _, [] => []
  | k, c :: r => if c = 10 then (k + 1) :: startsF (k + 1) r else startsF (k + 1) r
def startsL (p : List UInt8) : List Nat := 0 :: startsF 0 p
theorem startsF_append (k : Nat) (p q : List UInt8) : startsF k (p ++ q) = startsF k p ++ startsF (k + p.length) q := by
  induction p generalizing k with
  | nil => rfl
  | cons c r ih =>
    rw [List.cons_append, startsF, startsF, ih (k + 1), List.length_cons, show k + 1 + r.length = k + (r.length + 1) by omega]
    split <;> rfl
theorem starts_snoc (p : List UInt8) (c : UInt8) : startsL (p ++ [c]) = if c = 10 then startsL p ++ [p.length + 1] else startsL p := by
  unfold startsL
  rw [startsF_append, startsF]
  split
  · rw [startsF, Nat.zero_add]; rfl
  · rw [startsF, List.append_nil]
theorem starts_append (p q : List UInt8) : ∃ r, startsL (p ++ q) = startsL p ++ r := ⟨startsF (0 + p.length) q, by unfold startsL; rw [startsF_append]; rfl⟩
/-- A place is where its line begins, and its column. -/
theorem place_at (p : List UInt8) : (placeL p).1 = (startsL p).length ∧ 1 ≤ (placeL p).2 ∧ ∃ r k, startsL p = r ++ [k] ∧ k + (placeL p).2 = p.length + 1 := by
  have key : ∀ n (p : List UInt8), p.length = n → (placeL p).1 = (startsL p).length ∧ 1 ≤ (placeL p).2 ∧ ∃ r k, startsL p = r ++ [k] ∧ k + (placeL p).2 = p.length + 1 := by
    intro n
    induction n with
    | zero =>
      intro p hp
      have : p = [] := List.eq_nil_of_length_eq_zero hp
      subst this
      exact ⟨rfl, Nat.le_refl _, [], 0, rfl, rfl⟩
    | succ n ih =>
      intro p hp
      obtain ⟨q, c, rfl⟩ : ∃ q c, p = q ++ [c] := by
        have hne : p ≠ [] := by rintro rfl; cases hp
        exact ⟨p.dropLast, p.getLast hne, (List.dropLast_concat_getLast hne).symm⟩
      rw [List.length_append, List.length_singleton] at hp
      obtain ⟨h1, h2, r, k, h3, h4⟩ := ih q (by omega)
      rw [place_snoc, starts_snoc]
      split
      · refine ⟨?_, Nat.le_refl _, startsL q, q.length + 1, rfl, ?_⟩
        · show (placeL q).1 + 1 = _
          rw [List.length_append, h1]; rfl
        · simp
      · refine ⟨h1, ?_, r, k, h3, ?_⟩
        · show 1 ≤ (placeL q).2 + 1
          omega
        · show k + ((placeL q).2 + 1) = _
          rw [List.length_append, List.length_singleton]; omega
  exact key p.length p rfl
theorem place_starts {s p q : List UInt8} (h : s = p ++ q) : 1 ≤ (placeL p).1 ∧ (placeL p).1 ≤ (startsL s).length ∧ 1 ≤ (placeL p).2 ∧ (placeL p).2 ≤ p.length + 1 ∧ (startsL s).getD ((placeL p).1 - 1) 0 + (placeL p).2 = p.length + 1 := by
  subst h
  obtain ⟨h1, h2, r, k, h3, h4⟩ := place_at p
  obtain ⟨r', h5⟩ := starts_append p q
  rw [h3] at h1 h5
  rw [List.length_append, List.length_singleton] at h1
  refine ⟨by omega, ?_, h2, by omega, ?_⟩
  · rw [h5, List.length_append, List.length_append, List.length_singleton]; omega
  · rw [h5, h1, show r.length + 1 - 1 = r.length by omega, List.append_assoc, List.getD_eq_getElem?_getD, List.getElem?_append_right (Nat.le_refl _), Nat.sub_self]
    exact h4
/-- Two places of one list are the same only if they stand at one byte. -/
theorem place_inj {s p q p' q' : List UInt8} (h : s = p ++ q) (h' : s = p' ++ q') (he : placeL p = placeL p') : p.length = p'.length := by
  have h1 := (place_starts h).2.2.2.2
  have h2 := (place_starts h').2.2.2.2
  rw [he] at h1
  omega

/-- A list's end of so many bytes. -/
theorem end_of {s p x : List UInt8} (h : s = p ++ x) : s.drop (s.length - x.length) = x ∧ s.take (s.length - x.length) = p := by
  subst h
  rw [List.length_append, Nat.add_sub_cancel]
  exact ⟨List.drop_left' rfl, List.take_left' rfl⟩
/-- Each token that is read stands where it is said to stand; behind it are the others. -/
theorem lex_stand (f : Nat) : ∀ (s l : List UInt8), (∃ p, s = p ++ l) → (∀ a ∈ (mostF f l).1, a.2 ≤ l.length ∧ ∃ n, tokL (s.drop (s.length - a.2)) = some (a.1, n)) ∧ List.Pairwise (fun a b : Tok × Nat => b.2 < a.2) (mostF f l).1
    ∧ (∀ r, (mostF f l).2 = some r → r ≤ l.length ∧ 1 ≤ r ∧ tokL (s.drop (s.length - r)) = none ∧ ∀ a ∈ (mostF f l).1, r < a.2) := by
  induction f with
  | zero => intro s l _; exact ⟨(fun a h => by cases h), List.Pairwise.nil, fun r h => by cases h⟩
  | succ f ih =>
    intro s l hl
    obtain ⟨p, hp⟩ := hl
    obtain ⟨p', hp'⟩ := skip_suffix false l
    have hs : s = (p ++ p') ++ skipL l := by rw [List.append_assoc, hp, congrArg (p ++ ·) hp']; rfl
    have hle : (skipL l).length ≤ l.length := skip_len false l
    rw [mostF]
    split
    · exact ⟨(fun a h => by cases h), List.Pairwise.nil, fun r h => by cases h⟩
    · rename_i hne
      cases ht : tokL (skipL l) with
      | none =>
        refine ⟨(fun a h => by cases h), List.Pairwise.nil, fun r h => ?_⟩
        injection h with h
        subst h
        refine ⟨hle, ?_, by rw [(end_of hs).1]; exact ht, fun a h => by cases h⟩
        cases hk : skipL l with
        | nil => exact absurd hk hne
        | cons c r => simp
      | some q =>
        obtain ⟨t, n⟩ := q
        obtain ⟨_, h1, h2, _⟩ := tok_facts ht
        have hd : s = ((p ++ p') ++ (skipL l).take n) ++ (skipL l).drop n := by rw [List.append_assoc, List.take_append_drop]; exact hs
        obtain ⟨i1, i2, i3⟩ := ih s ((skipL l).drop n) ⟨_, hd⟩
        rw [List.length_drop] at i1 i3
        simp only
        refine ⟨?_, ?_, ?_⟩
        · intro a ha
          rcases List.mem_cons.1 ha with rfl | ha
          · exact ⟨hle, n, by show tokL (s.drop (s.length - (skipL l).length)) = _; rw [(end_of hs).1]; exact ht⟩
          · obtain ⟨j1, j2⟩ := i1 a ha
            exact ⟨by omega, j2⟩
        · refine List.Pairwise.cons ?_ i2
          intro a ha
          have := (i1 a ha).1
          show a.2 < (skipL l).length
          omega
        · intro r hr
          obtain ⟨j1, j2, j3, j4⟩ := i3 r hr
          refine ⟨by omega, j2, j3, ?_⟩
          intro a ha
          rcases List.mem_cons.1 ha with rfl | ha
          · show r < (skipL l).length
            omega
          · exact j4 a ha
theorem lex_places (s : List UInt8) : (∀ a ∈ (lexM s).1, a.2 ≤ s.length ∧ ∃ n, tokL (s.drop (s.length - a.2)) = some (a.1, n)) ∧ List.Pairwise (fun a b : Tok × Nat => b.2 < a.2) (lexM s).1
    ∧ (∀ r, (lexM s).2 = some r → r ≤ s.length ∧ 1 ≤ r ∧ tokL (s.drop (s.length - r)) = none ∧ ∀ a ∈ (lexM s).1, r < a.2) := lex_stand (s.length + 1) s s ⟨[], rfl⟩
end Go.Proofs.YtfjeljehodbbmaaDoor
