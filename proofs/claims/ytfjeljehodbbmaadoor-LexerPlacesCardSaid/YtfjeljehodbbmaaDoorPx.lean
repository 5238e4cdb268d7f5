/- The program's own ways to cut a string at a byte, to find a sign, a number, a gap, as functions of lists of bytes, and that they say what the document says. No program stands here. -/
import Derived.Test.YtfjeljehodbbmaaDoorLx5
import Derived.Lib.IndexLaws
import Derived.Lib.AtoiAllCases
import Derived.Lib.ItoaNum
namespace Go.Proofs.YtfjeljehodbbmaaDoor

/-- What stands before the first byte c (all, if there is none). -/
def befL (c : UInt8) (l : List UInt8) : List UInt8 := l.takeWhile fun x => decide (x ≠ c)
theorem bef_split {c : UInt8} {l : List UInt8} (h : c ∈ l) : ∃ z, l = befL c l ++ c :: z := by
  unfold befL
  induction l with
  | nil => cases h
  | cons a r ih =>
    by_cases ha : a = c
    · subst ha
      exact ⟨r, by simp⟩
    · have hr : c ∈ r := by
        rcases List.mem_cons.1 h with h | h
        · exact absurd h.symm ha
        · exact h
      obtain ⟨z, hz⟩ := ih hr
      refine ⟨z, ?_⟩
      rw [List.takeWhile_cons, if_pos (by simpa using ha), List.cons_append, ← hz]
theorem bef_none {c : UInt8} {l : List UInt8} (h : ¬ c ∈ l) : befL c l = l := by
  unfold befL
  induction l with
  | nil => rfl
  | cons a r ih =>
    rw [List.takeWhile_cons, if_pos (by
      simp only [List.mem_cons, not_or] at h
      simpa using fun e => h.1 e.symm), ih (fun h' => h (List.mem_cons_of_mem _ h'))]
theorem bef_not {c : UInt8} (l : List UInt8) : ¬ c ∈ befL c l := by
  unfold befL
  intro h
  have := List.all_eq_true.1 (tw_all (fun x => decide (x ≠ c)) l) c h
  simp at this
theorem idx_in {c : UInt8} {l : List UInt8} (h : c ∈ l) : Lib.indexByte l c = ((befL c l).length : Int) := by
  obtain ⟨z, hz⟩ := bef_split h
  have hg : l[(befL c l).length]? = some c := by
    have : (befL c l ++ c :: z)[(befL c l).length]? = some c := by simp
    rwa [← hz] at this
  have hge := Lib.indexByte_ge l c
  by_cases hn : Lib.indexByte l c = -1
  · exact absurd hg (Lib.indexByte_none hn (befL c l).length)
  · obtain ⟨o, ho⟩ : ∃ o : Nat, Lib.indexByte l c = o := ⟨(Lib.indexByte l c).toNat, by omega⟩
    obtain ⟨h1, h2⟩ := Lib.indexByte_some ho
    rw [ho]
    congr 1
    rcases Nat.lt_trichotomy o (befL c l).length with hlt | he | hgt
    · exfalso
      have : (befL c l)[o]? = some c := by
        have h3 : (befL c l ++ c :: z)[o]? = some c := by rw [← hz]; exact h1
        rwa [List.getElem?_append_left hlt] at h3
      exact bef_not l (List.mem_of_getElem? this)
    · exact he
    · exact absurd hg (h2 _ hgt)
theorem idx_out {c : UInt8} {l : List UInt8} (h : ¬ c ∈ l) : Lib.indexByte l c = -1 := by
  have hge := Lib.indexByte_ge l c
  by_cases hn : Lib.indexByte l c = -1
  · exact hn
  · obtain ⟨o, ho⟩ : ∃ o : Nat, Lib.indexByte l c = o := ⟨(Lib.indexByte l c).toNat, by omega⟩
    exact absurd (List.mem_of_getElem? (Lib.indexByte_some ho).1) h

theorem tw_stop' {p : UInt8 → Bool} {q : List UInt8} {x : UInt8} {z : List UInt8} (hq : q.all p = true) (hx : p x = false) : (q ++ x :: z).takeWhile p = q ∧ (q ++ x :: z).dropWhile p = x :: z :=
  tw_stop hq (fun c hc => by injection hc with hc; rw [← hc]; exact hx)
/-- What stands between two double quotes, as the program finds it. -/
theorem quo_bef {p : UInt8 → Bool} {a b : Nat} (hp : p 34 = false) (d : List UInt8) :
    quoL p a b d = if 34 ∈ d ∧ ((befL 34 d).all p = true ∧ a ≤ (befL 34 d).length ∧ (befL 34 d).length ≤ b) then some (befL 34 d) else none := by
  by_cases h : 34 ∈ d ∧ ((befL 34 d).all p = true ∧ a ≤ (befL 34 d).length ∧ (befL 34 d).length ≤ b)
  · rw [if_pos h]
    obtain ⟨z, hz⟩ := bef_split h.1
    obtain ⟨h1, h2⟩ := tw_stop' (z := z) h.2.1 hp
    rw [← hz] at h1 h2
    unfold quoL
    rw [h1, h2, if_pos ⟨h.2.2.1, h.2.2.2, rfl⟩]
  · rw [if_neg h]
    cases hq : quoL p a b d with
    | none => rfl
    | some q =>
      exfalso
      obtain ⟨h1, h2, h3, z, hz⟩ := quo_facts hq
      have hn : ∀ x ∈ q, decide (x ≠ (34 : UInt8)) = true := by
        intro x hx
        rw [decide_eq_true_eq]
        rintro rfl
        have := List.all_eq_true.1 h1 _ hx
        rw [hp] at this
        cases this
      have hb : befL 34 d = q := by
        unfold befL
        rw [hz]
        exact (tw_stop' (List.all_eq_true.2 hn) (by decide)).1
      exact h ⟨by rw [hz]; simp, by rw [hb]; exact ⟨h1, h2, h3⟩⟩
theorem bit_cut (r : List UInt8) : bitTok r = if 39 ∈ r ∧ ((befL 39 r).length = 1 ∧ (befL 39 r).all bitB = true) then some (⟨4, befL 39 r, 0⟩, 3) else none := by
  by_cases h : 39 ∈ r ∧ ((befL 39 r).length = 1 ∧ (befL 39 r).all bitB = true)
  · rw [if_pos h]
    obtain ⟨z, hz⟩ := bef_split h.1
    obtain ⟨_, h1, h2⟩ := h
    generalize befL 39 r = q at *
    match q, h1, h2 with
    | [a], _, h2 =>
      subst hz
      show (if bitB a = true ∧ (39 : UInt8) = 39 then _ else _) = _
      rw [if_pos ⟨by simpa using h2, rfl⟩]
  · rw [if_neg h]
    cases hq : bitTok r with
    | none => rfl
    | some t =>
      exfalso
      match r, hq with
      | [], hq => cases hq
      | [_], hq => cases hq
      | a :: b :: z, hq =>
        by_cases hc : bitB a = true ∧ b = 39
        · obtain ⟨ha, rfl⟩ := hc
          have hne : a ≠ 39 := by
            rintro rfl
            exact absurd ha (by decide)
          have hb : befL 39 (a :: 39 :: z) = [a] := by
            unfold befL
            rw [List.takeWhile_cons, if_pos (by simpa using hne), List.takeWhile_cons, if_neg (by simp)]
          exact h ⟨by simp, by rw [hb]; exact ⟨rfl, by simpa using ha⟩⟩
        · have : (if bitB a = true ∧ b = 39 then some ((⟨4, [a], 0⟩ : Tok), 3) else none) = some t := hq
          rw [if_neg hc] at this
          cases this
/-- How many bytes the longest sign has. -/
def twoL : List (List UInt8) := [[58, 61], [60, 61], [61, 62], [62, 61], [47, 61]]
def oneL : List UInt8 := [61, 60, 62, 43, 45, 42, 47, 38, 40, 41, 58, 59, 44]
def sgnL (l : List UInt8) : Nat := if twoL.contains (l.take 2) then 2 else if oneL.contains (l.headD 0) then 1 else 0
theorem heads (x : List UInt8) (h : x ∈ signsL ∨ x ∈ twoL) : ∃ k y, x = k :: y ∧ k ∈ oneL := by
  have hd : ∀ x, x ∈ signsL ++ twoL → x ≠ [] ∧ x.headD 0 ∈ oneL := by decide
  obtain ⟨h1, h2⟩ := hd x (List.mem_append.2 h)
  cases x with
  | nil => exact absurd rfl h1
  | cons k y => exact ⟨k, y, rfl, h2⟩
theorem sgn_find {c : UInt8} {r : List UInt8} : (signsL.find? fun x => x.isPrefixOf (c :: r)) = if sgnL (c :: r) = 0 then none else some ((c :: r).take (sgnL (c :: r))) := by
  have hone : ∀ x : UInt8, oneL.contains x = true ∨ oneL.contains x = false := fun x => by cases oneL.contains x <;> simp
  have hall : ∀ c : UInt8, (∃ k ∈ oneL, c = k) ∨ oneL.contains c = false := by
    intro c
    rcases hone c with h | h
    · left; exact ⟨c, List.contains_iff_mem.1 h, rfl⟩
    · right; exact h
  rcases hall c with ⟨k, hk, rfl⟩ | h
  · cases r with
    | nil =>
      revert c
      decide
    | cons d z =>
      have hd : d = 61 ∨ d = 62 ∨ (d ≠ 61 ∧ d ≠ 62) := by
        by_cases h1 : d = 61
        · exact .inl h1
        · by_cases h2 : d = 62
          · exact .inr (.inl h2)
          · exact .inr (.inr ⟨h1, h2⟩)
      have e0 : ∀ (a b x y : UInt8) (z : List UInt8), [a, b].isPrefixOf (x :: y :: z) = (a == x && b == y) := by intros; simp [List.isPrefixOf]
      have e1 : ∀ (a x : UInt8) (z : List UInt8), [a].isPrefixOf (x :: z) = (a == x) := by intros; simp [List.isPrefixOf]
      simp only [oneL, List.mem_cons, List.not_mem_nil, or_false] at hk
      rcases hd with rfl | rfl | ⟨h1, h2⟩
      · rcases hk with rfl | rfl | rfl | rfl | rfl | rfl | rfl | rfl | rfl | rfl | rfl | rfl | rfl <;>
          simp [signsL, sgnL, twoL, oneL, List.find?, e0, e1]
      · rcases hk with rfl | rfl | rfl | rfl | rfl | rfl | rfl | rfl | rfl | rfl | rfl | rfl | rfl <;>
          simp [signsL, sgnL, twoL, oneL, List.find?, e0, e1]
      · have g1 : ((61 : UInt8) == d) = false := by rw [beq_eq_false_iff_ne]; exact Ne.symm h1
        have g2 : ((62 : UInt8) == d) = false := by rw [beq_eq_false_iff_ne]; exact Ne.symm h2
        rcases hk with rfl | rfl | rfl | rfl | rfl | rfl | rfl | rfl | rfl | rfl | rfl | rfl | rfl <;>
          simp [signsL, sgnL, twoL, oneL, List.find?, e0, e1, g1, g2, h1, h2]
  · have hne : ∀ k ∈ oneL, (k == c) = false := by
      intro k hk
      rw [beq_eq_false_iff_ne]
      rintro rfl
      rw [List.contains_iff_mem.2 hk] at h
      cases h
    have hs : ∀ x ∈ signsL, x.isPrefixOf (c :: r) = false := by
      intro x hx
      obtain ⟨k, y, rfl, hk⟩ := heads x (.inl hx)
      rw [List.isPrefixOf, hne k hk]; rfl
    have h0 : sgnL (c :: r) = 0 := by
      unfold sgnL
      have ht : twoL.contains ((c :: r).take 2) = false := by
        cases hc : twoL.contains ((c :: r).take 2) with
        | false => rfl
        | true =>
          have hm := List.contains_iff_mem.1 hc
          obtain ⟨k, y, he, hk⟩ := heads _ (.inr hm)
          rw [List.take_succ_cons] at he
          injection he with he
          subst he
          rw [List.contains_iff_mem.2 hk] at h
          cases h
      rw [ht, if_neg (by decide), if_neg (by rw [List.headD_cons, h]; decide)]
    rw [h0, if_pos rfl, List.find?_eq_none]
    intro x hx
    rw [hs x hx]
    decide
end Go.Proofs.YtfjeljehodbbmaaDoor
