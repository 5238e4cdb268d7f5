/- What is cut off at a fault has no fault; what is added behind a line feed leaves it. No program stands here. -/
import Derived.Test.YtfjeljehodbbmaaDoorLx5
namespace Go.Proofs.YtfjeljehodbbmaaDoor

theorem skip_ext {z : List UInt8} (hz : z.head? ≠ some 45) : ∀ (l : List UInt8) (m : Bool), skipM m l ≠ [] → skipM m (l ++ z) = skipM m l ++ z := by
  intro l
  induction l with
  | nil => intro m h; exact absurd (by cases m <;> rfl) h
  | cons c r ih =>
    intro m h
    cases m
    · rw [List.cons_append, skipM, skipM] at *
      split
      · rename_i hb
        rw [if_pos hb] at h
        exact ih false h
      · rename_i hb
        rw [if_neg hb] at h
        by_cases hc : c = 45 ∧ r.head? = some 45
        · rw [if_pos hc] at h
          have hc' : c = 45 ∧ (r ++ z).head? = some 45 := by
            refine ⟨hc.1, ?_⟩
            cases r with
            | nil => cases hc.2
            | cons a r => exact hc.2
          rw [if_pos hc, if_pos hc']
          exact ih true h
        · have hc' : ¬ (c = 45 ∧ (r ++ z).head? = some 45) := by
            rintro ⟨h1, h2⟩
            cases r with
            | nil => exact hz h2
            | cons a r => exact hc ⟨h1, h2⟩
          rw [if_neg hc, if_neg hc']
          rfl
    · rw [List.cons_append, skipM, skipM] at *
      split
      · rename_i hb
        rw [if_pos hb] at h
        exact ih false h
      · rename_i hb
        rw [if_neg hb] at h
        exact ih true h
theorem tw_ext {p : UInt8 → Bool} (hp : p 10 = false) (l m : List UInt8) : (l ++ 10 :: m).takeWhile p = l.takeWhile p ∧ (l ++ 10 :: m).dropWhile p = l.dropWhile p ++ 10 :: m := by
  induction l with
  | nil => rw [List.nil_append, List.takeWhile_cons, List.dropWhile_cons, hp]; exact ⟨rfl, rfl⟩
  | cons a l ih =>
    rw [List.cons_append, List.takeWhile_cons, List.dropWhile_cons, List.takeWhile_cons, List.dropWhile_cons, ih.1, ih.2]
    split
    · exact ⟨rfl, rfl⟩
    · exact ⟨rfl, rfl⟩
theorem quo_ext {p : UInt8 → Bool} (hp : p 10 = false) (least most : Nat) (d m : List UInt8) : quoL p least most (d ++ 10 :: m) = quoL p least most d := by
  unfold quoL
  rw [(tw_ext hp d m).1, (tw_ext hp d m).2]
  cases hd : d.dropWhile p with
  | nil =>
    rw [if_neg (fun h => by have := h.2.2; simp at this), if_neg (fun h => by have := h.2.2; simp at this)]
  | cons a z => rfl
theorem prefix_ext (m : List UInt8) : ∀ (x y : List UInt8), 10 ∉ x → x.isPrefixOf (y ++ 10 :: m) = x.isPrefixOf y := by
  intro x
  induction x with
  | nil => intro y _; simp
  | cons a x ih =>
    intro y hx
    have ha : a ≠ 10 := fun e => hx (by rw [e]; exact List.mem_cons_self ..)
    cases y with
    | nil =>
      show (a == 10 && x.isPrefixOf m) = false
      rw [show (a == 10) = false by simpa using ha]; rfl
    | cons b y =>
      rw [List.cons_append, List.isPrefixOf, List.isPrefixOf, ih y fun h => hx (List.mem_cons_of_mem _ h)]
theorem find_congr {p q : List UInt8 → Bool} : ∀ l : List (List UInt8), (∀ x ∈ l, p x = q x) → l.find? p = l.find? q := by
  intro l
  induction l with
  | nil => intro _; rfl
  | cons a l ih =>
    intro h
    rw [List.find?_cons, List.find?_cons, h a (List.mem_cons_self ..), ih fun x hx => h x (List.mem_cons_of_mem _ hx)]
theorem tok_ext {x : List UInt8} (hx : x ≠ []) (m : List UInt8) : tokL (x ++ 10 :: m) = tokL x := by
  cases x with
  | nil => exact absurd rfl hx
  | cons c r =>
    have hh : (r ++ 10 :: m).head? = some 34 ↔ r.head? = some 34 := by cases r <;> simp
    rw [List.cons_append, tokL, tokL]
    by_cases h1 : c = 98 ∧ r.head? = some 34
    · have h1' : c = 98 ∧ (r ++ 10 :: m).head? = some 34 := ⟨h1.1, hh.2 h1.2⟩
      rw [if_pos h1, if_pos h1']
      cases r with
      | nil => cases h1.2
      | cons a d => rw [List.cons_append, List.tail_cons, List.tail_cons, quo_ext (by decide)]
    · have h1' : ¬ (c = 98 ∧ (r ++ 10 :: m).head? = some 34) := fun h => h1 ⟨h.1, hh.1 h.2⟩
      have e1 := (tw_ext (p := innB) (by decide) (c :: r) m).1
      have e2 := (tw_ext (p := digB) (by decide) (c :: r) m).1
      rw [List.cons_append] at e1 e2
      rw [if_neg h1, if_neg h1', e1, e2, quo_ext (p := plnB) (by decide)]
      have e3 : bitTok (r ++ 10 :: m) = bitTok r := by
        match r with
        | [] =>
          cases m with
          | nil => rfl
          | cons b m => show bitTok (10 :: b :: m) = none; rw [bitTok, if_neg (fun h => by have := h.1; exact absurd this (by decide))]
        | [a] => show bitTok (a :: 10 :: m) = none; rw [bitTok, if_neg (fun h => by have := h.2; exact absurd this (by decide))]
        | a :: b :: z => rfl
      have e4 : (signsL.find? fun x => x.isPrefixOf (c :: (r ++ 10 :: m))) = signsL.find? fun x => x.isPrefixOf (c :: r) := by
        apply find_congr
        intro x hx
        have hn : ∀ x ∈ signsL, (10 : UInt8) ∉ x := by decide
        exact prefix_ext m x (c :: r) (hn x hx)
      rw [e3, e4]
/-- A fault stays, with anything behind a line feed at the end. -/
theorem lex_stays (f : Nat) (m : List UInt8) : ∀ l : List UInt8, l.length < f → ∀ r, (lexM l).2 = some r → (lexM (l ++ 10 :: m)).2 = some (r + (10 :: m).length) := by
  induction f with
  | zero => intro l h; omega
  | succ f ih =>
    intro l hf r hr
    by_cases hs : skipL l = []
    · rw [lex_end hs] at hr; cases hr
    · have hse : skipL (l ++ 10 :: m) = skipL l ++ 10 :: m := skip_ext (by simp) l false hs
      have hte := tok_ext hs m
      cases ht : tokL (skipL l) with
      | none =>
        rw [lex_none hs ht] at hr
        injection hr with hr
        subst hr
        rw [lex_none (by rw [hse]; simp) (by rw [hse, hte]; exact ht), hse, List.length_append]
      | some q =>
        obtain ⟨t, n⟩ := q
        obtain ⟨_, h1, h2, _⟩ := tok_facts ht
        have hl : (skipL l).length ≤ l.length := skip_len false l
        rw [lex_some ht] at hr
        rw [lex_some (l := l ++ 10 :: m) (t := t) (n := n) (by rw [hse, hte]; exact ht), hse, List.drop_append_of_le_length h2]
        exact ih _ (by rw [List.length_drop]; omega) r hr

theorem skip_cut {v : List UInt8} (hv : v ≠ []) : ∀ (u : List UInt8) (m : Bool) (x : List UInt8), skipM m (u ++ v) = x ++ v → skipM m u = x := by
  have hlen : 1 ≤ v.length := by cases v with
    | nil => exact absurd rfl hv
    | cons _ _ => simp
  have htrue : ∀ x, skipM true v = x ++ v → False := by
    intro x h
    cases v with
    | nil => exact hv rfl
    | cons c r =>
      have h1 : (skipM true (c :: r)).length ≤ r.length := by
        rw [skipM]
        split
        · exact skip_len _ _
        · exact skip_len _ _
      rw [h, List.length_append, List.length_cons] at h1
      omega
  intro u
  induction u with
  | nil =>
    intro m x h
    rw [List.nil_append] at h
    have h1 := skip_len m v
    rw [h, List.length_append] at h1
    have hx : x = [] := List.eq_nil_of_length_eq_zero (by omega)
    rw [hx]
    cases m <;> rfl
  | cons c u ih =>
    intro m x h
    cases m
    · rw [List.cons_append, skipM] at h
      rw [skipM]
      split at h
      · rename_i hb
        rw [if_pos hb]
        exact ih false x h
      · rename_i hb
        rw [if_neg hb]
        by_cases hc : c = 45 ∧ (u ++ v).head? = some 45
        · rw [if_pos hc] at h
          cases u with
          | nil => exact (htrue x h).elim
          | cons a u =>
            have hc' : c = 45 ∧ (a :: u).head? = some 45 := hc
            rw [if_pos hc']
            exact ih true x h
        · rw [if_neg hc] at h
          have hc' : ¬ (c = 45 ∧ u.head? = some 45) := by
            rintro ⟨h1, h2⟩
            cases u with
            | nil => cases h2
            | cons a u => exact hc ⟨h1, h2⟩
          rw [if_neg hc']
          rw [← List.cons_append] at h
          exact List.append_cancel_right h
    · rw [List.cons_append, skipM] at h
      rw [skipM]
      split at h
      · rename_i hb
        rw [if_pos hb]
        exact ih false x h
      · rename_i hb
        rw [if_neg hb]
        exact ih true x h
theorem tw_cut {p : UInt8 → Bool} {u v : List UInt8} (h : ((u ++ v).takeWhile p).length ≤ u.length) : u.takeWhile p = (u ++ v).takeWhile p := by
  induction u with
  | nil =>
    have : (([] : List UInt8) ++ v).takeWhile p = [] := List.eq_nil_of_length_eq_zero (by simpa using h)
    rw [this]; rfl
  | cons c u ih =>
    rw [List.cons_append, List.takeWhile_cons] at h ⊢
    rw [List.takeWhile_cons]
    split
    · rename_i hc
      rw [if_pos hc, List.length_cons, List.length_cons] at h
      rw [ih (by omega)]
    · rfl
theorem quo_cut {p : UInt8 → Bool} (hp : p 34 = false) {least most : Nat} {d v q : List UInt8} (h : quoL p least most (d ++ v) = some q) (hl : q.length + 1 ≤ d.length) : quoL p least most d = some q := by
  obtain ⟨ha, h1, h2, z, hz⟩ := quo_facts h
  have hd : d = q ++ 34 :: z.take (d.length - q.length - 1) := by
    have e := congrArg (List.take d.length) hz
    rw [List.take_left' rfl, List.take_append] at e
    rw [List.take_of_length_le (by omega)] at e
    rw [show d.length - q.length = (d.length - q.length - 1) + 1 by omega, List.take_succ_cons] at e
    exact e
  rw [hd]
  exact quo_at ha hp h1 h2
theorem find_cut {p q : List UInt8 → Bool} {x : List UInt8} : ∀ l : List (List UInt8), (∀ y, q y = true → p y = true) → q x = true → l.find? p = some x → l.find? q = some x := by
  intro l
  induction l with
  | nil => intro _ _ h; cases h
  | cons a l ih =>
    intro hpq hx h
    rw [List.find?_cons] at h ⊢
    cases ha : p a with
    | true =>
      rw [ha] at h
      injection h with h
      subst h
      rw [hx]
    | false =>
      rw [ha] at h
      have : q a = false := by
        cases hq : q a with
        | false => rfl
        | true => rw [hpq a hq] at ha; cases ha
      rw [this]
      exact ih hpq hx h
theorem tok_cut {u v : List UInt8} {t : Tok} {n : Nat} (h : tokL (u ++ v) = some (t, n)) (hn : n ≤ u.length) : tokL u = some (t, n) := by
  have h1 := (tok_facts h).2.1
  cases u with
  | nil => rw [List.length_nil] at hn; omega
  | cons c r =>
    rw [List.cons_append, tokL] at h
    rw [tokL]
    rw [List.length_cons] at hn
    have hh : r.head? = some 34 → (r ++ v).head? = some 34 := by cases r <;> simp
    by_cases hb : c = 98 ∧ (r ++ v).head? = some 34
    · rw [if_pos hb] at h
      obtain ⟨q, hq, he⟩ := Option.map_eq_some_iff.1 h
      injection he with e1 e2
      subst e1 e2
      cases r with
      | nil => simp at hn
      | cons a d =>
        have hb' : c = 98 ∧ (a :: d).head? = some 34 := hb
        rw [List.cons_append, List.tail_cons] at hq
        rw [List.length_cons] at hn
        rw [if_pos hb', List.tail_cons, quo_cut (by decide) hq (by omega)]
        rfl
    · rw [if_neg hb] at h
      rw [if_neg (fun e => hb ⟨e.1, hh e.2⟩)]
      split at h
      · rename_i hc
        rw [if_pos hc]
        have key : ∀ k, k = ((c :: (r ++ v)).takeWhile innB).length → k ≤ r.length + 1 → (c :: r).takeWhile innB = (c :: (r ++ v)).takeWhile innB := by
          intro k hk hle
          exact tw_cut (u := c :: r) (v := v) (by rw [List.cons_append, ← hk, List.length_cons]; exact hle)
        split at h
        · rename_i hw
          injection h with h
          injection h with e1 e2
          rw [key n e2.symm hn, if_pos hw, e1, e2]
        · rename_i hw
          split at h
          · rename_i h40
            injection h with h
            injection h with e1 e2
            rw [key n e2.symm hn, if_neg hw, if_pos h40, e1, e2]
          · cases h
      · rename_i hc
        rw [if_neg hc]
        split at h
        · rename_i hd
          rw [if_pos hd]
          split at h
          · rename_i hv
            injection h with h
            injection h with e1 e2
            have k1 : (c :: r).takeWhile digB = (c :: (r ++ v)).takeWhile digB := tw_cut (u := c :: r) (v := v) (by rw [List.cons_append, e2, List.length_cons]; exact hn)
            have k2 : (c :: r).takeWhile innB = (c :: (r ++ v)).takeWhile innB := tw_cut (u := c :: r) (v := v) (by rw [List.cons_append, hv.2, e2, List.length_cons]; exact hn)
            rw [k1, k2, if_pos hv, e1, e2]
          · cases h
        · rename_i hd
          rw [if_neg hd]
          split at h
          · rename_i hq
            rw [if_pos hq]
            match r, h, hn with
            | a :: b :: z, h, _ => exact h
            | [], h, hn =>
              have : n = 3 := by
                rw [List.nil_append] at h
                match v, h with
                | a :: b :: z, h =>
                  rw [bitTok] at h
                  split at h
                  · injection h with h; injection h with _ e2; exact e2.symm
                  · cases h
                | [], h => cases h
                | [_], h => cases h
              subst this
              simp at hn
            | [a], h, hn =>
              have : n = 3 := by
                match v, h with
                | b :: z, h =>
                  show n = 3
                  rw [List.cons_append, List.nil_append, bitTok] at h
                  split at h
                  · injection h with h; injection h with _ e2; exact e2.symm
                  · cases h
                | [], h => cases h
              subst this
              simp at hn
          · rename_i hq
            rw [if_neg hq]
            split at h
            · rename_i ht
              rw [if_pos ht]
              obtain ⟨q, hq', he⟩ := Option.map_eq_some_iff.1 h
              injection he with e1 e2
              subst e1 e2
              rw [quo_cut (by decide) hq' (by omega)]
              rfl
            · rename_i ht
              rw [if_neg ht]
              obtain ⟨x, hx, he⟩ := Option.map_eq_some_iff.1 h
              injection he with e1 e2
              subst e1 e2
              have hp : x.isPrefixOf (c :: (r ++ v)) = true := by have := List.find?_some hx; simpa using this
              have hpre : ∀ y : List UInt8, y.isPrefixOf (c :: r) = true → y.isPrefixOf (c :: (r ++ v)) = true := by
                intro y hy
                obtain ⟨z, hz⟩ := List.isPrefixOf_iff_prefix.1 hy
                exact List.isPrefixOf_iff_prefix.2 ⟨z ++ v, by rw [← List.append_assoc, hz]; rfl⟩
              have hx' : x.isPrefixOf (c :: r) = true := by
                obtain ⟨z, hz⟩ := List.isPrefixOf_iff_prefix.1 hp
                apply List.isPrefixOf_iff_prefix.2
                have e := congrArg (List.take (c :: r).length) hz
                rw [show c :: (r ++ v) = (c :: r) ++ v from rfl, List.take_left' rfl, List.take_append, List.take_of_length_le (by rw [List.length_cons]; exact hn)] at e
                exact ⟨_, e⟩
              rw [find_cut signsL hpre hx' hx]
              rfl
/-- What is cut off at a fault has tokens alone. -/
theorem lex_cut (f : Nat) {v : List UInt8} (hv : v ≠ []) : ∀ u : List UInt8, u.length < f → (lexM (u ++ v)).2 = some v.length → (lexM u).2 = none := by
  induction f with
  | zero => intro u h; omega
  | succ f ih =>
    intro u hf hr
    obtain ⟨p, hp⟩ := skip_suffix false (u ++ v)
    by_cases hs : skipL (u ++ v) = []
    · rw [lex_end hs] at hr; cases hr
    · cases ht : tokL (skipL (u ++ v)) with
      | none =>
        rw [lex_none hs ht] at hr
        injection hr with hr
        have hx : skipL (u ++ v) = [] ++ v := by
          have e := congrArg (List.drop ((u ++ v).length - v.length)) hp
          have h1 := (end_of (s := u ++ v) (p := u) (x := v) rfl).1
          have h2 := (end_of (s := u ++ v) (p := p) (x := skipL (u ++ v)) hp).1
          rw [hr, h1] at h2
          exact h2.symm
        have := skip_cut hv u false [] hx
        rw [lex_end this]
      | some q =>
        obtain ⟨t, n⟩ := q
        obtain ⟨_, h1, h2, _⟩ := tok_facts ht
        rw [lex_some ht] at hr
        have hlen : v.length ≤ ((skipL (u ++ v)).drop n).length := ((lex_places _).2.2 _ hr).1
        rw [List.length_drop] at hlen
        obtain ⟨x, hx⟩ : ∃ x, skipL (u ++ v) = x ++ v := by
          refine ⟨(skipL (u ++ v)).take ((skipL (u ++ v)).length - v.length), ?_⟩
          have e1 := (end_of (s := u ++ v) (p := u) (x := v) rfl).1
          have e3 : (skipL (u ++ v)).drop ((skipL (u ++ v)).length - v.length) = v := by
            have e2 := congrArg (List.drop ((u ++ v).length - v.length)) hp
            rw [e1] at e2
            have hpl : (u ++ v).length = p.length + (skipL (u ++ v)).length := (congrArg List.length hp).trans List.length_append
            have hsp : skipM false (u ++ v) = skipL (u ++ v) := rfl
            rw [hsp, List.drop_append, List.drop_of_length_le (by omega), List.nil_append, show (u ++ v).length - v.length - p.length = (skipL (u ++ v)).length - v.length by omega] at e2
            exact e2.symm
          have := List.take_append_drop ((skipL (u ++ v)).length - v.length) (skipL (u ++ v))
          rw [e3] at this
          exact this.symm
        have hsu : skipL u = x := skip_cut hv u false x hx
        rw [hx] at ht hr hlen h2
        rw [List.length_append] at hlen h2
        have htx := tok_cut ht (by omega)
        have hxl : x.length ≤ u.length := by rw [← hsu]; exact skip_len false u
        have hv1 : 1 ≤ v.length := by cases v with
          | nil => exact absurd rfl hv
          | cons _ _ => simp
        rw [lex_some (l := u) (t := t) (n := n) (by rw [hsu]; exact htx), hsu]
        rw [List.drop_append_of_le_length (by omega)] at hr
        exact ih (x.drop n) (by rw [List.length_drop]; omega) hr
end Go.Proofs.YtfjeljehodbbmaaDoor
