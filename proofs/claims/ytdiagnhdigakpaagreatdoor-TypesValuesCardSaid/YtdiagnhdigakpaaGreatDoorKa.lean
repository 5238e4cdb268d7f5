/- What the tokens of a list of bytes are. No program stands here. -/
import Derived.Test.YtdiagnhdigakpaaGreatDoorProg
import Derived.Test.YtdiagnhdigakpaaGreatDoorRows
import Derived.WalkKit
import Derived.WalkSpells
import Derived.WalkLawsBesides
import Derived.Lib.Hide
import Derived.Deep.QuietTactic
import Derived.BigQuiet
import Derived.Deep.Draws
import Derived.Lib.IndexLaws
import Derived.Lib.AtoiAllCases
import Derived.Lib.ItoaNum
namespace Go.Proofs.YtdiagnhdigakpaaGreatDoor

/-- The kinds of bytes. -/
def letN (x : Nat) : Bool := decide ((97 ≤ x ∧ x ≤ 122) ∨ (65 ≤ x ∧ x ≤ 90))
def digN (x : Nat) : Bool := decide (48 ≤ x ∧ x ≤ 57)
def innN (x : Nat) : Bool := decide (((97 ≤ x ∧ x ≤ 122) ∨ (65 ≤ x ∧ x ≤ 90)) ∨ (48 ≤ x ∧ x ≤ 57) ∨ x = 95)
def blkN (x : Nat) : Bool := decide (x = 32 ∨ x = 9 ∨ x = 13 ∨ x = 10)
def bitN (x : Nat) : Bool := decide (x = 48 ∨ x = 49 ∨ x = 120 ∨ x = 122)
def plnN (x : Nat) : Bool := decide (32 ≤ x ∧ x ≤ 126 ∧ x ≠ 34)
def letB (c : UInt8) : Bool := letN c.toNat
def digB (c : UInt8) : Bool := digN c.toNat
def innB (c : UInt8) : Bool := innN c.toNat
def blkB (c : UInt8) : Bool := blkN c.toNat
def bitB (c : UInt8) : Bool := bitN c.toNat
def plnB (c : UInt8) : Bool := plnN c.toNat

def wordsL : List (List UInt8) := [[112, 97, 99, 107, 97, 103, 101], [105, 115], [101, 110, 100], [109, 111, 100, 117, 108, 101], [103, 101, 110, 101, 114, 105, 99], [112, 111, 114, 116], [98, 101, 103, 105, 110], [105, 110], [111, 117, 116], [118, 101, 99], [97, 114, 114, 97, 121], [111, 102], [99, 111, 110, 115, 116], [116, 121, 112, 101], [115, 105, 103, 110, 97, 108], [118, 97, 114], [102, 117, 110, 99, 116, 105, 111, 110], [114, 101, 116, 117, 114, 110], [117, 115, 101], [112, 114, 111, 99, 101, 115, 115], [97, 108, 108], [105, 110, 115, 116], [102, 111, 114], [116, 111], [103, 101, 110, 101, 114, 97, 116, 101], [105, 102], [101, 108, 115, 101], [116, 114, 97, 110, 115, 112, 111, 114, 116], [97, 102, 116, 101, 114], [97, 115, 115, 101, 114, 116], [114, 101, 112, 111, 114, 116], [116, 104, 101, 110], [101, 108, 115, 105, 102], [99, 97, 115, 101], [119, 104, 101, 110], [111, 116, 104, 101, 114, 115], [108, 111, 111, 112], [119, 104, 105, 108, 101], [119, 97, 105, 116], [111, 110], [117, 110, 116, 105, 108], [110, 117, 108, 108], [97, 110, 100], [111, 114], [120, 111, 114], [110, 97, 110, 100], [110, 111, 114], [120, 110, 111, 114], [110, 111, 116], [109, 111, 100], [115, 104, 108], [115, 104, 114], [100, 111, 119, 110, 116, 111]]
def signsL : List (List UInt8) := [[58, 61], [60, 61], [61, 62], [62, 61], [47, 61], [61], [60], [62], [43], [45], [42], [47], [38], [40], [41], [58], [59], [44]]
def isWordL (w : List UInt8) : Bool := wordsL.contains w
def hdLet : List UInt8 → Bool
  | [] => false
  | c :: _ => letB c
def isNameL (w : List UInt8) : Bool := decide (w.length ≤ 40) && (hdLet w && (w.all innB && !isWordL w))
/-- The number of digits. -/
def valL (w : List UInt8) : Nat := w.foldl (fun n c => 10 * n + (c.toNat - 48)) 0
def maxI : Nat := 2147483647

/-- A token without its position. -/
structure Tok where
  op : Nat
  text : List UInt8
  n : Nat
deriving DecidableEq

/-- What stands between two double quotes, of bytes of a kind, from least to most of them, at the beginning of what follows the first quote. -/
def quoL (p : UInt8 → Bool) (least most : Nat) (d : List UInt8) : Option (List UInt8) :=
  if least ≤ (d.takeWhile p).length ∧ (d.takeWhile p).length ≤ most ∧ (d.dropWhile p).head? = some 34 then some (d.takeWhile p) else none
/-- A bit, behind its first quote. -/
def bitTok : List UInt8 → Option (Tok × Nat)
  | a :: b :: _ => if bitB a = true ∧ b = 39 then some (⟨4, [a], 0⟩, 3) else none
  | _ => none
/-- The token that begins a list of bytes, and how many of them it has. -/
def tokL : List UInt8 → Option (Tok × Nat)
  | [] => none
  | c :: r =>
    if c = 98 ∧ r.head? = some 34 then (quoL bitB 1 64 r.tail).map fun q => (⟨5, q, 0⟩, q.length + 3)
    else if letB c then
      (if isWordL ((c :: r).takeWhile innB) then some (⟨2, (c :: r).takeWhile innB, 0⟩, ((c :: r).takeWhile innB).length)
      else if ((c :: r).takeWhile innB).length ≤ 40 then some (⟨1, (c :: r).takeWhile innB, 0⟩, ((c :: r).takeWhile innB).length) else none)
    else if digB c then
      (if valL ((c :: r).takeWhile digB) ≤ maxI ∧ ((c :: r).takeWhile innB).length = ((c :: r).takeWhile digB).length then some (⟨3, [], valL ((c :: r).takeWhile digB)⟩, ((c :: r).takeWhile digB).length) else none)
    else if c = 39 then bitTok r
    else if c = 34 then (quoL plnB 0 60 r).map fun q => (⟨6, q, 0⟩, q.length + 2)
    else (signsL.find? fun x => x.isPrefixOf (c :: r)).map fun x => (⟨7, x, 0⟩, x.length)

/-- What is left when blanks and comments are passed over (true: within a comment). -/
def skipM : Bool → List UInt8 → List UInt8
  | _, [] => []
  | true, c :: r => if c = 10 then skipM false r else skipM true r
  | false, c :: r => if blkB c then skipM false r else if c = 45 ∧ r.head? = some 45 then skipM true r else c :: r
def skipL (l : List UInt8) : List UInt8 := skipM false l

/-- A token as it is written, and whether it is one that can be read. -/
def decL (n : Nat) : List UInt8 := if h : n < 10 then [UInt8.ofNat (48 + n)] else decL (n / 10) ++ [UInt8.ofNat (48 + n % 10)]
termination_by n
decreasing_by omega
def wriL (t : Tok) : List UInt8 :=
  if t.op = 3 then decL t.n else if t.op = 4 then [39] ++ t.text ++ [39] else if t.op = 5 then [98, 34] ++ t.text ++ [34] else if t.op = 6 then [34] ++ t.text ++ [34] else t.text
def posL (t : Tok) : Bool :=
  if t.op = 1 then decide (t.n = 0) && isNameL t.text
  else if t.op = 2 then decide (t.n = 0) && isWordL t.text
  else if t.op = 3 then decide (t.text = []) && decide (t.n ≤ maxI)
  else if t.op = 4 then decide (t.n = 0) && (decide (t.text.length = 1) && t.text.all bitB)
  else if t.op = 5 then decide (t.n = 0) && (decide (1 ≤ t.text.length) && (decide (t.text.length ≤ 64) && t.text.all bitB))
  else if t.op = 6 then decide (t.n = 0) && (decide (t.text.length ≤ 60) && t.text.all plnB)
  else if t.op = 7 then decide (t.n = 0) && signsL.contains t.text
  else false
end Go.Proofs.YtdiagnhdigakpaaGreatDoor
/- Tokens that are written are read again: the plain facts. No program stands here. -/
namespace Go.Proofs.YtdiagnhdigakpaaGreatDoor

theorem tw_stop {p : UInt8 → Bool} {x z : List UInt8} (hx : x.all p = true) (hz : ∀ c, z.head? = some c → p c = false) : (x ++ z).takeWhile p = x ∧ (x ++ z).dropWhile p = z := by
  induction x with
  | nil =>
    cases z with
    | nil => exact ⟨rfl, rfl⟩
    | cons c z => have := hz c rfl; simp [this]
  | cons a x ih =>
    rw [List.all_cons, Bool.and_eq_true] at hx
    obtain ⟨h1, h2⟩ := ih hx.2
    rw [List.cons_append, List.takeWhile_cons, List.dropWhile_cons, hx.1, if_pos rfl, if_pos rfl, h1, h2]
    exact ⟨rfl, rfl⟩
/-- What may stand behind a token: a blank, or nothing. -/
def Gap (z : List UInt8) : Prop := z = [] ∨ z.head? = some 32
theorem Gap.no {z : List UInt8} (h : Gap z) {p : UInt8 → Bool} (hp : p 32 = false) : ∀ c, z.head? = some c → p c = false := by
  intro c hc
  rcases h with rfl | h
  · cases hc
  · rw [h] at hc; injection hc with hc; subst hc; exact hp
theorem Gap.ne {z : List UInt8} (h : Gap z) {k : UInt8} (hk : k ≠ 32) : z.head? ≠ some k := by
  intro hc
  rcases h with rfl | h
  · cases hc
  · rw [h] at hc; injection hc with hc; exact hk hc.symm
theorem inn_let {c : UInt8} (h : letB c = true) : innB c = true := by
  unfold letB innB at *; simp only [letN, innN, decide_eq_true_eq] at *; omega
theorem inn_dig {c : UInt8} (h : digB c = true) : innB c = true := by
  unfold digB innB at *; simp only [digN, innN, decide_eq_true_eq] at *; omega
theorem dig_let {c : UInt8} (h : digB c = true) : letB c = false := by
  unfold digB letB at *; simp only [digN, letN, decide_eq_true_eq, decide_eq_false_iff_not] at *; omega
theorem let_ne {c : UInt8} (h : letB c = true) : c ≠ 34 ∧ c ≠ 39 ∧ c ≠ 45 ∧ c ≠ 10 ∧ blkB c = false := by
  refine ⟨?_, ?_, ?_, ?_, ?_⟩
  · rintro rfl; exact absurd h (by decide)
  · rintro rfl; exact absurd h (by decide)
  · rintro rfl; exact absurd h (by decide)
  · rintro rfl; exact absurd h (by decide)
  · unfold letB blkB at *; simp only [letN, blkN, decide_eq_true_eq, decide_eq_false_iff_not] at *; omega
theorem inn_ne {c : UInt8} (h : innB c = true) : c ≠ 34 := by rintro rfl; exact absurd h (by decide)
theorem dig_ne {c : UInt8} (h : digB c = true) : c ≠ 98 ∧ c ≠ 45 ∧ blkB c = false := by
  refine ⟨?_, ?_, ?_⟩
  · rintro rfl; exact absurd h (by decide)
  · rintro rfl; exact absurd h (by decide)
  · unfold digB blkB at *; simp only [digN, blkN, decide_eq_true_eq, decide_eq_false_iff_not] at *; omega
/-- A reserved word begins with a letter and has letters, digits and _ alone. -/
theorem words_ok : ∀ w, w ∈ wordsL → hdLet w = true ∧ w.all innB = true := by decide
theorem isWord_ok {w : List UInt8} (h : isWordL w = true) : hdLet w = true ∧ w.all innB = true := by
  unfold isWordL at h
  exact words_ok w (by simpa using h)

/-- A word that is read: its first byte is a letter. -/
theorem tok_word {c : UInt8} {r z : List UInt8} (hc : letB c = true) (hr : r.all innB = true) (hz : Gap z) :
    tokL ((c :: r) ++ z) = if isWordL (c :: r) then some (⟨2, c :: r, 0⟩, (c :: r).length) else if (c :: r).length ≤ 40 then some (⟨1, c :: r, 0⟩, (c :: r).length) else none := by
  have hn : ¬ (c = 98 ∧ (r ++ z).head? = some 34) := by
    rintro ⟨_, h⟩
    cases r with
    | nil => exact hz.ne (by decide) h
    | cons a r =>
      rw [List.all_cons, Bool.and_eq_true] at hr
      injection h with h
      exact inn_ne hr.1 h
  have ht := (tw_stop (p := innB) (x := c :: r) (z := z) (by rw [List.all_cons, inn_let hc, hr]; rfl) (hz.no (by decide))).1
  rw [List.cons_append] at ht ⊢
  rw [tokL, if_neg hn, if_pos hc, ht]
theorem tok_int {c : UInt8} {r z : List UInt8} (hc : digB c = true) (hr : r.all digB = true) (hz : Gap z) (hv : valL (c :: r) ≤ maxI) :
    tokL ((c :: r) ++ z) = some (⟨3, [], valL (c :: r)⟩, (c :: r).length) := by
  have hn : ¬ (c = 98 ∧ (r ++ z).head? = some 34) := fun h => (dig_ne hc).1 h.1
  have hd : (c :: r).all digB = true := by rw [List.all_cons, hc, hr]; rfl
  have hi : (c :: r).all innB = true := by
    rw [List.all_eq_true] at hd ⊢
    exact fun x hx => inn_dig (hd x hx)
  have t1 := (tw_stop (p := innB) hi (hz.no (by decide))).1
  have t2 := (tw_stop (p := digB) hd (hz.no (by decide))).1
  rw [List.cons_append] at t1 t2 ⊢
  rw [tokL, if_neg hn, dig_let hc, if_neg Bool.false_ne_true, if_pos hc, t1, t2, if_pos ⟨hv, rfl⟩]
theorem quo_at {p : UInt8 → Bool} {least most : Nat} {q z : List UInt8} (hq : q.all p = true) (hp : p 34 = false) (h1 : least ≤ q.length) (h2 : q.length ≤ most) : quoL p least most (q ++ 34 :: z) = some q := by
  obtain ⟨t1, t2⟩ := tw_stop (p := p) (x := q) (z := 34 :: z) hq (by intro c hc; injection hc with hc; subst hc; exact hp)
  unfold quoL
  rw [t1, t2, if_pos ⟨h1, h2, rfl⟩]
theorem tok_sign : ∀ x, x ∈ signsL → ∀ z, Gap z → tokL (x ++ z) = some (⟨7, x, 0⟩, x.length) := by
  intro x hx z hz
  have hz' : z = [] ∨ ∃ y, z = 32 :: y := by
    rcases hz with rfl | h
    · exact .inl rfl
    · cases z with
      | nil => cases h
      | cons a y => injection h with h; subst h; exact .inr ⟨y, rfl⟩
  unfold signsL at hx
  simp only [List.mem_cons, List.not_mem_nil, or_false] at hx
  rcases hz' with rfl | ⟨y, rfl⟩
  all_goals
    rcases hx with rfl | rfl | rfl | rfl | rfl | rfl | rfl | rfl | rfl | rfl | rfl | rfl | rfl | rfl | rfl | rfl | rfl | rfl
    all_goals rfl

theorem dec_small {n : Nat} (h : n < 10) : decL n = [UInt8.ofNat (48 + n)] := by rw [decL, dif_pos h]
theorem dec_big {n : Nat} (h : ¬ n < 10) : decL n = decL (n / 10) ++ [UInt8.ofNat (48 + n % 10)] := by rw [decL, dif_neg h]
theorem digit_nat {k : Nat} (h : k < 10) : (UInt8.ofNat (48 + k)).toNat = 48 + k := by simp; omega
theorem digit_digB {k : Nat} (h : k < 10) : digB (UInt8.ofNat (48 + k)) = true := by
  unfold digB
  rw [digit_nat h]
  simp only [digN, decide_eq_true_eq]; omega
theorem val_append (w : List UInt8) (c : UInt8) : valL (w ++ [c]) = 10 * valL w + (c.toNat - 48) := by unfold valL; rw [List.foldl_append]; rfl
theorem dec_facts (n : Nat) : decL n ≠ [] ∧ (decL n).all digB = true ∧ valL (decL n) = n := by
  induction n using Nat.strongRecOn with
  | ind n ih =>
    by_cases h : n < 10
    · rw [dec_small h]
      refine ⟨by simp, ?_, ?_⟩
      · rw [List.all_cons, digit_digB h]; rfl
      · show 10 * 0 + ((UInt8.ofNat (48 + n)).toNat - 48) = n
        rw [digit_nat h]; omega
    · obtain ⟨h1, h2, h3⟩ := ih (n / 10) (by omega)
      rw [dec_big h]
      refine ⟨by simp, ?_, ?_⟩
      · rw [List.all_append, h2, List.all_cons, digit_digB (Nat.mod_lt _ (by omega))]; rfl
      · rw [val_append, h3, digit_nat (Nat.mod_lt _ (by omega))]; omega

/-- What is written of a token is read as it. -/
theorem tok_wri {t : Tok} (h : posL t = true) {z : List UInt8} (hz : Gap z) : tokL (wriL t ++ z) = some (t, (wriL t).length) := by
  obtain ⟨op, text, n⟩ := t
  unfold posL at h
  simp only at h
  unfold wriL
  simp only
  split at h
  · rename_i e
    subst e
    rw [Bool.and_eq_true, decide_eq_true_eq] at h
    obtain ⟨rfl, hn⟩ := h
    rw [if_neg (by decide), if_neg (by decide), if_neg (by decide), if_neg (by decide)]
    unfold isNameL at hn
    rw [Bool.and_eq_true, Bool.and_eq_true, Bool.and_eq_true, decide_eq_true_eq] at hn
    obtain ⟨h40, hc, hi, hw⟩ := hn
    cases text with
    | nil => cases hc
    | cons c r =>
      rw [List.all_cons, Bool.and_eq_true] at hi
      rw [tok_word hc hi.2 hz, if_neg (by simpa using hw), if_pos h40]
  · split at h
    · rename_i _ e
      subst e
      rw [Bool.and_eq_true, decide_eq_true_eq] at h
      obtain ⟨rfl, hw⟩ := h
      rw [if_neg (by decide), if_neg (by decide), if_neg (by decide), if_neg (by decide)]
      obtain ⟨hc, hi⟩ := isWord_ok hw
      cases text with
      | nil => cases hc
      | cons c r =>
        rw [List.all_cons, Bool.and_eq_true] at hi
        rw [tok_word hc hi.2 hz, if_pos hw]
    · split at h
      · rename_i _ _ e
        subst e
        rw [Bool.and_eq_true, decide_eq_true_eq, decide_eq_true_eq] at h
        obtain ⟨rfl, hn⟩ := h
        rw [if_pos rfl]
        obtain ⟨d1, d2, d3⟩ := dec_facts n
        generalize hl : decL n = l at *
        cases l with
        | nil => exact absurd rfl d1
        | cons c r =>
          rw [List.all_cons, Bool.and_eq_true] at d2
          rw [tok_int d2.1 d2.2 hz (by rw [d3]; exact hn), d3]
      · split at h
        · rename_i _ _ _ e
          subst e
          rw [Bool.and_eq_true, Bool.and_eq_true, decide_eq_true_eq, decide_eq_true_eq] at h
          obtain ⟨rfl, hl, hb⟩ := h
          rw [if_neg (by decide), if_pos rfl]
          match text, hl, hb with
          | [a], _, hb =>
            rw [List.all_cons, Bool.and_eq_true] at hb
            show tokL (39 :: a :: 39 :: z) = _
            rw [tokL, if_neg (by rintro ⟨h, _⟩; exact absurd h (by decide)), if_neg (by decide), if_neg (by decide), if_pos rfl]
            rw [bitTok, if_pos ⟨hb.1, rfl⟩]
            rfl
        · split at h
          · rename_i _ _ _ _ e
            subst e
            rw [Bool.and_eq_true, Bool.and_eq_true, Bool.and_eq_true, decide_eq_true_eq, decide_eq_true_eq, decide_eq_true_eq] at h
            obtain ⟨rfl, h1, h2, hb⟩ := h
            rw [if_neg (by decide), if_neg (by decide), if_pos rfl]
            have e : [98, 34] ++ text ++ [34] ++ z = 98 :: 34 :: (text ++ 34 :: z) := by simp
            rw [e, tokL, if_pos ⟨rfl, rfl⟩, List.tail_cons, quo_at hb (by decide) h1 h2]
            simp
          · split at h
            · rename_i _ _ _ _ _ e
              subst e
              rw [Bool.and_eq_true, Bool.and_eq_true, decide_eq_true_eq, decide_eq_true_eq] at h
              obtain ⟨rfl, h1, hb⟩ := h
              rw [if_neg (by decide), if_neg (by decide), if_neg (by decide), if_pos rfl]
              have e : [34] ++ text ++ [34] ++ z = 34 :: (text ++ 34 :: z) := by simp
              rw [e, tokL, if_neg (by rintro ⟨h, _⟩; exact absurd h (by decide)), if_neg (by decide), if_neg (by decide), if_neg (by decide), if_pos rfl, quo_at hb (by decide) (Nat.zero_le _) h1]
              simp
            · split at h
              · rename_i _ _ _ _ _ _ e
                subst e
                rw [Bool.and_eq_true, decide_eq_true_eq] at h
                obtain ⟨rfl, hs⟩ := h
                rw [if_neg (by decide), if_neg (by decide), if_neg (by decide), if_neg (by decide)]
                exact tok_sign text (by simpa using hs) z hz
              · cases h
end Go.Proofs.YtdiagnhdigakpaaGreatDoor
/- What the token at the beginning of a list of bytes is like. No program stands here. -/
namespace Go.Proofs.YtdiagnhdigakpaaGreatDoor

theorem tw_all (p : UInt8 → Bool) (l : List UInt8) : (l.takeWhile p).all p = true := by
  induction l with
  | nil => rfl
  | cons a l ih =>
    rw [List.takeWhile_cons]
    split
    · rename_i h; rw [List.all_cons, h, ih]; rfl
    · rfl
theorem tw_split (p : UInt8 → Bool) (l : List UInt8) : l = l.takeWhile p ++ l.dropWhile p := (List.takeWhile_append_dropWhile ..).symm
theorem tw_len (p : UInt8 → Bool) (l : List UInt8) : (l.takeWhile p).length ≤ l.length := by
  have := congrArg List.length (tw_split p l)
  rw [List.length_append] at this
  omega
theorem tw_take (p : UInt8 → Bool) (l : List UInt8) : l.take (l.takeWhile p).length = l.takeWhile p := by
  have h := tw_split p l
  generalize l.takeWhile p = a at *
  rw [h, List.take_left']
  rfl
theorem tw_cons {p : UInt8 → Bool} {c : UInt8} (h : p c = true) (r : List UInt8) : (c :: r).takeWhile p = c :: r.takeWhile p := by rw [List.takeWhile_cons, if_pos h]
theorem val_lt {w : List UInt8} (h : w.all digB = true) : valL w < 10 ^ w.length := by
  have key : ∀ (w : List UInt8) (n k : Nat), w.all digB = true → n < 10 ^ k → w.foldl (fun n c => 10 * n + (c.toNat - 48)) n < 10 ^ (k + w.length) := by
    intro w
    induction w with
    | nil => intro n k _ hn; exact hn
    | cons c r ih =>
      intro n k h hn
      rw [List.all_cons, Bool.and_eq_true] at h
      have hc : c.toNat - 48 < 10 := by
        have := h.1
        unfold digB at this
        simp only [digN, decide_eq_true_eq] at this
        omega
      have := ih (10 * n + (c.toNat - 48)) (k + 1) h.2 (by rw [Nat.pow_succ]; omega)
      rw [List.foldl_cons, List.length_cons, show k + (r.length + 1) = k + 1 + r.length by omega]
      exact this
  have := key w 0 0 h (by decide)
  rwa [Nat.zero_add] at this
theorem dec_len {k n : Nat} (hk : 1 ≤ k) (h : n < 10 ^ k) : (decL n).length ≤ k := by
  induction k generalizing n with
  | zero => omega
  | succ k ih =>
    by_cases hn : n < 10
    · rw [dec_small hn]; simp
    · rw [dec_big hn, List.length_append]
      have : k ≠ 0 := by rintro rfl; omega
      have := ih (n := n / 10) (by omega) (by rw [Nat.pow_succ] at h; omega)
      simp only [List.length_cons, List.length_nil]
      omega
theorem quo_facts {p : UInt8 → Bool} {least most : Nat} {d q : List UInt8} (h : quoL p least most d = some q) : q.all p = true ∧ least ≤ q.length ∧ q.length ≤ most ∧ ∃ z, d = q ++ 34 :: z := by
  unfold quoL at h
  split at h
  · rename_i hc
    injection h with h
    subst h
    refine ⟨tw_all _ _, hc.1, hc.2.1, ?_⟩
    have hs := tw_split p d
    cases hd : d.dropWhile p with
    | nil => rw [hd] at hc; exact absurd hc.2.2 (by simp)
    | cons a z =>
      rw [hd] at hc hs
      have : a = 34 := by simpa using hc.2.2
      subst this
      exact ⟨z, hs⟩
  · cases h
/-- What holds of a token that is read. -/
def Read (x : List UInt8) (t : Tok) (n : Nat) : Prop :=
  posL t = true ∧ 1 ≤ n ∧ n ≤ x.length ∧ (wriL t).length ≤ n ∧ (t.op ≠ 3 → x.take n = wriL t) ∧ (t.op = 3 → ∃ c r, x = c :: r ∧ digB c = true)
theorem tok_facts {x : List UInt8} {t : Tok} {n : Nat} (h : tokL x = some (t, n)) : Read x t n := by
  cases x with
  | nil => cases h
  | cons c r =>
    rw [tokL] at h
    split at h
    · rename_i hc
      obtain ⟨rfl, hr⟩ := hc
      obtain ⟨q, hq, he⟩ := Option.map_eq_some_iff.1 h
      injection he with h1 h2
      subst h1 h2
      obtain ⟨ha, hl, hm, z, hz⟩ := quo_facts hq
      cases r with
      | nil => cases hr
      | cons a d =>
        injection hr with hr
        subst hr
        rw [List.tail_cons] at hz
        subst hz
        refine ⟨?_, by omega, by simp, ?_, fun _ => ?_, fun h => by simp at h⟩
        · show (decide (0 = 0) && (decide (1 ≤ q.length) && (decide (q.length ≤ 64) && q.all bitB))) = true
          rw [ha, decide_eq_true hl, decide_eq_true hm]; rfl
        · show ([98, 34] ++ q ++ [34]).length ≤ q.length + 3
          simp
        · show (98 :: 34 :: (q ++ 34 :: z)).take (q.length + 3) = [98, 34] ++ q ++ [34]
          have e : 98 :: 34 :: (q ++ 34 :: z) = ([98, 34] ++ q ++ [34]) ++ z := by simp
          rw [e]
          exact List.take_left' (by simp)
    · split at h
      · rename_i hc
        have hw : (c :: r).takeWhile innB = c :: r.takeWhile innB := tw_cons (inn_let hc) r
        have ha := tw_all innB (c :: r)
        have hl := tw_len innB (c :: r)
        have ht := tw_take innB (c :: r)
        generalize hg : (c :: r).takeWhile innB = w at *
        have hh : hdLet w = true := by rw [hw]; exact hc
        have h1 : 1 ≤ w.length := by rw [hw]; simp
        split at h
        · rename_i hi
          injection h with h
          injection h with h1' h2
          subst h1' h2
          exact ⟨by show (decide (0 = 0) && isWordL w) = true; rw [hi]; rfl, h1, hl, Nat.le_refl _, fun _ => ht, fun h => by simp at h⟩
        · rename_i hi
          split at h
          · rename_i h40
            injection h with h
            injection h with h1' h2
            subst h1' h2
            refine ⟨?_, h1, hl, Nat.le_refl _, fun _ => ht, fun h => by simp at h⟩
            show (decide (0 = 0) && isNameL w) = true
            unfold isNameL
            rw [decide_eq_true h40, hh, ha, Bool.not_eq_true] at *
            rw [hi]
            rfl
          · cases h
      · split at h
        · rename_i hc
          split at h
          · rename_i hv
            have hw : (c :: r).takeWhile digB = c :: r.takeWhile digB := tw_cons hc r
            have ha := tw_all digB (c :: r)
            have hl := tw_len digB (c :: r)
            generalize hg : (c :: r).takeWhile digB = w at *
            have h1 : 1 ≤ w.length := by rw [hw]; simp
            injection h with h
            injection h with h1' h2
            subst h1' h2
            refine ⟨?_, h1, hl, dec_len h1 (val_lt ha), fun h => absurd rfl h, fun _ => ⟨c, r, rfl, hc⟩⟩
            show (decide (([] : List UInt8) = []) && decide (valL w ≤ maxI)) = true
            rw [decide_eq_true hv.1]; rfl
          · cases h
        · split at h
          · rename_i hc
            subst hc
            match r, h with
            | a :: b :: z, h =>
              rw [bitTok] at h
              split at h
              · rename_i hb
                injection h with h
                injection h with h1' h2
                obtain ⟨hb1, rfl⟩ := hb
                subst h1' h2
                refine ⟨?_, by omega, by simp, Nat.le_refl _, fun _ => rfl, fun h => by simp at h⟩
                show (decide (0 = 0) && (decide ([a].length = 1) && [a].all bitB)) = true
                rw [List.all_cons, hb1]; rfl
              · cases h
            | [], h => cases h
            | [_], h => cases h
          · split at h
            · rename_i hc
              subst hc
              obtain ⟨q, hq, he⟩ := Option.map_eq_some_iff.1 h
              injection he with h1 h2
              subst h1 h2
              obtain ⟨ha, _, hm, z, hz⟩ := quo_facts hq
              subst hz
              refine ⟨?_, by omega, by simp, ?_, fun _ => ?_, fun h => by simp at h⟩
              · show (decide (0 = 0) && (decide (q.length ≤ 60) && q.all plnB)) = true
                rw [ha, decide_eq_true hm]; rfl
              · show ([34] ++ q ++ [34]).length ≤ q.length + 2
                simp
              · show (34 :: (q ++ 34 :: z)).take (q.length + 2) = [34] ++ q ++ [34]
                have e : 34 :: (q ++ 34 :: z) = ([34] ++ q ++ [34]) ++ z := by simp
                rw [e]
                exact List.take_left' (by simp)
            · obtain ⟨x, hx, he⟩ := Option.map_eq_some_iff.1 h
              injection he with h1 h2
              subst h1 h2
              have hm := List.mem_of_find?_eq_some hx
              have hp : x.isPrefixOf (c :: r) = true := by have := List.find?_some hx; simpa using this
              obtain ⟨z, hz⟩ := List.isPrefixOf_iff_prefix.1 hp
              have hne : ∀ x, x ∈ signsL → 1 ≤ x.length := by decide
              refine ⟨?_, hne x hm, by rw [← hz, List.length_append]; omega, Nat.le_refl _, fun _ => ?_, fun h => by simp at h⟩
              · show (decide (0 = 0) && signsL.contains x) = true
                rw [List.contains_iff_mem.2 hm]; rfl
              · show (c :: r).take x.length = x
                rw [← hz]
                exact List.take_left' rfl
end Go.Proofs.YtdiagnhdigakpaaGreatDoor
/- The contracts of the reference's kinds of bytes, of and run. -/
namespace Go.Proofs.YtdiagnhdigakpaaGreatDoor
open Go.RowKit

theorem ret_bool {a b : Bool} (h : a = b) : Ending.returned (.bool a) = .returned (.bool b) := by rw [h]
theorem ret_int {k : IntKind} {a b : Int} (h : a = b) : Ending.returned (.int k a) = .returned (.int k b) := by rw [h]
theorem letter_at (x : Nat) (w : World) :
    Calls Tryz.prog 101 #[.int .u8 x] w fun e w' => e = .returned (.bool (letN x)) ∧ w = w' := by
  unfold letN
  by_cases h0 : 97 ≤ x
  · have d0 : decide ((97 : Int) ≤ (x : Int)) = true := by rw [decide_eq_true_eq]; omega
    by_cases h1 : x ≤ 122
    · have d1 : decide ((x : Int) ≤ 122) = true := by rw [decide_eq_true_eq]; omega
      rw [decide_eq_true (by omega)]
      clear h0 h1
      go_enter Tryz.func101, Tryz.ntmps101
      go_wp2
      go_ret
      exact ⟨rfl, rfl⟩
    · have d1 : decide ((x : Int) ≤ 122) = false := by rw [decide_eq_false_iff_not]; omega
      by_cases h2 : 65 ≤ x
      · have d2 : decide ((65 : Int) ≤ (x : Int)) = true := by rw [decide_eq_true_eq]; omega
        by_cases h3 : x ≤ 90
        · have d3 : decide ((x : Int) ≤ 90) = true := by rw [decide_eq_true_eq]; omega
          rw [decide_eq_true (by omega)]
          clear h0 h1 h2 h3
          go_enter Tryz.func101, Tryz.ntmps101
          go_wp2
          go_ret
          exact ⟨rfl, rfl⟩
        · have d3 : decide ((x : Int) ≤ 90) = false := by rw [decide_eq_false_iff_not]; omega
          rw [decide_eq_false (by omega)]
          clear h0 h1 h2 h3
          go_enter Tryz.func101, Tryz.ntmps101
          go_wp2
          go_ret
          exact ⟨rfl, rfl⟩
      · have d2 : decide ((65 : Int) ≤ (x : Int)) = false := by rw [decide_eq_false_iff_not]; omega
        rw [decide_eq_false (by omega)]
        clear h0 h1 h2
        go_enter Tryz.func101, Tryz.ntmps101
        go_wp2
        go_ret
        exact ⟨rfl, rfl⟩
  · have d0 : decide ((97 : Int) ≤ (x : Int)) = false := by rw [decide_eq_false_iff_not]; omega
    by_cases h1 : 65 ≤ x
    · have d1 : decide ((65 : Int) ≤ (x : Int)) = true := by rw [decide_eq_true_eq]; omega
      by_cases h2 : x ≤ 90
      · have d2 : decide ((x : Int) ≤ 90) = true := by rw [decide_eq_true_eq]; omega
        rw [decide_eq_true (by omega)]
        clear h0 h1 h2
        go_enter Tryz.func101, Tryz.ntmps101
        go_wp2
        go_ret
        exact ⟨rfl, rfl⟩
      · have d2 : decide ((x : Int) ≤ 90) = false := by rw [decide_eq_false_iff_not]; omega
        rw [decide_eq_false (by omega)]
        clear h0 h1 h2
        go_enter Tryz.func101, Tryz.ntmps101
        go_wp2
        go_ret
        exact ⟨rfl, rfl⟩
    · have d1 : decide ((65 : Int) ≤ (x : Int)) = false := by rw [decide_eq_false_iff_not]; omega
      rw [decide_eq_false (by omega)]
      clear h0 h1
      go_enter Tryz.func101, Tryz.ntmps101
      go_wp2
      go_ret
      exact ⟨rfl, rfl⟩
theorem digit_at (x : Nat) (w : World) :
    Calls Tryz.prog 158 #[.int .u8 x] w fun e w' => e = .returned (.bool (digN x)) ∧ w = w' := by
  unfold digN
  by_cases h0 : 48 ≤ x
  · have d0 : decide ((48 : Int) ≤ (x : Int)) = true := by rw [decide_eq_true_eq]; omega
    by_cases h1 : x ≤ 57
    · have d1 : decide ((x : Int) ≤ 57) = true := by rw [decide_eq_true_eq]; omega
      rw [decide_eq_true (by omega)]
      clear h0 h1
      go_enter Tryz.func158, Tryz.ntmps158
      go_wp2
      go_ret
      exact ⟨rfl, rfl⟩
    · have d1 : decide ((x : Int) ≤ 57) = false := by rw [decide_eq_false_iff_not]; omega
      rw [decide_eq_false (by omega)]
      clear h0 h1
      go_enter Tryz.func158, Tryz.ntmps158
      go_wp2
      go_ret
      exact ⟨rfl, rfl⟩
  · have d0 : decide ((48 : Int) ≤ (x : Int)) = false := by rw [decide_eq_false_iff_not]; omega
    rw [decide_eq_false (by omega)]
    clear h0
    go_enter Tryz.func158, Tryz.ntmps158
    go_wp2
    go_ret
    exact ⟨rfl, rfl⟩
theorem bit_at (x : Nat) (w : World) :
    Calls Tryz.prog 160 #[.int .u8 x] w fun e w' => e = .returned (.bool (bitN x)) ∧ w = w' := by
  unfold bitN
  by_cases h0 : x = 48
  · have d0 : ((x : Int) == 48) = true := by rw [beq_iff_eq]; omega
    rw [decide_eq_true (by omega)]
    clear h0
    go_enter Tryz.func160, Tryz.ntmps160
    go_wp2
    go_ret
    exact ⟨rfl, rfl⟩
  · have d0 : ((x : Int) == 48) = false := by rw [beq_eq_false_iff_ne]; omega
    by_cases h1 : x = 49
    · have d1 : ((x : Int) == 49) = true := by rw [beq_iff_eq]; omega
      rw [decide_eq_true (by omega)]
      clear h0 h1
      go_enter Tryz.func160, Tryz.ntmps160
      go_wp2
      go_ret
      exact ⟨rfl, rfl⟩
    · have d1 : ((x : Int) == 49) = false := by rw [beq_eq_false_iff_ne]; omega
      by_cases h2 : x = 120
      · have d2 : ((x : Int) == 120) = true := by rw [beq_iff_eq]; omega
        rw [decide_eq_true (by omega)]
        clear h0 h1 h2
        go_enter Tryz.func160, Tryz.ntmps160
        go_wp2
        go_ret
        exact ⟨rfl, rfl⟩
      · have d2 : ((x : Int) == 120) = false := by rw [beq_eq_false_iff_ne]; omega
        by_cases h3 : x = 122
        · have d3 : ((x : Int) == 122) = true := by rw [beq_iff_eq]; omega
          rw [decide_eq_true (by omega)]
          clear h0 h1 h2 h3
          go_enter Tryz.func160, Tryz.ntmps160
          go_wp2
          go_ret
          exact ⟨rfl, rfl⟩
        · have d3 : ((x : Int) == 122) = false := by rw [beq_eq_false_iff_ne]; omega
          rw [decide_eq_false (by omega)]
          clear h0 h1 h2 h3
          go_enter Tryz.func160, Tryz.ntmps160
          go_wp2
          go_ret
          exact ⟨rfl, rfl⟩
theorem plain_at (x : Nat) (w : World) :
    Calls Tryz.prog 161 #[.int .u8 x] w fun e w' => e = .returned (.bool (plnN x)) ∧ w = w' := by
  unfold plnN
  by_cases h0 : 32 ≤ x
  · have d0 : decide ((32 : Int) ≤ (x : Int)) = true := by rw [decide_eq_true_eq]; omega
    by_cases h1 : x ≤ 126
    · have d1 : decide ((x : Int) ≤ 126) = true := by rw [decide_eq_true_eq]; omega
      by_cases h2 : x ≠ 34
      · have d2 : ((x : Int) != 34) = true := by rw [bne_iff_ne]; omega
        rw [decide_eq_true (by omega)]
        clear h0 h1 h2
        go_enter Tryz.func161, Tryz.ntmps161
        go_wp2
        go_ret
        exact ⟨rfl, rfl⟩
      · have d2 : ((x : Int) != 34) = false := by rw [bne_eq_false_iff_eq]; omega
        rw [decide_eq_false (by omega)]
        clear h0 h1 h2
        go_enter Tryz.func161, Tryz.ntmps161
        go_wp2
        go_ret
        exact ⟨rfl, rfl⟩
    · have d1 : decide ((x : Int) ≤ 126) = false := by rw [decide_eq_false_iff_not]; omega
      rw [decide_eq_false (by omega)]
      clear h0 h1
      go_enter Tryz.func161, Tryz.ntmps161
      go_wp2
      go_ret
      exact ⟨rfl, rfl⟩
  · have d0 : decide ((32 : Int) ≤ (x : Int)) = false := by rw [decide_eq_false_iff_not]; omega
    rw [decide_eq_false (by omega)]
    clear h0
    go_enter Tryz.func161, Tryz.ntmps161
    go_wp2
    go_ret
    exact ⟨rfl, rfl⟩
theorem inner_at (x : Nat) (w : World) :
    Calls Tryz.prog 159 #[.int .u8 x] w fun e w' => e = .returned (.bool (innN x)) ∧ w = w' := by
  have HL := Lib.hid (letter_at x)
  have HD := Lib.hid (digit_at x)
  have key : innN x = (letN x || (digN x || decide (x = 95))) := by
    unfold innN letN digN
    rw [← Bool.decide_or, ← Bool.decide_or]
  rw [key]
  cases hl : letN x
  · cases hd : digN x
    · rw [hl] at HL
      rw [hd] at HD
      by_cases h : x = 95
      · have d1 : ((x : Int) == 95) = true := by rw [beq_iff_eq]; omega
        rw [decide_eq_true h]
        clear h hl hd key
        go_enter Tryz.func159, Tryz.ntmps159
        go_wp2_with fail
        refine (HL.out _).mono ?_
        rintro e w' ⟨rfl, rfl⟩
        go_wp2_with fail
        refine (HD.out _).mono ?_
        rintro e w' ⟨rfl, rfl⟩
        go_wp2
        go_ret
        exact ⟨rfl, rfl⟩
      · have d1 : ((x : Int) == 95) = false := by rw [beq_eq_false_iff_ne]; omega
        rw [decide_eq_false h]
        clear h hl hd key
        go_enter Tryz.func159, Tryz.ntmps159
        go_wp2_with fail
        refine (HL.out _).mono ?_
        rintro e w' ⟨rfl, rfl⟩
        go_wp2_with fail
        refine (HD.out _).mono ?_
        rintro e w' ⟨rfl, rfl⟩
        go_wp2
        go_ret
        exact ⟨rfl, rfl⟩
    · rw [hl] at HL
      rw [hd] at HD
      clear hl hd key
      go_enter Tryz.func159, Tryz.ntmps159
      go_wp2_with fail
      refine (HL.out _).mono ?_
      rintro e w' ⟨rfl, rfl⟩
      go_wp2_with fail
      refine (HD.out _).mono ?_
      rintro e w' ⟨rfl, rfl⟩
      go_wp2
      go_ret
      exact ⟨rfl, rfl⟩
  · rw [hl] at HL
    clear hl key HD
    go_enter Tryz.func159, Tryz.ntmps159
    go_wp2_with fail
    refine (HL.out _).mono ?_
    rintro e w' ⟨rfl, rfl⟩
    go_wp2
    go_ret
    exact ⟨rfl, rfl⟩
/-- The kinds by their numbers. -/
def kindN (k : Nat) (x : Nat) : Bool := if k = 0 then digN x else if k = 1 then innN x else if k = 2 then bitN x else if k = 3 then plnN x else decide (x ≠ 10)
theorem of_at (x k : Nat) (hk : k ≤ 4) (w : World) :
    Calls Tryz.prog 133 #[.int .u8 x, .int .i64 k] w fun e w' => e = .returned (.bool (kindN k x)) ∧ w = w' := by
  obtain rfl | rfl | rfl | rfl | rfl : k = 0 ∨ k = 1 ∨ k = 2 ∨ k = 3 ∨ k = 4 := by omega
  case inr.inr.inr.inr =>
    show Calls Tryz.prog 133 #[.int .u8 x, .int .i64 ((4 : Nat) : Int)] w fun e w' => e = .returned (.bool (decide (x ≠ 10))) ∧ w = w'
    by_cases h : x = 10
    · have d1 : ((x : Int) != 10) = false := by rw [bne_eq_false_iff_eq]; omega
      rw [decide_eq_false (by omega)]
      clear h
      go_enter Tryz.func133, Tryz.ntmps133
      go_wp2
      go_ret
      exact ⟨rfl, rfl⟩
    · have d1 : ((x : Int) != 10) = true := by rw [bne_iff_ne]; omega
      rw [decide_eq_true h]
      clear h
      go_enter Tryz.func133, Tryz.ntmps133
      go_wp2
      go_ret
      exact ⟨rfl, rfl⟩
  all_goals
    go_enter Tryz.func133, Tryz.ntmps133
    go_wp2_with fail
    first
      | refine (digit_at x _).mono ?_
      | refine (inner_at x _).mono ?_
      | refine (bit_at x _).mono ?_
      | refine (plain_at x _).mono ?_
    rintro e w' ⟨rfl, rfl⟩
    go_wp2
    go_ret
    exact ⟨rfl, rfl⟩

/-- The bytes of a string. -/
def bl (s : ByteArray) : List UInt8 := s.data.toList
theorem bl_len (s : ByteArray) : (bl s).length = s.size := by unfold bl; simp
theorem bl_get (s : ByteArray) (k : Nat) (h : k < s.size) : (bl s)[k]'(by rw [bl_len]; exact h) = s[k] := by unfold bl; simp; rfl
/-- How many bytes are of a kind from a place on. -/
def runN (k : Nat) (l : List UInt8) : Nat := (l.takeWhile fun c => kindN k c.toNat).length
theorem run_stop {k : Nat} {l : List UInt8} {i n : Nat} (h : i + n ≤ l.length) (hn : ((l.drop i).take n).all (fun c => kindN k c.toNat) = true) (hk : ∀ (h : i + n < l.length), kindN k (l[i + n]).toNat = false) : runN k (l.drop i) = n := by
  have e : l.drop i = (l.drop i).take n ++ l.drop (i + n) := by rw [← List.drop_drop]; exact (List.take_append_drop n _).symm
  have := (tw_stop (p := fun c => kindN k c.toNat) (x := (l.drop i).take n) (z := l.drop (i + n)) hn (by
    intro c hc
    by_cases hlt : i + n < l.length
    · rw [List.drop_eq_getElem_cons hlt] at hc
      injection hc with hc
      rw [← hc]
      exact hk hlt
    · rw [List.drop_of_length_le (by omega)] at hc
      cases hc)).1
  unfold runN
  rw [← e] at this
  rw [this, List.length_take, List.length_drop]
  omega
theorem run_more {k : Nat} {l : List UInt8} {i n : Nat} (h : i + n < l.length) (hn : ((l.drop i).take n).all (fun c => kindN k c.toNat) = true) (hk : kindN k (l[i + n]).toNat = true) : ((l.drop i).take (n + 1)).all (fun c => kindN k c.toNat) = true := by
  rw [List.take_succ_eq_append_getElem (by rw [List.length_drop]; omega), List.getElem_drop, List.all_append, hn, List.all_cons, hk]
  rfl
set_option maxHeartbeats 1000000 in
theorem run_any (s : ByteArray) (i k : Nat) (hs : s.size ≤ 140737488355328) (hi : i ≤ s.size) (hk : k ≤ 4) (w : World) :
    Calls Tryz.prog 102 #[.string s, .int .i64 i, .int .i64 k] w fun e w' => e = .returned (.int .i64 (runN k ((bl s).drop i) : Nat)) ∧ w = w' := by
  go_enter Tryz.func102, Tryz.ntmps102
  go_wp2_with fail
  go_loop [7] (fun v => ∃ n : Nat, i + n ≤ s.size ∧ v = .int .i64 n ∧ Hid ((((bl s).drop i).take n).all (fun c => kindN k c.toNat) = true)) (fun v => s.size - (intOf v).toNat)
  case atStart => exact ⟨0, hi, rfl, by show _ = _; rw [List.take_zero]; rfl⟩
  case round =>
    obtain ⟨n, hn, rfl, hr⟩ := hrel
    obtain ⟨j, hj⟩ : ∃ j, j = i + n := ⟨_, rfl⟩
    have hsum : (i : Int) + (n : Int) = (j : Int) := by omega
    by_cases hlt : j < s.size
    · have hd : decide ((j : Int) < (s.size : Int)) = true := by rw [decide_eq_true_eq]; omega
      have hd2 : decide (j < s.size) = true := by rw [decide_eq_true_eq]; omega
      obtain ⟨b, hb⟩ : ∃ b, kindN k (s[j]).toNat = b := ⟨_, rfl⟩
      have HO := Lib.hid (of_at (s[j]).toNat k hk)
      rw [hb] at HO
      have HR : Hid (if b then (((bl s).drop i).take (n + 1)).all (fun c => kindN k c.toNat) = true else runN k ((bl s).drop i) = n) := by
        subst hj
        cases b
        · exact run_stop (by rw [bl_len]; omega) hr.out (fun h => by rw [bl_get s (i + n) hlt]; exact hb)
        · exact run_more (by rw [bl_len]; omega) hr.out (by rw [bl_get s (i + n) hlt]; exact hb)
      clear hb hr hj
      cases b
      · go_wp2_with fail
        refine (HO.out _).mono ?_
        rintro e w' ⟨rfl, rfl⟩
        go_wp2
        go_ret
        exact ⟨ret_int (by rw [HR.out]), rfl⟩
      · go_wp2_with fail
        refine (HO.out _).mono ?_
        rintro e w' ⟨rfl, rfl⟩
        go_wp2
        go_round
        case rel => exact ⟨n + 1, by omega, by go_num, HR⟩
        case measure => simp [intOf]; omega
    · have HR : Hid (runN k ((bl s).drop i) = n) := run_stop (by rw [bl_len]; omega) hr.out (fun h => absurd h (by rw [bl_len]; omega))
      have hd : decide ((j : Int) < (s.size : Int)) = false := by rw [decide_eq_false_iff_not]; omega
      have hd2 : decide (j < s.size) = false := by rw [decide_eq_false_iff_not]; omega
      clear hr hj
      go_wp2
      go_ret
      exact ⟨ret_int (by rw [HR.out]), rfl⟩
end Go.Proofs.YtdiagnhdigakpaaGreatDoor
/- Strings as lists of bytes; the contracts of the reference's member, Words, Signs, IsWord, IsName, number and quoted. -/
namespace Go.Proofs.YtdiagnhdigakpaaGreatDoor
open Go.RowKit

theorem below_alloc (w : World) (o : Obj) : Below w.heap.size w (w.alloc o) := (Below.refl _ _).alloc (Nat.le_refl _) o
theorem below_then {w w1 w2 : World} (h : Below w.heap.size w w1) (h' : Below w1.heap.size w1 w2) : Below w.heap.size w w2 := h.trans (h'.mono h.size)
/-- A list of bytes as a string. -/
def sb (l : List UInt8) : ByteArray := ⟨l.toArray⟩
theorem bl_sb (l : List UInt8) : bl (sb l) = l := by unfold bl sb; simp
theorem sb_bl (s : ByteArray) : sb (bl s) = s := by unfold bl sb; simp
theorem bl_inj {s t : ByteArray} (h : bl s = bl t) : s = t := by rw [← sb_bl s, ← sb_bl t, h]
theorem sb_size (l : List UInt8) : (sb l).size = l.length := by show l.toArray.size = _; simp
theorem bl_extract (s : ByteArray) (i j : Nat) : bl (s.extract i j) = ((bl s).drop i).take (j - i) := by unfold bl; simp [List.extract_eq_take_drop]
theorem bl_append (s t : ByteArray) : bl (s ++ t) = bl s ++ bl t := by unfold bl; exact ByteArray.toList_data_append
theorem bl_toList (s : ByteArray) : s.toList = bl s := ByteArray.toList_eq s

def memL (l : List (List UInt8)) (x : List UInt8) : Bool := l.contains x
/-- v is a slice of strings with these bytes. -/
def Ss (w : World) (v : Value) (l : List (List UInt8)) : Prop :=
  ∃ b c, v = .slice (some ⟨b, 0, none⟩) l.length c ∧ l.length ≤ c ∧ l.length ≤ 1000 ∧ ∀ (k : Nat) (h : k < l.length), w.cell? ⟨b, k, none⟩ = some (.string (sb l[k]))
theorem contains_stop {l : List (List UInt8)} {k : Nat} {x : List UInt8} (h : k < l.length) (he : l[k] = x) : memL l x = true := by
  unfold memL
  rw [List.contains_iff_mem, ← he]
  exact List.getElem_mem h
theorem not_contains_more {l : List (List UInt8)} {k : Nat} {x : List UInt8} (h : k < l.length) (hk : memL (l.take k) x = false) (hne : l[k] ≠ x) : memL (l.take (k + 1)) x = false := by
  unfold memL at *
  rw [List.take_succ_eq_append_getElem h]
  have h1 : x ∉ l.take k := by
    intro hm
    rw [List.contains_iff_mem.2 hm] at hk
    cases hk
  cases hc : (l.take k ++ [l[k]]).contains x with
  | false => rfl
  | true =>
    rw [List.contains_iff_mem, List.mem_append] at hc
    rcases hc with hc | hc
    · exact absurd hc h1
    · exact absurd (List.mem_singleton.1 hc).symm hne
set_option maxHeartbeats 1000000 in
theorem member_any (v : Value) (l : List (List UInt8)) (s : ByteArray) (w : World) (h : Ss w v l) :
    Calls Tryz.prog 134 #[v, .string s] w fun e w' => e = .returned (.bool (memL l (bl s))) ∧ w = w' := by
  obtain ⟨b, c, rfl, hq, hn, hc⟩ := h
  go_enter Tryz.func134, Tryz.ntmps134
  go_wp2_with fail
  go_loop [9] (fun i => ∃ k : Nat, k ≤ l.length ∧ i = .int .i64 k ∧ Hid (memL (l.take k) (bl s) = false)) (fun i => l.length - (intOf i).toNat)
  case atStart => exact ⟨0, Nat.zero_le _, rfl, by show _ = _; rw [List.take_zero]; rfl⟩
  case round =>
    obtain ⟨k, hk, rfl, hr⟩ := hrel
    by_cases hlt : k < l.length
    · have g := hc k hlt
      clear hc
      by_cases he : l[k] = bl s
      · have HR := Lib.hid (contains_stop hlt he)
        have t : ((sb l[k]).toList == s.toList) = true := by rw [bl_toList, bl_toList, bl_sb, he]; simp
        have HE : Hid (sb l[k] = s) := bl_inj (by rw [bl_sb]; exact he)
        generalize sb l[k] = x at g t HE
        clear he hr
        go_wp2
        go_ret
        exact ⟨ret_bool HR.out.symm, rfl⟩
      · have HR := Lib.hid (not_contains_more hlt hr.out he)
        have t : ((sb l[k]).toList == s.toList) = false := by rw [bl_toList, bl_toList, bl_sb, beq_eq_false_iff_ne]; exact he
        generalize sb l[k] = x at g t
        clear he hr
        go_wp2
        go_round
        case rel => exact ⟨k + 1, by omega, by go_num, HR⟩
        case measure => simp [intOf]; omega
    · have HR : Hid (memL l (bl s) = false) := by have := hr.out; rwa [List.take_of_length_le (by omega)] at this
      clear hc hr
      go_wp2
      go_ret
      exact ⟨ret_bool HR.out.symm, rfl⟩

/-- Strings that are laid anew. -/
theorem Ss.laid (w : World) (l : List (List UInt8)) (cs : Array Value) (t : TypeId) (n : Nat) (hcs : cs.toList = l.map fun x => .string (sb x)) (hn : n = l.length) (hl : l.length ≤ 1000) : Ss (w.alloc (.cells cs t)) (.slice (some ⟨w.heap.size, 0, none⟩) n n) l := by
  subst hn
  refine ⟨w.heap.size, l.length, rfl, Nat.le_refl _, hl, fun k hk => ?_⟩
  rw [World.cell?_alloc_at _ _ _ _ rfl]
  show cs[k]? = _
  rw [← Array.getElem?_toList, hcs, List.getElem?_map, List.getElem?_eq_getElem hk]
  rfl
set_option maxRecDepth 100000 in
theorem words_any (w : World) :
    Calls Tryz.prog 135 #[] w fun e w' => ∃ v, e = .returned v ∧ Ss w' v wordsL ∧ Below w.heap.size w w' := by
  go_enter Tryz.func135, Tryz.ntmps135
  go_wp2
  go_ret
  exact ⟨_, rfl, Ss.laid w wordsL _ _ _ (by kernel_rfl) rfl (by decide), below_alloc _ _⟩
theorem refIsWord_any (s : ByteArray) (w : World) :
    Calls Tryz.prog 103 #[.string s] w fun e w' => e = .returned (.bool (isWordL (bl s))) ∧ Below w.heap.size w w' := by
  go_enter Tryz.func103, Tryz.ntmps103
  go_wp2_with fail
  refine (words_any _).mono ?_
  rintro e w1 ⟨v, rfl, hs, hb⟩
  have HS := Lib.hid hs
  have HB := Lib.hid hb
  clear hs hb
  go_wp2_with fail
  refine (member_any _ _ s _ HS.out).mono ?_
  rintro e w' ⟨rfl, rfl⟩
  have HM : Hid (memL wordsL (bl s) = isWordL (bl s)) := rfl
  generalize memL wordsL (bl s) = m at HM
  go_wp2
  go_ret
  exact ⟨ret_bool HM.out, HB.out⟩
end Go.Proofs.YtdiagnhdigakpaaGreatDoor
/- All tokens of a list of bytes; what is written of tokens is read as these tokens. No program stands here. -/
namespace Go.Proofs.YtdiagnhdigakpaaGreatDoor

theorem skip_len (m : Bool) (l : List UInt8) : (skipM m l).length ≤ l.length := by
  induction l generalizing m with
  | nil => cases m <;> exact Nat.le_refl _
  | cons c r ih =>
    cases m
    · rw [skipM]
      split
      · have := ih false; rw [List.length_cons]; omega
      · split
        · have := ih true; rw [List.length_cons]; omega
        · exact Nat.le_refl _
    · rw [skipM]
      split
      · have := ih false; rw [List.length_cons]; omega
      · have := ih true; rw [List.length_cons]; omega
theorem skip_suffix (m : Bool) (l : List UInt8) : ∃ p, l = p ++ skipM m l := by
  induction l generalizing m with
  | nil => exact ⟨[], by cases m <;> rfl⟩
  | cons c r ih =>
    cases m
    · rw [skipM]
      split
      · obtain ⟨p, h⟩ := ih false; exact ⟨c :: p, by rw [List.cons_append, ← h]⟩
      · split
        · obtain ⟨p, h⟩ := ih true; exact ⟨c :: p, by rw [List.cons_append, ← h]⟩
        · exact ⟨[], rfl⟩
    · rw [skipM]
      split
      · obtain ⟨p, h⟩ := ih false; exact ⟨c :: p, by rw [List.cons_append, ← h]⟩
      · obtain ⟨p, h⟩ := ih true; exact ⟨c :: p, by rw [List.cons_append, ← h]⟩

/-- The tokens, each with how many bytes there are from its first one on; at last, if there is a fault, how many there are from it on. -/
def mostF : Nat → List UInt8 → List (Tok × Nat) × Option Nat
  | 0, _ => ([], none)
  | f + 1, l =>
    if skipL l = [] then ([], none) else
    match tokL (skipL l) with
    | none => ([], some (skipL l).length)
    | some (t, n) => ((t, (skipL l).length) :: (mostF f ((skipL l).drop n)).1, (mostF f ((skipL l).drop n)).2)
def lexM (l : List UInt8) : List (Tok × Nat) × Option Nat := mostF (l.length + 1) l
theorem most_enough {f g : Nat} {l : List UInt8} (hf : l.length < f) (hg : l.length < g) : mostF f l = mostF g l := by
  induction f generalizing g l with
  | zero => omega
  | succ f ih =>
    cases g with
    | zero => omega
    | succ g =>
      rw [mostF, mostF]
      split
      · rfl
      · cases ht : tokL (skipL l) with
        | none => rfl
        | some p =>
          obtain ⟨t, n⟩ := p
          obtain ⟨_, h1, h2, _⟩ := tok_facts ht
          have hs : (skipL l).length ≤ l.length := skip_len false l
          have e := ih (g := g) (l := (skipL l).drop n) (by rw [List.length_drop]; omega) (by rw [List.length_drop]; omega)
          simp only
          rw [e]
theorem lex_end {l : List UInt8} (h : skipL l = []) : lexM l = ([], none) := by unfold lexM; rw [mostF, if_pos h]
theorem lex_none {l : List UInt8} (h : skipL l ≠ []) (ht : tokL (skipL l) = none) : lexM l = ([], some (skipL l).length) := by unfold lexM; rw [mostF, if_neg h, ht]
theorem lex_some {l : List UInt8} {t : Tok} {n : Nat} (ht : tokL (skipL l) = some (t, n)) :
    lexM l = ((t, (skipL l).length) :: (lexM ((skipL l).drop n)).1, (lexM ((skipL l).drop n)).2) := by
  have h : skipL l ≠ [] := by intro e; rw [e] at ht; cases ht
  obtain ⟨_, h1, h2, _⟩ := tok_facts ht
  have hs : (skipL l).length ≤ l.length := skip_len false l
  unfold lexM
  rw [mostF, if_neg h, ht]
  simp only
  rw [most_enough (f := l.length) (g := ((skipL l).drop n).length + 1) (l := (skipL l).drop n) (by rw [List.length_drop]; omega) (by omega)]

/-- The tokens alone. -/
def toksL (l : List UInt8) : List Tok := (lexM l).1.map (·.1)
theorem skip_at {c : UInt8} {r : List UInt8} (h : blkB c = false) (h' : c ≠ 45) : skipL (c :: r) = c :: r := by
  unfold skipL
  rw [skipM, if_neg (by rw [h]; decide), if_neg (fun e => h' e.1)]
theorem skip_blank {c : UInt8} (h : blkB c = true) (r : List UInt8) : skipL (c :: r) = skipL r := by
  unfold skipL
  rw [skipM, if_pos h]
theorem skip_sign : ∀ x, x ∈ signsL → ∀ z, Gap z → skipL (x ++ z) = x ++ z := by
  intro x hx z hz
  have hz' : z = [] ∨ ∃ y, z = 32 :: y := by
    rcases hz with rfl | h
    · exact .inl rfl
    · cases z with
      | nil => cases h
      | cons a y => injection h with h; subst h; exact .inr ⟨y, rfl⟩
  unfold signsL at hx
  simp only [List.mem_cons, List.not_mem_nil, or_false] at hx
  rcases hz' with rfl | ⟨y, rfl⟩
  all_goals
    rcases hx with rfl | rfl | rfl | rfl | rfl | rfl | rfl | rfl | rfl | rfl | rfl | rfl | rfl | rfl | rfl | rfl | rfl | rfl
    all_goals rfl
theorem skip_wri {t : Tok} (h : posL t = true) {z : List UInt8} (hz : Gap z) : skipL (wriL t ++ z) = wriL t ++ z := by
  have key : ∀ w, hdLet w = true → skipL (w ++ z) = w ++ z := by
    intro w hw
    cases w with
    | nil => cases hw
    | cons c r => exact skip_at (let_ne hw).2.2.2.2 (let_ne hw).2.2.1
  obtain ⟨op, text, n⟩ := t
  unfold posL at h
  simp only at h
  unfold wriL
  simp only
  split at h
  · rename_i e
    subst e
    rw [Bool.and_eq_true] at h
    have hn := h.2
    unfold isNameL at hn
    rw [Bool.and_eq_true, Bool.and_eq_true] at hn
    exact key text hn.2.1
  · split at h
    · rename_i _ e
      subst e
      rw [Bool.and_eq_true] at h
      exact key text (isWord_ok h.2).1
    · split at h
      · rename_i _ _ e
        subst e
        rw [if_pos rfl]
        obtain ⟨d1, d2, _⟩ := dec_facts n
        generalize hl : decL n = l at *
        cases l with
        | nil => exact absurd rfl d1
        | cons c r =>
          rw [List.all_cons, Bool.and_eq_true] at d2
          exact skip_at (dig_ne d2.1).2.2 (dig_ne d2.1).2.1
      · split at h
        · rename_i _ _ _ e
          subst e
          exact skip_at (c := 39) (by decide) (by decide)
        · split at h
          · rename_i _ _ _ _ e
            subst e
            exact skip_at (c := 98) (by decide) (by decide)
          · split at h
            · rename_i _ _ _ _ _ e
              subst e
              exact skip_at (c := 34) (by decide) (by decide)
            · split at h
              · rename_i _ _ _ _ _ _ e
                subst e
                rw [Bool.and_eq_true] at h
                rw [if_neg (by decide), if_neg (by decide), if_neg (by decide), if_neg (by decide)]
                exact skip_sign text (by simpa using h.2) z hz
              · cases h
/-- A token that is written, and what stands behind it. -/
theorem lex_wri {t : Tok} (h : posL t = true) {l z : List UInt8} (hl : skipL l = skipL (wriL t ++ z)) (hz : Gap z) : lexM l = ((t, (wriL t ++ z).length) :: (lexM z).1, (lexM z).2) := by
  rw [skip_wri h hz] at hl
  have := lex_some (l := l) (t := t) (n := (wriL t).length) (by rw [hl]; exact tok_wri h hz)
  rw [hl, List.drop_left'] at this
  · exact this
  · rfl

/-- Tokens as they are written, with a blank between two. -/
def tailL : List Tok → List UInt8
  | [] => []
  | t :: ts => 32 :: (wriL t ++ tailL ts)
def joinL : List Tok → List UInt8
  | [] => []
  | t :: ts => wriL t ++ tailL ts
theorem tail_gap (ts : List Tok) : Gap (tailL ts) := by
  cases ts with
  | nil => exact .inl rfl
  | cons t ts => exact .inr rfl
theorem lex_tail {ts : List Tok} (h : ∀ t ∈ ts, posL t = true) : toksL (tailL ts) = ts ∧ (lexM (tailL ts)).2 = none := by
  induction ts with
  | nil => exact ⟨rfl, rfl⟩
  | cons t ts ih =>
    obtain ⟨h1, h2⟩ := ih fun x hx => h x (List.mem_cons_of_mem _ hx)
    have e := lex_wri (h t (List.mem_cons_self ..)) (l := tailL (t :: ts)) (z := tailL ts) (skip_blank (by decide) _) (tail_gap ts)
    unfold toksL at *
    rw [e]
    exact ⟨by rw [List.map_cons, h1], h2⟩
theorem lex_join {ts : List Tok} (h : ∀ t ∈ ts, posL t = true) : toksL (joinL ts) = ts ∧ (lexM (joinL ts)).2 = none := by
  cases ts with
  | nil => exact ⟨rfl, rfl⟩
  | cons t ts =>
    obtain ⟨h1, h2⟩ := lex_tail fun x hx => h x (List.mem_cons_of_mem t hx)
    have e := lex_wri (h t (List.mem_cons_self ..)) (l := joinL (t :: ts)) (z := tailL ts) rfl (tail_gap ts)
    unfold toksL at *
    rw [e]
    exact ⟨by rw [List.map_cons, h1], h2⟩

/-- Blanks and comments that may stand between two tokens. -/
def gapsL : List (List UInt8) := [[], [32], [9], [10], [13, 10], [45, 45, 32, 97, 32, 99, 111, 109, 109, 101, 110, 116, 32, 34, 111, 102, 34, 32, 39, 120, 10], [45, 45, 10, 32, 32]]
def endL : List UInt8 := [32, 45, 45, 32, 116, 104, 101, 32, 101, 110, 100]
def spreadL : List (List UInt8 × Tok) → List UInt8
  | [] => endL
  | (g, t) :: r => 32 :: (g ++ (wriL t ++ spreadL r))
theorem skip_gap : ∀ g, g ∈ gapsL → ∀ x, skipL (g ++ x) = skipL x := by
  intro g hg x
  unfold gapsL at hg
  simp only [List.mem_cons, List.not_mem_nil, or_false] at hg
  rcases hg with rfl | rfl | rfl | rfl | rfl | rfl | rfl
  all_goals rfl
theorem spread_gap (r : List (List UInt8 × Tok)) : Gap (spreadL r) := by
  cases r with
  | nil => exact .inr rfl
  | cons p r => exact .inr rfl
theorem lex_spread {r : List (List UInt8 × Tok)} (h : ∀ p ∈ r, p.1 ∈ gapsL ∧ posL p.2 = true) : toksL (spreadL r) = r.map (·.2) ∧ (lexM (spreadL r)).2 = none := by
  induction r with
  | nil => exact ⟨rfl, rfl⟩
  | cons p r ih =>
    obtain ⟨g, t⟩ := p
    obtain ⟨h1, h2⟩ := ih fun x hx => h x (List.mem_cons_of_mem _ hx)
    obtain ⟨hg, ht⟩ := h (g, t) (List.mem_cons_self ..)
    have e := lex_wri ht (l := spreadL ((g, t) :: r)) (z := spreadL r) ((skip_blank (by decide) _).trans (skip_gap g hg _)) (spread_gap r)
    unfold toksL at *
    rw [e]
    exact ⟨by rw [List.map_cons, List.map_cons, h1], h2⟩

/-- What holds of all tokens that are read: they can be written, and not with more bytes; they stand one behind another. -/
def wsum : List Tok → Nat
  | [] => 0
  | t :: ts => (wriL t).length + wsum ts
theorem lex_read (f : Nat) : ∀ l : List UInt8, (∀ p ∈ (mostF f l).1, posL p.1 = true) ∧ (mostF f l).1.length ≤ l.length ∧ wsum ((mostF f l).1.map (·.1)) ≤ l.length := by
  induction f with
  | zero => intro l; exact ⟨(fun p hp => by cases hp), Nat.zero_le _, Nat.zero_le _⟩
  | succ f ih =>
    intro l
    rw [mostF]
    split
    · exact ⟨(fun p hp => by cases hp), Nat.zero_le _, Nat.zero_le _⟩
    · cases ht : tokL (skipL l) with
      | none => exact ⟨(fun p hp => by cases hp), Nat.zero_le _, Nat.zero_le _⟩
      | some q =>
        obtain ⟨t, n⟩ := q
        obtain ⟨hp, h1, h2, h3, _⟩ := tok_facts ht
        have hs : (skipL l).length ≤ l.length := skip_len false l
        obtain ⟨i1, i2, i3⟩ := ih ((skipL l).drop n)
        rw [List.length_drop] at i2 i3
        simp only
        refine ⟨?_, ?_, ?_⟩
        · intro p hm
          rcases List.mem_cons.1 hm with rfl | hm
          · exact hp
          · exact i1 p hm
        · rw [List.length_cons]; omega
        · rw [List.map_cons, wsum]
          show (wriL t).length + _ ≤ _
          omega
theorem tail_len (ts : List Tok) : (tailL ts).length = wsum ts + ts.length := by
  induction ts with
  | nil => rfl
  | cons t ts ih => rw [tailL, List.length_cons, List.length_append, ih, wsum, List.length_cons]; omega
theorem join_len (ts : List Tok) : (joinL ts).length ≤ wsum ts + ts.length := by
  cases ts with
  | nil => exact Nat.zero_le _
  | cons t ts => rw [joinL, List.length_append, tail_len, wsum, List.length_cons]; omega
/-- What is read, written, is read the same. -/
theorem lex_twice (l : List UInt8) : (∀ t ∈ toksL l, posL t = true) ∧ (toksL l).length ≤ l.length ∧ (joinL (toksL l)).length ≤ 2 * l.length := by
  obtain ⟨h1, h2, h3⟩ := lex_read (l.length + 1) l
  have e : (toksL l).length = (mostF (l.length + 1) l).1.length := by unfold toksL lexM; rw [List.length_map]
  have h4 : wsum (toksL l) ≤ l.length := h3
  have := join_len (toksL l)
  refine ⟨?_, by omega, by omega⟩
  intro t ht
  obtain ⟨p, hp, rfl⟩ := List.mem_map.1 ht
  exact h1 p hp
end Go.Proofs.YtdiagnhdigakpaaGreatDoor
/- Places: lines and columns of the bytes of a list, and of the tokens that are read. No program stands here. -/
namespace Go.Proofs.YtdiagnhdigakpaaGreatDoor

/-- The line and the column of what stands behind these bytes. -/
def placeL (p : List UInt8) : Nat × Nat := p.foldl (fun a c => if c = 10 then (a.1 + 1, 1) else (a.1, a.2 + 1)) (1, 1)
theorem place_snoc (p : List UInt8) (c : UInt8) : placeL (p ++ [c]) = if c = 10 then ((placeL p).1 + 1, 1) else ((placeL p).1, (placeL p).2 + 1) := by unfold placeL; rw [List.foldl_append]; rfl
/-- Where lines begin. -/
def startsF : Nat → List UInt8 → List Nat
  | _, [] => []
  | k, c :: r => if c = 10 then (k + 1) :: startsF (k + 1) r else startsF (k + 1) r
def startsL (p : List UInt8) : List Nat := 0 :: startsF 0 p
theorem startsF_append (k : Nat) (p q : List UInt8) : startsF k (p ++ q) = startsF k p ++ startsF (k + p.length) q := by
  induction p generalizing k with
  | nil => rfl
  | cons c r ih =>
    rw [List.cons_append, startsF, startsF, ih (k + 1), List.length_cons, show k + 1 + r.length = k + (r.length + 1) by omega]
    split <;> rfl
theorem starts_snoc (p : List UInt8) (c : UInt8) : startsL (p ++ [c]) = if c = 10 then startsL p ++ [p.length + 1] else startsL p := by
  unfold startsL
  rw [startsF_append, startsF]
  split
  · rw [startsF, Nat.zero_add]; rfl
  · rw [startsF, List.append_nil]
theorem starts_append (p q : List UInt8) : ∃ r, startsL (p ++ q) = startsL p ++ r := ⟨startsF (0 + p.length) q, by unfold startsL; rw [startsF_append]; rfl⟩
/-- A place is where its line begins, and its column. -/
theorem place_at (p : List UInt8) : (placeL p).1 = (startsL p).length ∧ 1 ≤ (placeL p).2 ∧ ∃ r k, startsL p = r ++ [k] ∧ k + (placeL p).2 = p.length + 1 := by
  have key : ∀ n (p : List UInt8), p.length = n → (placeL p).1 = (startsL p).length ∧ 1 ≤ (placeL p).2 ∧ ∃ r k, startsL p = r ++ [k] ∧ k + (placeL p).2 = p.length + 1 := by
    intro n
    induction n with
    | zero =>
      intro p hp
      have : p = [] := List.eq_nil_of_length_eq_zero hp
      subst this
      exact ⟨rfl, Nat.le_refl _, [], 0, rfl, rfl⟩
    | succ n ih =>
      intro p hp
      obtain ⟨q, c, rfl⟩ : ∃ q c, p = q ++ [c] := by
        have hne : p ≠ [] := by rintro rfl; cases hp
        exact ⟨p.dropLast, p.getLast hne, (List.dropLast_concat_getLast hne).symm⟩
      rw [List.length_append, List.length_singleton] at hp
      obtain ⟨h1, h2, r, k, h3, h4⟩ := ih q (by omega)
      rw [place_snoc, starts_snoc]
      split
      · refine ⟨?_, Nat.le_refl _, startsL q, q.length + 1, rfl, ?_⟩
        · show (placeL q).1 + 1 = _
          rw [List.length_append, h1]; rfl
        · simp
      · refine ⟨h1, ?_, r, k, h3, ?_⟩
        · show 1 ≤ (placeL q).2 + 1
          omega
        · show k + ((placeL q).2 + 1) = _
          rw [List.length_append, List.length_singleton]; omega
  exact key p.length p rfl
theorem place_starts {s p q : List UInt8} (h : s = p ++ q) : 1 ≤ (placeL p).1 ∧ (placeL p).1 ≤ (startsL s).length ∧ 1 ≤ (placeL p).2 ∧ (placeL p).2 ≤ p.length + 1 ∧ (startsL s).getD ((placeL p).1 - 1) 0 + (placeL p).2 = p.length + 1 := by
  subst h
  obtain ⟨h1, h2, r, k, h3, h4⟩ := place_at p
  obtain ⟨r', h5⟩ := starts_append p q
  rw [h3] at h1 h5
  rw [List.length_append, List.length_singleton] at h1
  refine ⟨by omega, ?_, h2, by omega, ?_⟩
  · rw [h5, List.length_append, List.length_append, List.length_singleton]; omega
  · rw [h5, h1, show r.length + 1 - 1 = r.length by omega, List.append_assoc, List.getD_eq_getElem?_getD, List.getElem?_append_right (Nat.le_refl _), Nat.sub_self]
    exact h4
/-- Two places of one list are the same only if they stand at one byte. -/
theorem place_inj {s p q p' q' : List UInt8} (h : s = p ++ q) (h' : s = p' ++ q') (he : placeL p = placeL p') : p.length = p'.length := by
  have h1 := (place_starts h).2.2.2.2
  have h2 := (place_starts h').2.2.2.2
  rw [he] at h1
  omega

/-- A list's end of so many bytes. -/
theorem end_of {s p x : List UInt8} (h : s = p ++ x) : s.drop (s.length - x.length) = x ∧ s.take (s.length - x.length) = p := by
  subst h
  rw [List.length_append, Nat.add_sub_cancel]
  exact ⟨List.drop_left' rfl, List.take_left' rfl⟩
/-- Each token that is read stands where it is said to stand; behind it are the others. -/
theorem lex_stand (f : Nat) : ∀ (s l : List UInt8), (∃ p, s = p ++ l) → (∀ a ∈ (mostF f l).1, a.2 ≤ l.length ∧ ∃ n, tokL (s.drop (s.length - a.2)) = some (a.1, n)) ∧ List.Pairwise (fun a b : Tok × Nat => b.2 < a.2) (mostF f l).1
    ∧ (∀ r, (mostF f l).2 = some r → r ≤ l.length ∧ 1 ≤ r ∧ tokL (s.drop (s.length - r)) = none ∧ ∀ a ∈ (mostF f l).1, r < a.2) := by
  induction f with
  | zero => intro s l _; exact ⟨(fun a h => by cases h), List.Pairwise.nil, fun r h => by cases h⟩
  | succ f ih =>
    intro s l hl
    obtain ⟨p, hp⟩ := hl
    obtain ⟨p', hp'⟩ := skip_suffix false l
    have hs : s = (p ++ p') ++ skipL l := by rw [List.append_assoc, hp, congrArg (p ++ ·) hp']; rfl
    have hle : (skipL l).length ≤ l.length := skip_len false l
    rw [mostF]
    split
    · exact ⟨(fun a h => by cases h), List.Pairwise.nil, fun r h => by cases h⟩
    · rename_i hne
      cases ht : tokL (skipL l) with
      | none =>
        refine ⟨(fun a h => by cases h), List.Pairwise.nil, fun r h => ?_⟩
        injection h with h
        subst h
        refine ⟨hle, ?_, by rw [(end_of hs).1]; exact ht, fun a h => by cases h⟩
        cases hk : skipL l with
        | nil => exact absurd hk hne
        | cons c r => simp
      | some q =>
        obtain ⟨t, n⟩ := q
        obtain ⟨_, h1, h2, _⟩ := tok_facts ht
        have hd : s = ((p ++ p') ++ (skipL l).take n) ++ (skipL l).drop n := by rw [List.append_assoc, List.take_append_drop]; exact hs
        obtain ⟨i1, i2, i3⟩ := ih s ((skipL l).drop n) ⟨_, hd⟩
        rw [List.length_drop] at i1 i3
        simp only
        refine ⟨?_, ?_, ?_⟩
        · intro a ha
          rcases List.mem_cons.1 ha with rfl | ha
          · exact ⟨hle, n, by show tokL (s.drop (s.length - (skipL l).length)) = _; rw [(end_of hs).1]; exact ht⟩
          · obtain ⟨j1, j2⟩ := i1 a ha
            exact ⟨by omega, j2⟩
        · refine List.Pairwise.cons ?_ i2
          intro a ha
          have := (i1 a ha).1
          show a.2 < (skipL l).length
          omega
        · intro r hr
          obtain ⟨j1, j2, j3, j4⟩ := i3 r hr
          refine ⟨by omega, j2, j3, ?_⟩
          intro a ha
          rcases List.mem_cons.1 ha with rfl | ha
          · show r < (skipL l).length
            omega
          · exact j4 a ha
theorem lex_places (s : List UInt8) : (∀ a ∈ (lexM s).1, a.2 ≤ s.length ∧ ∃ n, tokL (s.drop (s.length - a.2)) = some (a.1, n)) ∧ List.Pairwise (fun a b : Tok × Nat => b.2 < a.2) (lexM s).1
    ∧ (∀ r, (lexM s).2 = some r → r ≤ s.length ∧ 1 ≤ r ∧ tokL (s.drop (s.length - r)) = none ∧ ∀ a ∈ (lexM s).1, r < a.2) := lex_stand (s.length + 1) s s ⟨[], rfl⟩
end Go.Proofs.YtdiagnhdigakpaaGreatDoor
/- The program's own ways to cut a string at a byte, to find a sign, a number, a gap, as functions of lists of bytes, and that they say what the document says. No program stands here. -/
namespace Go.Proofs.YtdiagnhdigakpaaGreatDoor

/-- What stands before the first byte c (all, if there is none). -/
def befL (c : UInt8) (l : List UInt8) : List UInt8 := l.takeWhile fun x => decide (x ≠ c)
theorem bef_split {c : UInt8} {l : List UInt8} (h : c ∈ l) : ∃ z, l = befL c l ++ c :: z := by
  unfold befL
  induction l with
  | nil => cases h
  | cons a r ih =>
    by_cases ha : a = c
    · subst ha
      exact ⟨r, by simp⟩
    · have hr : c ∈ r := by
        rcases List.mem_cons.1 h with h | h
        · exact absurd h.symm ha
        · exact h
      obtain ⟨z, hz⟩ := ih hr
      refine ⟨z, ?_⟩
      rw [List.takeWhile_cons, if_pos (by simpa using ha), List.cons_append, ← hz]
theorem bef_none {c : UInt8} {l : List UInt8} (h : ¬ c ∈ l) : befL c l = l := by
  unfold befL
  induction l with
  | nil => rfl
  | cons a r ih =>
    rw [List.takeWhile_cons, if_pos (by
      simp only [List.mem_cons, not_or] at h
      simpa using fun e => h.1 e.symm), ih (fun h' => h (List.mem_cons_of_mem _ h'))]
theorem bef_not {c : UInt8} (l : List UInt8) : ¬ c ∈ befL c l := by
  unfold befL
  intro h
  have := List.all_eq_true.1 (tw_all (fun x => decide (x ≠ c)) l) c h
  simp at this
theorem idx_in {c : UInt8} {l : List UInt8} (h : c ∈ l) : Lib.indexByte l c = ((befL c l).length : Int) := by
  obtain ⟨z, hz⟩ := bef_split h
  have hg : l[(befL c l).length]? = some c := by
    have : (befL c l ++ c :: z)[(befL c l).length]? = some c := by simp
    rwa [← hz] at this
  have hge := Lib.indexByte_ge l c
  by_cases hn : Lib.indexByte l c = -1
  · exact absurd hg (Lib.indexByte_none hn (befL c l).length)
  · obtain ⟨o, ho⟩ : ∃ o : Nat, Lib.indexByte l c = o := ⟨(Lib.indexByte l c).toNat, by omega⟩
    obtain ⟨h1, h2⟩ := Lib.indexByte_some ho
    rw [ho]
    congr 1
    rcases Nat.lt_trichotomy o (befL c l).length with hlt | he | hgt
    · exfalso
      have : (befL c l)[o]? = some c := by
        have h3 : (befL c l ++ c :: z)[o]? = some c := by rw [← hz]; exact h1
        rwa [List.getElem?_append_left hlt] at h3
      exact bef_not l (List.mem_of_getElem? this)
    · exact he
    · exact absurd hg (h2 _ hgt)
theorem idx_out {c : UInt8} {l : List UInt8} (h : ¬ c ∈ l) : Lib.indexByte l c = -1 := by
  have hge := Lib.indexByte_ge l c
  by_cases hn : Lib.indexByte l c = -1
  · exact hn
  · obtain ⟨o, ho⟩ : ∃ o : Nat, Lib.indexByte l c = o := ⟨(Lib.indexByte l c).toNat, by omega⟩
    exact absurd (List.mem_of_getElem? (Lib.indexByte_some ho).1) h

theorem tw_stop' {p : UInt8 → Bool} {q : List UInt8} {x : UInt8} {z : List UInt8} (hq : q.all p = true) (hx : p x = false) : (q ++ x :: z).takeWhile p = q ∧ (q ++ x :: z).dropWhile p = x :: z :=
  tw_stop hq (fun c hc => by injection hc with hc; rw [← hc]; exact hx)
/-- What stands between two double quotes, as the program finds it. -/
theorem quo_bef {p : UInt8 → Bool} {a b : Nat} (hp : p 34 = false) (d : List UInt8) :
    quoL p a b d = if 34 ∈ d ∧ ((befL 34 d).all p = true ∧ a ≤ (befL 34 d).length ∧ (befL 34 d).length ≤ b) then some (befL 34 d) else none := by
  by_cases h : 34 ∈ d ∧ ((befL 34 d).all p = true ∧ a ≤ (befL 34 d).length ∧ (befL 34 d).length ≤ b)
  · rw [if_pos h]
    obtain ⟨z, hz⟩ := bef_split h.1
    obtain ⟨h1, h2⟩ := tw_stop' (z := z) h.2.1 hp
    rw [← hz] at h1 h2
    unfold quoL
    rw [h1, h2, if_pos ⟨h.2.2.1, h.2.2.2, rfl⟩]
  · rw [if_neg h]
    cases hq : quoL p a b d with
    | none => rfl
    | some q =>
      exfalso
      obtain ⟨h1, h2, h3, z, hz⟩ := quo_facts hq
      have hn : ∀ x ∈ q, decide (x ≠ (34 : UInt8)) = true := by
        intro x hx
        rw [decide_eq_true_eq]
        rintro rfl
        have := List.all_eq_true.1 h1 _ hx
        rw [hp] at this
        cases this
      have hb : befL 34 d = q := by
        unfold befL
        rw [hz]
        exact (tw_stop' (List.all_eq_true.2 hn) (by decide)).1
      exact h ⟨by rw [hz]; simp, by rw [hb]; exact ⟨h1, h2, h3⟩⟩
theorem bit_cut (r : List UInt8) : bitTok r = if 39 ∈ r ∧ ((befL 39 r).length = 1 ∧ (befL 39 r).all bitB = true) then some (⟨4, befL 39 r, 0⟩, 3) else none := by
  by_cases h : 39 ∈ r ∧ ((befL 39 r).length = 1 ∧ (befL 39 r).all bitB = true)
  · rw [if_pos h]
    obtain ⟨z, hz⟩ := bef_split h.1
    obtain ⟨_, h1, h2⟩ := h
    generalize befL 39 r = q at *
    match q, h1, h2 with
    | [a], _, h2 =>
      subst hz
      show (if bitB a = true ∧ (39 : UInt8) = 39 then _ else _) = _
      rw [if_pos ⟨by simpa using h2, rfl⟩]
  · rw [if_neg h]
    cases hq : bitTok r with
    | none => rfl
    | some t =>
      exfalso
      match r, hq with
      | [], hq => cases hq
      | [_], hq => cases hq
      | a :: b :: z, hq =>
        by_cases hc : bitB a = true ∧ b = 39
        · obtain ⟨ha, rfl⟩ := hc
          have hne : a ≠ 39 := by
            rintro rfl
            exact absurd ha (by decide)
          have hb : befL 39 (a :: 39 :: z) = [a] := by
            unfold befL
            rw [List.takeWhile_cons, if_pos (by simpa using hne), List.takeWhile_cons, if_neg (by simp)]
          exact h ⟨by simp, by rw [hb]; exact ⟨rfl, by simpa using ha⟩⟩
        · have : (if bitB a = true ∧ b = 39 then some ((⟨4, [a], 0⟩ : Tok), 3) else none) = some t := hq
          rw [if_neg hc] at this
          cases this
/-- How many bytes the longest sign has. -/
def twoL : List (List UInt8) := [[58, 61], [60, 61], [61, 62], [62, 61], [47, 61]]
def oneL : List UInt8 := [61, 60, 62, 43, 45, 42, 47, 38, 40, 41, 58, 59, 44]
def sgnL (l : List UInt8) : Nat := if twoL.contains (l.take 2) then 2 else if oneL.contains (l.headD 0) then 1 else 0
theorem heads (x : List UInt8) (h : x ∈ signsL ∨ x ∈ twoL) : ∃ k y, x = k :: y ∧ k ∈ oneL := by
  have hd : ∀ x, x ∈ signsL ++ twoL → x ≠ [] ∧ x.headD 0 ∈ oneL := by decide
  obtain ⟨h1, h2⟩ := hd x (List.mem_append.2 h)
  cases x with
  | nil => exact absurd rfl h1
  | cons k y => exact ⟨k, y, rfl, h2⟩
theorem sgn_find {c : UInt8} {r : List UInt8} : (signsL.find? fun x => x.isPrefixOf (c :: r)) = if sgnL (c :: r) = 0 then none else some ((c :: r).take (sgnL (c :: r))) := by
  have hone : ∀ x : UInt8, oneL.contains x = true ∨ oneL.contains x = false := fun x => by cases oneL.contains x <;> simp
  have hall : ∀ c : UInt8, (∃ k ∈ oneL, c = k) ∨ oneL.contains c = false := by
    intro c
    rcases hone c with h | h
    · left; exact ⟨c, List.contains_iff_mem.1 h, rfl⟩
    · right; exact h
  rcases hall c with ⟨k, hk, rfl⟩ | h
  · cases r with
    | nil =>
      revert c
      decide
    | cons d z =>
      have hd : d = 61 ∨ d = 62 ∨ (d ≠ 61 ∧ d ≠ 62) := by
        by_cases h1 : d = 61
        · exact .inl h1
        · by_cases h2 : d = 62
          · exact .inr (.inl h2)
          · exact .inr (.inr ⟨h1, h2⟩)
      have e0 : ∀ (a b x y : UInt8) (z : List UInt8), [a, b].isPrefixOf (x :: y :: z) = (a == x && b == y) := by intros; simp [List.isPrefixOf]
      have e1 : ∀ (a x : UInt8) (z : List UInt8), [a].isPrefixOf (x :: z) = (a == x) := by intros; simp [List.isPrefixOf]
      simp only [oneL, List.mem_cons, List.not_mem_nil, or_false] at hk
      rcases hd with rfl | rfl | ⟨h1, h2⟩
      · rcases hk with rfl | rfl | rfl | rfl | rfl | rfl | rfl | rfl | rfl | rfl | rfl | rfl | rfl <;>
          simp [signsL, sgnL, twoL, oneL, List.find?, e0, e1]
      · rcases hk with rfl | rfl | rfl | rfl | rfl | rfl | rfl | rfl | rfl | rfl | rfl | rfl | rfl <;>
          simp [signsL, sgnL, twoL, oneL, List.find?, e0, e1]
      · have g1 : ((61 : UInt8) == d) = false := by rw [beq_eq_false_iff_ne]; exact Ne.symm h1
        have g2 : ((62 : UInt8) == d) = false := by rw [beq_eq_false_iff_ne]; exact Ne.symm h2
        rcases hk with rfl | rfl | rfl | rfl | rfl | rfl | rfl | rfl | rfl | rfl | rfl | rfl | rfl <;>
          simp [signsL, sgnL, twoL, oneL, List.find?, e0, e1, g1, g2, h1, h2]
  · have hne : ∀ k ∈ oneL, (k == c) = false := by
      intro k hk
      rw [beq_eq_false_iff_ne]
      rintro rfl
      rw [List.contains_iff_mem.2 hk] at h
      cases h
    have hs : ∀ x ∈ signsL, x.isPrefixOf (c :: r) = false := by
      intro x hx
      obtain ⟨k, y, rfl, hk⟩ := heads x (.inl hx)
      rw [List.isPrefixOf, hne k hk]; rfl
    have h0 : sgnL (c :: r) = 0 := by
      unfold sgnL
      have ht : twoL.contains ((c :: r).take 2) = false := by
        cases hc : twoL.contains ((c :: r).take 2) with
        | false => rfl
        | true =>
          have hm := List.contains_iff_mem.1 hc
          obtain ⟨k, y, he, hk⟩ := heads _ (.inr hm)
          rw [List.take_succ_cons] at he
          injection he with he
          subst he
          rw [List.contains_iff_mem.2 hk] at h
          cases h
      rw [ht, if_neg (by decide), if_neg (by rw [List.headD_cons, h]; decide)]
    rw [h0, if_pos rfl, List.find?_eq_none]
    intro x hx
    rw [hs x hx]
    decide
end Go.Proofs.YtdiagnhdigakpaaGreatDoor
/- The program's own ways to read a number and to pass over a gap, as functions of lists of bytes; what its first token is. No program stands here. -/
namespace Go.Proofs.YtdiagnhdigakpaaGreatDoor

theorem parse_digits : ∀ (l : List UInt8) (acc u : Nat), Lib.parseUint10 acc l = .ok u → l.all digB = true ∧ u = l.foldl (fun n c => 10 * n + (c.toNat - 48)) acc
  | [], acc, u, h => by
    simp only [Lib.parseUint10] at h
    injection h with h
    exact ⟨rfl, h.symm⟩
  | c :: r, acc, u, h => by
    simp only [Lib.parseUint10] at h
    split at h
    · rename_i hd
      split at h
      · cases h
      · split at h
        · cases h
        · obtain ⟨h1, h2⟩ := parse_digits r _ u h
          refine ⟨?_, ?_⟩
          · rw [List.all_cons, h1, Bool.and_true]
            exact decide_eq_true hd
          · rw [List.foldl_cons, h2, Nat.mul_comm]
    · cases h
theorem fold_ge : ∀ (l : List UInt8) (acc : Nat), acc ≤ l.foldl (fun n c => 10 * n + (c.toNat - 48)) acc
  | [], acc => Nat.le_refl _
  | c :: r, acc => by
    rw [List.foldl_cons]
    exact Nat.le_trans (by omega) (fold_ge r _)
theorem digits_parse : ∀ (l : List UInt8) (acc : Nat), l.all digB = true → l.foldl (fun n c => 10 * n + (c.toNat - 48)) acc ≤ maxI → Lib.parseUint10 acc l = .ok (l.foldl (fun n c => 10 * n + (c.toNat - 48)) acc)
  | [], _, _, _ => rfl
  | c :: r, acc, hd, h => by
    rw [List.all_cons, Bool.and_eq_true] at hd
    have hc : 48 ≤ c.toNat ∧ c.toNat ≤ 57 := of_decide_eq_true hd.1
    rw [List.foldl_cons] at h ⊢
    have h1 := fold_ge r (10 * acc + (c.toNat - 48))
    have hm : maxI = 2147483647 := rfl
    rw [hm] at h
    simp only [Lib.parseUint10]
    rw [if_pos hc, if_neg (by omega), if_neg (by omega), Nat.mul_comm acc 10]
    exact digits_parse r _ hd.2 (by rw [hm]; exact h)
/-- What the program makes of a run that begins with a digit. -/
theorem atoi_ok {c : UInt8} {r : List UInt8} (hc : digB c = true) {v : Int} (h : Lib.atoiAll (c :: r) = .ok v) : (c :: r).all digB = true ∧ v = (valL (c :: r) : Int) := by
  have hd : 48 ≤ c.toNat ∧ c.toNat ≤ 57 := of_decide_eq_true hc
  have hm : Lib.parseMag (c :: r) = Lib.parseUint10 0 (c :: r) := by unfold Lib.parseMag; rw [if_neg (by simp)]
  rw [Lib.atoiAll_plain c r (by omega) (by omega), hm] at h
  unfold Lib.signless at h
  cases hp : Lib.parseUint10 0 (c :: r)
  case ok u =>
    rw [hp] at h
    simp only at h
    split at h
    · cases h
    · obtain ⟨h1, h2⟩ := parse_digits _ _ _ hp
      injection h with h
      exact ⟨h1, by rw [← h, h2]; rfl⟩
  all_goals
    rw [hp] at h
    cases h
theorem atoi_val {c : UInt8} {r : List UInt8} (hd : (c :: r).all digB = true) (hv : valL (c :: r) ≤ maxI) : Lib.atoiAll (c :: r) = .ok (valL (c :: r) : Int) := by
  have hc : digB c = true := by rw [List.all_cons, Bool.and_eq_true] at hd; exact hd.1
  have hd' : 48 ≤ c.toNat ∧ c.toNat ≤ 57 := of_decide_eq_true hc
  have hm : Lib.parseMag (c :: r) = Lib.parseUint10 0 (c :: r) := by unfold Lib.parseMag; rw [if_neg (by simp)]
  have hp := digits_parse (c :: r) 0 hd hv
  have hM : maxI = 2147483647 := rfl
  rw [Lib.atoiAll_plain c r (by omega) (by omega), hm, hp]
  show (if 9223372036854775808 ≤ _ then _ else _) = _
  rw [if_neg (by unfold valL at hv; omega)]
  rfl
theorem all_inn {l : List UInt8} (h : l.all digB = true) : l.all innB = true := by
  rw [List.all_eq_true] at *
  exact fun x hx => inn_dig (h x hx)
/-- A run of what may stand in a name, that begins with a digit: a number just if all of it are digits, and it is not too great. -/
theorem num_run {c : UInt8} {r : List UInt8} (_hc : digB c = true) :
    (valL ((c :: r).takeWhile digB) ≤ maxI ∧ ((c :: r).takeWhile innB).length = ((c :: r).takeWhile digB).length) ↔ (((c :: r).takeWhile innB).all digB = true ∧ valL ((c :: r).takeWhile innB) ≤ maxI) := by
  have key : ((c :: r).takeWhile innB).length = ((c :: r).takeWhile digB).length → (c :: r).takeWhile innB = (c :: r).takeWhile digB := by
    intro h
    rw [← tw_take innB, ← tw_take digB, h]
  constructor
  · rintro ⟨h1, h2⟩
    rw [key h2]
    exact ⟨tw_all _ _, h1⟩
  · rintro ⟨h1, h2⟩
    have hs := tw_split innB (c :: r)
    have hz : ∀ x, ((c :: r).dropWhile innB).head? = some x → digB x = false := by
      intro x hx
      cases hd : (c :: r).dropWhile innB with
      | nil => rw [hd] at hx; cases hx
      | cons y z =>
        rw [hd] at hx
        injection hx with hx
        subst hx
        have := List.head?_dropWhile_not innB (c :: r)
        rw [hd] at this
        simp only [List.head?_cons] at this
        cases hy : digB y with
        | false => rfl
        | true => rw [inn_dig hy] at this; exact absurd this (by simp)
    have ht : (c :: r).takeWhile digB = (c :: r).takeWhile innB := by
      conv => lhs; rw [hs]
      exact (tw_stop h1 hz).1
    rw [ht]
    exact ⟨h2, rfl⟩
/-- How long a blank or a comment at the front is. -/
def gapL : List UInt8 → Nat
  | [] => 0
  | c :: r => if c = 45 ∧ r.head? = some 45 then (befL 10 (c :: r)).length else if blkB c then 1 else 0
theorem skip_bef (l : List UInt8) : skipM true l = skipL (l.drop (befL 10 l).length) := by
  unfold befL
  induction l with
  | nil => rfl
  | cons c r ih =>
    rw [skipM]
    by_cases h : c = 10
    · subst h
      rw [if_pos rfl, List.takeWhile_cons, if_neg (by simp)]
      exact (skip_blank (by decide) r).symm
    · rw [if_neg h, List.takeWhile_cons, if_pos (by simpa using h), List.length_cons, List.drop_succ_cons]
      exact ih
theorem gap_more {l : List UInt8} (h : gapL l ≠ 0) : skipL l = skipL (l.drop (gapL l)) ∧ gapL l ≤ l.length := by
  cases l with
  | nil => exact absurd rfl h
  | cons c r =>
    rw [gapL] at h ⊢
    by_cases hc : c = 45 ∧ r.head? = some 45
    · rw [if_pos hc]
      refine ⟨?_, tw_len _ _⟩
      rw [← skip_bef]
      obtain ⟨rfl, hr⟩ := hc
      have e1 : skipL (45 :: r) = skipM true r := by unfold skipL; rw [skipM, if_neg (by decide), if_pos ⟨rfl, hr⟩]
      have e2 : skipM true (45 :: r) = skipM true r := by rw [skipM]; exact if_neg (by decide)
      rw [e1, e2]
    · rw [if_neg hc] at h ⊢
      cases hb : blkB c with
      | true => rw [if_pos rfl]; exact ⟨skip_blank hb r, by simp⟩
      | false => rw [hb] at h; exact absurd (if_neg (by decide)) h
theorem gap_none {l : List UInt8} (h : gapL l = 0) : skipL l = l := by
  cases l with
  | nil => rfl
  | cons c r =>
    rw [gapL] at h
    by_cases hc : c = 45 ∧ r.head? = some 45
    · rw [if_pos hc] at h
      obtain ⟨rfl, hr⟩ := hc
      unfold befL at h
      rw [List.takeWhile_cons, if_pos (by decide)] at h
      cases h
    · rw [if_neg hc] at h
      cases hb : blkB c with
      | true => rw [hb] at h; cases h
      | false =>
        unfold skipL
        rw [skipM, if_neg (by rw [hb]; decide), if_neg hc]
/-- The four parts of a first token, and its length. -/
def fO : Option (Tok × Nat) → Nat | some (t, _) => t.op | none => 0
def fT : Option (Tok × Nat) → List UInt8 | some (t, _) => t.text | none => []
def fN : Option (Tok × Nat) → Nat | some (t, _) => t.n | none => 0
def fL : Option (Tok × Nat) → Nat | some (_, n) => n | none => 0
end Go.Proofs.YtdiagnhdigakpaaGreatDoor
/- How numbers are written by the library and by the reference: one way; the letters of bits. No program stands here. -/
namespace Go.Proofs.YtdiagnhdigakpaaGreatDoor

theorem dec_same (n : Nat) : Lib.decDigits n = decL n := by
  induction n using Nat.strongRecOn with
  | ind n ih =>
    rw [Lib.decDigits, decL]
    by_cases h : n < 10
    · rw [dif_pos h, dif_pos h]
    · rw [dif_neg h, dif_neg h, ih (n / 10) (by omega)]
/-- How a number is written. -/
def itoL (n : Int) : List UInt8 := Lib.itoa n
theorem ito_nat (n : Nat) : itoL n = decL n := by
  unfold itoL Lib.itoa
  rw [if_neg (by omega), Int.toNat_natCast, dec_same]
/-- The letter of a bit, and the bit of a letter (4 of any other). -/
def ltr (z : Nat) : UInt8 := if z = 0 then 48 else if z = 1 then 49 else if z = 2 then 120 else 122
def lc (x : UInt8) : Nat := if x = 48 then 0 else if x = 49 then 1 else if x = 120 then 2 else if x = 122 then 3 else 4
theorem lc_ltr {z : Nat} (h : z ≤ 3) : lc (ltr z) = z := by
  obtain rfl | rfl | rfl | rfl : z = 0 ∨ z = 1 ∨ z = 2 ∨ z = 3 := by omega
  all_goals decide
theorem ltr_lc {x : UInt8} (h : lc x ≤ 3) : ltr (lc x) = x := by
  unfold lc at *
  split
  · rename_i e; rw [e]; rfl
  · split
    · rename_i e; rw [e]; rfl
    · split
      · rename_i e; rw [e]; rfl
      · split
        · rename_i e; rw [e]; rfl
        · simp_all
theorem lc_le (x : UInt8) : lc x ≤ 4 := by unfold lc; (repeat' split) <;> omega
theorem lc_cases (x : UInt8) : (x = 48 ∧ lc x = 0) ∨ (x = 49 ∧ lc x = 1) ∨ (x = 120 ∧ lc x = 2) ∨ (x = 122 ∧ lc x = 3) ∨ (x ≠ 48 ∧ x ≠ 49 ∧ x ≠ 120 ∧ x ≠ 122 ∧ lc x = 4) := by
  by_cases h0 : x = 48
  · subst h0; left; exact ⟨rfl, rfl⟩
  by_cases h1 : x = 49
  · subst h1; right; left; exact ⟨rfl, rfl⟩
  by_cases h2 : x = 120
  · subst h2; right; right; left; exact ⟨rfl, rfl⟩
  by_cases h3 : x = 122
  · subst h3; right; right; right; left; exact ⟨rfl, rfl⟩
  right; right; right; right
  exact ⟨h0, h1, h2, h3, by simp [lc, h0, h1, h2, h3]⟩
end Go.Proofs.YtdiagnhdigakpaaGreatDoor
