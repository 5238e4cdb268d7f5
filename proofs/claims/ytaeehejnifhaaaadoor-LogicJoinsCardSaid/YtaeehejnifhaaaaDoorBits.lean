/- Plain facts on bits: the tables of the four values as functions of numbers, and the codes of the names of operations. No program stands here. -/
namespace Go.Proofs.YtaeehejnifhaaaaDoor

def andN (a b : Nat) : Nat := if a = 0 ∨ b = 0 then 0 else if a = 1 ∧ b = 1 then 1 else 2
def orN (a b : Nat) : Nat := if a = 1 ∨ b = 1 then 1 else if a = 0 ∧ b = 0 then 0 else 2
def xorN (a b : Nat) : Nat := if a ≤ 1 ∧ b ≤ 1 then (if a = b then 0 else 1) else 2
def notN (a : Nat) : Nat := if a = 0 then 1 else if a = 1 then 0 else 2
def resN (a b : Nat) : Nat := if a = b then a else if a = 3 then b else if b = 3 then a else 2

theorem andN_le (a b : Nat) : andN a b ≤ 2 := by unfold andN; (repeat' split) <;> omega
theorem orN_le (a b : Nat) : orN a b ≤ 2 := by unfold orN; (repeat' split) <;> omega
theorem xorN_le (a b : Nat) : xorN a b ≤ 2 := by unfold xorN; (repeat' split) <;> omega
theorem notN_le (a : Nat) : notN a ≤ 2 := by unfold notN; (repeat' split) <;> omega
theorem resN_le (a b : Nat) (ha : a ≤ 3) (hb : b ≤ 3) : resN a b ≤ 3 := by unfold resN; (repeat' split) <;> omega

/-- The code of an operation's name, of its bytes; 6 of any other string. -/
def nameL (l : List UInt8) : Nat :=
  if l == [97, 110, 100] then 0 else if l == [111, 114] then 1 else if l == [120, 111, 114] then 2 else if l == [110, 97, 110, 100] then 3 else if l == [110, 111, 114] then 4 else if l == [120, 110, 111, 114] then 5 else 6
def nameK (s : ByteArray) : Nat := nameL s.toList

/-- The operation of a code. -/
def opN (k a b : Nat) : Nat :=
  if k = 0 then andN a b else if k = 1 then orN a b else if k = 2 then xorN a b else if k = 3 then notN (andN a b) else if k = 4 then notN (orN a b) else notN (xorN a b)

theorem opN_le (k a b : Nat) : opN k a b ≤ 2 := by
  unfold opN
  have := andN_le a b; have := orN_le a b; have := xorN_le a b
  have := notN_le (andN a b); have := notN_le (orN a b); have := notN_le (xorN a b)
  (repeat' split) <;> omega

/-- What Op returns: the bit and the error's number. -/
def opV (s : ByteArray) (a b : Nat) : Nat := if nameK s ≤ 5 ∧ a ≤ 3 ∧ b ≤ 3 then opN (nameK s) a b else 0
def opE (s : ByteArray) (a b : Nat) : Nat := if nameK s ≤ 5 ∧ a ≤ 3 ∧ b ≤ 3 then 0 else 2

theorem opV_le (s : ByteArray) (a b : Nat) : opV s a b ≤ 2 := by unfold opV; split; exact opN_le _ _ _; omega

/-- What the six tests on a name come to. -/
def Tests (s : ByteArray) (t0 t1 t2 t3 t4 t5 : Bool) : Prop :=
  (s.toList == [97, 110, 100]) = t0 ∧ (s.toList == [111, 114]) = t1 ∧ (s.toList == [120, 111, 114]) = t2 ∧ (s.toList == [110, 97, 110, 100]) = t3 ∧ (s.toList == [110, 111, 114]) = t4 ∧ (s.toList == [120, 110, 111, 114]) = t5

theorem nameK_cases (s : ByteArray) : (Tests s true false false false false false ∧ nameK s = 0) ∨ (Tests s false true false false false false ∧ nameK s = 1) ∨ (Tests s false false true false false false ∧ nameK s = 2) ∨
    (Tests s false false false true false false ∧ nameK s = 3) ∨ (Tests s false false false false true false ∧ nameK s = 4) ∨ (Tests s false false false false false true ∧ nameK s = 5) ∨ (Tests s false false false false false false ∧ nameK s = 6) := by
  unfold Tests nameK
  generalize s.toList = l
  by_cases h0 : l = [97, 110, 100]
  · subst h0; left; decide
  by_cases h1 : l = [111, 114]
  · subst h1; right; left; decide
  by_cases h2 : l = [120, 111, 114]
  · subst h2; right; right; left; decide
  by_cases h3 : l = [110, 97, 110, 100]
  · subst h3; right; right; right; left; decide
  by_cases h4 : l = [110, 111, 114]
  · subst h4; right; right; right; right; left; decide
  by_cases h5 : l = [120, 110, 111, 114]
  · subst h5; right; right; right; right; right; left; decide
  right; right; right; right; right; right
  simp [nameL, h0, h1, h2, h3, h4, h5]

end Go.Proofs.YtaeehejnifhaaaaDoor
