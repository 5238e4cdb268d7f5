/- What the tokens of a list of bytes are. No program stands here. -/
import Derived.Test.YtfjeljehodbbmaaDoorProg
namespace Go.Proofs.YtfjeljehodbbmaaDoor

/-- The kinds of bytes. -/
def letN (x : Nat) : Bool := decide ((97 ≤ x ∧ x ≤ 122) ∨ (65 ≤ x ∧ x ≤ 90))
def digN (x : Nat) : Bool := decide (48 ≤ x ∧ x ≤ 57)
def innN (x : Nat) : Bool := decide (((97 ≤ x ∧ x ≤ 122) ∨ (65 ≤ x ∧ x ≤ 90)) ∨ (48 ≤ x ∧ x ≤ 57) ∨ x = 95)
def blkN (x : Nat) : Bool := decide (x = 32 ∨ x = 9 ∨ x = 13 ∨ x = 10)
def bitN (x : Nat) : Bool := decide (x = 48 ∨ x = 49 ∨ x = 120 ∨ x = 122)
def plnN (x : Nat) : Bool := decide (32 ≤ x ∧ x ≤ 126 ∧ x ≠ 34)
def letB (c : UInt8) : Bool := letN c.toNat
def digB (c : UInt8) : Bool := digN c.toNat
def innB (c : UInt8) : Bool := innN c.toNat
def blkB (c : UInt8) : Bool := blkN c.toNat
def bitB (c : UInt8) : Bool := bitN c.toNat
def plnB (c : UInt8) : Bool := plnN c.toNat

def wordsL : List (List UInt8) := [[112, 97, 99, 107, 97, 103, 101], [105, 115], [101, 110, 100], [109, 111, 100, 117, 108, 101], [103, 101, 110, 101, 114, 105, 99], [112, 111, 114, 116], [98, 101, 103, 105, 110], [105, 110], [111, 117, 116], [118, 101, 99], [97, 114, 114, 97, 121], [111, 102], [99, 111, 110, 115, 116], [116, 121, 112, 101], [115, 105, 103, 110, 97, 108], [118, 97, 114], [102, 117, 110, 99, 116, 105, 111, 110], [114, 101, 116, 117, 114, 110], [117, 115, 101], [112, 114, 111, 99, 101, 115, 115], [97, 108, 108], [105, 110, 115, 116], [102, 111, 114], [116, 111], [103, 101, 110, 101, 114, 97, 116, 101], [105, 102], [101, 108, 115, 101], [116, 114, 97, 110, 115, 112, 111, 114, 116], [97, 102, 116, 101, 114], [97, 115, 115, 101, 114, 116], [114, 101, 112, 111, 114, 116], [116, 104, 101, 110], [101, 108, 115, 105, 102], [99, 97, 115, 101], [119, 104, 101, 110], [111, 116, 104, 101, 114, 115], [108, 111, 111, 112], [119, 104, 105, 108, 101], [119, 97, 105, 116], [111, 110], [117, 110, 116, 105, 108], [110, 117, 108, 108], [97, 110, 100], [111, 114], [120, 111, 114], [110, 97, 110, 100], [110, 111, 114], [120, 110, 111, 114], [110, 111, 116], [109, 111, 100], [115, 104, 108], [115, 104, 114], [100, 111, 119, 110, 116, 111]]
def signsL : List (List UInt8) := [[58, 61], [60, 61], [61, 62], [62, 61], [47, 61], [61], [60], [62], [43], [45], [42], [47], [38], [40], [41], [58], [59], [44]]
def isWordL (w : List UInt8) : Bool := wordsL.contains w
def hdLet : List UInt8 → Bool
  | [] => false
  | c :: _ => letB c
def isNameL (w : List UInt8) : Bool := decide (w.length ≤ 40) && (hdLet w && (w.all innB && !isWordL w))
/-- The number of digits. -/
def valL (w : List UInt8) : Nat := w.foldl (fun n c => 10 * n + (c.toNat - 48)) 0
def maxI : Nat := 2147483647

/-- A token without its position. -/
structure Tok where
  op : Nat
  text : List UInt8
  n : Nat
deriving DecidableEq

/-- What stands between two double quotes, of bytes of a kind, from least to most of them, at the beginning of what follows the first quote. -/
def quoL (p : UInt8 → Bool) (least most : Nat) (d : List UInt8) : Option (List UInt8) :=
  if least ≤ (d.takeWhile p).length ∧ (d.takeWhile p).length ≤ most ∧ (d.dropWhile p).head? = some 34 then some (d.takeWhile p) else none
/-- A bit, behind its first quote. -/
def bitTok : List UInt8 → Option (Tok × Nat)
  | a :: b :: _ => if bitB a = true ∧ b = 39 then some (⟨4, [a], 0⟩, 3) else none
  | _ => none
/-- The token that begins a list of bytes, and how many of them it has. -/
def tokL : List UInt8 → Option (Tok × Nat)
  | [] => none
  | c :: r =>
    if c = 98 ∧ r.head? = some 34 then (quoL bitB 1 64 r.tail).map fun q => (⟨5, q, 0⟩, q.length + 3)
    else if letB c then
      (if isWordL ((c :: r).takeWhile innB) then some (⟨2, (c :: r).takeWhile innB, 0⟩, ((c :: r).takeWhile innB).length)
      else if ((c :: r).takeWhile innB).length ≤ 40 then some (⟨1, (c :: r).takeWhile innB, 0⟩, ((c :: r).takeWhile innB).length) else none)
    else if digB c then
      (if valL ((c :: r).takeWhile digB) ≤ maxI ∧ ((c :: r).takeWhile innB).length = ((c :: r).takeWhile digB).length then some (⟨3, [], valL ((c :: r).takeWhile digB)⟩, ((c :: r).takeWhile digB).length) else none)
    else if c = 39 then bitTok r
    else if c = 34 then (quoL plnB 0 60 r).map fun q => (⟨6, q, 0⟩, q.length + 2)
    else (signsL.find? fun x => x.isPrefixOf (c :: r)).map fun x => (⟨7, x, 0⟩, x.length)

/-- What is left when blanks and comments are passed over (true: within a comment). -/
def skipM : Bool → List UInt8 → List UInt8
  | _, [] => []
  | true, c :: r => if c = 10 then skipM false r else skipM true r
  | false, c :: r => if blkB c then skipM false r else if c = 45 ∧ r.head? = some 45 then skipM true r else c :: r
def skipL (l : List UInt8) : List UInt8 := skipM false l

/-- A token as it is written, and whether it is one that can be read. -/
def decL (n : Nat) : List UInt8 := if h : n < 10 then [UInt8.ofNat (48 + n)] else decL (n / 10) ++ [UInt8.ofNat (48 + n % 10)]
termination_by n
decreasing_by omega
def wriL (t : Tok) : List UInt8 :=
  if t.op = 3 then decL t.n else if t.op = 4 then [39] ++ t.text ++ [39] else if t.op = 5 then [98, 34] ++ t.text ++ [34] else if t.op = 6 then [34] ++ t.text ++ [34] else t.text
def posL (t : Tok) : Bool :=
  if t.op = 1 then decide (t.n = 0) && isNameL t.text
  else if t.op = 2 then decide (t.n = 0) && isWordL t.text
  else if t.op = 3 then decide (t.text = []) && decide (t.n ≤ maxI)
  else if t.op = 4 then decide (t.n = 0) && (decide (t.text.length = 1) && t.text.all bitB)
  else if t.op = 5 then decide (t.n = 0) && (decide (1 ≤ t.text.length) && (decide (t.text.length ≤ 64) && t.text.all bitB))
  else if t.op = 6 then decide (t.n = 0) && (decide (t.text.length ≤ 60) && t.text.all plnB)
  else if t.op = 7 then decide (t.n = 0) && signsL.contains t.text
  else false
end Go.Proofs.YtfjeljehodbbmaaDoor
