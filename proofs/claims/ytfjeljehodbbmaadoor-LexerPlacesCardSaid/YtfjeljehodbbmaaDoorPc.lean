/- What the program's four functions are to return (their contracts, as the laws take them); the reference's Lex in that form; the laws' own awake. -/
import Derived.Test.YtfjeljehodbbmaaDoorLe
import Derived.Test.YtfjeljehodbbmaaDoorTx
import Derived.Test.YtfjeljehodbbmaaDoorPt
namespace Go.Proofs.YtfjeljehodbbmaaDoor
open Go.RowKit

def LexC (f : FuncId) : Prop := ∀ (s : ByteArray) (w : World), s.size ≤ 140737488355328 → Std w → Calls Tryd.prog f #[.string s] w fun e w' => ∃ v, e = .returned (.tuple #[v, faultV (lexC s) (lexN s) (lexP s).1 (lexP s).2]) ∧ Tls w' v (lexT s) ∧ Below w.heap.size w w'
def TextC (f : FuncId) : Prop := ∀ (v : Value) (l : List TokA) (w : World), Tls w v l → (∀ a ∈ l, Small a) → Std w → Calls Tryd.prog f #[v] w fun e w' => e = .returned (.tuple #[.string (txtS l), .int .i64 (txtE l : Nat)]) ∧ Below w.heap.size w w'
def NameC (f : FuncId) : Prop := ∀ (s : ByteArray) (w : World), s.size ≤ 140737488355328 → Calls Tryd.prog f #[.string s] w fun e w' => e = .returned (.bool (isNameL (bl s))) ∧ Below w.heap.size w w'
def WordC (f : FuncId) : Prop := ∀ (s : ByteArray) (w : World), Calls Tryd.prog f #[.string s] w fun e w' => e = .returned (.bool (isWordL (bl s))) ∧ Below w.heap.size w w'
theorem refLex_c : LexC 15 := by
  intro s w hs _
  unfold lexT lexC lexN lexP
  by_cases h : s.size ≤ 20000
  · rw [if_pos h, if_pos h, if_pos h]
    rcases flt_two s with hc | hc
    · have hn : (lexM (bl s)).2 = none := by
        unfold fltC at hc
        cases hm : (lexM (bl s)).2 with
        | none => rfl
        | some r => rw [hm] at hc; cases hc
      have h1 : fltN s = ⟨#[]⟩ := by unfold fltN; rw [hn]
      have h2 : fltP s = (0, 0) := by unfold fltP; rw [hn]
      rw [hc, h1, h2, if_pos rfl]
      exact refLex_good s h hc h1 h2 w
    · rw [hc, if_neg (by decide)]
      exact (refLex_fault s h hc w).mono fun e w' ⟨he, hb⟩ => ⟨_, he, tls_nil _, hb⟩
  · rw [if_neg h, if_neg h, if_neg h, if_neg (by decide)]
    exact (refLex_long s h hs w).mono fun e w' ⟨he, hb⟩ => ⟨_, he, tls_nil _, hb⟩
theorem refText_c : TextC 19 := fun v l w h _ _ => refText_any v l w h

/-- A contract at one string. -/
theorem lex_at {f : FuncId} (h : LexC f) {s : ByteArray} {c x y : Nat} {n : ByteArray} {l : List TokA} (hs : s.size ≤ 140737488355328) (hc : lexC s = c) (hn : lexN s = n) (hp : lexP s = (x, y)) (hl : lexT s = l) (w : World) (hw : Std w) :
    Calls Tryd.prog f #[.string s] w fun e w' => ∃ v, e = .returned (.tuple #[v, .agg #[.int .i64 (c : Nat), .string n, .int .i64 (x : Nat), .int .i64 (y : Nat)]]) ∧ Tls w' v l ∧ Below w.heap.size w w' := by
  have := h s w hs hw
  rw [hc, hn, hp, hl] at this
  exact this
theorem name_at {f : FuncId} (h : NameC f) {s : ByteArray} {b : Bool} (hs : s.size ≤ 140737488355328) (hb : isNameL (bl s) = b) (w : World) : Calls Tryd.prog f #[.string s] w fun e w' => e = .returned (.bool b) ∧ Below w.heap.size w w' := by subst hb; exact h s w hs
theorem word_at {f : FuncId} (h : WordC f) {s : ByteArray} {b : Bool} (hb : isWordL (bl s) = b) (w : World) : Calls Tryd.prog f #[.string s] w fun e w' => e = .returned (.bool b) ∧ Below w.heap.size w w' := by subst hb; exact h s w
theorem text_at {f : FuncId} (h : TextC f) {v : Value} {l : List TokA} {s : ByteArray} {e : Nat} {w : World} (hs : txtS l = s) (he : txtE l = e) (hv : Tls w v l) (hsm : ∀ a ∈ l, Small a) (hw : Std w) : Calls Tryd.prog f #[v] w fun r w' => r = .returned (.tuple #[.string s, .int .i64 (e : Nat)]) ∧ Below w.heap.size w w' := by subst hs; subst he; exact h v l w hv hsm hw
theorem small_tok {s : ByteArray} {a : Tok × Nat} (h : posL a.1 = true) : Small (mstA s a) := by
  obtain ⟨⟨o, x, n⟩, r⟩ := a
  have hx : (sb x).size = x.length := sb_size x
  have hw := wri_len h
  have hxl : x.length ≤ 67 ∧ n ≤ 2147483647 := by
    unfold posL at h
    unfold wriL at hw
    simp only at h hw
    split at h
    · rw [Bool.and_eq_true, decide_eq_true_eq] at h
      rw [if_neg (by omega), if_neg (by omega), if_neg (by omega), if_neg (by omega)] at hw
      exact ⟨hw, by omega⟩
    split at h
    · rw [Bool.and_eq_true, decide_eq_true_eq] at h
      rw [if_neg (by omega), if_neg (by omega), if_neg (by omega), if_neg (by omega)] at hw
      exact ⟨hw, by omega⟩
    split at h
    · rw [Bool.and_eq_true, decide_eq_true_eq, decide_eq_true_eq] at h
      exact ⟨by rw [h.1]; simp, h.2⟩
    split at h
    · rw [Bool.and_eq_true, Bool.and_eq_true, decide_eq_true_eq, decide_eq_true_eq] at h
      exact ⟨by omega, by omega⟩
    split at h
    · rw [Bool.and_eq_true, Bool.and_eq_true, Bool.and_eq_true, decide_eq_true_eq, decide_eq_true_eq, decide_eq_true_eq] at h
      exact ⟨by omega, by omega⟩
    split at h
    · rw [Bool.and_eq_true, Bool.and_eq_true, decide_eq_true_eq, decide_eq_true_eq] at h
      exact ⟨by omega, by omega⟩
    split at h
    · rename_i h7
      rw [Bool.and_eq_true, decide_eq_true_eq] at h
      rw [if_neg (by omega), if_neg (by omega), if_neg (by omega), if_neg (by omega)] at hw
      exact ⟨hw, by omega⟩
    · cases h
  unfold mstA
  exact ⟨by simp only; omega, by simp only; omega, by simp only; omega⟩
/-- The tokens that Lex gives are not too great. -/
theorem small_lexT (s : ByteArray) : ∀ a ∈ lexT s, Small a := by
  unfold lexT
  split
  · intro a ha
    obtain ⟨p, hp, rfl⟩ := List.mem_map.1 ha
    exact small_tok ((lex_read _ _).1 p hp)
  · intro a ha
    cases ha
/-- Tokens whose numbers are ints. -/
def NumOk (l : List TokA) : Prop := ∀ a ∈ l, -9223372036854775808 ≤ a.n ∧ a.n ≤ 9223372036854775807
theorem small_long {l : List TokA} (hn : NumOk l) (h : longB ⟨#[]⟩ l = false) : ∀ a ∈ l, Small a := by
  unfold longB at h
  rw [Bool.or_eq_false_iff, decide_eq_false_iff_not, decide_eq_false_iff_not] at h
  obtain ⟨h1, h2⟩ := h
  intro a ha
  refine ⟨?_, hn a ha⟩
  unfold longN at h1
  rw [show min l.length 200 = l.length by omega, List.take_length] at h1
  have key : ∀ l : List TokA, a ∈ l → min a.text.size 5000 ≤ (l.map fun a => min a.text.size 5000).sum := by
    intro l
    induction l with
    | nil => intro h; cases h
    | cons b r ih =>
      intro h
      rw [List.map_cons, List.sum_cons]
      rcases List.mem_cons.1 h with h | h
      · subst h; omega
      · have := ih h; omega
  have := key l ha
  have : (⟨#[]⟩ : ByteArray).size = 0 := rfl
  omega
/-- v is a slice of bytes that reads as these numbers. -/
def Bls (w : World) (v : Value) (gs : List Nat) : Prop :=
  ∃ (A : Option Addr) (c : Nat), v = .slice A gs.length c ∧ gs.length ≤ 140737488355328 ∧ (∀ z ∈ gs, z ≤ 255) ∧
    (gs = [] ∨ ∃ b off, A = some ⟨b, off, none⟩ ∧ ∀ (k : Nat) (h : k < gs.length), w.cell? ⟨b, off + k, none⟩ = some (.int .u8 (gs[k] : Nat)))
def awS : ByteArray := ⟨#[113, 32, 60, 61, 32, 98, 34, 49, 48, 34, 32, 38, 32, 39, 49, 39, 59, 32, 45, 45, 32, 115, 111]⟩
def awT : List TokA := [⟨1, sb [113], 0, 1, 1⟩, ⟨7, sb [60, 61], 0, 1, 3⟩, ⟨5, sb [49, 48], 0, 1, 6⟩, ⟨7, sb [38], 0, 1, 12⟩, ⟨4, sb [49], 0, 1, 14⟩, ⟨7, sb [59], 0, 1, 17⟩]
theorem aw1 : lexC awS = 0 ∧ lexN awS = ⟨#[]⟩ ∧ lexP awS = (0, 0) ∧ lexT awS = awT := ⟨by kernel_rfl, by kernel_rfl, by kernel_rfl, by kernel_rfl⟩
theorem aw2 : lexC ⟨#[98, 34, 49]⟩ = 10 ∧ lexN ⟨#[98, 34, 49]⟩ = ⟨#[98]⟩ ∧ lexP ⟨#[98, 34, 49]⟩ = (1, 1) ∧ lexT ⟨#[98, 34, 49]⟩ = [] := ⟨by kernel_rfl, by kernel_rfl, by kernel_rfl, by kernel_rfl⟩
theorem aw3 : lexC ⟨#[97, 10, 32, 49, 50, 97]⟩ = 10 ∧ lexN ⟨#[97, 10, 32, 49, 50, 97]⟩ = ⟨#[49]⟩ ∧ lexP ⟨#[97, 10, 32, 49, 50, 97]⟩ = (2, 2) ∧ lexT ⟨#[97, 10, 32, 49, 50, 97]⟩ = [] := ⟨by kernel_rfl, by kernel_rfl, by kernel_rfl, by kernel_rfl⟩
end Go.Proofs.YtfjeljehodbbmaaDoor
