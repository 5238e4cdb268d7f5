/- What LexerPlaces asks of the tokens that are read. -/
import Derived.Test.YtfjeljehodbbmaaDoorLf
namespace Go.Proofs.YtfjeljehodbbmaaDoor
open Go.RowKit

/-- Where the k-th token stands. -/
def atN (s : ByteArray) (a : Tok × Nat) : Nat := s.size - a.2
theorem at_facts {s : ByteArray} {a : Tok × Nat} (ha : a ∈ (lexM (bl s)).1) : atN s a < s.size ∧ atN s a + (wriL a.1).length ≤ s.size ∧ posL a.1 = true
    ∧ (a.1.op ≠ 3 → s.extract (atN s a) (atN s a + (wriL a.1).length) = sb (wriL a.1)) ∧ (a.1.op = 3 → ∀ h : atN s a < s.size, digB (s[atN s a]'h) = true)
    ∧ 1 ≤ (placeL ((bl s).take (atN s a))).1 ∧ (placeL ((bl s).take (atN s a))).1 ≤ (startsL (bl s)).length ∧ 1 ≤ (placeL ((bl s).take (atN s a))).2 ∧ (placeL ((bl s).take (atN s a))).2 ≤ s.size
    ∧ (startsL (bl s)).getD ((placeL ((bl s).take (atN s a))).1 - 1) 0 + (placeL ((bl s).take (atN s a))).2 = atN s a + 1 := by
  obtain ⟨h1, n, h2⟩ := (lex_places (bl s)).1 a ha
  rw [bl_len] at h1 h2
  have hd : ((bl s).drop (s.size - a.2)).length = a.2 := by rw [List.length_drop, bl_len]; omega
  obtain ⟨f1, f2, f3, f4, f5, f6⟩ := tok_facts h2
  rw [hd] at f3
  have hp := place_starts (s := bl s) (p := (bl s).take (s.size - a.2)) (q := (bl s).drop (s.size - a.2)) (List.take_append_drop _ _).symm
  rw [List.length_take, bl_len, Nat.min_eq_left (by omega)] at hp
  have hlt : s.size - a.2 < s.size := by omega
  refine ⟨hlt, by unfold atN; omega, f1, ?_, ?_, hp.1, hp.2.1, hp.2.2.1, by have := hp.2.2.2.1; unfold atN; omega, hp.2.2.2.2⟩
  · intro h
    apply bl_inj
    rw [bl_extract, bl_sb, show atN s a + (wriL a.1).length - atN s a = (wriL a.1).length by omega]
    have e := f5 h
    have e2 : (wriL a.1) = ((bl s).drop (s.size - a.2)).take (wriL a.1).length := by
      have h3 : (wriL a.1).length = n := by rw [← e, List.length_take, hd]; omega
      rw [h3]
      exact e.symm
    exact e2.symm
  · intro h hlt
    obtain ⟨c, r, e, hc⟩ := f6 h
    have hg : (bl s)[s.size - a.2]? = some c := by
      have := congrArg (·[0]?) e
      simp only [List.getElem?_drop, Nat.add_zero, List.getElem?_cons_zero] at this
      exact this
    have hg2 := bl_get s (s.size - a.2) hlt
    rw [List.getElem?_eq_getElem (by rw [bl_len]; exact hlt)] at hg
    injection hg with hg
    have : s[s.size - a.2]'hlt = c := by rw [← hg2]; exact hg
    show digB (s[s.size - a.2]'hlt) = true
    rw [this]
    exact hc
theorem at_rise {s : ByteArray} {k : Nat} (h : k + 1 < (lexM (bl s)).1.length) : atN s ((lexM (bl s)).1[k]'(by omega)) < atN s ((lexM (bl s)).1[k + 1]'h) := by
  have hp := (lex_places (bl s)).2.1
  have h1 := List.pairwise_iff_getElem.1 hp k (k + 1) (by omega) h (by omega)
  have h2 := ((lex_places (bl s)).1 _ (List.getElem_mem (l := (lexM (bl s)).1) (show k < _ by omega))).1
  rw [bl_len] at h2
  unfold atN
  omega
end Go.Proofs.YtfjeljehodbbmaaDoor
