/- What is read of a string, in the form that the laws take. -/
import Derived.Test.YtfjeljehodbbmaaDoorPc
import Derived.Test.YtfjeljehodbbmaaDoorLx6
namespace Go.Proofs.YtfjeljehodbbmaaDoor
open Go.RowKit

theorem good_facts {s : ByteArray} (h : s.size ≤ 20000) (hn : (lexM (bl s)).2 = none) : lexC s = 0 ∧ lexN s = ⟨#[]⟩ ∧ lexP s = (0, 0) ∧ lexT s = (lexM (bl s)).1.map (mstA s) := by
  have hc : lexC s = 0 := by unfold lexC; rw [if_pos h]; unfold fltC; rw [hn]
  refine ⟨hc, ?_, ?_, ?_⟩
  · unfold lexN; rw [if_pos h]; unfold fltN; rw [hn]
  · unfold lexP; rw [if_pos h]; unfold fltP; rw [hn]
  · unfold lexT; rw [if_pos hc]
theorem bad_facts {s : ByteArray} {r : Nat} (h : s.size ≤ 20000) (hr : (lexM (bl s)).2 = some r) : lexC s = 10 ∧ lexN s = s.extract (s.size - r) (s.size - r + 1) ∧ lexP s = placeL ((bl s).take (s.size - r)) ∧ lexT s = [] := by
  have hc : lexC s = 10 := by unfold lexC; rw [if_pos h]; unfold fltC; rw [hr]
  refine ⟨hc, ?_, ?_, ?_⟩
  · unfold lexN; rw [if_pos h]; unfold fltN; rw [hr]
  · unfold lexP; rw [if_pos h]; unfold fltP; rw [hr]
  · unfold lexT; rw [if_neg (by rw [hc]; decide)]
theorem tokOf_mst (s : ByteArray) (a : Tok × Nat) : tokOf (mstA s a) = a.1 := by
  unfold tokOf mstA
  simp only [bl_sb, Int.toNat_natCast]
theorem poss_mst {s : ByteArray} {a : Tok × Nat} (h : posL a.1 = true) : possA (mstA s a) = true := by
  unfold possA
  rw [tokOf_mst, h]
  rw [decide_eq_true (show (0 : Int) ≤ (mstA s a).op from Int.natCast_nonneg _), decide_eq_true (show (0 : Int) ≤ (mstA s a).n from Int.natCast_nonneg _)]
  rfl
def keyT (t : Tok) : Int × List UInt8 × Int := ((t.op : Int), t.text, (t.n : Int))
theorem key_mst (s : ByteArray) (a : Tok × Nat) : (mstA s a).key = keyT a.1 := by unfold TokA.key mstA keyT; simp only [bl_sb]
theorem keys_mst (s : ByteArray) (l : List (Tok × Nat)) : (l.map (mstA s)).map TokA.key = (l.map (·.1)).map keyT := by
  rw [List.map_map, List.map_map]
  apply List.map_congr_left
  intro a _
  exact key_mst s a
theorem toks_mst (s : ByteArray) (l : List (Tok × Nat)) : (l.map (mstA s)).map tokOf = l.map (·.1) := by
  rw [List.map_map]
  apply List.map_congr_left
  intro a _
  exact tokOf_mst s a
theorem txt_lex {s : ByteArray} (h : s.size ≤ 20000) (hn : (lexM (bl s)).2 = none) : txtS (lexT s) = sb (joinL (toksL (bl s))) ∧ txtE (lexT s) = 0 := by
  obtain ⟨_, _, _, hT⟩ := good_facts h hn
  obtain ⟨h1, h2, _⟩ := lex_twice (bl s)
  have hp : allP (lexT s) = true := by
    unfold allP
    rw [hT, List.all_eq_true]
    intro a ha
    obtain ⟨p, hp, rfl⟩ := List.mem_map.1 ha
    exact poss_mst (h1 p.1 (List.mem_map.2 ⟨p, hp, rfl⟩))
  have hl : (lexT s).length ≤ 20000 := by
    rw [hT, List.length_map]
    have : (toksL (bl s)).length = (lexM (bl s)).1.length := List.length_map ..
    rw [bl_len] at h2
    omega
  obtain ⟨e1, e2⟩ := txt_yes hl hp
  refine ⟨?_, e2⟩
  rw [e1, hT, toks_mst]
  rfl
/-- What is read, written, read and written again. -/
theorem twice_facts {s : ByteArray} (h : s.size ≤ 3000) (hn : (lexM (bl s)).2 = none) : (sb (joinL (toksL (bl s)))).size ≤ 20000 ∧ (lexM (bl (sb (joinL (toksL (bl s)))))).2 = none ∧ toksL (bl (sb (joinL (toksL (bl s))))) = toksL (bl s)
    ∧ alikeB (lexT s) (lexT (sb (joinL (toksL (bl s))))) = true := by
  obtain ⟨h1, h2, h3⟩ := lex_twice (bl s)
  obtain ⟨j1, j2⟩ := lex_join h1
  rw [bl_len] at h3
  have hz : (sb (joinL (toksL (bl s)))).size ≤ 20000 := by rw [sb_size]; omega
  have hn2 : (lexM (bl (sb (joinL (toksL (bl s)))))).2 = none := by rw [bl_sb]; exact j2
  refine ⟨hz, hn2, by rw [bl_sb]; exact j1, ?_⟩
  unfold alikeB
  apply decide_eq_true
  rw [(good_facts (by omega) hn).2.2.2, (good_facts hz hn2).2.2.2, keys_mst, keys_mst, bl_sb]
  rw [show (lexM (joinL (toksL (bl s)))).1.map (·.1) = toksL (bl s) from j1]
  rfl
/-- A fault that is found: its byte, its place. -/
theorem fault_facts {s : ByteArray} {r : Nat} (hr : (lexM (bl s)).2 = some r) : 1 ≤ r ∧ r ≤ s.size ∧ (s.extract (s.size - r) (s.size - r + 1)).size = 1 ∧ 1 ≤ (placeL ((bl s).take (s.size - r))).1 ∧ 1 ≤ (placeL ((bl s).take (s.size - r))).2
    ∧ (placeL ((bl s).take (s.size - r))).1 ≤ s.size + 1 ∧ (placeL ((bl s).take (s.size - r))).2 ≤ s.size + 1 := by
  obtain ⟨h1, h2, _, _⟩ := (lex_places (bl s)).2.2 r hr
  rw [bl_len] at h1
  have hp := place_starts (s := bl s) (p := (bl s).take (s.size - r)) (q := (bl s).drop (s.size - r)) (List.take_append_drop _ _).symm
  have hq := place_le ((bl s).take (s.size - r))
  rw [List.length_take, bl_len] at hq
  refine ⟨h2, h1, ?_, hp.1, hp.2.2.1, by omega, by omega⟩
  rw [← bl_len, bl_extract, List.length_take, List.length_drop, bl_len]
  omega
theorem long_no {s : ByteArray} (h : longB s [] = false) : s.size ≤ 3000 := by
  unfold longB longN at h
  simp at h
  omega
end Go.Proofs.YtfjeljehodbbmaaDoor
