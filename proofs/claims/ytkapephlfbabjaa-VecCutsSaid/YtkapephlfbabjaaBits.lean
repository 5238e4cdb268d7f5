/- Pieces put together again; what stands behind VecCuts. -/
import Derived.Test.YtkapephlfbabjaaTwo
import Derived.Test.YtkapephlfbabjaaCut
namespace Go.Proofs.Ytkapephlfbabjaa
open Go.RowKit

theorem piece_ok {h l n : Nat} (h1 : h < n) (h2 : l ≤ h) : piece (h : Int) (l : Int) (n : Int) = true := by unfold piece; rw [decide_eq_true (by omega), decide_eq_true (by omega), decide_eq_true (by omega)]; rfl
theorem slice_at {v : Value} {zs r : List Nat} {h l : Nat} {w : World} (hv : isV zs = true) (h1 : h < zs.length) (h2 : l ≤ h) (hr : (zs.drop l).take (h - l + 1) = r) (hs : Sl w v zs) :
    Calls Try.prog 47 #[v, .int .i64 (h : Nat), .int .i64 (l : Nat)] w fun e w' => ∃ u, e = .returned (.tuple #[u, .int .i64 0]) ∧ Sl w' u r ∧ Below w.heap.size w w' := by
  subst hr
  have := slice_any v zs h l w hs
  rwa [show slcE zs (h : Int) (l : Int) = 0 by unfold slcE; rw [hv, piece_ok h1 h2]; rfl, show slcV zs (h : Int) (l : Int) = (zs.drop l).take (h - l + 1) by unfold slcV; rw [hv, piece_ok h1 h2]; rfl] at this
theorem cat_at {u v : Value} {a b r : List Nat} {w : World} (ha : isV a = true) (hb : isV b = true) (hl : a.length + b.length ≤ 64) (hr : b ++ a = r) (hu : Sl w u a) (hv : Sl w v b) :
    Calls Try.prog 45 #[u, v] w fun e w' => ∃ u, e = .returned (.tuple #[u, .int .i64 0]) ∧ Sl w' u r ∧ Below w.heap.size w w' := by
  subst hr
  have := cat_any u v a b w hu hv
  rwa [show catE a b = 0 by unfold catE; rw [ha, hb, if_pos hl]; rfl, show catV a b = b ++ a by unfold catV; rw [ha, hb, decide_eq_true hl]; rfl] at this
theorem put_at {u v : Value} {a b : List Nat} {h l : Nat} {w : World} (ha : isV a = true) (hb : isV b = true) (h1 : h < a.length) (h2 : l ≤ h) (hl : b.length = h - l + 1) (hu : Sl w u a) (hv : Sl w v b) :
    Calls Try.prog 49 #[u, .int .i64 (h : Nat), .int .i64 (l : Nat), v] w fun e w' => ∃ u, e = .returned (.tuple #[u, .int .i64 0]) ∧ Sl w' u (splice a l b) ∧ Below w.heap.size w w' := by
  have := put_any u v a b h l w hu hv
  have hl' : (b.length : Int) = (h : Int) - (l : Int) + 1 := by omega
  rwa [show putE a (h : Int) (l : Int) b = 0 by unfold putE; rw [ha, hb, piece_ok h1 h2, if_pos hl']; rfl, show putV a (h : Int) (l : Int) b = splice a l b by unfold putV; rw [ha, hb, piece_ok h1 h2, decide_eq_true hl']; rfl] at this
theorem isV_take {zs : List Nat} {p : Nat} (hv : isV zs = true) (h1 : 1 ≤ p) (h2 : p ≤ zs.length) : isV (zs.take p) = true := by
  obtain ⟨hb, _, h64⟩ := isV_bits hv
  have e : (zs.take p).length = p := by rw [List.length_take]; omega
  exact isV_of (by omega) (by omega) (bitsB_of fun z hz => bitsB_mem hb (List.mem_of_mem_take hz))
theorem isV_drop {zs : List Nat} {p : Nat} (hv : isV zs = true) (h2 : p < zs.length) : isV (zs.drop p) = true := by
  obtain ⟨hb, _, h64⟩ := isV_bits hv
  have e : (zs.drop p).length = zs.length - p := List.length_drop
  exact isV_of (by omega) (by omega) (bitsB_of fun z hz => bitsB_mem hb (List.mem_of_mem_drop hz))
theorem splice_len {a b : List Nat} {p : Nat} (h : p + b.length ≤ a.length) : (splice a p b).length = a.length := by rw [len_splice]; omega
theorem splice_isV {a b : List Nat} {p : Nat} (ha : isV a = true) (hb : isV b = true) (h : p + b.length ≤ a.length) : isV (splice a p b) = true := by
  obtain ⟨b1, h1, h64⟩ := isV_bits ha
  have e := splice_len h
  refine isV_of (by omega) (by omega) (bitsB_of fun z hz => ?_)
  rcases mem_splice hz with h | h
  · exact bitsB_mem b1 h
  · exact bitsB_mem (isV_bits hb).1 h
theorem splice_piece {a b : List Nat} {p h : Nat} (hp : p + b.length ≤ a.length) (hl : b.length = h - p + 1) : ((splice a p b).drop p).take (h - p + 1) = b := by
  have e : splice a p b = a.take p ++ (b ++ a.drop (p + b.length)) := rfl
  rw [e, ← hl, List.drop_append_of_le_length (by rw [List.length_take]; omega), List.drop_of_length_le (by rw [List.length_take]; omega), List.nil_append, List.take_left]
theorem splice_low {a b : List Nat} {p j : Nat} (hp : p + b.length ≤ a.length) (hj : j < p) (h : j < (splice a p b).length) : (splice a p b)[j] = a[j]'(by omega) := by
  have e : splice a p b = a.take p ++ (b ++ a.drop (p + b.length)) := rfl
  rw [List.getElem_of_eq e h, List.getElem_append_left (by rw [List.length_take]; omega), List.getElem_take]
theorem splice_high {a b : List Nat} {p j : Nat} (hp : p + b.length ≤ a.length) (hj : p + b.length ≤ j) (h : j < (splice a p b).length) : (splice a p b)[j] = a[j]'(by rw [splice_len hp] at h; exact h) := by
  have e : splice a p b = a.take p ++ (b ++ a.drop (p + b.length)) := rfl
  have ht : (a.take p).length = p := by rw [List.length_take]; omega
  rw [List.getElem_of_eq e h, List.getElem_append_right (by omega), List.getElem_append_right (by omega), List.getElem_drop]
  congr 1
  omega
end Go.Proofs.Ytkapephlfbabjaa
