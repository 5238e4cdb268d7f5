/- Join: plain facts on columns; slices.Clone. -/
import Derived.Test.YtaeehejnifhaaaaDoorCov
namespace Go.Proofs.YtaeehejnifhaaaaDoor
open Go.RowKit

def col (zss : List (List Nat)) (i : Nat) : List Nat := zss.map fun z => z.getD i 0
/-- Each column resolved, of the first j lists. -/
def accL (zss : List (List Nat)) (n j : Nat) : List Nat := (List.range n).map fun t => resL (col (zss.take j) t)
/-- In the midst of list j: the first i columns with it. -/
def midL (zss : List (List Nat)) (n j i : Nat) : List Nat := (List.range n).map fun t => resL (col (zss.take (if t < i then j + 1 else j)) t)
theorem accL_len (zss : List (List Nat)) (n j : Nat) : (accL zss n j).length = n := by simp [accL]
theorem midL_len (zss : List (List Nat)) (n j i : Nat) : (midL zss n j i).length = n := by simp [midL]
theorem midL_zero (zss : List (List Nat)) (n j : Nat) : midL zss n j 0 = accL zss n j := by unfold midL accL; simp
theorem midL_end (zss : List (List Nat)) (n j : Nat) : midL zss n j n = accL zss n (j + 1) := by
  unfold midL accL
  apply List.map_congr_left
  intro t ht
  rw [if_pos (List.mem_range.1 ht)]
theorem col_succ {zss : List (List Nat)} {j : Nat} (h : j < zss.length) (t : Nat) : col (zss.take (j + 1)) t = col (zss.take j) t ++ [(zss[j]).getD t 0] := by
  unfold col; rw [List.take_succ_eq_append_getElem h, List.map_append]; rfl
theorem resL_push (zs : List Nat) (z : Nat) : resL (zs ++ [z]) = resN (resL zs) z := by unfold resL; rw [List.foldl_append]; rfl
theorem midL_get {zss : List (List Nat)} {n j i : Nat} (hi : i < n) : (midL zss n j i)[i]'(by rw [midL_len]; exact hi) = resL (col (zss.take j) i) := by
  simp [midL]
theorem midL_set {zss : List (List Nat)} {n j i : Nat} (hj : j < zss.length) (_hi : i < n) : (midL zss n j i).set i (resN (resL (col (zss.take j) i)) ((zss[j]).getD i 0)) = midL zss n j (i + 1) := by
  apply List.ext_getElem
  · simp [midL]
  · intro t h1 h2
    rw [List.getElem_set]
    split
    · rename_i e
      subst e
      simp [midL]
      rw [col_succ hj, resL_push]
      simp [List.getD]
    · rename_i e
      simp only [midL, List.getElem_map, List.getElem_range]
      have : (t < i) = (t < i + 1) := by
        apply propext
        constructor
        · intro h; omega
        · intro h; omega
      simp only [this]
theorem accL_one {zss : List (List Nat)} (h : 0 < zss.length) (hb : bitsB zss[0] = true) : accL zss zss[0].length 1 = zss[0] := by
  have e : zss.take 1 = [zss[0]] := by
    cases zss with
    | nil => simp at h
    | cons a l => rfl
  unfold accL
  rw [e]
  apply List.ext_getElem
  · simp
  · intro t h1 h2
    have h3 := bitsB_at hb h2
    simp [col, h2]
    unfold resL
    show resN 3 zss[0][t] = _
    unfold resN
    (repeat' split) <;> omega
theorem col_bits {zss : List (List Nat)} (h : ∀ z ∈ zss, bitsB z = true) (t : Nat) : bitsB (col zss t) = true := by
  apply bitsB_of
  intro x hx
  obtain ⟨z, hz, rfl⟩ := List.mem_map.1 hx
  by_cases ht : t < z.length
  · simp [ht]; exact bitsB_at (h z hz) ht
  · simp [List.getD, List.getElem?_eq_none (show z.length ≤ t by omega)]
/-- What Join returns. -/
def joinV (zss : List (List Nat)) : List Nat := if oneV zss then accL zss (zss.headD []).length zss.length else []
def joinE (zss : List (List Nat)) : Nat := if oneV zss then 0 else 2
theorem join_yes {zss : List (List Nat)} (h : oneV zss = true) : joinV zss = accL zss (zss.headD []).length zss.length ∧ joinE zss = 0 := by unfold joinV joinE; rw [h]; exact ⟨rfl, rfl⟩
theorem join_no {zss : List (List Nat)} (h : oneV zss = false) : joinV zss = [] ∧ joinE zss = 2 := by unfold joinV joinE; rw [h]; exact ⟨rfl, rfl⟩
theorem oneV_at {zss : List (List Nat)} (h : oneV zss = true) : 0 < zss.length ∧ ∀ z ∈ zss, isV z = true ∧ z.length = (zss.headD []).length := by
  unfold oneV at h
  rw [Bool.and_eq_true] at h
  refine ⟨by simpa using h.1, fun z hz => ?_⟩
  have := List.all_eq_true.1 h.2 z hz
  simpa using this

theorem clone_any (v : Value) (zs : List Nat) (w : World) (h : Sl w v zs) (hpos : 0 < zs.length) :
    Calls Tryd.prog 49 #[v] w fun e w' => ∃ u, e = .returned u ∧ Own w' w.heap.size u zs ∧ Below w.heap.size w w' := by
  obtain ⟨A, c, rfl, hn, hz, hc⟩ := h
  have hS : Hid (Sl w (.slice A zs.length c) zs) := ⟨A, c, rfl, hn, hz, hc⟩
  rcases hc with rfl | ⟨b, off, rfl, hc⟩
  · exact absurd hpos (by simp)
  clear hz hc
  have hnil : ∀ w, (binOp .eql 31 (.slice (some ⟨b, off, none⟩) zs.length c) (.slice none 0 0)).run Tryd.prog w = .ok (.bool false) w := fun w => Lib.run_eql_slice_nil w _ _ _ _ _ _ _ Tryd.underlying31
  go_enter Tryd.func49, Tryd.ntmps49
  go_wp2_with (at_builtin; refine wpList_append_sl rfl _ _ rfl w.heap.size _ _ [] zs rfl rfl (Own.empty w) (hS.out.later (below_alloc _ _)) (by simpa using hn) ?_; intro v' w' hown hb)
  go_ret
  exact ⟨_, rfl, hown, (below_alloc _ _).trans (hb _ (Nat.le_refl _))⟩
end Go.Proofs.YtaeehejnifhaaaaDoor
