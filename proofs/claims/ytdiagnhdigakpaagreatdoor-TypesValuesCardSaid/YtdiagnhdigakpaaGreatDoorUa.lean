/- At and With of values, as functions of trees, and what follows of them. No program stands here. -/
import Derived.Test.YtdiagnhdigakpaaGreatDoorKf
import Derived.Test.YtdiagnhdigakpaaGreatDoorKh
import Derived.Test.YtdiagnhdigakpaaGreatDoorKe
namespace Go.Proofs.YtdiagnhdigakpaaGreatDoor

/-- The type of what a value of a type has at an index. -/
def partT (t : Ty) : Ty := if t.kind = 4 then bitT else match t.elem with | [e] => e | _ => bitT
/-- The error of an index: 2, 16, 19, or 0. -/
def partE (t : Ty) (v : Va) (i : Int) : Nat := if hasT t v then (if t.kind = 4 ∨ t.kind = 6 then (if 0 ≤ i ∧ i < t.len then 0 else 19) else 16) else 2
def noVa : Va := .mk 0 0 [] []
def noTy : Ty := .mk 0 0 noName [] []
/-- What a value has at an index. -/
def atV : Va → Nat → Va
  | .mk k _ bs ls, i => if k = 4 then .mk 1 0 [bs.getD i 0] [] else ls.getD i noVa
/-- A value with another bit or element. -/
def withV : Va → Nat → Va → Va
  | .mk k n bs ls, i, x => if k = 4 then .mk k n (bs.set i (x.bits.getD 0 0)) ls else .mk k n bs (ls.set i x)
theorem partE_zero {t : Ty} {v : Va} {i : Int} : partE t v i = 0 ↔ hasT t v = true ∧ (t.kind = 4 ∨ t.kind = 6) ∧ 0 ≤ i ∧ i < t.len := by
  unfold partE
  split
  · rename_i h
    split
    · rename_i h2
      split
      · rename_i h3
        exact ⟨fun _ => ⟨h, h2, h3⟩, fun _ => rfl⟩
      · rename_i h3
        exact ⟨fun e => absurd e (by decide), fun e => absurd e.2.2 h3⟩
    · rename_i h2
      exact ⟨fun e => absurd e (by decide), fun e => absurd e.2.1 h2⟩
  · rename_i h
    exact ⟨fun e => absurd e (by decide), fun e => absurd e.1 h⟩
/-- The two shapes of what has parts. -/
theorem two_shapes {t : Ty} {v : Va} (h : hasT t v = true) (hk : t.kind = 4 ∨ t.kind = 6) :
    (∃ (l : Nat) (bs : List Nat), t = .mk 4 l noName [] [] ∧ v = .mk 4 0 bs [] ∧ 1 ≤ l ∧ l ≤ 64 ∧ bs.length = l ∧ ∀ b ∈ bs, b ≤ 3) ∨
    (∃ (l : Nat) (e : Ty) (ls : List Va), t = .mk 6 l noName [] [e] ∧ v = .mk 6 0 [] ls ∧ 1 ≤ l ∧ l ≤ 64 ∧ ls.length = l ∧ Flat isNameL e ∧ ∀ w ∈ ls, HasF e w) := by
  unfold hasT at h
  rw [Bool.and_eq_true] at h
  have hg := valid_good h.1
  have hh := hasG_of hg h.2
  cases hg with
  | flat t ht =>
    have h6 := (flat_kind ht).1
    have h4 : t.kind = 4 := by omega
    cases hh with
    | arr l nm ns e ls hl h => exact absurd rfl h6
    | flat _ _ hf =>
      cases hf with
      | bit nm ns es l b h => exact absurd h4 (by show ¬ (1 : Int) = 4; omega)
      | bool nm ns es l n h => exact absurd h4 (by show ¬ (2 : Int) = 4; omega)
      | int nm ns es l n h1 h2 => exact absurd h4 (by show ¬ (3 : Int) = 4; omega)
      | en nm ns es l i h => exact absurd h4 (by show ¬ (5 : Int) = 4; omega)
      | vec nm ns es l bs hl hb =>
        cases ht with
        | sc k hk => omega
        | vec l h1 h2 => exact .inl ⟨l, bs, rfl, rfl, h1, h2, by omega, hb⟩
  | arr l e h1 h2 he =>
    cases hh with
    | flat _ _ hf => cases hf
    | arr _ _ _ _ ls hl hh => exact .inr ⟨l, e, ls, rfl, rfl, h1, h2, by omega, he, hh⟩
theorem hasT_flat {t : Ty} {v : Va} (ht : Flat isNameL t) : hasT t v = hasV t v := by
  unfold hasT
  rw [flat_valid ht, Bool.true_and]
theorem flat_bitT : Flat isNameL bitT := .sc 1 (.inl rfl)
theorem has_bitT {x : Va} (h : hasV bitT x = true) : ∃ b, x = .mk 1 0 [b] [] ∧ b ≤ 3 := by
  have := hasF_of flat_bitT h
  cases this with
  | bit nm ns es l b hb => exact ⟨b, rfl, hb⟩
theorem good_arr_valid {l : Nat} {e : Ty} (h1 : 1 ≤ l) (h2 : l ≤ 64) (he : Flat isNameL e) : validT isNameL (.mk 6 l noName [] [e]) = true := by
  rw [validT_eq, if_neg (by omega), if_neg (by omega), if_pos rfl, bare_none]
  simp only [Bool.true_and, Bool.and_eq_true, decide_eq_true_eq]
  exact ⟨⟨by omega, by omega⟩, (flat_kind he).1, flat_valid he⟩
theorem partT_four {t : Ty} (h : t.kind = 4) : partT t = bitT := by unfold partT; rw [if_pos h]
theorem partT_arr (l : Int) (nm : ByteArray) (ns : List ByteArray) (e : Ty) : partT (.mk 6 l nm ns [e]) = e := rfl
/-- What was put is there, all else is as it was, and the value still has the type. -/
theorem put_facts {t : Ty} {v x : Va} {i : Int} (h : partE t v i = 0) (hx : hasV (partT t) x = true) :
    hasT t (withV v i.toNat x) = true ∧ atV (withV v i.toNat x) i.toNat = x ∧ ∀ k : Int, 0 ≤ k → k < t.len → k ≠ i → atV (withV v i.toNat x) k.toNat = atV v k.toNat := by
  obtain ⟨h1, h2, h3, h4⟩ := partE_zero.1 h
  obtain ⟨j, rfl⟩ : ∃ j : Nat, i = j := ⟨i.toNat, by omega⟩
  rw [Int.toNat_natCast]
  rcases two_shapes h1 h2 with ⟨l, bs, rfl, rfl, g1, g2, g3, g4⟩ | ⟨l, e, ls, rfl, rfl, g1, g2, g3, g4, g5⟩
  · have h4 : (j : Int) < (l : Int) := h4
    obtain ⟨b, rfl, hb⟩ := has_bitT hx
    have hw : withV (.mk 4 0 bs []) j (.mk 1 0 [b] []) = .mk 4 0 (bs.set j b) [] := rfl
    rw [hw]
    refine ⟨?_, ?_, ?_⟩
    · unfold hasT
      rw [flat_valid (.vec l g1 g2), Bool.true_and]
      refine of_hasF (.vec _ _ _ _ _ (by rw [List.length_set]; omega) ?_)
      intro c hc
      rcases List.mem_or_eq_of_mem_set hc with hc | hc
      · exact g4 c hc
      · rw [hc]; exact hb
    · show Va.mk 1 0 [(bs.set j b).getD j 0] [] = _
      rw [List.getD_eq_getElem?_getD, List.getElem?_set_self (by omega)]
      rfl
    · intro k k1 k2 k3
      obtain ⟨m, rfl⟩ : ∃ m : Nat, k = m := ⟨k.toNat, by omega⟩
      rw [Int.toNat_natCast]
      show Va.mk 1 0 [(bs.set j b).getD m 0] [] = Va.mk 1 0 [bs.getD m 0] []
      rw [List.getD_eq_getElem?_getD, List.getD_eq_getElem?_getD, List.getElem?_set_ne (by omega)]
  · have h4 : (j : Int) < (l : Int) := h4
    rw [partT_arr] at hx
    have hw : withV (.mk 6 0 [] ls) j x = .mk 6 0 [] (ls.set j x) := rfl
    rw [hw]
    refine ⟨?_, ?_, ?_⟩
    · unfold hasT
      rw [good_arr_valid g1 g2 g4, Bool.true_and]
      refine of_hasG (.arr _ _ _ _ _ (by rw [List.length_set]; omega) ?_)
      intro c hc
      rcases List.mem_or_eq_of_mem_set hc with hc | hc
      · exact g5 c hc
      · rw [hc]; exact hasF_of g4 hx
    · show (ls.set j x).getD j noVa = x
      rw [List.getD_eq_getElem?_getD, List.getElem?_set_self (by omega)]
      rfl
    · intro k k1 k2 k3
      obtain ⟨m, rfl⟩ : ∃ m : Nat, k = m := ⟨k.toNat, by omega⟩
      rw [Int.toNat_natCast]
      show (ls.set j x).getD m noVa = ls.getD m noVa
      rw [List.getD_eq_getElem?_getD, List.getD_eq_getElem?_getD, List.getElem?_set_ne (by omega)]
theorem atV_mk (k n : Int) (bs : List Nat) (ls : List Va) (i : Nat) : atV (.mk k n bs ls) i = if k = 4 then .mk 1 0 [bs.getD i 0] [] else ls.getD i noVa := rfl
theorem withV_mk (k n : Int) (bs : List Nat) (ls : List Va) (i : Nat) (x : Va) : withV (.mk k n bs ls) i x = if k = 4 then .mk k n (bs.set i (x.bits.getD 0 0)) ls else .mk k n bs (ls.set i x) := rfl
theorem at_small {v : Va} {i : Nat} (h : smV v) : smV (atV v i) := by
  obtain ⟨k, n, bs, ls⟩ := v
  have h := (smV_def _ _ _ _).1 h
  rw [atV_mk]
  split
  · exact (smV_def _ _ _ _).2 ⟨by simp, by simp, by simp⟩
  · rw [List.getD_eq_getElem?_getD]
    by_cases hi : i < ls.length
    · rw [List.getElem?_eq_getElem hi]
      exact h.2.2 _ (List.getElem_mem hi)
    · rw [List.getElem?_eq_none (by omega)]
      exact (smV_def _ _ _ _).2 ⟨by simp, by simp, by simp⟩
theorem with_small {v x : Va} {i : Nat} (h : smV v) (hx : smV x) : smV (withV v i x) := by
  obtain ⟨k, n, bs, ls⟩ := v
  have h := (smV_def _ _ _ _).1 h
  rw [withV_mk]
  split
  · exact (smV_def _ _ _ _).2 ⟨by rw [List.length_set]; exact h.1, h.2.1, h.2.2⟩
  · refine (smV_def _ _ _ _).2 ⟨h.1, by rw [List.length_set]; exact h.2.1, ?_⟩
    intro y hy
    rcases List.mem_or_eq_of_mem_set hy with hy | hy
    · exact h.2.2 y hy
    · rw [hy]; exact hx
end Go.Proofs.YtdiagnhdigakpaaGreatDoor
