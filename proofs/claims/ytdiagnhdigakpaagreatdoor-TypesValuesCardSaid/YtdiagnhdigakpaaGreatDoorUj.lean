/- Scalars of values: taken apart and put together; bits of values. No program stands here. -/
import Derived.Test.YtdiagnhdigakpaaGreatDoorUa
import Derived.Test.YtdiagnhdigakpaaGreatDoorKi
import Derived.Test.YtdiagnhdigakpaaGreatDoorKg

namespace Go.Proofs.YtdiagnhdigakpaaGreatDoor

def bitVa (b : Nat) : Va := .mk 1 0 [b] []
def fstBit (x : Va) : Nat := x.bits.getD 0 0
theorem splitV_def (k n : Int) (bs : List Nat) (ls : List Va) : splitV (.mk k n bs ls) = if k = 4 then bs.map bitVa else if k = 6 then splitVs ls else [.mk k n bs ls] := by
  rw [splitV]
  rfl
theorem splitVs_eq : ∀ ls : List Va, splitVs ls = (ls.map splitV).flatten
  | [] => by rw [splitVs]; rfl
  | v :: r => by rw [splitVs, splitVs_eq r, List.map_cons, List.flatten_cons]
/-- A value of a type that is no array, of its scalars. -/
def asmF (t : Ty) (xs : List Va) : Va := if t.kind = 4 then .mk 4 0 ((xs.take t.len.toNat).map fstBit) [] else xs.getD 0 noVa
def chunks {α : Type} : Nat → Nat → List α → List (List α)
  | 0, _, _ => []
  | l + 1, c, xs => xs.take c :: chunks l c (xs.drop c)
/-- A value of a type, of its scalars. -/
def asmV (t : Ty) (xs : List Va) : Va := if t.kind = 6 then .mk 6 0 [] ((chunks t.len.toNat (countT (partT t)) xs).map (asmF (partT t))) else asmF t xs
theorem chunks_flat {α β : Type} (g : β → List α) (c : Nat) : ∀ ls : List β, (∀ x ∈ ls, (g x).length = c) → chunks ls.length c (ls.map g).flatten = ls.map g
  | [], _ => rfl
  | x :: r, h => by
    have hx := h x (by simp)
    rw [List.length_cons, chunks, List.map_cons, List.flatten_cons, List.take_left' hx, List.drop_left' hx, chunks_flat g c r (fun y hy => h y (by simp [hy]))]
theorem flat_len_sum {α β : Type} (g : β → List α) (c : Nat) : ∀ ls : List β, (∀ x ∈ ls, (g x).length = c) → (ls.map g).flatten.length = ls.length * c
  | [], _ => by simp
  | x :: r, h => by
    rw [List.map_cons, List.flatten_cons, List.length_append, h x (by simp), flat_len_sum g c r (fun y hy => h y (by simp [hy])), List.length_cons, Nat.add_mul]
    omega
theorem scalar_hasF {e : Ty} {v : Va} (h : HasF e v) (h4 : ¬ e.kind = 4) : HasF (scalarT e) v := by
  cases h with
  | bit nm ns es l b h => rw [scalarT_mk _ _ _ _ _ (by omega) (by omega)]; exact .bit _ _ _ _ b h
  | bool nm ns es l n h => rw [scalarT_mk _ _ _ _ _ (by omega) (by omega)]; exact .bool _ _ _ _ n h
  | int nm ns es l n h1 h2 => rw [scalarT_mk _ _ _ _ _ (by omega) (by omega)]; exact .int _ _ _ _ n h1 h2
  | vec nm ns es l bs hl hb => exact absurd rfl h4
  | en nm ns es l i h => rw [scalarT_mk _ _ _ _ _ (by omega) (by omega)]; exact .en _ _ _ _ i h
theorem flat_split {e : Ty} {v : Va} (he : Flat isNameL e) (hv : HasF e v) : (splitV v).length = countT e ∧ asmF e (splitV v) = v ∧ ∀ x ∈ splitV v, HasF (scalarT e) x := by
  by_cases h4 : e.kind = 4
  · cases hv with
    | bit nm ns es l b h => exact absurd h4 (by show ¬ (1 : Int) = 4; omega)
    | bool nm ns es l n h => exact absurd h4 (by show ¬ (2 : Int) = 4; omega)
    | int nm ns es l n h1 h2 => exact absurd h4 (by show ¬ (3 : Int) = 4; omega)
    | en nm ns es l i h => exact absurd h4 (by show ¬ (5 : Int) = 4; omega)
    | vec nm ns es l bs hl hb =>
      rw [splitV_def, if_pos rfl, countT_vec, scalarT_vec]
      refine ⟨by rw [List.length_map]; omega, ?_, ?_⟩
      · unfold asmF
        rw [if_pos h4, List.take_of_length_le (by rw [List.length_map]; show bs.length ≤ l.toNat; omega), List.map_map]
        have : (fstBit ∘ bitVa) = id := rfl
        rw [this, List.map_id]
      · intro x hx
        obtain ⟨b, hb', rfl⟩ := List.mem_map.1 hx
        exact .bit _ _ _ _ b (hb b hb')
  · have hs : splitV v = [v] := by
      obtain ⟨k, n, bs, ls⟩ := v
      have hk : k = e.kind := has_kind (of_hasF hv)
      rw [splitV_def, if_neg (by omega), if_neg (by have := (flat_kind he).1; omega)]
    have hc : countT e = 1 := by
      obtain ⟨k, l, nm, ns, es⟩ := e
      exact countT_mk _ _ _ _ _ h4 (flat_kind he).1
    rw [hs, hc]
    refine ⟨rfl, ?_, ?_⟩
    · unfold asmF
      rw [if_neg h4]
      rfl
    · intro x hx
      rw [List.mem_singleton.1 hx]
      exact scalar_hasF hv h4
theorem good_split {t : Ty} {v : Va} (ht : Good isNameL t) (hv : HasG t v) : (splitV v).length = countT t ∧ asmV t (splitV v) = v ∧ ∀ x ∈ splitV v, HasF (scalarT t) x := by
  cases ht with
  | flat t ht =>
    have h6 := (flat_kind ht).1
    cases hv with
    | arr l nm ns e ls hl h => exact absurd rfl h6
    | flat _ _ hf =>
      unfold asmV
      rw [if_neg h6]
      exact flat_split ht hf
  | arr l e h1 h2 he =>
    cases hv with
    | flat _ _ hf => cases hf
    | arr _ _ _ _ ls hl hh =>
      have hc : ∀ x ∈ ls, (splitV x).length = countT e := fun x hx => (flat_split he (hh x hx)).1
      rw [splitV_def, if_neg (by omega), if_pos rfl, splitVs_eq, countT_arr, scalarT_arr, Int.toNat_natCast]
      refine ⟨?_, ?_, ?_⟩
      · rw [flat_len_sum splitV _ ls hc]
        have : ls.length = l := by omega
        rw [this]
      · unfold asmV
        rw [if_pos (show (Ty.mk 6 (l : Int) noName [] [e]).kind = 6 from rfl), partT_arr]
        show Va.mk 6 0 [] ((chunks (l : Int).toNat (countT e) (ls.map splitV).flatten).map (asmF e)) = _
        rw [Int.toNat_natCast]
        have : l = ls.length := by omega
        rw [this, chunks_flat splitV _ ls hc, List.map_map]
        congr 1
        refine (List.map_congr_left (g := id) (fun x hx => ?_)).trans (List.map_id _)
        exact (flat_split he (hh x hx)).2.1
      · intro x hx
        rw [List.mem_flatten] at hx
        obtain ⟨y, hy, hx⟩ := hx
        obtain ⟨z, hz, rfl⟩ := List.mem_map.1 hy
        exact (flat_split he (hh z hz)).2.2 x hx
/-- The bits of a scalar. -/
def scBits (w : Nat) (x : Va) : List Nat := if x.kind = 1 then x.bits else Lg.ofV x.n w
/-- The bits of a value. -/
def bitsV (t : Ty) (v : Va) : List Nat := ((splitV v).map (scBits (swT (scalarT t)))).flatten
/-- The scalar of bits. -/
def scVal (k : Int) (zs : List Nat) : Va := if k = 1 then bitVa (zs.getD 0 0) else .mk k (Lg.num zs) [] []
theorem enc_pow {n : Nat} (h : n ≤ 16) : n ≤ 2 ^ encN n ∧ 1 ≤ encN n ∧ encN n ≤ 4 := by
  unfold encN
  split
  · exact ⟨by omega, by omega, by omega⟩
  · split
    · exact ⟨by omega, by omega, by omega⟩
    · split
      · exact ⟨by omega, by omega, by omega⟩
      · exact ⟨by omega, by omega, by omega⟩
end Go.Proofs.YtdiagnhdigakpaaGreatDoor
