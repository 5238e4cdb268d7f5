/- The types at scalar places, values joined of scalars, as functions of trees. No program stands here. -/
import Derived.Test.YtdiagnhdigakpaaGreatDoorUj
import Derived.Test.YtdiagnhdigakpaaGreatDoorKj
namespace Go.Proofs.YtdiagnhdigakpaaGreatDoor

theorem placesT_vec (l : Int) (nm : ByteArray) (ns : List ByteArray) (es : List Ty) : placesT (.mk 4 l nm ns es) = List.replicate l.toNat bitT := by
  match es with
  | [] => simp [placesT]
  | [e] => simp [placesT]
  | e :: e2 :: r => simp [placesT]
theorem placesT_mk (k l : Int) (nm : ByteArray) (ns : List ByteArray) (es : List Ty) (h4 : ¬ k = 4) (h6 : ¬ k = 6) : placesT (.mk k l nm ns es) = [.mk k l nm ns es] := by
  match es with
  | [] => simp [placesT, h4, h6]
  | [e] => simp [placesT, h4, h6]
  | e :: e2 :: r => simp [placesT, h4, h6]
theorem flat_places {f : List UInt8 → Bool} {e : Ty} (he : Flat f e) : placesT e = List.replicate (countT e) (scalarT e) := by
  cases he with
  | sc k hk => rw [placesT_mk _ _ _ _ _ (by omega) (by omega), countT_mk _ _ _ _ _ (by omega) (by omega), scalarT_mk _ _ _ _ _ (by omega) (by omega)]; rfl
  | vec l h1 h2 => rw [placesT_vec, countT_vec, scalarT_vec]
  | en nm ns h1 h2 => rw [placesT_mk _ _ _ _ _ (by omega) (by omega), countT_mk _ _ _ _ _ (by omega) (by omega), scalarT_mk _ _ _ _ _ (by omega) (by omega)]; rfl
theorem good_places {f : List UInt8 → Bool} {t : Ty} (ht : Good f t) : placesT t = List.replicate (countT t) (scalarT t) := by
  cases ht with
  | flat t h => exact flat_places h
  | arr l e h1 h2 he => rw [placesT_arr, countT_arr, scalarT_arr, flat_places he, List.flatten_replicate_replicate]
theorem places_len {f : List UInt8 → Bool} {t : Ty} (ht : Good f t) : (placesT t).length = countT t := by rw [good_places ht, List.length_replicate]
/-- Can scalars be joined to a value of a type? -/
def joinOk (t : Ty) (xs : List Va) : Bool := validT isNameL t && (decide (xs.length = countT t) && xs.all (fun x => hasV (scalarT t) x))
def joinR (t : Ty) (xs : List Va) : Va := if joinOk t xs then asmV t xs else zeroV
def joinE (t : Ty) (xs : List Va) : Nat := if joinOk t xs then 0 else 2
theorem scalarT_flat {f : List UInt8 → Bool} {e : Ty} (he : Flat f e) : Flat f (scalarT e) := by
  cases he with
  | sc k hk => rw [scalarT_mk _ _ _ _ _ (by omega) (by omega)]; exact .sc k hk
  | vec l h1 h2 => rw [scalarT_vec]; exact .sc 1 (.inl rfl)
  | en nm ns h1 h2 => rw [scalarT_mk _ _ _ _ _ (by omega) (by omega)]; exact .en nm ns h1 h2
theorem scalarT_good {f : List UInt8 → Bool} {t : Ty} (ht : Good f t) : Flat f (scalarT t) ∧ ¬ (scalarT t).kind = 4 ∧ ¬ (scalarT t).kind = 6 := by
  have key : ∀ e, Flat f e → Flat f (scalarT e) ∧ ¬ (scalarT e).kind = 4 ∧ ¬ (scalarT e).kind = 6 := fun e he => by
    refine ⟨scalarT_flat he, ?_, (flat_kind (scalarT_flat he)).1⟩
    cases he with
    | sc k hk => rw [scalarT_mk _ _ _ _ _ (by omega) (by omega)]; show ¬ k = 4; omega
    | vec l h1 h2 => rw [scalarT_vec]; show ¬ (1 : Int) = 4; omega
    | en nm ns h1 h2 => rw [scalarT_mk _ _ _ _ _ (by omega) (by omega)]; show ¬ (5 : Int) = 4; omega
  cases ht with
  | flat t h => exact key t h
  | arr l e h1 h2 he => rw [scalarT_arr]; exact key e he
theorem flat_asm {e : Ty} (he : Flat isNameL e) {xs : List Va} (hl : xs.length = countT e) (hx : ∀ x ∈ xs, hasV (scalarT e) x = true) : HasF e (asmF e xs) ∧ splitV (asmF e xs) = xs := by
  have hx' : ∀ x ∈ xs, HasF (scalarT e) x := fun x h => hasF_of (scalarT_flat he) (hx x h)
  cases he with
  | vec l h1 h2 =>
    rw [countT_vec, Int.toNat_natCast] at hl
    rw [scalarT_vec] at hx'
    unfold asmF
    rw [if_pos (show (Ty.mk 4 (l : Int) noName [] []).kind = 4 from rfl), List.take_of_length_le (by show xs.length ≤ (l : Int).toNat; rw [Int.toNat_natCast]; omega)]
    refine ⟨.vec _ _ _ _ _ (by rw [List.length_map]; omega) ?_, ?_⟩
    · intro b hb
      obtain ⟨x, hx1, rfl⟩ := List.mem_map.1 hb
      have := hx' x hx1
      unfold bitT at this
      cases this with
      | bit nm ns es l b h => exact h
    · rw [splitV_def, if_pos rfl, List.map_map]
      refine (List.map_congr_left (g := id) (fun x hx1 => ?_)).trans (List.map_id _)
      have := hx' x hx1
      unfold bitT at this
      cases this with
      | bit nm ns es l b h => rfl
  | sc k hk =>
    rw [countT_mk _ _ _ _ _ (by omega) (by omega)] at hl
    rw [scalarT_mk _ _ _ _ _ (by omega) (by omega)] at hx'
    obtain ⟨x, rfl⟩ := List.length_eq_one_iff.1 hl
    unfold asmF
    rw [if_neg (show ¬ (Ty.mk k 0 noName [] []).kind = 4 by show ¬ k = 4; omega)]
    have h1 := hx' x (by simp)
    refine ⟨h1, ?_⟩
    obtain ⟨kx, n, bs, ls⟩ := x
    have hk2 : kx = k := has_kind (of_hasF h1)
    show splitV (.mk kx n bs ls) = _
    rw [splitV_def, if_neg (by omega), if_neg (by omega)]
  | en nm ns h1 h2 =>
    rw [countT_mk _ _ _ _ _ (by omega) (by omega)] at hl
    rw [scalarT_mk _ _ _ _ _ (by omega) (by omega)] at hx'
    obtain ⟨x, rfl⟩ := List.length_eq_one_iff.1 hl
    unfold asmF
    rw [if_neg (show ¬ (Ty.mk 5 0 nm ns []).kind = 4 by show ¬ (5 : Int) = 4; omega)]
    have h1 := hx' x (by simp)
    refine ⟨h1, ?_⟩
    obtain ⟨kx, n, bs, ls⟩ := x
    have hk2 : kx = 5 := has_kind (of_hasF h1)
    show splitV (.mk kx n bs ls) = _
    rw [splitV_def, if_neg (by omega), if_neg (by omega)]
theorem chunks_facts {α : Type} (c : Nat) : ∀ (l : Nat) (xs : List α), xs.length = l * c → (chunks l c xs).length = l ∧ (∀ ys ∈ chunks l c xs, ys.length = c ∧ ∀ y ∈ ys, y ∈ xs) ∧ (chunks l c xs).flatten = xs
  | 0, xs, h => by
    have : xs = [] := List.length_eq_zero_iff.1 (by omega)
    subst this
    exact ⟨rfl, (fun ys h => by cases h), rfl⟩
  | l + 1, xs, h => by
    rw [Nat.succ_mul] at h
    obtain ⟨h1, h2, h3⟩ := chunks_facts c l (xs.drop c) (by rw [List.length_drop]; omega)
    rw [chunks]
    refine ⟨by rw [List.length_cons, h1], ?_, by rw [List.flatten_cons, h3, List.take_append_drop]⟩
    intro ys hy
    rcases List.mem_cons.1 hy with rfl | hy
    · exact ⟨by rw [List.length_take]; omega, fun y hy => List.mem_of_mem_take hy⟩
    · exact ⟨(h2 ys hy).1, fun y h => List.mem_of_mem_drop ((h2 ys hy).2 y h)⟩
/-- What is joined has the type, and taken apart it is what was joined. -/
theorem good_asm {t : Ty} (ht : Good isNameL t) {xs : List Va} (hl : xs.length = countT t) (hx : ∀ x ∈ xs, hasV (scalarT t) x = true) : HasG t (asmV t xs) ∧ splitV (asmV t xs) = xs := by
  cases ht with
  | flat t h =>
    unfold asmV
    rw [if_neg (flat_kind h).1]
    obtain ⟨h1, h2⟩ := flat_asm h hl hx
    exact ⟨.flat _ _ h1, h2⟩
  | arr l e h1 h2 he =>
    rw [countT_arr, Int.toNat_natCast] at hl
    rw [scalarT_arr] at hx
    obtain ⟨c1, c2, c3⟩ := chunks_facts (countT e) l xs hl
    unfold asmV
    rw [if_pos (show (Ty.mk 6 (l : Int) noName [] [e]).kind = 6 from rfl), partT_arr]
    show HasG _ (.mk 6 0 [] ((chunks (l : Int).toNat (countT e) xs).map (asmF e))) ∧ splitV (.mk 6 0 [] ((chunks (l : Int).toNat (countT e) xs).map (asmF e))) = xs
    rw [Int.toNat_natCast]
    have key : ∀ ys ∈ chunks l (countT e) xs, HasF e (asmF e ys) ∧ splitV (asmF e ys) = ys := fun ys hy => flat_asm he (c2 ys hy).1 (fun y h => hx y ((c2 ys hy).2 y h))
    refine ⟨.arr _ _ _ _ _ (by rw [List.length_map, c1]) ?_, ?_⟩
    · intro v hv
      obtain ⟨ys, hy, rfl⟩ := List.mem_map.1 hv
      exact (key ys hy).1
    · rw [splitV_def, if_neg (by omega), if_pos rfl, splitVs_eq, List.map_map]
      have : (chunks l (countT e) xs).map (splitV ∘ asmF e) = chunks l (countT e) xs := (List.map_congr_left (g := id) (fun ys hy => (key ys hy).2)).trans (List.map_id _)
      rw [this, c3]
theorem joinOk_iff {t : Ty} {xs : List Va} : joinOk t xs = true ↔ validT isNameL t = true ∧ xs.length = countT t ∧ ∀ x ∈ xs, hasV (scalarT t) x = true := by
  unfold joinOk
  rw [Bool.and_eq_true, Bool.and_eq_true, decide_eq_true_eq, List.all_eq_true]
/-- A value taken apart and put together is the value. -/
theorem joined_split {t : Ty} {v : Va} (h : hasT t v = true) : joinOk t (splitV v) = true ∧ asmV t (splitV v) = v := by
  unfold hasT at h
  rw [Bool.and_eq_true] at h
  obtain ⟨h1, h2, h3⟩ := good_split (valid_good h.1) (hasG_of (valid_good h.1) h.2)
  exact ⟨joinOk_iff.2 ⟨h.1, h1, fun x hx => of_hasF (h3 x hx)⟩, h2⟩
end Go.Proofs.YtdiagnhdigakpaaGreatDoor
