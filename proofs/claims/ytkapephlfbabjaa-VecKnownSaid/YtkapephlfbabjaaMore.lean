/- What is more known: the plain facts, and the argument of four lists. -/
import Derived.Test.YtkapephlfbabjaaSure
import Derived.Test.YtkapephlfbabjaaLaw
import Derived.Test.YtkapephlfbabjaaTops
namespace Go.Proofs.Ytkapephlfbabjaa
open Go.ChangeShapes Go.WideShapes Go.ChangeAt Go.WideMaps Go.WideElems Go.RowKit

/-- A bit with, where it is not known, another one in its place. -/
def mixN (x y : Nat) : Nat := if 1 < x then y else x
/-- The first k places so. -/
def mixP (a c : List Nat) (k : Nat) : List Nat := (List.range a.length).map fun i => if i < k then mixN (a.getD i 0) (c.getD i 0) else a.getD i 0
theorem mixP_len (a c : List Nat) (k : Nat) : (mixP a c k).length = a.length := by simp [mixP]
theorem mixP_get {a c : List Nat} {k i : Nat} (h : i < (mixP a c k).length) : (mixP a c k)[i] = if i < k then mixN (a.getD i 0) (c.getD i 0) else a.getD i 0 := by simp [mixP]
theorem getD_eq {a : List Nat} {i : Nat} (h : i < a.length) : a.getD i 0 = a[i] := by simp [List.getD_eq_getElem?_getD, List.getElem?_eq_getElem h]
theorem mixP_zero (a c : List Nat) : mixP a c 0 = a := by
  apply List.ext_getElem (mixP_len a c 0)
  intro i h1 h2
  rw [mixP_get h1, if_neg (by omega), getD_eq h2]
theorem mixP_set {a c : List Nat} {k : Nat} (h : k < a.length) (h' : k < c.length) : (mixP a c k).set k (mixN a[k] c[k]) = mixP a c (k + 1) := by
  apply List.ext_getElem (by rw [List.length_set, mixP_len, mixP_len])
  intro i h1 h2
  rw [List.getElem_set, mixP_get h2]
  by_cases hi : k = i
  · subst hi
    rw [if_pos rfl, if_pos (by omega), getD_eq h, getD_eq h']
  · rw [if_neg hi, mixP_get (by rw [List.length_set] at h1; exact h1)]
    by_cases hl : i < k
    · rw [if_pos hl, if_pos (by omega)]
    · rw [if_neg hl, if_neg (by omega)]
theorem mixP_at {a c : List Nat} {k : Nat} (h : k < a.length) : (mixP a c k)[k]'(by rw [mixP_len]; exact h) = a[k] := by
  rw [mixP_get, if_neg (by omega), getD_eq h]
theorem mixP_keep {a c : List Nat} {k : Nat} (h : k < a.length) (hz : ¬ 1 < a[k]) : mixP a c k = mixP a c (k + 1) := by
  apply List.ext_getElem (by rw [mixP_len, mixP_len])
  intro i h1 h2
  rw [mixP_get h1, mixP_get h2]
  by_cases hl : i < k
  · rw [if_pos hl, if_pos (by omega)]
  · rw [if_neg hl]
    by_cases hi : i = k
    · subst hi
      rw [if_pos (by omega), getD_eq h]
      unfold mixN
      rw [if_neg hz]
    · rw [if_neg (by omega)]
def mixL (a c : List Nat) : List Nat := mixP a c a.length
theorem mixL_isV {a c : List Nat} (ha : isV a = true) (hc : isV c = true) (hl : c.length = a.length) : isV (mixL a c) = true := by
  obtain ⟨b1, h1, h64⟩ := isV_bits ha
  have e : (mixL a c).length = a.length := mixP_len _ _ _
  refine isV_of (by omega) (by omega) (bitsB_of fun z hz => ?_)
  obtain ⟨i, hi, rfl⟩ := List.getElem_of_mem hz
  have hi' : i < a.length := by omega
  rw [show (mixL a c)[i] = if i < a.length then mixN (a.getD i 0) (c.getD i 0) else a.getD i 0 from mixP_get hi, if_pos hi', getD_eq hi', getD_eq (show i < c.length by omega)]
  have := bitsB_at b1 hi'
  have := bitsB_at (isV_bits hc).1 (show i < c.length by omega)
  unfold mixN
  split <;> omega
theorem mixL_known {a c : List Nat} (h : knB a = true) : mixL a c = a := by
  apply List.ext_getElem (mixP_len _ _ _)
  intro i h1 h2
  rw [mixP_get h1, if_pos h2, getD_eq h2]
  unfold mixN
  rw [if_neg (by have := knB_at h h2; omega)]
/-- With more known, what is reckoned is covered by what it was. -/
theorem cal_cov {op : Nat → Nat → Nat} {a b c e : List Nat} (h : two a b = true) (hc : isV c = true) (he : isV e = true) (lc : c.length = a.length) (le : e.length = a.length) :
    covV (calV op a b) (calV op (mixL a c) (mixL b e)) = true ∧ covE (calV op a b) (calV op (mixL a c) (mixL b e)) = 0 := by
  obtain ⟨ha, hb, hl⟩ := two_yes h
  have e1 : (mixL a c).length = a.length := mixP_len _ _ _
  have e2 : (mixL b e).length = b.length := mixP_len _ _ _
  have h' : two (mixL a c) (mixL b e) = true := two_of (mixL_isV ha hc lc) (mixL_isV hb he (by omega)) (by omega)
  have ht : two (calV op a b) (calV op (mixL a c) (mixL b e)) = true := two_of (cal_isV h) (cal_isV h') (by rw [cal_len h, cal_len h', e1])
  refine ⟨?_, (cov_yes ht).2⟩
  rw [(cov_yes ht).1]
  apply covK_of (two_yes ht).2.2
  intro k k1 k2
  cases hb' : both a b
  · left
    have hx := (cal_unk (op := op) h hb').1
    rw [List.getElem_of_eq hx, List.getElem_replicate]
    exact Nat.le_refl 2
  · right
    unfold both at hb'
    rw [Bool.and_eq_true] at hb'
    have q : calV op a b = calV op (mixL a c) (mixL b e) := by rw [mixL_known hb'.1, mixL_known hb'.2]
    exact List.getElem_of_eq q k1
theorem covers_any (u v : Value) (a b : List Nat) (w : World) (hu : Sl w u a) (hv : Sl w v b) (h : covV a b = true ∧ covE a b = 0) :
    Calls Try.prog 55 #[u, v] w fun e w' => e = .returned (.bool true) ∧ Below w.heap.size w w' := by
  have hC := refCovers_any u v a b w hu hv
  rw [h.1, h.2] at hC
  have HC := Lib.hid hC
  obtain ⟨A, c, rfl, hn, _⟩ := hu
  obtain ⟨A', c', rfl, hn', _⟩ := hv
  clear hC h
  go_enter Try.func55, Try.ntmps55
  go_wp2_with fail
  refine (HC.out).mono ?_
  rintro e w' ⟨rfl, hb⟩
  have HB := Lib.hid hb
  clear hb
  go_wp2
  go_ret
  exact ⟨rfl, HB.out⟩

/-- A cell that reads as a slice of bits. -/
theorem sl_cell {H : Type} {enc : TypeId × Value → H} {W : World} {fuel : Nat} {c : Value} {d : DataW H} {ps : List MemPlace}
    (hf : DataW.trod enc Try.prog W 0 (fun _ => true) true fuel 22 [c] = some (d, ps)) (hsz : ∀ elems spare, d = .slice elems spare → (elems.length + spare.length) * Try.prog.bytesOf 49 ≤ reachBytes) : ∃ zs, Sl W c zs := by
  rcases open_ints Try.underlying22 Try.underlying49 cBit hf with ⟨hcs, hx⟩ | ⟨a, len', cap', zs, hcs, _, hl, hm, hz, hx, hcell, hwz⟩
  · simp at hcs
    subst hcs
    exact ⟨[], none, 0, rfl, by simp, by simp, by simp, .inl rfl⟩
  · simp at hcs
    subst hcs
    simp only [Prod.mk.injEq] at hx
    simp at hz
    have hr := hsz _ _ hx.1
    rw [bytesBit, reach_num] at hr
    simp [lits] at hr
    have hl47 : len' ≤ 140737488355328 := by omega
    refine ⟨(zs.take len').map Int.toNat, some a, cap', by simp; omega, by simp; omega, ?_, by simp; omega, ?_⟩
    · intro z hzm
      obtain ⟨x, hxm, rfl⟩ := List.mem_map.1 hzm
      have := bounds_u8 (hwz x (List.mem_of_mem_take hxm))
      omega
    · by_cases h0 : 0 < len'
      · obtain ⟨b, off, rfl, hc⟩ := ints_at hcell (by omega)
        refine .inr ⟨b, off, rfl, fun k hk => ?_⟩
        simp at hk
        rw [hc k (by omega)]
        have hk' : k < zs.length := by omega
        have hb := bounds_u8 (hwz zs[k] (List.getElem_mem hk'))
        simp [List.getD, List.getElem?_eq_getElem hk']
        omega
      · left
        have : len' = 0 := by omega
        subst this
        simp
theorem cSl : Try.prog.cellsOf 22 = 1 := by kernel_rfl
theorem cFour : Try.prog.cellsOf 52 = 4 := by kernel_rfl


/-- An array of four slices of bits, opened. -/
theorem four_open {H : Type} {enc : TypeId × Value → H} {W : World} {base : Nat} {r : Reach} {v : Value} {d : DataW H} {ps : List MemPlace} (hv : Value.okWide Try.prog W r base 52 v)
    (h : DataW.Trod enc Try.prog W 0 (fun _ => true) true 52 v d ps) (hsz : ∀ n ∈ DataW.weights Try.prog 52 d, n ≤ reachBytes) :
    ∃ v0 v1 v2 v3 a b c e, v = .agg #[v0, v1, v2, v3] ∧ Sl W v0 a ∧ Sl W v1 b ∧ Sl W v2 c ∧ Sl W v3 e := by
  obtain ⟨cs, rfl, hcs⟩ : ∃ cs, v = .agg cs ∧ cs.size = 4 := by
    simp only [Value.okWide, Try.underlying52] at hv
    obtain ⟨cs, h1, h2, _⟩ := hv
    exact ⟨cs, h1, h2.trans cFour⟩
  obtain ⟨v0, v1, v2, v3, rfl⟩ : ∃ v0 v1 v2 v3, cs = #[v0, v1, v2, v3] := by
    obtain ⟨l⟩ := cs
    match l, hcs with
    | [a, b, c, d], _ => exact ⟨a, b, c, d, rfl⟩
  obtain ⟨fuel, hf⟩ := h
  obtain ⟨xs, m, rfl, hx, _, hn, hel⟩ := DataW.trod_array Try.underlying52 hf
  simp only [Prod.mk.injEq] at hx
  rw [cSl] at hel
  match xs, hn, hx, hel with
  | [x0, x1, x2, x3], _, hx, hel =>
    have e0 := hel 0 (by decide)
    have e1 := hel 1 (by decide)
    have e2 := hel 2 (by decide)
    have e3 := hel 3 (by decide)
    simp [Value.cells] at e0 e1 e2 e3
    have hw : ∀ x, x ∈ [x0, x1, x2, x3] → ∀ n ∈ DataW.weights Try.prog 22 x.1, n ≤ reachBytes := by
      intro x hxm n hnm
      apply hsz
      rw [hx.1]
      simp only [DataW.weights, Try.underlying52, List.map_cons, List.map_nil, DataW.weightsAll, List.append_nil, List.mem_append]
      simp at hxm
      rcases hxm with rfl | rfl | rfl | rfl
      · exact .inl hnm
      · exact .inr (.inl hnm)
      · exact .inr (.inr (.inl hnm))
      · exact .inr (.inr (.inr hnm))
    have hs : ∀ (x : DataW H × List MemPlace), (∀ n ∈ DataW.weights Try.prog 22 x.1, n ≤ reachBytes) → ∀ elems spare, x.1 = .slice elems spare → (elems.length + spare.length) * Try.prog.bytesOf 49 ≤ reachBytes := by
      intro x hx elems spare he
      apply hx
      rw [he]
      simp [DataW.weights, Try.underlying22]
    obtain ⟨a, ha⟩ := sl_cell (d := x0.1) (ps := x0.2) e0 (hs x0 (hw x0 (by simp)))
    obtain ⟨b, hb⟩ := sl_cell (d := x1.1) (ps := x1.2) e1 (hs x1 (hw x1 (by simp)))
    obtain ⟨c, hc⟩ := sl_cell (d := x2.1) (ps := x2.2) e2 (hs x2 (hw x2 (by simp)))
    obtain ⟨e, he⟩ := sl_cell (d := x3.1) (ps := x3.2) e3 (hs x3 (hw x3 (by simp)))
    exact ⟨v0, v1, v2, v3, a, b, c, e, rfl, ha, hb, hc, he⟩
end Go.Proofs.Ytkapephlfbabjaa
