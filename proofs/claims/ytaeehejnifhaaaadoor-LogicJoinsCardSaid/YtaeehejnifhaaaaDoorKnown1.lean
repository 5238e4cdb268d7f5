/- What is more known: the plain facts, and the argument of four lists. -/
import Derived.Test.YtaeehejnifhaaaaDoorCov
import Derived.Test.YtaeehejnifhaaaaDoorMem2
namespace Go.Proofs.YtaeehejnifhaaaaDoor
open Go.ChangeShapes Go.WideShapes Go.ChangeAt Go.WideMaps Go.WideElems Go.RowKit

/-- A bit with, where it is not known, another one in its place. -/
def mixN (x y : Nat) : Nat := if 1 < x then y else x
def mixK (a c : List Nat) (k : Nat) : List Nat := List.zipWith mixN (a.take k) (c.take k)
theorem mixK_succ {a c : List Nat} {k : Nat} (h : k < a.length) (h' : k < c.length) : mixK a c (k + 1) = mixK a c k ++ [mixN a[k] c[k]] := by
  unfold mixK
  rw [List.take_succ_eq_append_getElem h, List.take_succ_eq_append_getElem h', List.zipWith_append (by simp; omega)]
  rfl
theorem mixK_end {a c : List Nat} {k : Nat} (h : ¬ k < a.length) (hl : a.length = c.length) : mixK a c k = List.zipWith mixN a c := by
  unfold mixK; rw [List.take_of_length_le (by omega), List.take_of_length_le (by omega)]
theorem mixK_len {a c : List Nat} {k : Nat} (h : k ≤ a.length) (hl : a.length = c.length) : (mixK a c k).length = k := by unfold mixK; simp; omega
theorem mixN_le {x y : Nat} (hx : x ≤ 3) (hy : y ≤ 3) : mixN x y ≤ 3 := by unfold mixN; split <;> omega
theorem mix_two {a c : List Nat} (ha : isV a = true) (hc : isV c = true) (hl : a.length = c.length) : two a (List.zipWith mixN a c) = true := by
  obtain ⟨b1, l1, l2⟩ := isV_bits ha
  obtain ⟨b2, _, _⟩ := isV_bits hc
  have hlen : (List.zipWith mixN a c).length = a.length := by simp; omega
  have hb : bitsB (List.zipWith mixN a c) = true := by
    apply bitsB_of
    intro z hz
    obtain ⟨i, hi, rfl⟩ := List.getElem_of_mem hz
    rw [List.getElem_zipWith]
    simp at hi
    exact mixN_le (bitsB_at b1 (by omega)) (bitsB_at b2 (by omega))
  unfold two
  rw [ha, isV_fits (by omega) (by omega), hb]
  simp; omega
theorem mix_cov {a c : List Nat} (ha : isV a = true) (hc : isV c = true) (hl : a.length = c.length) : covV a (List.zipWith mixN a c) = true ∧ covE a (List.zipWith mixN a c) = 0 := by
  have ht := mix_two ha hc hl
  refine ⟨?_, (cov_yes ht).2⟩
  rw [(cov_yes ht).1]
  apply covK_of (two_yes ht).2.2
  intro k h h'
  rw [List.getElem_zipWith]
  unfold mixN
  split
  · left; omega
  · right; rfl

theorem op_more : ∀ a, a ∈ [0, 1, 2, 3] → ∀ b, b ∈ [0, 1, 2, 3] → ∀ c, c ∈ [0, 1, 2, 3] → ∀ d, d ∈ [0, 1, 2, 3] → ∀ k, k ∈ [0, 1, 2, 3, 4, 5] → 2 ≤ opN k a b ∨ opN k a b = opN k (mixN a c) (mixN b d) := by decide +kernel
theorem zip_cov {k : Nat} {a b c d : List Nat} (hk : k ≤ 5) (ha : isV a = true) (hb : isV b = true) (hc : isV c = true) (hd : isV d = true) (h1 : a.length = b.length) (h2 : a.length = c.length) (h3 : a.length = d.length) :
    covV (List.zipWith (opN k) a b) (List.zipWith (opN k) (List.zipWith mixN a c) (List.zipWith mixN b d)) = true ∧ covE (List.zipWith (opN k) a b) (List.zipWith (opN k) (List.zipWith mixN a c) (List.zipWith mixN b d)) = 0 := by
  obtain ⟨ba, l1, l2⟩ := isV_bits ha
  have bb := (isV_bits hb).1
  have bc := (isV_bits hc).1
  have bd := (isV_bits hd).1
  have ht : two (List.zipWith (opN k) a b) (List.zipWith (opN k) (List.zipWith mixN a c) (List.zipWith mixN b d)) = true := by
    have e1 : bitsB (List.zipWith (opN k) a b) = true := by
      apply bitsB_of
      intro z hz
      obtain ⟨i, hi, rfl⟩ := List.getElem_of_mem hz
      rw [List.getElem_zipWith]
      have := opN_le k (a[i]'(by simp at hi; omega)) (b[i]'(by simp at hi; omega))
      omega
    have e2 : bitsB (List.zipWith (opN k) (List.zipWith mixN a c) (List.zipWith mixN b d)) = true := by
      apply bitsB_of
      intro z hz
      obtain ⟨i, hi, rfl⟩ := List.getElem_of_mem hz
      rw [List.getElem_zipWith]
      have := opN_le k ((List.zipWith mixN a c)[i]'(by simp at hi ⊢; omega)) ((List.zipWith mixN b d)[i]'(by simp at hi ⊢; omega))
      omega
    unfold two
    rw [isV_fits (by simp; omega) (by simp; omega), isV_fits (by simp; omega) (by simp; omega), e1, e2]
    simp; omega
  refine ⟨?_, (cov_yes ht).2⟩
  rw [(cov_yes ht).1]
  apply covK_of (two_yes ht).2.2
  intro i h h'
  simp only [List.getElem_zipWith]
  simp at h h'
  have m : ∀ {x : Nat}, x ≤ 3 → x ∈ [0, 1, 2, 3] := by intro x hx; simp; omega
  exact op_more _ (m (bitsB_at ba (by omega))) _ (m (bitsB_at bb (by omega))) _ (m (bitsB_at bc (by omega))) _ (m (bitsB_at bd (by omega))) k (by simp; omega)

/-- A cell that reads as a slice of bits. -/
theorem sl_cell {H : Type} {enc : TypeId × Value → H} {W : World} {fuel : Nat} {c : Value} {d : DataW H} {ps : List MemPlace}
    (hf : DataW.trod enc Tryd.prog W 0 (fun _ => true) true fuel 31 [c] = some (d, ps)) (hsz : ∀ elems spare, d = .slice elems spare → (elems.length + spare.length) * Tryd.prog.bytesOf 22 ≤ reachBytes) : ∃ zs, Sl W c zs := by
  rcases open_ints Tryd.underlying31 Tryd.underlying22 cBit hf with ⟨hcs, hx⟩ | ⟨a, len', cap', zs, hcs, _, hl, hm, hz, hx, hcell, hwz⟩
  · simp at hcs
    subst hcs
    exact ⟨[], none, 0, rfl, by simp, by simp, .inl rfl⟩
  · simp at hcs
    subst hcs
    simp only [Prod.mk.injEq] at hx
    simp at hz
    have hr := hsz _ _ hx.1
    rw [bytesBit, reach_num] at hr
    simp [lits] at hr
    have hl47 : len' ≤ 140737488355328 := by omega
    refine ⟨(zs.take len').map Int.toNat, some a, cap', by simp; omega, by simp; omega, ?_, ?_⟩
    · intro z hzm
      obtain ⟨x, hxm, rfl⟩ := List.mem_map.1 hzm
      have := bounds_u8 (hwz x (List.mem_of_mem_take hxm))
      omega
    · by_cases h0 : 0 < len'
      · obtain ⟨b, off, rfl, hc⟩ := ints_at hcell (by omega)
        refine .inr ⟨b, off, rfl, fun k hk => ?_⟩
        simp at hk
        rw [hc k (by omega)]
        have hk' : k < zs.length := by omega
        have hb := bounds_u8 (hwz zs[k] (List.getElem_mem hk'))
        simp [List.getD, List.getElem?_eq_getElem hk']
        omega
      · left
        have : len' = 0 := by omega
        subst this
        simp

theorem cSl : Tryd.prog.cellsOf 31 = 1 := by kernel_rfl
theorem cFour : Tryd.prog.cellsOf 57 = 4 := by kernel_rfl

/-- An array of four slices of bits, opened. -/
theorem four_open {H : Type} {enc : TypeId × Value → H} {W : World} {base : Nat} {r : Reach} {v : Value} {d : DataW H} {ps : List MemPlace} (hv : Value.okWide Tryd.prog W r base 57 v)
    (h : DataW.Trod enc Tryd.prog W 0 (fun _ => true) true 57 v d ps) (hsz : ∀ n ∈ DataW.weights Tryd.prog 57 d, n ≤ reachBytes) :
    ∃ v0 v1 v2 v3 a b c e, v = .agg #[v0, v1, v2, v3] ∧ Sl W v0 a ∧ Sl W v1 b ∧ Sl W v2 c ∧ Sl W v3 e := by
  obtain ⟨cs, rfl, hcs⟩ : ∃ cs, v = .agg cs ∧ cs.size = 4 := by
    simp only [Value.okWide, Tryd.underlying57] at hv
    obtain ⟨cs, h1, h2, _⟩ := hv
    exact ⟨cs, h1, h2.trans cFour⟩
  obtain ⟨v0, v1, v2, v3, rfl⟩ : ∃ v0 v1 v2 v3, cs = #[v0, v1, v2, v3] := by
    obtain ⟨l⟩ := cs
    match l, hcs with
    | [a, b, c, d], _ => exact ⟨a, b, c, d, rfl⟩
  obtain ⟨fuel, hf⟩ := h
  obtain ⟨xs, m, rfl, hx, _, hn, hel⟩ := DataW.trod_array Tryd.underlying57 hf
  simp only [Prod.mk.injEq] at hx
  rw [cSl] at hel
  match xs, hn, hx, hel with
  | [x0, x1, x2, x3], _, hx, hel =>
    have e0 := hel 0 (by decide)
    have e1 := hel 1 (by decide)
    have e2 := hel 2 (by decide)
    have e3 := hel 3 (by decide)
    simp [Value.cells] at e0 e1 e2 e3
    have hw : ∀ x, x ∈ [x0, x1, x2, x3] → ∀ n ∈ DataW.weights Tryd.prog 31 x.1, n ≤ reachBytes := by
      intro x hxm n hnm
      apply hsz
      rw [hx.1]
      simp only [DataW.weights, Tryd.underlying57, List.map_cons, List.map_nil, DataW.weightsAll, List.append_nil, List.mem_append]
      simp at hxm
      rcases hxm with rfl | rfl | rfl | rfl
      · exact .inl hnm
      · exact .inr (.inl hnm)
      · exact .inr (.inr (.inl hnm))
      · exact .inr (.inr (.inr hnm))
    have hs : ∀ (x : DataW H × List MemPlace), (∀ n ∈ DataW.weights Tryd.prog 31 x.1, n ≤ reachBytes) → ∀ elems spare, x.1 = .slice elems spare → (elems.length + spare.length) * Tryd.prog.bytesOf 22 ≤ reachBytes := by
      intro x hx elems spare he
      apply hx
      rw [he]
      simp [DataW.weights, Tryd.underlying31]
    obtain ⟨a, ha⟩ := sl_cell (d := x0.1) (ps := x0.2) e0 (hs x0 (hw x0 (by simp)))
    obtain ⟨b, hb⟩ := sl_cell (d := x1.1) (ps := x1.2) e1 (hs x1 (hw x1 (by simp)))
    obtain ⟨c, hc⟩ := sl_cell (d := x2.1) (ps := x2.2) e2 (hs x2 (hw x2 (by simp)))
    obtain ⟨e, he⟩ := sl_cell (d := x3.1) (ps := x3.2) e3 (hs x3 (hw x3 (by simp)))
    exact ⟨v0, v1, v2, v3, a, b, c, e, rfl, ha, hb, hc, he⟩
end Go.Proofs.YtaeehejnifhaaaaDoor
