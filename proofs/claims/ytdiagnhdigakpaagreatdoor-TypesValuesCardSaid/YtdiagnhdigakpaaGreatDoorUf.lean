/- The contracts of the program's partType, At and With, for any type and values. -/
import Derived.Test.YtdiagnhdigakpaaGreatDoorUd
namespace Go.Proofs.YtdiagnhdigakpaaGreatDoor
open Go.RowKit

def partR (t : Ty) (v : Va) (i : Int) : Ty := if partE t v i = 0 then partT t else noTy
theorem partE_cases (t : Ty) (v : Va) (i : Int) : partE t v i = 0 ∨ partE t v i = 2 ∨ partE t v i = 16 ∨ partE t v i = 19 := by
  unfold partE
  split
  · split
    · split
      · exact .inl rfl
      · exact .inr (.inr (.inr rfl))
    · exact .inr (.inr (.inl rfl))
  · exact .inr (.inl rfl)
theorem partR_err {t : Ty} {v : Va} {i : Int} (h : ¬ partE t v i = 0) : partR t v i = noTy := if_neg h
theorem partR_ok {t : Ty} {v : Va} {i : Int} (h : partE t v i = 0) : partR t v i = partT t := if_pos h
theorem bne_true {a b : Int} (h : ¬ a = b) : (a != b) = true := by simp [h]
theorem ppart_any (t : Ty) (v : Va) (i : Int) (cs c1 : List Value) (w : World) (ht : smT t) (h : TyC w t cs) (h1 : VaC w v c1) :
    Calls Tryz.prog 90 #[.agg cs.toArray, .agg c1.toArray, .int .i64 i] w (PartPost (partR t v i) (partE t v i) w) := by
  have h0 := h
  have h10 := h1
  have HH : ∀ b, hasT t v = b → Hid (∀ u, Below w.heap.size w u → Calls Tryz.prog 30 #[.agg cs.toArray, .agg c1.toArray] u fun e w' => e = .returned (.bool b) ∧ Below u.heap.size u w') := fun b hb u hu => by
    have := phas_any t v cs c1 u ht (TyC.later hu _ _ h0) (VaC.later hu _ _ h10)
    rwa [hb] at this
  obtain ⟨A, n, c, B, m, d, rfl, hn, hm, hs, hT⟩ := tyC_open h
  obtain ⟨C, x, p, D, y, q, rfl, _⟩ := vaC_open h1
  by_cases hh : hasT t v = true
  · by_cases hk : t.kind = 4 ∨ t.kind = 6
    · rcases two_shapes hh hk with ⟨l, bs, rfl, rfl, g1, g2, g3, g4⟩ | ⟨l, e, ls, rfl, rfl, g1, g2, g3, g4, g5⟩
      · by_cases hi : 0 ≤ i ∧ i ≤ (l : Int) - 1
        · have hE : partE (.mk 4 l noName [] []) (.mk 4 0 bs []) i = 0 := partE_zero.2 ⟨hh, hk, hi.1, by show i < (l : Int); omega⟩
          rw [partR_ok hE, hE]
          exact part_vec l g1 g2 i _ _ hi noName _ _ _ _ w (HH true hh)
        · have hE : partE (.mk 4 l noName [] []) (.mk 4 0 bs []) i = 19 := by
            unfold partE
            rw [if_pos hh, if_pos hk, if_neg (fun h => hi ⟨h.1, by have := h.2; have h2 : i < (l : Int) := this; omega⟩)]
          rw [partR_err (by rw [hE]; decide), hE]
          exact part_range4 l g1 g2 i _ _ hi noName _ _ _ _ w (HH true hh)
      · by_cases hi : 0 ≤ i ∧ i ≤ (l : Int) - 1
        · have hE : partE (.mk 6 l noName [] [e]) (.mk 6 0 [] ls) i = 0 := partE_zero.2 ⟨hh, hk, hi.1, by show i < (l : Int); omega⟩
          rw [partR_ok hE, hE, partT_arr]
          obtain rfl : m = 1 := hm
          rcases hT with hT | ⟨b, off, rfl, hT⟩
          · cases hT
          obtain ⟨A1, n1, c1, A2, n2, c2, k1, k5⟩ := one_open hT
          refine (part_arr l g1 g2 i _ _ hi noName _ _ _ b off d _ _ _ A1 A2 n1 c1 n2 c2 w k5 (HH true hh)).mono ?_
          rintro ee w' ⟨rfl, hb⟩
          exact ⟨_, _, _, _, _, _, rfl, TyC.later hb _ _ k1, hb⟩
        · have hE : partE (.mk 6 l noName [] [e]) (.mk 6 0 [] ls) i = 19 := by
            unfold partE
            rw [if_pos hh, if_pos hk, if_neg (fun h => hi ⟨h.1, by have := h.2; have h2 : i < (l : Int) := this; omega⟩)]
          rw [partR_err (by rw [hE]; decide), hE]
          exact part_range6 l g1 g2 i _ _ hi noName _ _ _ _ w (HH true hh)
    · have hE : partE t v i = 16 := by unfold partE; rw [if_pos hh, if_neg hk]
      rw [partR_err (by rw [hE]; decide), hE]
      exact part_kind _ _ i _ _ (bne_true fun e => hk (.inl e)) (bne_true fun e => hk (.inr e)) _ _ _ _ _ w (HH true hh)
  · have hE : partE t v i = 2 := by unfold partE; rw [if_neg hh]
    rw [partR_err (by rw [hE]; decide), hE]
    exact part_no _ _ i _ _ _ _ _ _ _ w (HH false (by simpa using hh))
/-- What At returns. -/
def atR (t : Ty) (v : Va) (i : Int) : Va := if partE t v i = 0 then atV v i.toNat else zeroV
theorem getD_of {l : List Nat} {j : Nat} (h : j < l.length) : l.getD j 0 = l[j] := by
  rw [List.getD_eq_getElem?_getD, List.getElem?_eq_getElem h]
  rfl
theorem getDV_of {l : List Va} {j : Nat} (h : j < l.length) : l.getD j noVa = l[j] := by
  rw [List.getD_eq_getElem?_getD, List.getElem?_eq_getElem h]
  rfl
theorem atV_four (n : Int) (bs : List Nat) (ls : List Va) (i : Nat) : atV (.mk 4 n bs ls) i = .mk 1 0 [bs.getD i 0] [] := rfl
theorem atV_six (n : Int) (bs : List Nat) (ls : List Va) (i : Nat) : atV (.mk 6 n bs ls) i = ls.getD i noVa := rfl
theorem pat_any (t : Ty) (v : Va) (i : Int) (cs c1 : List Value) (w : World) (ht : smT t) (hv : smV v) (h : TyC w t cs) (h1 : VaC w v c1) :
    Calls Tryz.prog 44 #[.agg cs.toArray, .agg c1.toArray, .int .i64 i] w (FirstPost (atR t v i) (partE t v i) w) := by
  have h0 := h
  have h10 := h1
  have HP : Hid (∀ z, Below w.heap.size w z → Calls Tryz.prog 90 #[.agg cs.toArray, .agg c1.toArray, .int .i64 i] z (PartPost (partR t v i) (partE t v i) z)) := fun z hz => ppart_any t v i cs c1 z ht (TyC.later hz _ _ h0) (VaC.later hz _ _ h10)
  obtain ⟨A, n, c, B, m, d, rfl, hn, hm, hs, hT⟩ := tyC_open h
  obtain ⟨C, x, p, D, y, q, rfl, hx, hy, hb, hxp, hyq, hL⟩ := vaC_open h1
  by_cases hE : partE t v i = 0
  · have hR : atR t v i = atV v i.toNat := if_pos hE
    obtain ⟨e1, e2, e3, e4⟩ := partE_zero.1 hE
    obtain ⟨j, rfl⟩ : ∃ j : Nat, i = j := ⟨i.toNat, by omega⟩
    rw [hR, Int.toNat_natCast, hE]
    rw [hE] at HP
    rcases two_shapes e1 e2 with ⟨l, bs, rfl, rfl, g1, g2, g3, g4⟩ | ⟨l, e, ls, rfl, rfl, g1, g2, g3, g4, g5⟩
    · have e4 : (j : Int) < (l : Int) := e4
      have hj : j < bs.length := by omega
      obtain rfl : x = bs.length := hx
      obtain ⟨A', c', hsl, k1, k2, k3, k4⟩ := hb
      injection hsl with f1 f2 f3
      subst f1
      rcases k4 with k4 | ⟨vb, vo, rfl, k4⟩
      · rw [show bs = [] from k4] at hj; exact absurd hj (Nat.not_lt_zero _)
      rw [atV_four, getD_of hj]
      exact at_vec _ l j vb vo bs.length p bs[j] hj k2 (g4 _ (List.getElem_mem hj)) 4 0 noName _ _ _ w (k4 j hj) HP
    · have e4 : (j : Int) < (l : Int) := e4
      have hj : j < ls.length := by omega
      obtain rfl : y = ls.length := hy
      obtain ⟨vb, vo, d1, d2⟩ := va_rows (ls := ls) hL
      obtain rfl : D = some ⟨vb, vo, none⟩ := d1.resolve_left (by omega)
      obtain ⟨kk2, nn2, A2, m2, c2, A3, m3, c3, hva, f0, f1, f2, f3⟩ := row_at ls vo (d2.resolve_right (by omega)) j hj
      rw [atV_six, getDV_of hj]
      exact at_arr _ ls[j] l j vb vo ls.length q hj hyq 6 0 kk2 nn2 A2 A3 m2 c2 m3 c3 noName _ _ _ w ⟨f0, f1, f2, f3, hva⟩ (fun z hz hc => pclone_any _ _ z (((smV_def _ _ _ _).1 hv).2.2 _ (List.getElem_mem hj)) hc) HP
  · have hR : atR t v i = zeroV := if_neg hE
    rw [hR]
    exact at_err _ _ ((partE_cases t v i).resolve_left hE) _ _ i _ _ _ _ _ _ _ w HP
/-- What With returns. -/
def withE (t : Ty) (v : Va) (i : Int) (x : Va) : Nat := if partE t v i = 0 then (if hasV (partT t) x then 0 else 2) else partE t v i
def withR (t : Ty) (v : Va) (i : Int) (x : Va) : Va := if withE t v i x = 0 then withV v i.toNat x else zeroV
theorem partT_good {t : Ty} {v : Va} {i : Int} (h : partE t v i = 0) : Flat isNameL (partT t) := by
  obtain ⟨h1, h2, _⟩ := partE_zero.1 h
  rcases two_shapes h1 h2 with ⟨l, bs, rfl, rfl, g1, g2, g3, g4⟩ | ⟨l, e, ls, rfl, rfl, g1, g2, g3, g4, g5⟩
  · exact flat_bitT
  · exact g4
theorem partT_small {t : Ty} {v : Va} {i : Int} (h : partE t v i = 0) (ht : smT t) : smT (partT t) := by
  obtain ⟨h1, h2, _⟩ := partE_zero.1 h
  rcases two_shapes h1 h2 with ⟨l, bs, rfl, rfl, g1, g2, g3, g4⟩ | ⟨l, e, ls, rfl, rfl, g1, g2, g3, g4, g5⟩
  · show smT bitT
    unfold bitT
    exact (smT_def _ _ _ _ _).2 ⟨by decide, by simp, by simp, by simp, by simp⟩
  · exact ((smT_def _ _ _ _ _).1 ht).2.2.2.2 e (by simp)
theorem pwithP_any (t : Ty) (v x : Va) (i : Int) (cs c1 c2 : List Value) (w : World) (ht : smT t) (hv : smV v) (hx : smV x) (h : TyC w t cs) (h1 : VaC w v c1) (h2 : VaC w x c2) :
    Calls Tryz.prog 46 #[.agg cs.toArray, .agg c1.toArray, .int .i64 i, .agg c2.toArray] w (FirstPostP (withR t v i x) (withE t v i x) w) := by
  have h0 := h
  have h10 := h1
  have h20 := h2
  have HP : Hid (∀ z, Below w.heap.size w z → Calls Tryz.prog 90 #[.agg cs.toArray, .agg c1.toArray, .int .i64 i] z (PartPost (partR t v i) (partE t v i) z)) := fun z hz => ppart_any t v i cs c1 z ht (TyC.later hz _ _ h0) (VaC.later hz _ _ h10)
  obtain ⟨A, n, c, B, m, d, rfl, hn, hm, hs, hT⟩ := tyC_open h
  obtain ⟨C, y, p, D, z', q, rfl, hy, hz, hb, hxp, hyq, hL⟩ := vaC_open h1
  obtain ⟨C2, y2, p2, D2, z2, q2, rfl, hy2, hz2, hb2, hxp2, hyq2, hL2⟩ := vaC_open h2
  by_cases hE : partE t v i = 0
  · rw [hE, partR_ok hE] at HP
    have HF : ∀ b, hasV (partT t) x = b → Hid (∀ z cs, Below w.heap.size w z → TyC z (partT t) cs → Calls Tryz.prog 74 #[.agg cs.toArray, .agg #[.int .i64 x.kind, .int .i64 x.n, .slice C2 y2 p2, .slice D2 z2 q2]] z fun e w' => e = .returned (.bool b) ∧ Below z.heap.size z w') := fun b hb z cs hz hc => by
      have := pfits_any (.flat _ (partT_good hE)) (partT_small hE ht) hc (VaC.later hz _ _ h20)
      rwa [hb] at this
    by_cases hf : hasV (partT t) x = true
    · have hW : withE t v i x = 0 := by unfold withE; rw [if_pos hE, if_pos hf]
      have hR : withR t v i x = withV v i.toNat x := if_pos hW
      obtain ⟨e1, e2, e3, e4⟩ := partE_zero.1 hE
      obtain ⟨j, rfl⟩ : ∃ j : Nat, i = j := ⟨i.toNat, by omega⟩
      rw [hR, Int.toNat_natCast, hW]
      have HC : Hid (∀ z, Below w.heap.size w z → Calls Tryz.prog 91 #[.agg #[.int .i64 v.kind, .int .i64 v.n, .slice C y p, .slice D z' q]] z (CopyOf z v)) := fun z hz => pclone_any v _ z hv (VaC.later hz _ _ h10)
      have HD : Hid (∀ z, Below w.heap.size w z → Calls Tryz.prog 91 #[.agg #[.int .i64 x.kind, .int .i64 x.n, .slice C2 y2 p2, .slice D2 z2 q2]] z (CopyOf z x)) := fun z hz => pclone_any x _ z hx (VaC.later hz _ _ h20)
      rcases two_shapes e1 e2 with ⟨l, bs, rfl, rfl, g1, g2, g3, g4⟩ | ⟨l, e, ls, rfl, rfl, g1, g2, g3, g4, g5⟩
      · have e4 : (j : Int) < (l : Int) := e4
        have hj : j < bs.length := by omega
        have hfx := hf
        obtain ⟨b, rfl, hb3⟩ := has_bitT hfx
        obtain rfl : y2 = 1 := hy2
        obtain ⟨A', c', hsl, k1, k2, k3, k4⟩ := hb2
        injection hsl with f1 f2 f3
        subst f1
        rcases k4 with k4 | ⟨xb, xo, rfl, k4⟩
        · cases k4
        have hw : withV (.mk 4 0 bs []) j (.mk 1 0 [b] []) = .mk 4 0 (bs.set j b) [] := rfl
        rw [hw]
        exact with_vec _ l 4 0 1 0 bs j b xb xo p2 hj (by omega) hb3 noName _ _ _ _ _ w (k4 0 (by simp [Va.bits])) HP (HF true hf) HC
      · have e4 : (j : Int) < (l : Int) := e4
        have hj : j < ls.length := by omega
        have hw : withV (.mk 6 0 [] ls) j x = .mk 6 0 [] (ls.set j x) := rfl
        rw [hw]
        exact with_arr _ x l 6 0 x.kind x.n ls j hj (by omega) noName _ _ _ _ _ _ w HP (HF true hf) HC HD
    · have hW : withE t v i x = 2 := by unfold withE; rw [if_pos hE, if_neg hf]
      have hR : withR t v i x = zeroV := if_neg (by rw [hW]; decide)
      rw [hR, hW]
      exact with_misfit _ _ _ i _ _ _ _ _ _ _ _ _ _ _ w HP (HF false (by simpa using hf))
  · have hW : withE t v i x = partE t v i := by unfold withE; rw [if_neg hE]
    have hR : withR t v i x = zeroV := if_neg (by rw [hW]; exact hE)
    rw [hR, hW]
    exact with_err _ _ ((partE_cases t v i).resolve_left hE) _ _ i _ _ _ _ _ _ _ _ _ _ _ w HP
theorem pwith_any (t : Ty) (v x : Va) (i : Int) (cs c1 c2 : List Value) (w : World) (ht : smT t) (hv : smV v) (hx : smV x) (h : TyC w t cs) (h1 : VaC w v c1) (h2 : VaC w x c2) :
    Calls Tryz.prog 46 #[.agg cs.toArray, .agg c1.toArray, .int .i64 i, .agg c2.toArray] w (FirstPost (withR t v i x) (withE t v i x) w) := (pwithP_any t v x i cs c1 c2 w ht hv hx h h1 h2).mono fun _ _ h => h.c
end Go.Proofs.YtdiagnhdigakpaaGreatDoor
