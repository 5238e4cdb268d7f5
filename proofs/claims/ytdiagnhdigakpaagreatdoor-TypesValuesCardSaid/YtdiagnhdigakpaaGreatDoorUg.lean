/- The law TypesPuts: its contracts put together. -/
import Derived.Test.YtdiagnhdigakpaaGreatDoorUe
import Derived.Test.YtdiagnhdigakpaaGreatDoorUf
namespace Go.Proofs.YtdiagnhdigakpaaGreatDoor
open Go.RowKit

theorem len_kind {t : Ty} {v : Va} (h : hasT t v = true) (hl : ¬ t.len < 1) : (t.kind = 4 ∨ t.kind = 6) ∧ 1 ≤ t.len ∧ t.len ≤ 64 := by
  unfold hasT at h
  rw [Bool.and_eq_true] at h
  have hg := valid_good h.1
  cases hg with
  | flat t ht =>
    cases ht with
    | sc k hk => exact absurd (show (0 : Int) < 1 by decide) hl
    | vec l h1 h2 => exact ⟨.inl rfl, by show (1 : Int) ≤ (l : Int); omega, by show (l : Int) ≤ 64; omega⟩
    | en nm ns h1 h2 => exact absurd (show (0 : Int) < 1 by decide) hl
  | arr l e h1 h2 he => exact ⟨.inr rfl, by show (1 : Int) ≤ (l : Int); omega, by show (l : Int) ≤ 64; omega⟩
theorem small_two {t : Ty} {v x : Va} (h : smallB t [v, x] = true) : smT t ∧ smV v ∧ smV x := by
  unfold smallB at h
  rw [Bool.and_eq_true, List.all_eq_true] at h
  refine ⟨small_smT h.1, small_smV ?_, small_smV ?_⟩
  · have := h.2 v (by simp)
    unfold part9 at this
    exact of_decide_eq_true this
  · have := h.2 x (by simp)
    unfold part9 at this
    exact of_decide_eq_true this
theorem lawPuts_any (t : Ty) (v x : Va) (i0 j0 : Int) (cs c1 c2 : List Value) (w : World) (hw : Std w) (h : TyC w t cs) (hv : VaC w v c1) (hx : VaC w x c2) :
    Calls Tryz.prog 11 #[.agg cs.toArray, .agg (c1 ++ c2).toArray, .agg #[.int .i64 i0, .int .i64 j0]] w fun e w' => e = .returned (.bool true) ∧ Below w.heap.size w w' := by
  have h0 := h
  have hv0 := hv
  have hx0 := hx
  obtain ⟨A, n, c, B, m, d, rfl, _⟩ := tyC_open h
  obtain ⟨C, y, p, D, z, q, rfl, _⟩ := vaC_open hv
  obtain ⟨C2, y2, p2, D2, z2, q2, rfl, _⟩ := vaC_open hx
  have HAw : Hid (∀ z, Below w.heap.size w z → Calls Tryz.prog 14 #[] z fun e w' => e = .returned (.bool true) ∧ Below z.heap.size z w') := fun z hz => awake_true z (hw.later hz)
  have HSm : ∀ b, smallB t [v, x] = b → Hid (∀ u s, Below w.heap.size w u → VasC u s [v, x] → Calls Tryz.prog 13 #[.agg #[.int .i64 t.kind, .int .i64 t.len, .string t.name, .slice A n c, .slice B m d], s] u fun e w' => e = .returned (.bool b) ∧ Below u.heap.size u w') := fun b hb u s hu hs => by
    have := small_any t _ s [v, x] u (TyC.later hu _ _ h0) hs
    rwa [hb] at this
  cases hs : smallB t [v, x] with
  | false => exact puts_small _ _ _ _ _ _ i0 j0 _ A B C D C2 D2 n c m d y p z q y2 p2 z2 q2 v x w hv0 hx0 HAw (HSm false hs)
  | true =>
    obtain ⟨ht, hsv, hsx⟩ := small_two hs
    have HHr : ∀ b, hasT t v = b → Hid (∀ u, Below w.heap.size w u → Calls Tryz.prog 31 #[.agg #[.int .i64 t.kind, .int .i64 t.len, .string t.name, .slice A n c, .slice B m d], .agg #[.int .i64 v.kind, .int .i64 v.n, .slice C y p, .slice D z q]] u fun e w' => e = .returned (.bool b) ∧ Below u.heap.size u w') := fun b hb u hu => by
      have := rhas_any t v _ _ u ht.nm (TyC.later hu _ _ h0) (VaC.later hu _ _ hv0)
      rwa [hb] at this
    cases hh : hasT t v with
    | false => exact puts_has _ _ _ _ _ _ i0 j0 _ A B C D C2 D2 n c m d y p z q y2 p2 z2 q2 v x w hv0 hx0 HAw (HSm true hs) (HHr false hh)
    | true =>
      by_cases hl : t.len < 1
      · exact puts_len _ _ _ _ _ _ i0 j0 _ A B C D C2 D2 n c m d y p z q y2 p2 z2 q2 v x w hl hv0 hx0 HAw (HSm true hs) (HHr true hh)
      · obtain ⟨hk, l1, l64⟩ := len_kind hh hl
        obtain ⟨L, hL⟩ : ∃ L : Nat, t.len = L := ⟨t.len.toNat, by omega⟩
        have L1 : 1 ≤ L := by omega
        have L64 : L ≤ 64 := by omega
        have hI : Lg.toU i0 % L < L := Nat.mod_lt _ (by omega)
        have hJ : Lg.toU j0 % L < L := Nat.mod_lt _ (by omega)
        have hE : ∀ k : Nat, k < L → partE t v k = 0 := fun k hk' => partE_zero.2 ⟨hh, hk, by omega, by omega⟩
        have HS := HSm true hs
        have HR := HHr true hh
        have HW := fun (z' : World) (hz : Below w.heap.size w z') => pwith_any t v x (Lg.toU i0 % L : Nat) _ _ _ z' ht hsv hsx (TyC.later hz _ _ h0) (VaC.later hz _ _ hv0) (VaC.later hz _ _ hx0)
        rw [hL] at HS HR HW ⊢
        cases hf : hasV (partT t) x with
        | false =>
          have e1 : withE t v (Lg.toU i0 % L : Nat) x = 2 := by unfold withE; rw [if_pos (hE _ hI), hf]; rfl
          have e2 : withR t v (Lg.toU i0 % L : Nat) x = zeroV := if_neg (by rw [e1]; decide)
          rw [e1, e2] at HW
          exact puts_err _ _ _ _ _ i0 j0 _ A B C D C2 D2 n c m d y p z q y2 p2 z2 q2 L L1 L64 v x w hv0 hx0 HAw HS HR HW
        | true =>
          have e1 : withE t v (Lg.toU i0 % L : Nat) x = 0 := by unfold withE; rw [if_pos (hE _ hI), hf]; rfl
          have e2 : withR t v (Lg.toU i0 % L : Nat) x = withV v (Lg.toU i0 % L) x := by unfold withR; rw [if_pos e1, Int.toNat_natCast]
          rw [e1, e2] at HW
          obtain ⟨g1, g2, g3⟩ := put_facts (hE _ hI) hf
          rw [Int.toNat_natCast] at g1 g2 g3
          have hsu : smV (withV v (Lg.toU i0 % L) x) := with_small hsv hsx
          have hEu : ∀ k : Nat, k < L → partE t (withV v (Lg.toU i0 % L) x) k = 0 := fun k hk' => partE_zero.2 ⟨g1, hk, by omega, by omega⟩
          have HA : ∀ k : Nat, k < L → ∀ z' cs', Below w.heap.size w z' → VaC z' (withV v (Lg.toU i0 % L) x) cs' → Calls Tryz.prog 44 #[.agg #[.int .i64 t.kind, .int .i64 (L : Nat), .string t.name, .slice A n c, .slice B m d], .agg cs'.toArray, .int .i64 (k : Nat)] z' (FirstPost (atV (withV v (Lg.toU i0 % L) x) k) 0 z') := fun k hk' z' cs' hz hc => by
            have := pat_any t _ (k : Nat) _ cs' z' ht hsu (TyC.later hz _ _ h0) hc
            unfold atR at this
            rw [hEu k hk', if_pos rfl, Int.toNat_natCast, hL] at this
            exact this
          have HA3 : ∀ z', Below w.heap.size w z' → Calls Tryz.prog 44 #[.agg #[.int .i64 t.kind, .int .i64 (L : Nat), .string t.name, .slice A n c, .slice B m d], .agg #[.int .i64 v.kind, .int .i64 v.n, .slice C y p, .slice D z q], .int .i64 (Lg.toU j0 % L : Nat)] z' (FirstPost (atV v (Lg.toU j0 % L)) 0 z') := fun z' hz => by
            have := pat_any t v (Lg.toU j0 % L : Nat) _ _ z' ht hsv (TyC.later hz _ _ h0) (VaC.later hz _ _ hv0)
            unfold atR at this
            rw [hE _ hJ, if_pos rfl, Int.toNat_natCast, hL] at this
            exact this
          have HH2 : ∀ z' cs', Below w.heap.size w z' → VaC z' (withV v (Lg.toU i0 % L) x) cs' → Calls Tryz.prog 30 #[.agg #[.int .i64 t.kind, .int .i64 (L : Nat), .string t.name, .slice A n c, .slice B m d], .agg cs'.toArray] z' fun e w' => e = .returned (.bool true) ∧ Below z'.heap.size z' w' := fun z' cs' hz hc => by
            have := phas_any t _ _ cs' z' ht (TyC.later hz _ _ h0) hc
            rw [g1, hL] at this
            exact this
          have HL1 : ∀ z' ca, Below w.heap.size w z' → VaC z' (atV (withV v (Lg.toU i0 % L) x) (Lg.toU i0 % L)) ca → Calls Tryz.prog 24 #[.agg ca.toArray, .agg #[.int .i64 x.kind, .int .i64 x.n, .slice C2 y2 p2, .slice D2 z2 q2]] z' fun e w' => e = .returned (.bool true) ∧ Below z'.heap.size z' w' := fun z' ca hz hc => by
            rw [g2] at hc
            have := ralike_any x x ca _ z' hsx hsx hc (VaC.later hz _ _ hx0)
            rwa [alikeV_refl] at this
          by_cases hij : Lg.toU i0 % L = Lg.toU j0 % L
          · exact puts_same _ _ _ _ _ i0 j0 _ A B C D C2 D2 n c m d y p z q y2 p2 z2 q2 L L1 L64 v x w (withV v (Lg.toU i0 % L) x) _ _ _ hij hv0 hx0 HAw HS HR HW (HA _ hI) (HA _ hJ) HA3 HH2 HL1
          · have hEq : atV (withV v (Lg.toU i0 % L) x) (Lg.toU j0 % L) = atV v (Lg.toU j0 % L) := by
              have := g3 (Lg.toU j0 % L : Nat) (by omega) (by omega) (by omega)
              rwa [Int.toNat_natCast] at this
            have HL2 : ∀ z' ca cb, Below w.heap.size w z' → VaC z' (atV (withV v (Lg.toU i0 % L) x) (Lg.toU j0 % L)) ca → VaC z' (atV v (Lg.toU j0 % L)) cb → Calls Tryz.prog 24 #[.agg ca.toArray, .agg cb.toArray] z' fun e w' => e = .returned (.bool true) ∧ Below z'.heap.size z' w' := fun z' ca cb hz hc hd => by
              rw [hEq] at hc
              have := ralike_any _ _ ca cb z' (at_small hsv) (at_small hsv) hc hd
              rwa [alikeV_refl] at this
            exact puts_other _ _ _ _ _ i0 j0 _ A B C D C2 D2 n c m d y p z q y2 p2 z2 q2 L L1 L64 v x w (withV v (Lg.toU i0 % L) x) _ _ _ hij hv0 hx0 HAw HS HR HW (HA _ hI) (HA _ hJ) HA3 HH2 HL1 HL2
end Go.Proofs.YtdiagnhdigakpaaGreatDoor
