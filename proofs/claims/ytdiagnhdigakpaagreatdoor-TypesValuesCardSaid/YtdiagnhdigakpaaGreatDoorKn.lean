/- Names of types that are no enumerations say the type; the contract of the laws' enum. -/
import Derived.Test.YtdiagnhdigakpaaGreatDoorKk
namespace Go.Proofs.YtdiagnhdigakpaaGreatDoor
open Go.RowKit

theorem cut_inj {c : UInt8} : ∀ {x y r s : List UInt8}, c ∉ x → c ∉ y → x ++ c :: r = y ++ c :: s → x = y ∧ r = s
  | [], [], r, s, _, _, h => ⟨rfl, (List.cons.inj h).2⟩
  | [], b :: y, r, s, _, hy, h => absurd (List.cons.inj h).1 (fun e => hy (by simp [e]))
  | a :: x, [], r, s, hx, _, h => absurd (List.cons.inj h).1 (fun e => hx (by simp [← e]))
  | a :: x, b :: y, r, s, hx, hy, h => by
    obtain ⟨h1, h2⟩ := List.cons.inj (show a :: (x ++ c :: r) = b :: (y ++ c :: s) from h)
    obtain ⟨h3, h4⟩ := cut_inj (fun m => hx (by simp [m])) (fun m => hy (by simp [m])) h2
    exact ⟨by rw [h1, h3], h4⟩
theorem ito_no41 (n : Int) : (41 : UInt8) ∉ itoL n := fun h => by
  rcases ito_byte h with h | h
  · exact absurd h (by decide)
  · exact absurd h.1 (by decide)
theorem flat_name_head {t : Ty} (ht : Flat isNameL t) (h5 : ¬ t.kind = 5) : ∀ r, nameT t ≠ 97 :: r := by
  intro r h
  cases ht with
  | sc k hk =>
    rcases hk with rfl | rfl | rfl
    · rw [nameT_bit] at h; exact absurd (List.cons.inj h).1 (by decide)
    · rw [nameT_bool] at h; exact absurd (List.cons.inj h).1 (by decide)
    · rw [nameT_int] at h; exact absurd (List.cons.inj h).1 (by decide)
  | vec l a b => rw [nameT_vec] at h; exact absurd (List.cons.inj h).1 (by decide)
  | en nm ns a b => exact absurd rfl h5
theorem enum_flat {t : Ty} (ht : Flat isNameL t) (h : enumT t = false) : ¬ t.kind = 5 := by
  obtain ⟨k, l, nm, ns, es⟩ := t
  intro e
  have e : k = 5 := e
  subst e
  simp [enumT] at h
theorem enum_arr {l : Int} {nm : ByteArray} {ns : List ByteArray} {e : Ty} (h : enumT (.mk 6 l nm ns [e]) = false) : ¬ e.kind = 5 := by
  simpa [enumT] using h
theorem name_inj {t u : Ty} (ht : Good isNameL t) (hu : Good isNameL u) (h1 : enumT t = false) (h2 : enumT u = false) (h : nameT t = nameT u) : t = u := by
  cases ht with
  | flat t ht =>
    cases hu with
    | flat u hu => exact flat_name_inj ht hu (enum_flat ht h1) (enum_flat hu h2) h
    | arr l e a b he =>
      rw [nameT_arr] at h
      exact absurd h (flat_name_head ht (enum_flat ht h1) _)
  | arr l e a b he =>
    cases hu with
    | flat u hu =>
      rw [nameT_arr] at h
      exact absurd h.symm (flat_name_head hu (enum_flat hu h2) _)
    | arr l' e' a' b' he' =>
      rw [nameT_arr, nameT_arr] at h
      have h := (List.cons.inj (List.cons.inj (List.cons.inj (List.cons.inj (List.cons.inj (List.cons.inj h).2).2).2).2).2).2
      obtain ⟨h3, h4⟩ := cut_inj (ito_no41 _) (ito_no41 _) h
      have h5 := ito_inj h3
      have h6 := (List.cons.inj (List.cons.inj (List.cons.inj (List.cons.inj h4).2).2).2).2
      have h7 := flat_name_inj he he' (enum_arr h1) (enum_arr h2) h6
      have : l = l' := by omega
      rw [this, h7]
theorem name_same {t u : Ty} (ht : validT isNameL t = true) (hu : validT isNameL u = true) (h1 : enumT t = false) (h2 : enumT u = false) : sameT isNameL t u = decide (nameT t = nameT u) := by
  by_cases h : nameT t = nameT u
  · rw [decide_eq_true h]
    exact sameT_iff.2 ⟨ht, name_inj (valid_good ht) (valid_good hu) h1 h2 h⟩
  · rw [decide_eq_false h, Bool.eq_false_iff]
    intro hs
    exact h (by rw [(sameT_iff.1 hs).2])
end Go.Proofs.YtdiagnhdigakpaaGreatDoor
/- The contract of the laws' enum; the law TypesNames: the walk. -/
namespace Go.Proofs.YtdiagnhdigakpaaGreatDoor
open Go.RowKit

set_option maxRecDepth 100000 in
set_option maxHeartbeats 4000000 in
theorem enum_five (l : Int) (nm : ByteArray) (v3 v4 : Value) (w : World) :
    Calls Tryz.prog 54 #[.agg #[.int .i64 5, .int .i64 l, .string nm, v3, v4]] w fun e w' => e = .returned (.bool true) ∧ Below w.heap.size w w' := by
  have H0 := Lib.hid (below_alloc w (.cells #[.int .i64 5, .int .i64 l, .string nm, v3, v4] 26))
  go_enter Tryz.func54, Tryz.ntmps54
  go_wp2
  go_ret
  exact ⟨rfl, H0.out⟩
set_option maxRecDepth 100000 in
set_option maxHeartbeats 4000000 in
theorem enum_other (k l : Int) (h5 : (k == 5) = false) (h6 : (k == 6) = false) (nm : ByteArray) (v3 v4 : Value) (w : World) :
    Calls Tryz.prog 54 #[.agg #[.int .i64 k, .int .i64 l, .string nm, v3, v4]] w fun e w' => e = .returned (.bool false) ∧ Below w.heap.size w w' := by
  have H0 := Lib.hid (below_alloc w (.cells #[.int .i64 k, .int .i64 l, .string nm, v3, v4] 26))
  go_enter Tryz.func54, Tryz.ntmps54
  go_wp2
  go_ret
  exact ⟨rfl, H0.out⟩
set_option maxRecDepth 100000 in
set_option maxHeartbeats 4000000 in
theorem enum_row (l k1 : Int) (z : Bool) (hz : (k1 == 5) = z) (nm : ByteArray) (v3 : Value) (b off d : Nat) (w : World) (hc : w.cell? ⟨b, off, none⟩ = some (.int .i64 k1)) :
    Calls Tryz.prog 54 #[.agg #[.int .i64 6, .int .i64 l, .string nm, v3, .slice (some ⟨b, off, none⟩) 1 d]] w fun e w' => e = .returned (.bool z) ∧ Below w.heap.size w w' := by
  have H0 := Lib.hid (below_alloc w (.cells #[.int .i64 6, .int .i64 l, .string nm, v3, .slice (some ⟨b, off, none⟩) 1 d] 26))
  have g := cell_stays H0.out hc
  clear hc
  cases z
  all_goals
    go_enter Tryz.func54, Tryz.ntmps54
    go_wp2
    go_ret
    exact ⟨rfl, H0.out⟩
theorem enumT_flat {t : Ty} (ht : Flat isNameL t) : enumT t = decide (t.kind = 5) := by
  have h6 := (flat_kind ht).1
  obtain ⟨k, l, nm, ns, es⟩ := t
  have h6 : ¬ k = 6 := h6
  show enumT (.mk k l nm ns es) = decide (k = 5)
  simp [enumT, h6]
theorem enum_any {t : Ty} {cs : List Value} {w : World} (ht : Good isNameL t) (h : TyC w t cs) :
    Calls Tryz.prog 54 #[.agg cs.toArray] w fun e w' => e = .returned (.bool (enumT t)) ∧ Below w.heap.size w w' := by
  cases ht with
  | flat t ht =>
    obtain ⟨A, n, c, B, m, d, rfl, _⟩ := tyC_open h
    rw [enumT_flat ht]
    by_cases h5 : t.kind = 5
    · rw [decide_eq_true h5, h5]
      exact enum_five _ _ _ _ w
    · rw [decide_eq_false h5]
      exact enum_other _ _ (by rw [beq_eq_false_iff_ne]; exact h5) (by rw [beq_eq_false_iff_ne]; exact (flat_kind ht).1) _ _ _ w
  | arr l e h1 h2 he =>
    obtain ⟨A, n, c, B, m, d, rfl, hn, rfl, hs, hT⟩ := tyC_open h
    rcases hT with hT | ⟨b, off, rfl, hT⟩
    · cases hT
    obtain ⟨A1, n1, c1, A2, n2, c2, k1, k5⟩ := one_open hT
    rw [show enumT (.mk 6 l noName [] [e]) = decide (e.kind = 5) by simp [enumT]]
    exact enum_row l e.kind _ (by by_cases h5 : e.kind = 5 <;> simp [h5]) noName _ b off d w k5.1
set_option maxRecDepth 100000 in
set_option maxHeartbeats 16000000 in
theorem lawNames_gen (k l k' l' : Int) (nm nm' x y : ByteArray) (TA TB UA UB : Option Addr) (tn tc tm td un uc um ud : Nat) (a1 a2 a3 a4 a5 a6 : Bool) (w : World)
    (HAw : Hid (∀ u, Below w.heap.size w u → Calls Tryz.prog 14 #[] u fun e w' => e = .returned (.bool true) ∧ Below u.heap.size u w'))
    (H1 : Hid (∀ u, Below w.heap.size w u → Calls Tryz.prog 13 #[.agg #[.int .i64 k, .int .i64 l, .string nm, .slice TA tn tc, .slice TB tm td], .slice none 0 0] u fun e w' => e = .returned (.bool a1) ∧ Below u.heap.size u w'))
    (H2 : Hid (a1 = true → ∀ u, Below w.heap.size w u → Calls Tryz.prog 13 #[.agg #[.int .i64 k', .int .i64 l', .string nm', .slice UA un uc, .slice UB um ud], .slice none 0 0] u fun e w' => e = .returned (.bool a2) ∧ Below u.heap.size u w'))
    (H3 : Hid (a1 = true → a2 = true → ∀ u, Below w.heap.size w u → Calls Tryz.prog 17 #[.agg #[.int .i64 k, .int .i64 l, .string nm, .slice TA tn tc, .slice TB tm td]] u fun e w' => e = .returned (.bool a3) ∧ Below u.heap.size u w'))
    (H4 : Hid (a1 = true → a2 = true → a3 = true → ∀ u, Below w.heap.size w u → Calls Tryz.prog 17 #[.agg #[.int .i64 k', .int .i64 l', .string nm', .slice UA un uc, .slice UB um ud]] u fun e w' => e = .returned (.bool a4) ∧ Below u.heap.size u w'))
    (H5 : Hid (a1 = true → a2 = true → a3 = true → a4 = true → ∀ u, Below w.heap.size w u → Calls Tryz.prog 54 #[.agg #[.int .i64 k, .int .i64 l, .string nm, .slice TA tn tc, .slice TB tm td]] u fun e w' => e = .returned (.bool a5) ∧ Below u.heap.size u w'))
    (H6 : Hid (a1 = true → a2 = true → a3 = true → a4 = true → ∀ u, Below w.heap.size w u → Calls Tryz.prog 54 #[.agg #[.int .i64 k', .int .i64 l', .string nm', .slice UA un uc, .slice UB um ud]] u fun e w' => e = .returned (.bool a6) ∧ Below u.heap.size u w'))
    (H7 : Hid (a1 = true → a2 = true → a3 = true → a4 = true → a5 = false → a6 = false → ∀ u, Below w.heap.size w u → Calls Tryz.prog 20 #[.agg #[.int .i64 k, .int .i64 l, .string nm, .slice TA tn tc, .slice TB tm td]] u fun e w' => e = .returned (.tuple #[.string x, .int .i64 0]) ∧ Below u.heap.size u w'))
    (H8 : Hid (a1 = true → a2 = true → a3 = true → a4 = true → a5 = false → a6 = false → ∀ u, Below w.heap.size w u → Calls Tryz.prog 20 #[.agg #[.int .i64 k', .int .i64 l', .string nm', .slice UA un uc, .slice UB um ud]] u fun e w' => e = .returned (.tuple #[.string y, .int .i64 0]) ∧ Below u.heap.size u w'))
    (H9 : Hid (a1 = true → a2 = true → a3 = true → a4 = true → a5 = false → a6 = false → ∀ u, Below w.heap.size w u → Calls Tryz.prog 18 #[.agg #[.int .i64 k, .int .i64 l, .string nm, .slice TA tn tc, .slice TB tm td], .agg #[.int .i64 k', .int .i64 l', .string nm', .slice UA un uc, .slice UB um ud]] u fun e w' => e = .returned (.bool (x.toList == y.toList)) ∧ Below u.heap.size u w')) :
    Calls Tryz.prog 12 #[.agg #[.int .i64 k, .int .i64 l, .string nm, .slice TA tn tc, .slice TB tm td], .agg #[.int .i64 k', .int .i64 l', .string nm', .slice UA un uc, .slice UB um ud]] w fun e w' => e = .returned (.bool true) ∧ Below w.heap.size w w' := by
  have HB := Lib.hid (boxes2 w 26 26 #[.int .i64 k, .int .i64 l, .string nm, .slice TA tn tc, .slice TB tm td] #[.int .i64 k', .int .i64 l', .string nm', .slice UA un uc, .slice UB um ud])
  have B0 := Lib.hid HB.out.2.2.1
  have T0 := Lib.hid HB.out.1
  have U0 := Lib.hid HB.out.2.1
  cases h1 : a1 with
  | false =>
    subst h1
    clear H2
    clear H3
    clear H4
    clear H5
    clear H6
    clear H7
    clear H8
    clear H9
    go_enter Tryz.func12, Tryz.ntmps12
    go_wp2_with fail
    refine (H1.out _ B0.out).mono ?_
    rintro e w1 ⟨rfl, hb⟩
    have B1 := Lib.hid (below_then B0.out hb)
    have T1 := Lib.hid (T0.out.later hb)
    have U1 := Lib.hid (U0.out.later hb)
    clear hb
    go_wp2_with fail
    refine (HAw.out _ B1.out).mono ?_
    rintro e w2 ⟨rfl, hb⟩
    have B2 := Lib.hid (below_then B1.out hb)
    have T2 := Lib.hid (T1.out.later hb)
    have U2 := Lib.hid (U1.out.later hb)
    clear hb
    go_wp2
    go_ret
    exact ⟨rfl, B2.out⟩
  | true =>
    subst h1
    have G2 := Lib.hid (H2.out rfl)
    clear H2
    cases h2 : a2 with
    | false =>
      subst h2
      clear H3
      clear H4
      clear H5
      clear H6
      clear H7
      clear H8
      clear H9
      go_enter Tryz.func12, Tryz.ntmps12
      go_wp2_with fail
      refine (H1.out _ B0.out).mono ?_
      rintro e w1 ⟨rfl, hb⟩
      have B1 := Lib.hid (below_then B0.out hb)
      have T1 := Lib.hid (T0.out.later hb)
      have U1 := Lib.hid (U0.out.later hb)
      clear hb
      obtain ⟨q0, q1, q2, q3, q4⟩ := fives U1.out
      go_wp2_with fail
      refine (G2.out _ B1.out).mono ?_
      rintro e w2 ⟨rfl, hb⟩
      have B2 := Lib.hid (below_then B1.out hb)
      have T2 := Lib.hid (T1.out.later hb)
      have U2 := Lib.hid (U1.out.later hb)
      clear hb
      clear q0 q1 q2 q3 q4
      go_wp2_with fail
      refine (HAw.out _ B2.out).mono ?_
      rintro e w3 ⟨rfl, hb⟩
      have B3 := Lib.hid (below_then B2.out hb)
      have T3 := Lib.hid (T2.out.later hb)
      have U3 := Lib.hid (U2.out.later hb)
      clear hb
      go_wp2
      go_ret
      exact ⟨rfl, B3.out⟩
    | true =>
      subst h2
      have G3 := Lib.hid (H3.out rfl rfl)
      clear H3
      cases h3 : a3 with
      | false =>
        subst h3
        clear H4
        clear H5
        clear H6
        clear H7
        clear H8
        clear H9
        go_enter Tryz.func12, Tryz.ntmps12
        go_wp2_with fail
        refine (H1.out _ B0.out).mono ?_
        rintro e w1 ⟨rfl, hb⟩
        have B1 := Lib.hid (below_then B0.out hb)
        have T1 := Lib.hid (T0.out.later hb)
        have U1 := Lib.hid (U0.out.later hb)
        clear hb
        obtain ⟨q0, q1, q2, q3, q4⟩ := fives U1.out
        go_wp2_with fail
        refine (G2.out _ B1.out).mono ?_
        rintro e w2 ⟨rfl, hb⟩
        have B2 := Lib.hid (below_then B1.out hb)
        have T2 := Lib.hid (T1.out.later hb)
        have U2 := Lib.hid (U1.out.later hb)
        clear hb
        clear q0 q1 q2 q3 q4
        obtain ⟨p0, p1, p2, p3, p4⟩ := fives T2.out
        go_wp2_with fail
        refine (G3.out _ B2.out).mono ?_
        rintro e w3 ⟨rfl, hb⟩
        have B3 := Lib.hid (below_then B2.out hb)
        have T3 := Lib.hid (T2.out.later hb)
        have U3 := Lib.hid (U2.out.later hb)
        clear hb
        clear p0 p1 p2 p3 p4
        go_wp2_with fail
        refine (HAw.out _ B3.out).mono ?_
        rintro e w4 ⟨rfl, hb⟩
        have B4 := Lib.hid (below_then B3.out hb)
        have T4 := Lib.hid (T3.out.later hb)
        have U4 := Lib.hid (U3.out.later hb)
        clear hb
        go_wp2
        go_ret
        exact ⟨rfl, B4.out⟩
      | true =>
        subst h3
        have G4 := Lib.hid (H4.out rfl rfl rfl)
        clear H4
        cases h4 : a4 with
        | false =>
          subst h4
          clear H5
          clear H6
          clear H7
          clear H8
          clear H9
          go_enter Tryz.func12, Tryz.ntmps12
          go_wp2_with fail
          refine (H1.out _ B0.out).mono ?_
          rintro e w1 ⟨rfl, hb⟩
          have B1 := Lib.hid (below_then B0.out hb)
          have T1 := Lib.hid (T0.out.later hb)
          have U1 := Lib.hid (U0.out.later hb)
          clear hb
          obtain ⟨q0, q1, q2, q3, q4⟩ := fives U1.out
          go_wp2_with fail
          refine (G2.out _ B1.out).mono ?_
          rintro e w2 ⟨rfl, hb⟩
          have B2 := Lib.hid (below_then B1.out hb)
          have T2 := Lib.hid (T1.out.later hb)
          have U2 := Lib.hid (U1.out.later hb)
          clear hb
          clear q0 q1 q2 q3 q4
          obtain ⟨p0, p1, p2, p3, p4⟩ := fives T2.out
          go_wp2_with fail
          refine (G3.out _ B2.out).mono ?_
          rintro e w3 ⟨rfl, hb⟩
          have B3 := Lib.hid (below_then B2.out hb)
          have T3 := Lib.hid (T2.out.later hb)
          have U3 := Lib.hid (U2.out.later hb)
          clear hb
          clear p0 p1 p2 p3 p4
          obtain ⟨q0, q1, q2, q3, q4⟩ := fives U3.out
          go_wp2_with fail
          refine (G4.out _ B3.out).mono ?_
          rintro e w4 ⟨rfl, hb⟩
          have B4 := Lib.hid (below_then B3.out hb)
          have T4 := Lib.hid (T3.out.later hb)
          have U4 := Lib.hid (U3.out.later hb)
          clear hb
          clear q0 q1 q2 q3 q4
          go_wp2_with fail
          refine (HAw.out _ B4.out).mono ?_
          rintro e w5 ⟨rfl, hb⟩
          have B5 := Lib.hid (below_then B4.out hb)
          have T5 := Lib.hid (T4.out.later hb)
          have U5 := Lib.hid (U4.out.later hb)
          clear hb
          go_wp2
          go_ret
          exact ⟨rfl, B5.out⟩
        | true =>
          subst h4
          have G5 := Lib.hid (H5.out rfl rfl rfl rfl)
          clear H5
          cases h5 : a5 with
          | true =>
            subst h5
            clear H6
            clear H7
            clear H8
            clear H9
            go_enter Tryz.func12, Tryz.ntmps12
            go_wp2_with fail
            refine (H1.out _ B0.out).mono ?_
            rintro e w1 ⟨rfl, hb⟩
            have B1 := Lib.hid (below_then B0.out hb)
            have T1 := Lib.hid (T0.out.later hb)
            have U1 := Lib.hid (U0.out.later hb)
            clear hb
            obtain ⟨q0, q1, q2, q3, q4⟩ := fives U1.out
            go_wp2_with fail
            refine (G2.out _ B1.out).mono ?_
            rintro e w2 ⟨rfl, hb⟩
            have B2 := Lib.hid (below_then B1.out hb)
            have T2 := Lib.hid (T1.out.later hb)
            have U2 := Lib.hid (U1.out.later hb)
            clear hb
            clear q0 q1 q2 q3 q4
            obtain ⟨p0, p1, p2, p3, p4⟩ := fives T2.out
            go_wp2_with fail
            refine (G3.out _ B2.out).mono ?_
            rintro e w3 ⟨rfl, hb⟩
            have B3 := Lib.hid (below_then B2.out hb)
            have T3 := Lib.hid (T2.out.later hb)
            have U3 := Lib.hid (U2.out.later hb)
            clear hb
            clear p0 p1 p2 p3 p4
            obtain ⟨q0, q1, q2, q3, q4⟩ := fives U3.out
            go_wp2_with fail
            refine (G4.out _ B3.out).mono ?_
            rintro e w4 ⟨rfl, hb⟩
            have B4 := Lib.hid (below_then B3.out hb)
            have T4 := Lib.hid (T3.out.later hb)
            have U4 := Lib.hid (U3.out.later hb)
            clear hb
            clear q0 q1 q2 q3 q4
            obtain ⟨p0, p1, p2, p3, p4⟩ := fives T4.out
            go_wp2_with fail
            refine (G5.out _ B4.out).mono ?_
            rintro e w5 ⟨rfl, hb⟩
            have B5 := Lib.hid (below_then B4.out hb)
            have T5 := Lib.hid (T4.out.later hb)
            have U5 := Lib.hid (U4.out.later hb)
            clear hb
            clear p0 p1 p2 p3 p4
            go_wp2_with fail
            refine (HAw.out _ B5.out).mono ?_
            rintro e w6 ⟨rfl, hb⟩
            have B6 := Lib.hid (below_then B5.out hb)
            have T6 := Lib.hid (T5.out.later hb)
            have U6 := Lib.hid (U5.out.later hb)
            clear hb
            go_wp2
            go_ret
            exact ⟨rfl, B6.out⟩
          | false =>
            subst h5
            have G6 := Lib.hid (H6.out rfl rfl rfl rfl)
            clear H6
            cases h6 : a6 with
            | true =>
              subst h6
              clear H7
              clear H8
              clear H9
              go_enter Tryz.func12, Tryz.ntmps12
              go_wp2_with fail
              refine (H1.out _ B0.out).mono ?_
              rintro e w1 ⟨rfl, hb⟩
              have B1 := Lib.hid (below_then B0.out hb)
              have T1 := Lib.hid (T0.out.later hb)
              have U1 := Lib.hid (U0.out.later hb)
              clear hb
              obtain ⟨q0, q1, q2, q3, q4⟩ := fives U1.out
              go_wp2_with fail
              refine (G2.out _ B1.out).mono ?_
              rintro e w2 ⟨rfl, hb⟩
              have B2 := Lib.hid (below_then B1.out hb)
              have T2 := Lib.hid (T1.out.later hb)
              have U2 := Lib.hid (U1.out.later hb)
              clear hb
              clear q0 q1 q2 q3 q4
              obtain ⟨p0, p1, p2, p3, p4⟩ := fives T2.out
              go_wp2_with fail
              refine (G3.out _ B2.out).mono ?_
              rintro e w3 ⟨rfl, hb⟩
              have B3 := Lib.hid (below_then B2.out hb)
              have T3 := Lib.hid (T2.out.later hb)
              have U3 := Lib.hid (U2.out.later hb)
              clear hb
              clear p0 p1 p2 p3 p4
              obtain ⟨q0, q1, q2, q3, q4⟩ := fives U3.out
              go_wp2_with fail
              refine (G4.out _ B3.out).mono ?_
              rintro e w4 ⟨rfl, hb⟩
              have B4 := Lib.hid (below_then B3.out hb)
              have T4 := Lib.hid (T3.out.later hb)
              have U4 := Lib.hid (U3.out.later hb)
              clear hb
              clear q0 q1 q2 q3 q4
              obtain ⟨p0, p1, p2, p3, p4⟩ := fives T4.out
              go_wp2_with fail
              refine (G5.out _ B4.out).mono ?_
              rintro e w5 ⟨rfl, hb⟩
              have B5 := Lib.hid (below_then B4.out hb)
              have T5 := Lib.hid (T4.out.later hb)
              have U5 := Lib.hid (U4.out.later hb)
              clear hb
              clear p0 p1 p2 p3 p4
              obtain ⟨q0, q1, q2, q3, q4⟩ := fives U5.out
              go_wp2_with fail
              refine (G6.out _ B5.out).mono ?_
              rintro e w6 ⟨rfl, hb⟩
              have B6 := Lib.hid (below_then B5.out hb)
              have T6 := Lib.hid (T5.out.later hb)
              have U6 := Lib.hid (U5.out.later hb)
              clear hb
              clear q0 q1 q2 q3 q4
              go_wp2_with fail
              refine (HAw.out _ B6.out).mono ?_
              rintro e w7 ⟨rfl, hb⟩
              have B7 := Lib.hid (below_then B6.out hb)
              have T7 := Lib.hid (T6.out.later hb)
              have U7 := Lib.hid (U6.out.later hb)
              clear hb
              go_wp2
              go_ret
              exact ⟨rfl, B7.out⟩
            | false =>
              subst h6
              have G7 := Lib.hid (H7.out rfl rfl rfl rfl rfl rfl)
              clear H7
              have G8 := Lib.hid (H8.out rfl rfl rfl rfl rfl rfl)
              clear H8
              have G9 := Lib.hid (H9.out rfl rfl rfl rfl rfl rfl)
              clear H9
              generalize hr : (x.toList == y.toList) = r at G9
              cases r
              all_goals
                go_enter Tryz.func12, Tryz.ntmps12
                go_wp2_with fail
                refine (H1.out _ B0.out).mono ?_
                rintro e w1 ⟨rfl, hb⟩
                have B1 := Lib.hid (below_then B0.out hb)
                have T1 := Lib.hid (T0.out.later hb)
                have U1 := Lib.hid (U0.out.later hb)
                clear hb
                obtain ⟨q0, q1, q2, q3, q4⟩ := fives U1.out
                go_wp2_with fail
                refine (G2.out _ B1.out).mono ?_
                rintro e w2 ⟨rfl, hb⟩
                have B2 := Lib.hid (below_then B1.out hb)
                have T2 := Lib.hid (T1.out.later hb)
                have U2 := Lib.hid (U1.out.later hb)
                clear hb
                clear q0 q1 q2 q3 q4
                obtain ⟨p0, p1, p2, p3, p4⟩ := fives T2.out
                go_wp2_with fail
                refine (G3.out _ B2.out).mono ?_
                rintro e w3 ⟨rfl, hb⟩
                have B3 := Lib.hid (below_then B2.out hb)
                have T3 := Lib.hid (T2.out.later hb)
                have U3 := Lib.hid (U2.out.later hb)
                clear hb
                clear p0 p1 p2 p3 p4
                obtain ⟨q0, q1, q2, q3, q4⟩ := fives U3.out
                go_wp2_with fail
                refine (G4.out _ B3.out).mono ?_
                rintro e w4 ⟨rfl, hb⟩
                have B4 := Lib.hid (below_then B3.out hb)
                have T4 := Lib.hid (T3.out.later hb)
                have U4 := Lib.hid (U3.out.later hb)
                clear hb
                clear q0 q1 q2 q3 q4
                obtain ⟨p0, p1, p2, p3, p4⟩ := fives T4.out
                go_wp2_with fail
                refine (G5.out _ B4.out).mono ?_
                rintro e w5 ⟨rfl, hb⟩
                have B5 := Lib.hid (below_then B4.out hb)
                have T5 := Lib.hid (T4.out.later hb)
                have U5 := Lib.hid (U4.out.later hb)
                clear hb
                clear p0 p1 p2 p3 p4
                obtain ⟨q0, q1, q2, q3, q4⟩ := fives U5.out
                go_wp2_with fail
                refine (G6.out _ B5.out).mono ?_
                rintro e w6 ⟨rfl, hb⟩
                have B6 := Lib.hid (below_then B5.out hb)
                have T6 := Lib.hid (T5.out.later hb)
                have U6 := Lib.hid (U5.out.later hb)
                clear hb
                clear q0 q1 q2 q3 q4
                obtain ⟨p0, p1, p2, p3, p4⟩ := fives T6.out
                go_wp2_with fail
                refine (G7.out _ B6.out).mono ?_
                rintro e w7 ⟨rfl, hb⟩
                have B7 := Lib.hid (below_then B6.out hb)
                have T7 := Lib.hid (T6.out.later hb)
                have U7 := Lib.hid (U6.out.later hb)
                clear hb
                clear p0 p1 p2 p3 p4
                obtain ⟨q0, q1, q2, q3, q4⟩ := fives U7.out
                go_wp2_with fail
                refine (G8.out _ B7.out).mono ?_
                rintro e w8 ⟨rfl, hb⟩
                have B8 := Lib.hid (below_then B7.out hb)
                have T8 := Lib.hid (T7.out.later hb)
                have U8 := Lib.hid (U7.out.later hb)
                clear hb
                clear q0 q1 q2 q3 q4
                obtain ⟨p0, p1, p2, p3, p4⟩ := fives T8.out
                obtain ⟨q0, q1, q2, q3, q4⟩ := fives U8.out
                go_wp2_with fail
                refine (G9.out _ B8.out).mono ?_
                rintro e w9 ⟨rfl, hb⟩
                have B9 := Lib.hid (below_then B8.out hb)
                have T9 := Lib.hid (T8.out.later hb)
                have U9 := Lib.hid (U8.out.later hb)
                clear hb
                clear p0 p1 p2 p3 p4
                clear q0 q1 q2 q3 q4
                go_wp2_with fail
                refine (HAw.out _ B9.out).mono ?_
                rintro e w10 ⟨rfl, hb⟩
                have B10 := Lib.hid (below_then B9.out hb)
                have T10 := Lib.hid (T9.out.later hb)
                have U10 := Lib.hid (U9.out.later hb)
                clear hb
                go_wp2
                go_ret
                exact ⟨rfl, B10.out⟩
end Go.Proofs.YtdiagnhdigakpaaGreatDoor
/- The law TypesFirst: the walk. -/
namespace Go.Proofs.YtdiagnhdigakpaaGreatDoor
open Go.RowKit

theorem vas_nil (w : World) : VasC w (.slice none 0 0) [] := ⟨none, 0, rfl, by simp, by simp, .inl rfl⟩
set_option maxRecDepth 100000 in
set_option maxHeartbeats 8000000 in
theorem lawFirst_gen (t : Ty) (k l : Int) (nm : ByteArray) (TA TB : Option Addr) (tn tc tm td : Nat) (w : World) (hw : Std w) (h : TyC w t [.int .i64 k, .int .i64 l, .string nm, .slice TA tn tc, .slice TB tm td]) :
    Calls Tryz.prog 10 #[.agg #[.int .i64 k, .int .i64 l, .string nm, .slice TA tn tc, .slice TB tm td]] w fun e w' => e = .returned (.bool true) ∧ Below w.heap.size w w' := by
  have HStd := Lib.hid hw
  have HTy := Lib.hid h
  have H0 := Lib.hid (below_alloc w (.cells #[.int .i64 k, .int .i64 l, .string nm, .slice TA tn tc, .slice TB tm td] 26))
  have K0 := Lib.hid (box1 w 26 #[.int .i64 k, .int .i64 l, .string nm, .slice TA tn tc, .slice TB tm td])
  have HAw := Lib.hid (fun (u : World) (hu : Below w.heap.size w u) => awake_true u (hw.later hu))
  have HSm : Hid (∀ u, Below w.heap.size w u → Calls Tryz.prog 13 #[.agg #[.int .i64 k, .int .i64 l, .string nm, .slice TA tn tc, .slice TB tm td], .slice none 0 0] u fun e w' => e = .returned (.bool (smallB t [])) ∧ Below u.heap.size u w') := fun u hu => small_any t _ _ [] u (TyC.later hu _ _ h) (vas_nil u)
  clear hw h
  cases hs : smallB t [] with
  | false =>
    rw [hs] at HSm
    clear hs
    go_enter Tryz.func10, Tryz.ntmps10
    go_wp2_with fail
    refine (HSm.out _ H0.out).mono ?_
    rintro e w1 ⟨rfl, hb⟩
    have B1 := Lib.hid (below_then H0.out hb)
    clear hb
    go_wp2_with fail
    refine (HAw.out _ B1.out).mono ?_
    rintro e w2 ⟨rfl, hb⟩
    have B2 := Lib.hid (below_then B1.out hb)
    clear hb
    go_wp2
    go_ret
    exact ⟨rfl, B2.out⟩
  | true =>
    rw [hs] at HSm
    have hst : smT t := by
      unfold smallB at hs
      rw [Bool.and_eq_true] at hs
      exact small_smT hs.1
    have HV : Hid (∀ u, Below w.heap.size w u → Calls Tryz.prog 17 #[.agg #[.int .i64 k, .int .i64 l, .string nm, .slice TA tn tc, .slice TB tm td]] u fun e w' => e = .returned (.bool (validT isNameL t)) ∧ Below u.heap.size u w') := fun u hu => valid_any t _ u hst.nm (TyC.later hu _ _ HTy.out)
    cases hv : validT isNameL t with
    | false =>
      rw [hv] at HV
      clear hs hst hv
      go_enter Tryz.func10, Tryz.ntmps10
      go_wp2_with fail
      refine (HSm.out _ H0.out).mono ?_
      rintro e w1 ⟨rfl, hb⟩
      have B1 := Lib.hid (below_then H0.out hb)
      have K1 := Lib.hid (K0.out.later hb)
      obtain ⟨a0, a1, a2, a3, a4⟩ := fives K1.out
      clear hb
      go_wp2_with fail
      refine (HV.out _ B1.out).mono ?_
      rintro e w2 ⟨rfl, hb⟩
      have B2 := Lib.hid (below_then B1.out hb)
      clear hb a0 a1 a2 a3 a4
      go_wp2_with fail
      refine (HAw.out _ B2.out).mono ?_
      rintro e w3 ⟨rfl, hb⟩
      have B3 := Lib.hid (below_then B2.out hb)
      clear hb
      go_wp2
      go_ret
      exact ⟨rfl, B3.out⟩
    | true =>
      rw [hv] at HV
      have hr : firstR t = firstV t ∧ valE t = 0 := by
        unfold firstR valE
        rw [hv, if_pos rfl, if_pos rfl]
        exact ⟨rfl, rfl⟩
      have hh : hasT t (firstV t) = true := by
        unfold hasT
        rw [hv, first_has hv]
        rfl
      have HF : Hid (∀ u, Below w.heap.size w u → Calls Tryz.prog 22 #[.agg #[.int .i64 k, .int .i64 l, .string nm, .slice TA tn tc, .slice TB tm td]] u (FirstPost (firstV t) 0 u)) := fun u hu => by
        have := pfirst_any t _ u hst (TyC.later hu _ _ HTy.out)
        rw [hr.1, hr.2] at this
        exact this
      generalize hx : firstV t = x at *
      have HEq : Hid (∀ u cs, Below w.heap.size w u → VaC u x cs → Calls Tryz.prog 32 #[.agg #[.int .i64 k, .int .i64 l, .string nm, .slice TA tn tc, .slice TB tm td], .agg cs.toArray, .agg cs.toArray] u fun e w' => e = .returned (.tuple #[.bool true, .int .i64 0]) ∧ Below u.heap.size u w') := fun u cs hu hc => by
        have := pEqual_any t x x _ cs cs u hst (TyC.later hu _ _ HTy.out) hc hc
        unfold eqR eqE at this
        rw [hh, alikeV_refl] at this
        exact this
      have HH : Hid (∀ u cs, Below w.heap.size w u → VaC u x cs → Calls Tryz.prog 30 #[.agg #[.int .i64 k, .int .i64 l, .string nm, .slice TA tn tc, .slice TB tm td], .agg cs.toArray] u fun e w' => e = .returned (.bool true) ∧ Below u.heap.size u w') := fun u cs hu hc => by
        have := phas_any t x _ cs u hst (TyC.later hu _ _ HTy.out) hc
        rw [hh] at this
        exact this
      have HS : Hid (∀ u, Below w.heap.size w u → Calls Tryz.prog 18 #[.agg #[.int .i64 k, .int .i64 l, .string nm, .slice TA tn tc, .slice TB tm td], .agg #[.int .i64 k, .int .i64 l, .string nm, .slice TA tn tc, .slice TB tm td]] u fun e w' => e = .returned (.bool true) ∧ Below u.heap.size u w') := fun u hu => by
        have := psame_any t t _ _ u hst hst (TyC.later hu _ _ HTy.out) (TyC.later hu _ _ HTy.out)
        rw [sameT_iff.2 ⟨hv, rfl⟩] at this
        exact this
      clear hs hst hv hr hh hx
      unfold FirstPost at HF
      go_enter Tryz.func10, Tryz.ntmps10
      go_wp2_with fail
      refine (HSm.out _ H0.out).mono ?_
      rintro e w1 ⟨rfl, hb⟩
      have B1 := Lib.hid (below_then H0.out hb)
      have K1 := Lib.hid (K0.out.later hb)
      obtain ⟨a0, a1, a2, a3, a4⟩ := fives K1.out
      clear hb
      go_wp2_with fail
      refine (HV.out _ B1.out).mono ?_
      rintro e w2 ⟨rfl, hb⟩
      have B2 := Lib.hid (below_then B1.out hb)
      have K2 := Lib.hid (K1.out.later hb)
      clear hb a0 a1 a2 a3 a4
      obtain ⟨a0, a1, a2, a3, a4⟩ := fives K2.out
      go_wp2_with fail
      refine (HF.out _ B2.out).mono ?_
      rintro e w3 ⟨A, n, c, B, m, d, rfl, hvc, hb⟩
      have B3 := Lib.hid (below_then (below_then B2.out hb) (below_alloc w3 (.cells #[.int .i64 x.kind, .int .i64 x.n, .slice A n c, .slice B m d] 38)))
      have K3 := Lib.hid ((K2.out.later hb).later (below_alloc w3 (.cells #[.int .i64 x.kind, .int .i64 x.n, .slice A n c, .slice B m d] 38)))
      have V3 := Lib.hid (VaC.later (below_alloc w3 (.cells #[.int .i64 x.kind, .int .i64 x.n, .slice A n c, .slice B m d] 38)) _ _ hvc)
      have X3 : Hid (Blk (w3.alloc (.cells #[.int .i64 x.kind, .int .i64 x.n, .slice A n c, .slice B m d] 38)) w3.heap.size 38 #[.int .i64 x.kind, .int .i64 x.n, .slice A n c, .slice B m d]) := Blk.new _ _ _
      clear hb hvc a0 a1 a2 a3 a4
      obtain ⟨a0, a1, a2, a3, a4⟩ := fives K3.out
      obtain ⟨b0, b1, b2, b3⟩ := four X3.out
      go_wp2_with fail
      refine (HEq.out _ _ B3.out V3.out).mono ?_
      rintro e w4 ⟨rfl, hb⟩
      have B4 := Lib.hid (below_then B3.out hb)
      have K4 := Lib.hid (K3.out.later hb)
      have V4 := Lib.hid (VaC.later hb _ _ V3.out)
      have X4 := Lib.hid (X3.out.later hb)
      clear hb a0 a1 a2 a3 a4 b0 b1 b2 b3
      obtain ⟨a0, a1, a2, a3, a4⟩ := fives K4.out
      obtain ⟨b0, b1, b2, b3⟩ := four X4.out
      go_wp2_with fail
      refine (HH.out _ _ B4.out V4.out).mono ?_
      rintro e w5 ⟨rfl, hb⟩
      have B5 := Lib.hid (below_then B4.out hb)
      have K5 := Lib.hid (K4.out.later hb)
      clear hb a0 a1 a2 a3 a4 b0 b1 b2 b3
      obtain ⟨a0, a1, a2, a3, a4⟩ := fives K5.out
      go_wp2_with fail
      refine (HS.out _ B5.out).mono ?_
      rintro e w6 ⟨rfl, hb⟩
      have B6 := Lib.hid (below_then B5.out hb)
      clear hb a0 a1 a2 a3 a4
      go_wp2_with fail
      refine (HAw.out _ B6.out).mono ?_
      rintro e w7 ⟨rfl, hb⟩
      have B7 := Lib.hid (below_then B6.out hb)
      clear hb
      go_wp2
      go_ret
      exact ⟨rfl, B7.out⟩
end Go.Proofs.YtdiagnhdigakpaaGreatDoor
/- The law TypesNames: its contracts put together. -/
namespace Go.Proofs.YtdiagnhdigakpaaGreatDoor
open Go.RowKit

theorem lawNames_any (t u : Ty) (cs cs' : List Value) (w : World) (hw : Std w) (h : TyC w t cs) (h' : TyC w u cs') :
    Calls Tryz.prog 12 #[.agg cs.toArray, .agg cs'.toArray] w fun e w' => e = .returned (.bool true) ∧ Below w.heap.size w w' := by
  have h0 := h
  have h0' := h'
  obtain ⟨A, n, c, B, m, d, rfl, _⟩ := tyC_open h
  obtain ⟨A', n', c', B', m', d', rfl, _⟩ := tyC_open h'
  have hsm : ∀ v : Ty, smallB v [] = true → smT v := fun v hv => by
    unfold smallB at hv
    rw [Bool.and_eq_true] at hv
    exact small_smT hv.1
  refine lawNames_gen _ _ _ _ _ _ (sb (nameT t)) (sb (nameT u)) _ _ _ _ _ _ _ _ _ _ _ _ (smallB t []) (smallB u []) (validT isNameL t) (validT isNameL u) (enumT t) (enumT u) w ?_ ?_ ?_ ?_ ?_ ?_ ?_ ?_ ?_ ?_
  · exact fun x hx => awake_true x (hw.later hx)
  · exact fun x hx => small_any t _ _ [] x (TyC.later hx _ _ h0) (vas_nil x)
  · exact fun _ x hx => small_any u _ _ [] x (TyC.later hx _ _ h0') (vas_nil x)
  · exact fun a1 _ x hx => valid_any t _ x (hsm t a1).nm (TyC.later hx _ _ h0)
  · exact fun _ a2 _ x hx => valid_any u _ x (hsm u a2).nm (TyC.later hx _ _ h0')
  · exact fun _ _ a3 _ x hx => enum_any (valid_good a3) (TyC.later hx _ _ h0)
  · exact fun _ _ _ a4 x hx => enum_any (valid_good a4) (TyC.later hx _ _ h0')
  · intro a1 _ a3 _ _ _ x hx
    have := name_any t _ x (hsm t a1) (hw.later hx) (TyC.later hx _ _ h0)
    unfold nameR valE at this
    rw [a3] at this
    exact this
  · intro _ a2 _ a4 _ _ x hx
    have := name_any u _ x (hsm u a2) (hw.later hx) (TyC.later hx _ _ h0')
    unfold nameR valE at this
    rw [a4] at this
    exact this
  · intro a1 a2 a3 a4 a5 a6 x hx
    have := psame_any t u _ _ x (hsm t a1) (hsm u a2) (TyC.later hx _ _ h0) (TyC.later hx _ _ h0')
    rw [name_same a3 a4 a5 a6] at this
    have e : ((sb (nameT t)).toList == (sb (nameT u)).toList) = decide (nameT t = nameT u) := by
      rw [bl_toList, bl_toList, bl_sb, bl_sb]
      by_cases h : nameT t = nameT u <;> simp [h]
    show Calls _ _ _ _ _
    rw [e]
    exact this
theorem lawFirst_any (t : Ty) (cs : List Value) (w : World) (hw : Std w) (h : TyC w t cs) :
    Calls Tryz.prog 10 #[.agg cs.toArray] w fun e w' => e = .returned (.bool true) ∧ Below w.heap.size w w' := by
  have h0 := h
  obtain ⟨A, n, c, B, m, d, rfl, _⟩ := tyC_open h
  exact lawFirst_gen t _ _ _ _ _ _ _ _ _ w hw h0
end Go.Proofs.YtdiagnhdigakpaaGreatDoor
