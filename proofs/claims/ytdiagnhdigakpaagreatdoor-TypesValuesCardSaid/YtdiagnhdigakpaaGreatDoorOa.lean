/- The contracts of the reference's bits and Bits. -/
import Derived.Test.YtdiagnhdigakpaaGreatDoorYb
import Derived.Test.YtdiagnhdigakpaaGreatDoorZs
import Derived.Test.YtdiagnhdigakpaaGreatDoorGRefA
import Derived.Test.YtdiagnhdigakpaaGreatDoorKf
import Derived.Deep.RegionWith
namespace Go.Proofs.YtdiagnhdigakpaaGreatDoor
open Go.RowKit

theorem scB_bit (w b : Nat) : scBits w (bitVa b) = [b] := if_pos rfl
theorem flat_ones (bs : List Nat) (w : Nat) : ((bs.map bitVa).map (scBits w)).flatten = bs := by
  induction bs with
  | nil => rfl
  | cons b r ih => rw [List.map_cons, List.map_cons, List.flatten_cons, ih, scB_bit]; rfl
theorem bitsV_bit (t : Ty) (b : Nat) : bitsV t (.mk 1 0 [b] []) = [b] := by
  unfold bitsV
  rw [splitV_def, if_neg (by omega), if_neg (by omega)]
  exact (List.append_nil _).trans (if_pos rfl)
theorem bitsV_vec (t : Ty) (n : Int) (bs : List Nat) (ls : List Va) : bitsV t (.mk 4 n bs ls) = bs := by
  unfold bitsV
  rw [show splitV (.mk 4 n bs ls) = bs.map bitVa by rw [splitV_def, if_pos rfl]]
  exact flat_ones bs _
theorem bitsV_oth {k n : Int} (bs : List Nat) (ls : List Va) (h1 : k ≠ 1) (h4 : k ≠ 4) (h6 : k ≠ 6) (t : Ty) : bitsV t (.mk k n bs ls) = Lg.ofV n (swT (scalarT t)) := by
  unfold bitsV
  rw [splitV_def, if_neg h4, if_neg h6]
  exact (List.append_nil _).trans (if_neg h1)
theorem bitsV_arr (l : Int) (nm : ByteArray) (ns : List ByteArray) (e : Ty) (n : Int) (bs : List Nat) (ls : List Va) : bitsV (.mk 6 l nm ns [e]) (.mk 6 n bs ls) = (ls.map fun v => bitsV e v).flatten := by
  unfold bitsV
  rw [scalarT_arr, splitV_def, if_neg (by omega), if_pos rfl, splitVs_eq]
  induction ls with
  | nil => rfl
  | cons v r ih =>
    rw [List.map_cons, List.flatten_cons, List.map_append, List.flatten_append, ih, List.map_cons, List.flatten_cons]
theorem ofV_len (k : Int) (n : Nat) (h : n ≤ 64) : (Lg.ofV k n).length ≤ 64 := by
  unfold Lg.ofV
  split
  · rw [Lg.bitsL_len]; omega
  · simp
theorem flat_bits_len {e : Ty} {v : Va} (he : Flat isNameL e) (hv : HasF e v) : (bitsV e v).length ≤ 64 := by
  have hs := (sw_le (scalarT e)).2
  cases hv with
  | bit nm ns es l b h => rw [bitsV_bit]; simp
  | bool nm ns es l n h => rw [bitsV_oth _ _ (by omega) (by omega) (by omega)]; exact ofV_len _ _ (by omega)
  | int nm ns es l n h1 h2 => rw [bitsV_oth _ _ (by omega) (by omega) (by omega)]; exact ofV_len _ _ (by omega)
  | vec nm ns es l bs hl hb =>
    rw [bitsV_vec]
    cases he with
    | sc k hk => omega
    | vec l h1 h2 => omega
  | en nm ns es l i h => rw [bitsV_oth _ _ (by omega) (by omega) (by omega)]; exact ofV_len _ _ (by omega)
/-- What bits returns. -/
def BitsPost (bs : List Nat) (w : World) (e : Ending) (w' : World) : Prop := ∃ u, e = .returned u ∧ Lg.Sl w' u bs ∧ Below w.heap.size w w'
/-- What Bits returns. -/
def BitsPostE (bs : List Nat) (E : Nat) (w : World) (e : Ending) (w' : World) : Prop := ∃ u, e = .returned (.tuple #[u, .int .i64 (E : Nat)]) ∧ Lg.Sl w' u bs ∧ Below w.heap.size w w'
theorem own_grown {w w5 : World} {base : Nat} {v : Value} {xs : List Nat} (ho : Lg.Own w base v xs) (hg : w.grownBy w5 v.ownBlock) : Below base w w5 :=
  (Below.refl _ _).grown hg ho.2.2.2 fun k hk => (ho.1.lt k hk).1
set_option maxRecDepth 100000 in
set_option maxHeartbeats 8000000 in
theorem rbit_own (k l n : Int) (hk : k = 1 ∨ k = 4) (nm : ByteArray) (v3 v4 v2 u4 : Value) (bs : List Nat) (hbs : bs.length ≤ 100000) (w : World) (hv : Hid (BitS w v2 bs)) :
    Calls Tryz.prog 83 #[.agg #[.int .i64 k, .int .i64 l, .string nm, v3, v4], .agg #[.int .i64 k, .int .i64 n, v2, u4]] w (BitsPost bs w) := by
  have H2 := Lib.hid (boxes2 w 26 38 #[.int .i64 k, .int .i64 l, .string nm, v3, v4] #[.int .i64 k, .int .i64 n, v2, u4])
  have B0 := Lib.hid H2.out.2.2.1
  have T0 := Lib.hid H2.out.1
  have V0 := Lib.hid H2.out.2.1
  clear H2
  unfold BitsPost
  obtain ⟨W, hW⟩ : ∃ W, W = (w.alloc (.cells #[.int .i64 k, .int .i64 l, .string nm, v3, v4] 26)).alloc (.cells #[.int .i64 k, .int .i64 n, v2, u4] 38) := ⟨_, rfl⟩
  have Y1 := Lib.hid (below_alloc W (.cells #[] 72))
  have O1 := Lib.hid (own_new W (w.heap.size + 1 + 1) (by rw [hW, World.size_alloc, World.size_alloc]))
  rw [← hW] at B0 T0 V0
  have S1 := Lib.hid (bitS_sl (hv.out.later (below_then B0.out Y1.out)) (by omega))
  have B1 := Lib.hid (below_then B0.out Y1.out)
  have V1 := Lib.hid (V0.out.later Y1.out)
  subst hW
  obtain ⟨tc_0, tc_1, tc_2, tc_3, tc_4⟩ := fives T0.out
  obtain ⟨vc_0, vc_1, vc_2, vc_3⟩ := four V1.out
  rcases hk with rfl | rfl
  all_goals
    go_enter Tryz.func83, Tryz.ntmps83
    go_wp2_with (at_builtin; refine Lg.wpList_append_sl rfl _ _ rfl _ _ _ [] bs rfl rfl O1.out S1.out (by simp; omega) ?_; intro v5 w5 hown5 hb5; have O5 := Lib.hid hown5; have B5 := Lib.hid (B1.out.trans ((hb5 _ (Nat.le_refl _)).mono (show w.heap.size ≤ w.heap.size + 1 + 1 by omega))); clear hown5 hb5)
    go_wp2
    go_ret
    exact ⟨_, rfl, by have := O5.out.sl; rwa [List.nil_append] at this, B5.out⟩
set_option maxRecDepth 100000 in
set_option maxHeartbeats 8000000 in
theorem rbit_num (k l n : Int) (h1 : (k == 1) = false) (h4 : (k == 4) = false) (h6 : (k == 6) = false) (b1 : -9223372036854775808 ≤ n) (b2 : n ≤ 9223372036854775807) (nm : ByteArray) (v3 v4 u3 u4 : Value) (wd E : Nat) (w : World)
    (HW : Hid (∀ u, Below w.heap.size w u → Calls Tryz.prog 26 #[.agg #[.int .i64 k, .int .i64 l, .string nm, v3, v4]] u (PairPost (.int .i64 (wd : Nat)) E u))) :
    Calls Tryz.prog 83 #[.agg #[.int .i64 k, .int .i64 l, .string nm, v3, v4], .agg #[.int .i64 k, .int .i64 n, u3, u4]] w (BitsPost (Lg.ofV n wd) w) := by
  have H2 := Lib.hid (boxes2 w 26 38 #[.int .i64 k, .int .i64 l, .string nm, v3, v4] #[.int .i64 k, .int .i64 n, u3, u4])
  have B0 := Lib.hid H2.out.2.2.1
  have T0 := Lib.hid H2.out.1
  have V0 := Lib.hid H2.out.2.1
  clear H2
  have HO := Lib.hid (fun (u : World) => Lg.refOf_any n wd u b1 b2)
  unfold BitsPost
  unfold PairPost at HW
  go_enter Tryz.func83, Tryz.ntmps83
  obtain ⟨tc_0, tc_1, tc_2, tc_3, tc_4⟩ := fives T0.out
  go_wp2_with fail
  refine (HW.out _ B0.out).mono ?_
  rintro e w1 ⟨rfl, hb⟩
  have B1 := Lib.hid (below_then B0.out hb)
  have V1 := Lib.hid (V0.out.later hb)
  clear hb
  clear tc_0 tc_1 tc_2 tc_3 tc_4
  obtain ⟨vc_0, vc_1, vc_2, vc_3⟩ := four V1.out
  go_wp2_with fail
  refine (HO.out _).mono ?_
  rintro e w2 ⟨u, rfl, hsl, hb⟩
  have B2 := Lib.hid (below_then B1.out hb)
  have S2 := Lib.hid hsl
  clear hb hsl vc_0 vc_1 vc_2 vc_3
  go_wp2
  go_ret
  exact ⟨_, rfl, S2.out, B2.out⟩
theorem take_flat_g (g : Va → List Nat) (l : List Va) (k : Nat) (h : k < l.length) : ((l.take k).map g).flatten ++ g l[k] = ((l.take (k + 1)).map g).flatten := by
  rw [List.take_succ_eq_append_getElem h, List.map_append, List.flatten_append]
  simp
theorem flat_len_le {α : Type} (g : α → List Nat) (c : Nat) : ∀ l : List α, (∀ x ∈ l, (g x).length ≤ c) → (l.map g).flatten.length ≤ c * l.length
  | [], _ => by simp
  | x :: r, h => by
    rw [List.map_cons, List.flatten_cons, List.length_append, List.length_cons]
    have h1 := h x (by simp)
    have h2 := flat_len_le g c r fun y hy => h y (by simp [hy])
    rw [Nat.mul_succ]
    omega
set_option maxRecDepth 100000 in
set_option maxHeartbeats 8000000 in
theorem rbit_arr (l n : Int) (nm : ByteArray) (v3 u3 : Value) (b off d q b' o' : Nat) (D : Option Addr) (k1 l1 : Int) (nm1 : ByteArray) (A1 A2 : Option Addr) (n1 c1 n2 c2 : Nat) (ls : List Va) (g : Va → List Nat) (h64 : ls.length ≤ 64) (hg : ∀ x ∈ ls, (g x).length ≤ 64) (w : World)
    (h5 : Hid (Ty5 w b off k1 l1 nm1 (.slice A1 n1 c1) (.slice A2 n2 c2))) (HD : Hid (ls.length = 0 ∨ D = some ⟨b', o', none⟩)) (HV : Hid (VaAt w ls b' o' ∨ ls.length = 0))
    (HS : Hid (∀ (k : Nat) (hk : k < ls.length) (u : World) (cs : List Value), Below w.heap.size w u → VaC u ls[k] cs → Calls Tryz.prog 83 #[.agg #[.int .i64 k1, .int .i64 l1, .string nm1, .slice A1 n1 c1, .slice A2 n2 c2], .agg cs.toArray] u (BitsPost (g ls[k]) u))) :
    Calls Tryz.prog 83 #[.agg #[.int .i64 6, .int .i64 l, .string nm, v3, .slice (some ⟨b, off, none⟩) 1 d], .agg #[.int .i64 6, .int .i64 n, u3, .slice D ls.length q]] w (BitsPost ((ls.map g).flatten) w) := by
  have H2 := Lib.hid (boxes2 w 26 38 #[.int .i64 6, .int .i64 l, .string nm, v3, .slice (some ⟨b, off, none⟩) 1 d] #[.int .i64 6, .int .i64 n, u3, .slice D ls.length q])
  have B0 := Lib.hid H2.out.2.2.1
  have T0 := Lib.hid H2.out.1
  have V0 := Lib.hid H2.out.2.1
  have O0 : Hid (Lg.Own ((w.alloc (.cells #[.int .i64 6, .int .i64 l, .string nm, v3, .slice (some ⟨b, off, none⟩) 1 d] 26)).alloc (.cells #[.int .i64 6, .int .i64 n, u3, .slice D ls.length q] 38)) (w.heap.size + 2) (.slice none 0 0) ((ls.take 0).map g).flatten) := Lg.Own.nil _ (by rw [H2.out.2.2.2]; omega)
  have HLg := Lib.hid (fun (k : Nat) => flat_len_le g 64 (ls.take k) fun x hx => hg x (List.mem_of_mem_take hx))
  clear H2
  unfold BitsPost
  go_enter Tryz.func83, Tryz.ntmps83
  obtain ⟨tc_0, tc_1, tc_2, tc_3, tc_4⟩ := fives T0.out
  obtain ⟨vc_0, vc_1, vc_2, vc_3⟩ := four V0.out
  go_wp2_with fail
  clear tc_0 tc_1 tc_2 tc_3 tc_4 vc_0 vc_1 vc_2 vc_3
  go_loopw [5, 26] (fun v i wr => ∃ (k : Nat) (vb : Value), k ≤ ls.length ∧ vb = v ∧ i = .int .i64 k ∧ Hid (Blk wr w.heap.size 26 #[.int .i64 6, .int .i64 l, .string nm, v3, .slice (some ⟨b, off, none⟩) 1 d]) ∧ Hid (Lg.Own wr (w.heap.size + 2) vb ((ls.take k).map g).flatten) ∧ Hid (Below w.heap.size w wr)) (fun _ i _ => ls.length - (intOf i).toNat)
  case atStart => exact ⟨0, _, Nat.zero_le _, rfl, rfl, T0, O0, B0⟩
  case round =>
    obtain ⟨k, vb, hk, rfl, rfl, NT, NO, NB⟩ := hrel
    clear B0 T0 V0 O0
    by_cases hlt : k < ls.length
    · have d1 : decide ((k : Int) < (ls.length : Int)) = true := by rw [decide_eq_true_eq]; omega
      have d2 : decide (k < ls.length) = true := by rw [decide_eq_true_eq]; omega
      have hki : (k : Int) < (ls.length : Int) := by omega
      have hk0 : (0 : Int) ≤ (k : Int) := by omega
      have hD : D = some ⟨b', o', none⟩ := HD.out.resolve_left (by omega)
      subst hD
      obtain ⟨kk2, nn2, A9, m9, c9, A8, m8, c8, hva, g0, g1, g2, g3⟩ := row_at ls o' (HV.out.resolve_right (by omega)) k hlt
      replace g0 := cell_stays NB.out g0
      replace g1 := cell_stays NB.out g1
      replace g2 := cell_stays NB.out g2
      replace g3 := cell_stays NB.out g3
      have hbb := below_alloc wr (.cells #[.int .i64 kk2, .int .i64 nn2, .slice A9 m9 c9, .slice A8 m8 c8] 38)
      have HBB := Lib.hid (below_drewN hbb 1)
      have BB := Lib.hid (below_drewN (below_then NB.out hbb) 1)
      have TA := Lib.hid (NT.out.later hbb)
      obtain ⟨ec_0, ec_1, ec_2, ec_3, ec_4⟩ := h5.out.later (below_then NB.out hbb)
      obtain ⟨p0, p1, p2, p3, p4⟩ := fives TA.out
      obtain ⟨q0, q1, q2, q3⟩ := four (Blk.new wr 38 #[.int .i64 kk2, .int .i64 nn2, .slice A9 m9 c9, .slice A8 m8 c8])
      have HX := Lib.hid (HS.out k hlt ((wr.alloc (.cells #[.int .i64 kk2, .int .i64 nn2, .slice A9 m9 c9, .slice A8 m8 c8] 38)).drewN 1) _ BB.out (VaC.later BB.out _ _ hva))
      unfold BitsPost at HX
      have HQ := Lib.hid (take_flat_g g ls k hlt)
      have HL : Hid (((ls.take k).map g).flatten.length + (g ls[k]).length ≤ 140737488355328) := by
        show _ ≤ _
        have h1 := HLg.out k
        have h2 := hg _ (List.getElem_mem hlt)
        have h3 : 64 * (ls.take k).length ≤ 64 * 64 := Nat.mul_le_mul_left _ (by rw [List.length_take]; omega)
        omega
      generalize g ls[k] = ys at HX HQ HL
      clear hva hbb HS hg HLg
      go_wp2_with fail
      go_region_law (first | (refine step_append_bits rfl _ _ rfl (w.heap.size + 2) vb _ ((ls.take k).map g).flatten ys rfl rfl O3.out S3.out HL.out ?_; intro v5 w5 hown5 hg5 _; have O5 := Lib.hid hown5; have Z5 := Lib.hid (own_grown O3.out hg5); have T5 := Lib.hid (T3.out.keep Z5.out (by omega)); have B5 := Lib.hid (B3.out.trans (Z5.out.mono (by omega))); clear hown5 hg5) | (go_simp; go_at_call 83; refine (HX.out).mono ?_; rintro e w3 ⟨u, rfl, hsl, hb⟩; have S3 := Lib.hid hsl; have Y3 := Lib.hid (below_then HBB.out hb); have O3 := Lib.hid (NO.out.kept Y3.out); have T3 := Lib.hid (NT.out.later Y3.out); have B3 := Lib.hid (below_then NB.out Y3.out); clear hsl hb))
      all_goals
        go_wp2
        go_roundw
        case rel => exact ⟨k + 1, _, by omega, rfl, by go_num, T5, by rw [← HQ.out]; exact O5, B5⟩
        case measure => simp [intOf]; omega
    · obtain rfl : k = ls.length := by omega
      have d1 : decide ((ls.length : Int) < (ls.length : Int)) = false := by rw [decide_eq_false_iff_not]; omega
      have d2 : decide (ls.length < ls.length) = false := by rw [decide_eq_false_iff_not]; omega
      have HO9 := NO.out
      rw [List.take_length] at HO9
      have G1 := Lib.hid HO9
      clear HO9
      go_wp2
      go_ret
      exact ⟨_, rfl, G1.out.sl, NB.out⟩
theorem rbits_flat {e : Ty} {x : Va} (he : Flat isNameL e) (h3 : e.kind ≠ 3) (hx : HasF e x) (hnm : NmT e) {ct cs : List Value} {u : World} (ht : TyC u e ct) (hv : VaC u x cs) :
    Calls Tryz.prog 83 #[.agg ct.toArray, .agg cs.toArray] u (BitsPost (bitsV e x) u) := by
  have ht0 := ht
  have hlen := flat_bits_len he hx
  obtain ⟨A, n, c, B, m, d, rfl, _⟩ := tyC_open ht
  obtain ⟨C, y, p, D, z, q, rfl, _, _, hb, _⟩ := vaC_open hv
  have hw := fun (w : World) (h : Below u.heap.size u w) => rwid_flat he hnm (TyC.later h _ _ ht0)
  have hfw := flat_width he
  have hsc : ∀ (k : Int) (n : Int), (k ≠ 3 → x = .mk k n [] [] → e.kind = k → k ≠ 1 → k ≠ 4 → k ≠ 6 → (widthT e).getD 0 = swT (scalarT e)) := by
    intro k n h3 _ hk h1 h4 h6
    rcases hfw with ⟨a, b⟩ | ⟨a, b⟩
    · exfalso
      obtain ⟨k', l, nm, ns, es⟩ := e
      have hk : k' = k := hk
      rw [scalarT_mk _ _ _ _ _ (by omega) (by omega)] at a
      have a : k' = 3 := a
      omega
    · rw [b]
      obtain ⟨k', l, nm, ns, es⟩ := e
      have hk : k' = k := hk
      rw [countT_mk _ _ _ _ _ (by omega) (by omega)]
      show 1 * _ = _
      rw [Nat.one_mul]
  cases hx with
  | bit nm ns es l b h =>
    rw [bitsV_bit]
    exact rbit_own 1 _ _ (.inl rfl) _ _ _ (.slice C y p) _ [b] (by simp) u hb
  | bool nm ns es l n h =>
    have := hsc 2 n (by omega) rfl rfl (by omega) (by omega) (by omega)
    rw [bitsV_oth _ _ (by omega) (by omega) (by omega), ← this]
    exact rbit_num 2 _ n rfl rfl rfl (by omega) (by omega) _ _ _ _ _ _ _ u hw
  | int nm ns es l n h1 h2 => exact absurd rfl h3
  | vec nm ns es l bs hl hb3 =>
    rw [bitsV_vec] at hlen ⊢
    exact rbit_own 4 _ _ (.inr rfl) _ _ _ (.slice C y p) _ bs (by omega) u hb
  | en nm ns es l i h =>
    have := hsc 5 i (by omega) rfl rfl (by omega) (by omega) (by omega)
    rw [bitsV_oth _ _ (by omega) (by omega) (by omega), ← this]
    cases he with
    | sc k hk => omega
    | en _ _ hp hn =>
      have := (names_at hn).1
      exact rbit_num 5 _ i rfl rfl rfl (by omega) (by omega) _ _ _ _ _ _ _ u hw
end Go.Proofs.YtdiagnhdigakpaaGreatDoor
