/- The contracts of the reference's split and Split. -/
import Derived.Test.YtdiagnhdigakpaaGreatDoorZa
import Derived.Test.YtdiagnhdigakpaaGreatDoorZe
import Derived.Test.YtdiagnhdigakpaaGreatDoorUt
namespace Go.Proofs.YtdiagnhdigakpaaGreatDoor
open Go.RowKit

/-- What split returns: a row of the call's own, all its memory new. -/
def SplPost (ls : List Va) (w : World) (e : Ending) (w' : World) : Prop := ∃ v, e = .returned v ∧ OwnV (fun b => w.heap.size ≤ b) w' w.heap.size v ls ∧ Below w.heap.size w w'
theorem bit_one {S : Nat → Prop} {w : World} {n b : Nat} (h : Blk w n 72 #[.int .u8 (b : Nat)]) (hS : S n) (hb : b < 256) : VaP S w (bitVa b) [.int .i64 1, .int .i64 0, .slice (some ⟨n, 0, none⟩) 1 1, .slice none 0 0] :=
  vaP_iff.2 ⟨_, _, rfl, ⟨_, 1, rfl, Nat.le_refl _, by simp, by simpa using hb, .inr ⟨n, 0, rfl, hS, fun k hk => by
    have : k = 0 := by simp at hk; omega
    subst this
    exact h.cell 0⟩⟩, vasP_nil _⟩
theorem take_map_next {α β : Type} (f : α → β) (l : List α) (k : Nat) (h : k < l.length) : (l.take k).map f ++ [f l[k]] = (l.take (k + 1)).map f := by
  rw [List.take_succ_eq_append_getElem h, List.map_append]
  rfl
theorem take_flat_next (l : List Va) (k : Nat) (h : k < l.length) : ((l.take k).map splitV).flatten ++ splitV l[k] = ((l.take (k + 1)).map splitV).flatten := by
  rw [List.take_succ_eq_append_getElem h, List.map_append, List.flatten_append]
  simp
set_option maxRecDepth 100000 in
set_option maxHeartbeats 8000000 in
theorem rspl_flat (v : Va) (k n : Int) (A D : Option Addr) (x p y q : Nat) (w : World) (h4 : (k == 4) = false) (h6 : (k == 6) = false) (hsm : smV v) (hv : Hid (VaC w v [.int .i64 k, .int .i64 n, .slice A x p, .slice D y q])) :
    Calls Tryz.prog 85 #[.agg #[.int .i64 k, .int .i64 n, .slice A x p, .slice D y q]] w (SplPost [v] w) := by
  have B0 := Lib.hid (below_alloc w (.cells #[.int .i64 k, .int .i64 n, .slice A x p, .slice D y q] 38))
  have V0 := Lib.hid (box1 w 38 #[.int .i64 k, .int .i64 n, .slice A x p, .slice D y q])
  have HC := Lib.hid (rcopy_any v _ _ hsm (VaC.later B0.out _ _ hv.out))
  unfold SplPost
  go_enter Tryz.func85, Tryz.ntmps85
  obtain ⟨vc_0, vc_1, vc_2, vc_3⟩ := four V0.out
  go_wp2_with fail
  refine (HC.out).mono ?_
  rintro e w1 hc
  obtain ⟨A1, n1, c3, B1, m1, d1, rfl, hvp, hb⟩ := copy_vaP hc
  have B1 := Lib.hid (below_then B0.out hb)
  have HP := Lib.hid (hvp.mono (S' := fun b => w.heap.size ≤ b) fun b hb1 _ => by have hb1 : (w.alloc (.cells #[.int .i64 k, .int .i64 n, .slice A x p, .slice D y q] 38)).heap.size ≤ b := hb1; rw [World.size_alloc] at hb1; omega)
  clear hc hvp hb
  clear vc_0 vc_1 vc_2 vc_3
  go_wp2
  go_ret
  exact ⟨_, rfl, ownV_one HP.out B1.out.size, below_then B1.out (below_alloc _ _)⟩
set_option maxRecDepth 100000 in
set_option maxHeartbeats 8000000 in
theorem rspl_vec (bs : List Nat) (h64 : bs.length ≤ 10000) (n : Int) (A : Option Addr) (p : Nat) (v3 : Value) (w : World) (hv : Hid (BitS w (.slice A bs.length p) bs)) :
    Calls Tryz.prog 85 #[.agg #[.int .i64 4, .int .i64 n, .slice A bs.length p, v3]] w (SplPost (bs.map bitVa) w) := by
  obtain ⟨A9, c9, e9, g1, g2, g3, g4⟩ := hv.out
  obtain ⟨rfl, -, rfl⟩ := Value.slice.inj e9
  have HG3 := Lib.hid g3
  have HG4 := Lib.hid g4
  clear g1 g3 g4
  have B0 := Lib.hid (below_alloc w (.cells #[.int .i64 4, .int .i64 n, .slice A bs.length p, v3] 38))
  have V0 := Lib.hid (box1 w 38 #[.int .i64 4, .int .i64 n, .slice A bs.length p, v3])
  have O0 : Hid (OwnV (fun b => w.heap.size ≤ b) (w.alloc (.cells #[.int .i64 4, .int .i64 n, .slice A bs.length p, v3] 38)) (w.heap.size + 1) (.slice none 0 0) ((bs.take 0).map bitVa)) := OwnV.nil _ (by rw [World.size_alloc]; omega)
  unfold SplPost
  go_enter Tryz.func85, Tryz.ntmps85
  obtain ⟨vc_0, vc_1, vc_2, vc_3⟩ := four V0.out
  go_wp2_with fail
  clear vc_0 vc_1 vc_2 vc_3
  go_loopw [3, 15] (fun v i wr => ∃ (k : Nat) (vb : Value), k ≤ bs.length ∧ vb = v ∧ i = .int .i64 k ∧ Hid (Blk wr w.heap.size 38 #[.int .i64 4, .int .i64 n, .slice A bs.length p, v3]) ∧ Hid (OwnV (fun b => w.heap.size ≤ b) wr (w.heap.size + 1) vb ((bs.take k).map bitVa)) ∧ Hid (Below w.heap.size w wr)) (fun _ i _ => bs.length - (intOf i).toNat)
  case atStart => exact ⟨0, _, Nat.zero_le _, rfl, rfl, V0, O0, B0⟩
  case round =>
    obtain ⟨k, vb, hk, rfl, rfl, NT, NO, NB⟩ := hrel
    clear B0 V0 O0
    by_cases hlt : k < bs.length
    · have d1 : decide ((k : Int) < (bs.length : Int)) = true := by rw [decide_eq_true_eq]; omega
      have d2 : decide (k < bs.length) = true := by rw [decide_eq_true_eq]; omega
      have hki : (k : Int) < (bs.length : Int) := by omega
      have hk0 : (0 : Int) ≤ (k : Int) := by omega
      obtain ⟨b, off, rfl, hc⟩ := HG4.out.resolve_left (fun e => by rw [e] at hlt; exact absurd hlt (Nat.not_lt_zero _))
      have e0 := cell_stays NB.out (hc k hlt)
      have HZ := Lib.hid (HG3.out bs[k] (List.getElem_mem hlt))
      have HQ := Lib.hid (take_map_next bitVa bs k hlt)
      have HL := Lib.hid (show ((bs.take k).map bitVa).length < 100000 by rw [List.length_map, List.length_take]; omega)
      generalize bs[k] = z at e0 HZ HQ
      clear hc
      have HBV := Lib.hid (refBit_ex z wr)
      go_wp2_with fail
      refine (HBV.out).mono ?_
      rintro e w3 ⟨n9, hn9, rfl, hk9, hb⟩
      have Z := Lib.hid (below_then hb (below_alloc w3 (.cells #[.int .i64 1, .int .i64 0, .slice (some ⟨n9, 0, none⟩) 1 1, .slice none 0 0] 38)))
      have HP := Lib.hid (VaP.later (bit_one (S := fun b => w.heap.size ≤ b ∧ vb.ownBlock ≠ some b) hk9 (show w.heap.size ≤ n9 ∧ vb.ownBlock ≠ some n9 from ⟨by have := NB.out.size; omega, fun e => by have := (NO.out.lt n9 e).2; omega⟩) HZ.out) (below_alloc w3 (.cells #[.int .i64 1, .int .i64 0, .slice (some ⟨n9, 0, none⟩) 1 1, .slice none 0 0] 38)))
      have TA := Lib.hid (NT.out.later Z.out)
      have BA := Lib.hid (below_then NB.out Z.out)
      clear hb hk9 hn9 e0 HBV
      go_wp2_with (at_builtin; refine wpList_append_va rfl _ _ rfl (w.heap.size + 1) _ ((bs.take k).map bitVa) (bitVa z) _ _ _ _ rfl rfl (NO.out.kept Z.out) HP.out (new_cells _ _ _ _ _ _) HL.out ?_; intro v5 w5 hown5 hb5 _ _; have T5 := Lib.hid (TA.out.keep (hb5 _ (Nat.le_refl _)) (Nat.lt_succ_self _)); have O5 := Lib.hid hown5; have B5 := Lib.hid (BA.out.trans ((hb5 _ (Nat.le_refl _)).mono (Nat.le_succ _))); clear hown5 hb5)
      go_wp2
      go_roundw
      case rel => exact ⟨k + 1, _, by omega, rfl, by go_num, T5, by rw [← HQ.out]; exact O5, B5⟩
      case measure => simp [intOf]; omega
    · obtain rfl : k = bs.length := by omega
      have d1 : decide ((bs.length : Int) < (bs.length : Int)) = false := by rw [decide_eq_false_iff_not]; omega
      have d2 : decide (bs.length < bs.length) = false := by rw [decide_eq_false_iff_not]; omega
      have HO9 := NO.out
      rw [List.take_length] at HO9
      have G1 := Lib.hid HO9
      clear HO9
      go_wp2
      go_ret
      exact ⟨_, rfl, G1.out.weak (by omega) (fun _ h => h), NB.out⟩
set_option maxRecDepth 100000 in
set_option maxHeartbeats 8000000 in
theorem rspl_arr (ls : List Va) (n : Int) (D : Option Addr) (q b' o' : Nat) (v2 : Value) (w : World) (h64 : ls.length ≤ 10000) (HD : Hid (ls.length = 0 ∨ D = some ⟨b', o', none⟩)) (HV : Hid (VaAt w ls b' o' ∨ ls.length = 0)) (hpos : ∀ k (h : k < ls.length), 0 < (splitV ls[k]).length)
    (HLn : Hid (∀ k (h : k < ls.length), ((ls.take k).map splitV).flatten.length + (splitV ls[k]).length ≤ 100000))
    (HS : Hid (∀ (k : Nat) (hk : k < ls.length) (u : World) (cs : List Value), Below w.heap.size w u → VaC u ls[k] cs → Calls Tryz.prog 85 #[.agg cs.toArray] u (SplPost (splitV ls[k]) u))) :
    Calls Tryz.prog 85 #[.agg #[.int .i64 6, .int .i64 n, v2, .slice D ls.length q]] w (SplPost ((ls.map splitV).flatten) w) := by
  have B0 := Lib.hid (below_alloc w (.cells #[.int .i64 6, .int .i64 n, v2, .slice D ls.length q] 38))
  have V0 := Lib.hid (box1 w 38 #[.int .i64 6, .int .i64 n, v2, .slice D ls.length q])
  have O0 : Hid (OwnV (fun b => w.heap.size ≤ b) (w.alloc (.cells #[.int .i64 6, .int .i64 n, v2, .slice D ls.length q] 38)) (w.heap.size + 1) (.slice none 0 0) ((ls.take 0).map splitV).flatten) := OwnV.nil _ (by rw [World.size_alloc]; omega)
  unfold SplPost
  go_enter Tryz.func85, Tryz.ntmps85
  obtain ⟨vc_0, vc_1, vc_2, vc_3⟩ := four V0.out
  go_wp2_with fail
  clear vc_0 vc_1 vc_2 vc_3
  go_loopw [3, 31] (fun v i wr => ∃ (k : Nat) (vb : Value), k ≤ ls.length ∧ vb = v ∧ i = .int .i64 k ∧ Hid (Blk wr w.heap.size 38 #[.int .i64 6, .int .i64 n, v2, .slice D ls.length q]) ∧ Hid (OwnV (fun b => w.heap.size ≤ b) wr (w.heap.size + 1) vb ((ls.take k).map splitV).flatten) ∧ Hid (Below w.heap.size w wr)) (fun _ i _ => ls.length - (intOf i).toNat)
  case atStart => exact ⟨0, _, Nat.zero_le _, rfl, rfl, V0, O0, B0⟩
  case round =>
    obtain ⟨k, vb, hk, rfl, rfl, NT, NO, NB⟩ := hrel
    clear B0 V0 O0
    by_cases hlt : k < ls.length
    · have d1 : decide ((k : Int) < (ls.length : Int)) = true := by rw [decide_eq_true_eq]; omega
      have d2 : decide (k < ls.length) = true := by rw [decide_eq_true_eq]; omega
      have hki : (k : Int) < (ls.length : Int) := by omega
      have hk0 : (0 : Int) ≤ (k : Int) := by omega
      have hD : D = some ⟨b', o', none⟩ := HD.out.resolve_left (by omega)
      subst hD
      obtain ⟨kk2, nn2, A2, m2, c9, A3, m3, c8, hva, g0, g1, g2, g3⟩ := row_at ls o' (HV.out.resolve_right (by omega)) k hlt
      replace g0 := cell_stays NB.out g0
      replace g1 := cell_stays NB.out g1
      replace g2 := cell_stays NB.out g2
      replace g3 := cell_stays NB.out g3
      have hbb := below_alloc wr (.cells #[.int .i64 kk2, .int .i64 nn2, .slice A2 m2 c9, .slice A3 m3 c8] 38)
      have HX := Lib.hid (HS.out k hlt _ _ (below_then NB.out hbb) (VaC.later (below_then NB.out hbb) _ _ hva))
      unfold SplPost at HX
      have HQ := Lib.hid (take_flat_next ls k hlt)
      have HL := Lib.hid (HLn.out k hlt)
      have HPo := Lib.hid (hpos k hlt)
      have HBB := Lib.hid hbb
      generalize splitV ls[k] = ys at HX HQ HL HPo
      clear hva hbb HS hpos HLn
      go_wp2_with fail
      refine (HX.out).mono ?_
      rintro e w3 ⟨u, rfl, hown, hb⟩
      obtain ⟨g, q9, css, rfl, g1, g2, c1, c2, c3, c4⟩ := hown.cells HPo.out
      have Z := Lib.hid (below_then HBB.out hb)
      have HC3 := Lib.hid (fun (i : Nat) (hi : i < ys.length) (hi' : i < css.length) => (c3 i hi hi').mono (S' := fun b => w.heap.size ≤ b ∧ vb.ownBlock ≠ some b) fun b hb _ => by have hb1 : (wr.alloc (.cells #[.int .i64 kk2, .int .i64 nn2, .slice A2 m2 c9, .slice A3 m3 c8] 38)).heap.size ≤ b := hb.1; rw [World.size_alloc] at hb1; exact ⟨by have := NB.out.size; omega, fun e => by have := (NO.out.lt b e).2; omega⟩)
      have HC1 := Lib.hid c1
      have HC2 := Lib.hid c2
      have HC4 := Lib.hid c4
      have TA := Lib.hid (NT.out.later Z.out)
      have BA := Lib.hid (below_then NB.out Z.out)
      clear hb hown c1 c2 c3 c4
      go_wp2_with (at_builtin; refine wpList_append_vas rfl _ _ rfl (w.heap.size + 1) _ ((ls.take k).map splitV).flatten ys css _ _ _ rfl rfl (NO.out.kept Z.out) HC1.out HC2.out HC3.out HC4.out HL.out ?_; intro v5 w5 hown5 hb5 _ _; have T5 := Lib.hid (TA.out.keep (hb5 _ (Nat.le_refl _)) (Nat.lt_succ_self _)); have O5 := Lib.hid hown5; have B5 := Lib.hid (BA.out.trans ((hb5 _ (Nat.le_refl _)).mono (Nat.le_succ _))); clear hown5 hb5)
      go_wp2
      go_roundw
      case rel => exact ⟨k + 1, _, by omega, rfl, by go_num, T5, by rw [← HQ.out]; exact O5, B5⟩
      case measure => simp [intOf]; omega
    · obtain rfl : k = ls.length := by omega
      have d1 : decide ((ls.length : Int) < (ls.length : Int)) = false := by rw [decide_eq_false_iff_not]; omega
      have d2 : decide (ls.length < ls.length) = false := by rw [decide_eq_false_iff_not]; omega
      have HO9 := NO.out
      rw [List.take_length] at HO9
      have G1 := Lib.hid HO9
      clear HO9
      go_wp2
      go_ret
      exact ⟨_, rfl, G1.out.weak (by omega) (fun _ h => h), NB.out⟩
theorem rspl_good {t : Ty} {v : Va} (ht : Good isNameL t) (hh : HasG t v) (hsm : smV v) {cs : List Value} {w : World} (hv : VaC w v cs) :
    Calls Tryz.prog 85 #[.agg cs.toArray] w (SplPost (splitV v) w) := by
  have key : ∀ (e : Ty) (x : Va) (cs : List Value) (u : World), Flat isNameL e → HasF e x → smV x → VaC u x cs → Calls Tryz.prog 85 #[.agg cs.toArray] u (SplPost (splitV x) u) := by
    intro e x cs u he hx hsx hvx
    have hvx0 := hvx
    obtain ⟨A, n, c, B, m, d, rfl, g1, g2, g3, g4, g5, g6⟩ := vaC_open hvx
    by_cases h4 : e.kind = 4
    · obtain ⟨kx, nx, bs, ls⟩ := x
      have hk : kx = e.kind := has_kind (of_hasF hx)
      obtain rfl : kx = 4 := hk.trans h4
      obtain rfl : n = bs.length := g1
      rw [show splitV (.mk 4 nx bs ls) = bs.map bitVa by rw [splitV_def, if_pos rfl]]
      exact rspl_vec bs ((smV_def _ _ _ _).1 hsx).1 _ _ _ _ u g3
    · have h6 := (flat_kind he).1
      have hk : x.kind = e.kind := has_kind (of_hasF hx)
      have hs : splitV x = [x] := by
        obtain ⟨kx, nx, bs, ls⟩ := x
        have hk : kx = e.kind := hk
        rw [splitV_def, if_neg (by omega), if_neg (by omega)]
      rw [hs]
      exact rspl_flat x _ _ _ _ _ _ _ _ u (by rw [beq_eq_false_iff_ne]; omega) (by rw [beq_eq_false_iff_ne]; omega) hsx hvx0
  cases ht with
  | flat t ht =>
    cases hh with
    | arr l nm ns e ls hl h => exact absurd rfl (flat_kind ht).1
    | flat _ _ hf => exact key t v cs w ht hf hsm hv
  | arr l e h1 h2 he =>
    cases hh with
    | flat _ _ hf => cases hf
    | arr _ _ _ _ ls hls hh =>
      obtain ⟨A, n, c, B, m, d, rfl, g1, g2, g3, g4, g5, g6⟩ := vaC_open hv
      obtain rfl : m = ls.length := g2
      obtain ⟨b', o', d1, d2⟩ := va_rows (ls := ls) g6
      rw [show splitV (.mk 6 0 [] ls) = (ls.map splitV).flatten by rw [splitV_def, if_neg (by omega), if_pos rfl, splitVs_eq]]
      have hce := flat_count he
      have hsz : ∀ x ∈ ls, (splitV x).length = countT e := fun x hx => (flat_split he (hh x hx)).1
      exact rspl_arr ls _ _ _ b' o' _ w (by omega) d1 d2 (fun k hk => by rw [hsz _ (List.getElem_mem hk)]; omega) (fun k hk => by
          rw [flat_len_sum splitV (countT e) _ (fun x hx => hsz x (List.mem_of_mem_take hx)), List.length_take, Nat.min_eq_left (by omega), hsz _ (List.getElem_mem hk)]
          have : k * countT e ≤ 64 * 64 := Nat.mul_le_mul (by omega) hce.2
          omega)
        (fun k hk u cs hu hva => key e ls[k] cs u he (hh _ (List.getElem_mem hk)) (((smV_def _ _ _ _).1 hsm).2.2 _ (List.getElem_mem hk)) hva)
end Go.Proofs.YtdiagnhdigakpaaGreatDoor
