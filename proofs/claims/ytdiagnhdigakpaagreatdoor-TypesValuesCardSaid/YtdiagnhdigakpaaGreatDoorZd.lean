/- The contract of the program's eachScalar over a function that takes values one after another. -/
import Derived.Test.YtdiagnhdigakpaaGreatDoorZa
import Derived.Test.YtdiagnhdigakpaaGreatDoorUs
import Derived.Test.YtdiagnhdigakpaaGreatDoorKk
namespace Go.Proofs.YtdiagnhdigakpaaGreatDoor
open Go.RowKit

theorem bitP_new {S : Nat → Prop} {w : World} {n b : Nat} (h : Blk w n 72 #[.int .u8 (b : Nat)]) (hS : S n) (hb : b < 256) : BitP S w (.slice (some ⟨n, 0, none⟩) 1 1) [b] :=
  ⟨_, 1, rfl, Nat.le_refl _, by simp, by simpa using hb, .inr ⟨n, 0, rfl, hS, fun k hk => by
    have : k = 0 := by simp at hk; omega
    subst this
    exact h.cell 0⟩⟩
/-- What bitValue returns: a value in new memory. -/
def BitNew (b : Nat) (w : World) (e : Ending) (w' : World) : Prop := ∃ n : Nat, e = .returned (.agg #[.int .i64 1, .int .i64 0, .slice (some ⟨n, 0, none⟩) 1 1, .slice none 0 0]) ∧ VaP (fun x => w.heap.size ≤ x) w' (bitVa b) [.int .i64 1, .int .i64 0, .slice (some ⟨n, 0, none⟩) 1 1, .slice none 0 0] ∧ Below w.heap.size w w'
theorem bitValue_new (b : Nat) (hb : b < 256) (w : World) : Calls Tryz.prog 69 #[.int .u8 b] w (BitNew b w) :=
  (bitValue_any b w).mono fun _ _ ⟨h1, h2, h3⟩ => ⟨_, h1, vaP_iff.2 ⟨_, _, rfl, bitP_new h2 (by omega) hb, vasP_nil _⟩, h3⟩
/-- What stands behind values that were handed over. -/
def EachPost (w0 : World) (St : List Va → World → Prop) (ls : List Va) (e : Ending) (w' : World) : Prop := e = .returned (.tuple #[]) ∧ St ls w' ∧ Below w0.heap.size w0 w'
/-- What is held of handed over values stays where no old memory is changed. -/
def Lasts (St : List Va → World → Prop) : Prop := ∀ ls u u', St ls u → Below u.heap.size u u' → St ls u'
theorem take_map_succ {α β : Type} (f : α → β) (l : List α) (k : Nat) (h : k < l.length) (pre : List β) : pre ++ (l.take k).map f ++ [f l[k]] = pre ++ (l.take (k + 1)).map f := by
  rw [List.take_succ_eq_append_getElem h, List.map_append, List.append_assoc]
  rfl
theorem take_flat_succ (l : List Va) (k : Nat) (h : k < l.length) (pre : List Va) : pre ++ ((l.take k).map splitV).flatten ++ splitV l[k] = pre ++ ((l.take (k + 1)).map splitV).flatten := by
  rw [List.take_succ_eq_append_getElem h, List.map_append, List.flatten_append, List.append_assoc]
  simp
/-- A function that takes values one after another (handed over: c1). -/
def Takes1 (w0 : World) (X : Va → Prop) (St : List Va → World → Prop) (g : FuncId) (c1 : Value) : Prop :=
  ∀ ls x cs u0 u, ls.length < 4096 → X x → St ls u0 → Below w0.heap.size w0 u0 → Below u0.heap.size u0 u → VaP (fun b => u0.heap.size ≤ b) u x cs → Calls Tryz.prog g #[.agg cs.toArray, c1] u (EachPost w0 St (ls ++ [x]))
set_option maxRecDepth 100000 in
set_option maxHeartbeats 8000000 in
theorem each_flat1 (w0 : World) (X : Va → Prop) (St : List Va → World → Prop) (g : FuncId) (c1 : Value) (pre : List Va) (v : Va) (k n : Int) (A D : Option Addr) (x p y q : Nat) (w : World) (h4 : (k == 4) = false) (h6 : (k == 6) = false) (hsm : smV v) (hl : pre.length < 4096) (hX : X v) (hv : Hid (VaC w0 v [.int .i64 k, .int .i64 n, .slice A x p, .slice D y q]))
    (HE : ∀ args w, (callFunc g args).run Tryz.prog w = .ok (.enter g args) w)
    (HT : Hid (Takes1 w0 X St g c1)) (HLs : Hid (Lasts St)) (hst : Hid (St pre w)) (hB : Hid (Below w0.heap.size w0 w)) :
    Calls Tryz.prog 80 #[.agg #[.int .i64 k, .int .i64 n, .slice A x p, .slice D y q], .func (.func g) #[] #[c1]] w (EachPost w0 St (pre ++ [v])) := by
  have Y0 := below_alloc w (.cells #[.int .i64 k, .int .i64 n, .slice A x p, .slice D y q] 38)
  have B0 := Lib.hid (below_then hB.out Y0)
  have S0 := Lib.hid (HLs.out _ _ _ hst.out Y0)
  have V0 := Lib.hid (box1 w 38 #[.int .i64 k, .int .i64 n, .slice A x p, .slice D y q])
  have HC := Lib.hid (pclone_any v _ _ hsm (VaC.later B0.out _ _ hv.out))
  clear Y0 hB hst
  go_enter Tryz.func80, Tryz.ntmps80
  obtain ⟨vc_0, vc_1, vc_2, vc_3⟩ := four V0.out
  go_wp2_with fail
  refine (HC.out).mono ?_
  rintro e w1 hc
  obtain ⟨A1, n1, c3, B1, m1, d1, rfl, hvp, hb⟩ := copy_vaP hc
  have HX := Lib.hid (HT.out pre v _ _ _ hl hX S0.out B0.out hb hvp)
  unfold EachPost at HX
  clear hc hvp hb
  clear vc_0 vc_1 vc_2 vc_3
  go_wp2_with fail
  refine (HX.out).mono ?_
  rintro e w2 ⟨rfl, h1, h2⟩
  have G1 := Lib.hid h1
  have G2 := Lib.hid h2
  clear h1 h2
  go_wp2
  go_returns
  exact ⟨rfl, G1.out, G2.out⟩
set_option maxRecDepth 100000 in
set_option maxHeartbeats 8000000 in
theorem each_vec1 (w0 : World) (X : Va → Prop) (St : List Va → World → Prop) (g : FuncId) (c1 : Value) (pre : List Va) (bs : List Nat) (n : Int) (A : Option Addr) (p : Nat) (v3 : Value) (w : World) (hl : pre.length + bs.length ≤ 4096) (hX : ∀ b ∈ bs, X (bitVa b)) (hv : Hid (BitS w0 (.slice A bs.length p) bs))
    (HE : ∀ args w, (callFunc g args).run Tryz.prog w = .ok (.enter g args) w)
    (HT : Hid (Takes1 w0 X St g c1)) (HLs : Hid (Lasts St)) (hst : Hid (St pre w)) (hB : Hid (Below w0.heap.size w0 w)) :
    Calls Tryz.prog 80 #[.agg #[.int .i64 4, .int .i64 n, .slice A bs.length p, v3], .func (.func g) #[] #[c1]] w (EachPost w0 St (pre ++ bs.map bitVa)) := by
  have Y0 := below_alloc w (.cells #[.int .i64 4, .int .i64 n, .slice A bs.length p, v3] 38)
  have B0 := Lib.hid (below_then hB.out Y0)
  have S0 : Hid (St (pre ++ (bs.take 0).map bitVa) (w.alloc (.cells #[.int .i64 4, .int .i64 n, .slice A bs.length p, v3] 38))) := Lib.hid (by simpa using HLs.out _ _ _ hst.out Y0)
  have V0 := Lib.hid (box1 w 38 #[.int .i64 4, .int .i64 n, .slice A bs.length p, v3])
  clear Y0 hB hst
  obtain ⟨A9, c9, e9, g1, g2, g3, g4⟩ := hv.out
  obtain ⟨rfl, -, rfl⟩ := Value.slice.inj e9
  have HG3 := Lib.hid g3
  have HG4 := Lib.hid g4
  clear g1 g3 g4
  go_enter Tryz.func80, Tryz.ntmps80
  obtain ⟨vc_0, vc_1, vc_2, vc_3⟩ := four V0.out
  go_wp2_with fail
  clear vc_0 vc_1 vc_2 vc_3
  go_loopw [19] (fun i wr => ∃ k : Nat, k ≤ bs.length ∧ i = .int .i64 k ∧ Hid (St (pre ++ (bs.take k).map bitVa) wr) ∧ Hid (Below w0.heap.size w0 wr)) (fun i _ => bs.length - (intOf i).toNat)
  case atStart => exact ⟨0, Nat.zero_le _, rfl, S0, B0⟩
  case round =>
    obtain ⟨k, hk, rfl, NS, NB⟩ := hrel
    clear B0 S0 V0
    by_cases hlt : k < bs.length
    · have d1 : decide ((k : Int) < (bs.length : Int)) = true := by rw [decide_eq_true_eq]; omega
      have d2 : decide (k < bs.length) = true := by rw [decide_eq_true_eq]; omega
      have hki : (k : Int) < (bs.length : Int) := by omega
      have hk0 : (0 : Int) ≤ (k : Int) := by omega
      obtain ⟨b, off, rfl, hc⟩ := HG4.out.resolve_left (fun e => by rw [e] at hlt; exact absurd hlt (Nat.not_lt_zero _))
      have e0 := cell_stays NB.out (hc k hlt)
      have HZ := Lib.hid (HG3.out bs[k] (List.getElem_mem hlt))
      have HXx := Lib.hid (hX bs[k] (List.getElem_mem hlt))
      have HQ := Lib.hid (take_map_succ bitVa bs k hlt pre)
      have HLn := Lib.hid (show (pre ++ (bs.take k).map bitVa).length < 4096 by rw [List.length_append, List.length_map, List.length_take]; omega)
      generalize bs[k] = z at e0 HZ HXx HQ
      clear hc
      have HBV := Lib.hid (bitValue_new z HZ.out wr)
      unfold BitNew at HBV
      go_wp2_with fail
      refine (HBV.out).mono ?_
      rintro e w3 ⟨n9, rfl, hvp, hb⟩
      have HX := Lib.hid (HT.out _ _ _ _ _ HLn.out HXx.out NS.out NB.out hb hvp)
      unfold EachPost at HX
      rw [HQ.out] at HX
      clear hvp hb e0 HBV
      go_wp2_with fail
      refine (HX.out).mono ?_
      rintro e w4 ⟨rfl, h1, h2⟩
      have G1 := Lib.hid h1
      have G2 := Lib.hid h2
      clear h1 h2
      go_wp2
      go_roundw
      case rel => exact ⟨k + 1, by omega, by go_num, G1, G2⟩
      case measure => simp [intOf]; omega
    · obtain rfl : k = bs.length := by omega
      have d1 : decide ((bs.length : Int) < (bs.length : Int)) = false := by rw [decide_eq_false_iff_not]; omega
      have d2 : decide (bs.length < bs.length) = false := by rw [decide_eq_false_iff_not]; omega
      have HS9 := NS.out
      rw [List.take_length] at HS9
      have G1 := Lib.hid HS9
      clear HS9
      go_wp2
      go_returns
      exact ⟨rfl, G1.out, NB.out⟩
set_option maxRecDepth 100000 in
set_option maxHeartbeats 8000000 in
theorem each_arr1 (w0 : World) (X : Va → Prop) (St : List Va → World → Prop) (g : FuncId) (c1 : Value) (pre : List Va) (ls : List Va) (n : Int) (D : Option Addr) (c q b' o' : Nat) (v2 : Value) (w : World) (h64 : ls.length ≤ 4096) (HD : Hid (ls.length = 0 ∨ D = some ⟨b', o', none⟩)) (HV : Hid (VaAt w0 ls b' o' ∨ ls.length = 0))
    (HLn : Hid (∀ k, k < ls.length → (pre ++ ((ls.take k).map splitV).flatten).length + c ≤ 4096))
    (HS : Hid (∀ (k : Nat) (hk : k < ls.length) (u : World) (cs : List Value) (pr : List Va), VaC w0 ls[k] cs → Below w0.heap.size w0 u → St pr u → pr.length + c ≤ 4096 → Calls Tryz.prog 80 #[.agg cs.toArray, .func (.func g) #[] #[c1]] u (EachPost w0 St (pr ++ splitV ls[k]))))
    (_HE : ∀ args w, (callFunc g args).run Tryz.prog w = .ok (.enter g args) w)
    (_HT : Hid (Takes1 w0 X St g c1)) (HLs : Hid (Lasts St)) (hst : Hid (St pre w)) (hB : Hid (Below w0.heap.size w0 w)) :
    Calls Tryz.prog 80 #[.agg #[.int .i64 6, .int .i64 n, v2, .slice D ls.length q], .func (.func g) #[] #[c1]] w (EachPost w0 St (pre ++ (ls.map splitV).flatten)) := by
  have Y0 := below_alloc w (.cells #[.int .i64 6, .int .i64 n, v2, .slice D ls.length q] 38)
  have B0 := Lib.hid (below_then hB.out Y0)
  have S0 : Hid (St (pre ++ ((ls.take 0).map splitV).flatten) (w.alloc (.cells #[.int .i64 6, .int .i64 n, v2, .slice D ls.length q] 38))) := Lib.hid (by simpa using HLs.out _ _ _ hst.out Y0)
  have V0 := Lib.hid (box1 w 38 #[.int .i64 6, .int .i64 n, v2, .slice D ls.length q])
  clear Y0 hB hst
  go_enter Tryz.func80, Tryz.ntmps80
  obtain ⟨vc_0, vc_1, vc_2, vc_3⟩ := four V0.out
  go_wp2_with fail
  clear vc_0 vc_1 vc_2 vc_3
  go_loopw [33] (fun i wr => ∃ k : Nat, k ≤ ls.length ∧ i = .int .i64 k ∧ Hid (St (pre ++ ((ls.take k).map splitV).flatten) wr) ∧ Hid (Below w0.heap.size w0 wr)) (fun i _ => ls.length - (intOf i).toNat)
  case atStart => exact ⟨0, Nat.zero_le _, rfl, S0, B0⟩
  case round =>
    obtain ⟨k, hk, rfl, NS, NB⟩ := hrel
    clear B0 S0 V0
    by_cases hlt : k < ls.length
    · have hD : D = some ⟨b', o', none⟩ := HD.out.resolve_left (by omega)
      subst hD
      obtain ⟨kk2, nn2, A2, m2, c9, A3, m3, c8, hva, g0, g1, g2, g3⟩ := row_at ls o' (HV.out.resolve_right (by omega)) k hlt
      replace g0 := cell_stays NB.out g0
      replace g1 := cell_stays NB.out g1
      replace g2 := cell_stays NB.out g2
      replace g3 := cell_stays NB.out g3
      have hbb := below_alloc wr (.cells #[.int .i64 kk2, .int .i64 nn2, .slice A2 m2 c9, .slice A3 m3 c8] 38)
      have d1 : decide ((k : Int) < (ls.length : Int)) = true := by rw [decide_eq_true_eq]; omega
      have d2 : decide (k < ls.length) = true := by rw [decide_eq_true_eq]; omega
      have hki : (k : Int) < (ls.length : Int) := by omega
      have hk0 : (0 : Int) ≤ (k : Int) := by omega
      have HX := Lib.hid (HS.out k hlt _ _ _ hva (below_then NB.out hbb) (HLs.out _ _ _ NS.out hbb) (HLn.out k hlt))
      unfold EachPost at HX
      rw [take_flat_succ ls k hlt pre] at HX
      clear hva hbb
      go_wp2_with fail
      refine (HX.out).mono ?_
      rintro e w4 ⟨rfl, h1, h2⟩
      have G1 := Lib.hid h1
      have G2 := Lib.hid h2
      clear h1 h2
      go_wp2
      go_roundw
      case rel => exact ⟨k + 1, by omega, by go_num, G1, G2⟩
      case measure => simp [intOf]; omega
    · obtain rfl : k = ls.length := by omega
      have d1 : decide ((ls.length : Int) < (ls.length : Int)) = false := by rw [decide_eq_false_iff_not]; omega
      have d2 : decide (ls.length < ls.length) = false := by rw [decide_eq_false_iff_not]; omega
      have HS9 := NS.out
      rw [List.take_length] at HS9
      have G1 := Lib.hid HS9
      clear HS9
      go_wp2
      go_returns
      exact ⟨rfl, G1.out, NB.out⟩
theorem each_good1 {t : Ty} {v : Va} (ht : Good isNameL t) (hh : HasG t v) (hsm : smV v) (w0 : World) (X : Va → Prop) (St : List Va → World → Prop) (g : FuncId) (c1 : Value) (pre : List Va) (cs : List Value) (w : World) (hl : pre.length + countT t ≤ 4096) (hX : ∀ x ∈ splitV v, X x) (hv : VaC w0 v cs)
    (HE : ∀ args w, (callFunc g args).run Tryz.prog w = .ok (.enter g args) w)
    (HT : Hid (Takes1 w0 X St g c1)) (HLs : Hid (Lasts St)) (hst : Hid (St pre w)) (hB : Hid (Below w0.heap.size w0 w)) :
    Calls Tryz.prog 80 #[.agg cs.toArray, .func (.func g) #[] #[c1]] w (EachPost w0 St (pre ++ splitV v)) := by
  have key : ∀ (e : Ty) (x : Va) (cs : List Value) (pr : List Va) (u : World), Flat isNameL e → HasF e x → smV x → pr.length + countT e ≤ 4096 → (∀ y ∈ splitV x, X y) → VaC w0 x cs → St pr u → Below w0.heap.size w0 u → Calls Tryz.prog 80 #[.agg cs.toArray, .func (.func g) #[] #[c1]] u (EachPost w0 St (pr ++ splitV x)) := by
    intro e x cs pr u he hx hsx hlx hXx hvx hsu hbu
    have hvx0 := hvx
    obtain ⟨A, n, c, B, m, d, rfl, g1, g2, g3, g4, g5, g6⟩ := vaC_open hvx
    by_cases h4 : e.kind = 4
    · obtain ⟨kx, nx, bs, ls⟩ := x
      have hk : kx = e.kind := has_kind (of_hasF hx)
      obtain rfl : kx = 4 := hk.trans h4
      obtain rfl : n = bs.length := g1
      have hcs : splitV (.mk 4 nx bs ls) = bs.map bitVa := by rw [splitV_def, if_pos rfl]
      have hcl := (flat_split he hx).1
      rw [hcs] at hXx hcl ⊢
      rw [List.length_map] at hcl
      exact each_vec1 w0 X St g c1 pr bs _ _ _ _ u (by omega) (fun b hb => hXx _ (List.mem_map.2 ⟨b, hb, rfl⟩)) g3 HE HT HLs hsu hbu
    · have h6 := (flat_kind he).1
      have hk : x.kind = e.kind := has_kind (of_hasF hx)
      have hs : splitV x = [x] := by
        obtain ⟨kx, nx, bs, ls⟩ := x
        have hk : kx = e.kind := hk
        rw [splitV_def, if_neg (by omega), if_neg (by omega)]
      have hcl := (flat_split he hx).1
      rw [hs] at hXx hcl ⊢
      exact each_flat1 w0 X St g c1 pr x _ _ _ _ _ _ _ _ u (by rw [beq_eq_false_iff_ne]; omega) (by rw [beq_eq_false_iff_ne]; omega) hsx (by rw [← hcl] at hlx; simp at hlx; omega) (hXx x (by simp)) hvx0 HE HT HLs hsu hbu
  cases ht with
  | flat t ht =>
    cases hh with
    | arr l nm ns e ls hl h => exact absurd rfl (flat_kind ht).1
    | flat _ _ hf => exact key t v cs pre w ht hf hsm hl hX hv hst.out hB.out
  | arr l e h1 h2 he =>
    cases hh with
    | flat _ _ hf => cases hf
    | arr _ _ _ _ ls hls hh =>
      obtain ⟨A, n, c, B, m, d, rfl, g1, g2, g3, g4, g5, g6⟩ := vaC_open hv
      obtain rfl : m = ls.length := g2
      obtain ⟨b', o', d1, d2⟩ := va_rows (ls := ls) g6
      have hcs : splitV (.mk 6 0 [] ls) = (ls.map splitV).flatten := by rw [splitV_def, if_neg (by omega), if_pos rfl, splitVs_eq]
      rw [hcs] at hX ⊢
      rw [countT_arr, Int.toNat_natCast] at hl
      have hce := (flat_count he).2
      have hsz : ∀ x ∈ ls, (splitV x).length = countT e := fun x hx => (flat_split he (hh x hx)).1
      have hll : ls.length = l := by omega
      exact each_arr1 w0 X St g c1 pre ls _ _ (countT e) _ b' o' _ w (by omega) d1 d2 (fun k hk => by
          rw [List.length_append, flat_len_sum splitV (countT e) _ (fun x hx => hsz x (List.mem_of_mem_take hx)), List.length_take, Nat.min_eq_left (by omega)]
          have := Nat.mul_le_mul_right (countT e) (show k + 1 ≤ l by omega)
          rw [Nat.succ_mul] at this
          omega)
        (fun k hk u cs pr hva hbu hsu hlu => key e ls[k] cs pr u he (hh _ (List.getElem_mem hk)) (((smV_def _ _ _ _).1 hsm).2.2 _ (List.getElem_mem hk)) (by omega) (fun y hy => hX y (List.mem_flatten.2 ⟨_, List.mem_map.2 ⟨_, List.getElem_mem hk, rfl⟩, hy⟩)) hva hsu hbu) HE HT HLs hst hB
/-- A function that takes values one after another (handed over: c1, c2). -/
def Takes2 (w0 : World) (X : Va → Prop) (St : List Va → World → Prop) (g : FuncId) (c1 c2 : Value) : Prop :=
  ∀ ls x cs u0 u, ls.length < 4096 → X x → St ls u0 → Below w0.heap.size w0 u0 → Below u0.heap.size u0 u → VaP (fun b => u0.heap.size ≤ b) u x cs → Calls Tryz.prog g #[.agg cs.toArray, c1, c2] u (EachPost w0 St (ls ++ [x]))
set_option maxRecDepth 100000 in
set_option maxHeartbeats 8000000 in
theorem each_flat2 (w0 : World) (X : Va → Prop) (St : List Va → World → Prop) (g : FuncId) (c1 c2 : Value) (pre : List Va) (v : Va) (k n : Int) (A D : Option Addr) (x p y q : Nat) (w : World) (h4 : (k == 4) = false) (h6 : (k == 6) = false) (hsm : smV v) (hl : pre.length < 4096) (hX : X v) (hv : Hid (VaC w0 v [.int .i64 k, .int .i64 n, .slice A x p, .slice D y q]))
    (HE : ∀ args w, (callFunc g args).run Tryz.prog w = .ok (.enter g args) w)
    (HT : Hid (Takes2 w0 X St g c1 c2)) (HLs : Hid (Lasts St)) (hst : Hid (St pre w)) (hB : Hid (Below w0.heap.size w0 w)) :
    Calls Tryz.prog 80 #[.agg #[.int .i64 k, .int .i64 n, .slice A x p, .slice D y q], .func (.func g) #[] #[c1, c2]] w (EachPost w0 St (pre ++ [v])) := by
  have Y0 := below_alloc w (.cells #[.int .i64 k, .int .i64 n, .slice A x p, .slice D y q] 38)
  have B0 := Lib.hid (below_then hB.out Y0)
  have S0 := Lib.hid (HLs.out _ _ _ hst.out Y0)
  have V0 := Lib.hid (box1 w 38 #[.int .i64 k, .int .i64 n, .slice A x p, .slice D y q])
  have HC := Lib.hid (pclone_any v _ _ hsm (VaC.later B0.out _ _ hv.out))
  clear Y0 hB hst
  go_enter Tryz.func80, Tryz.ntmps80
  obtain ⟨vc_0, vc_1, vc_2, vc_3⟩ := four V0.out
  go_wp2_with fail
  refine (HC.out).mono ?_
  rintro e w1 hc
  obtain ⟨A1, n1, c3, B1, m1, d1, rfl, hvp, hb⟩ := copy_vaP hc
  have HX := Lib.hid (HT.out pre v _ _ _ hl hX S0.out B0.out hb hvp)
  unfold EachPost at HX
  clear hc hvp hb
  clear vc_0 vc_1 vc_2 vc_3
  go_wp2_with fail
  refine (HX.out).mono ?_
  rintro e w2 ⟨rfl, h1, h2⟩
  have G1 := Lib.hid h1
  have G2 := Lib.hid h2
  clear h1 h2
  go_wp2
  go_returns
  exact ⟨rfl, G1.out, G2.out⟩
set_option maxRecDepth 100000 in
set_option maxHeartbeats 8000000 in
theorem each_vec2 (w0 : World) (X : Va → Prop) (St : List Va → World → Prop) (g : FuncId) (c1 c2 : Value) (pre : List Va) (bs : List Nat) (n : Int) (A : Option Addr) (p : Nat) (v3 : Value) (w : World) (hl : pre.length + bs.length ≤ 4096) (hX : ∀ b ∈ bs, X (bitVa b)) (hv : Hid (BitS w0 (.slice A bs.length p) bs))
    (HE : ∀ args w, (callFunc g args).run Tryz.prog w = .ok (.enter g args) w)
    (HT : Hid (Takes2 w0 X St g c1 c2)) (HLs : Hid (Lasts St)) (hst : Hid (St pre w)) (hB : Hid (Below w0.heap.size w0 w)) :
    Calls Tryz.prog 80 #[.agg #[.int .i64 4, .int .i64 n, .slice A bs.length p, v3], .func (.func g) #[] #[c1, c2]] w (EachPost w0 St (pre ++ bs.map bitVa)) := by
  have Y0 := below_alloc w (.cells #[.int .i64 4, .int .i64 n, .slice A bs.length p, v3] 38)
  have B0 := Lib.hid (below_then hB.out Y0)
  have S0 : Hid (St (pre ++ (bs.take 0).map bitVa) (w.alloc (.cells #[.int .i64 4, .int .i64 n, .slice A bs.length p, v3] 38))) := Lib.hid (by simpa using HLs.out _ _ _ hst.out Y0)
  have V0 := Lib.hid (box1 w 38 #[.int .i64 4, .int .i64 n, .slice A bs.length p, v3])
  clear Y0 hB hst
  obtain ⟨A9, c9, e9, g1, g2, g3, g4⟩ := hv.out
  obtain ⟨rfl, -, rfl⟩ := Value.slice.inj e9
  have HG3 := Lib.hid g3
  have HG4 := Lib.hid g4
  clear g1 g3 g4
  go_enter Tryz.func80, Tryz.ntmps80
  obtain ⟨vc_0, vc_1, vc_2, vc_3⟩ := four V0.out
  go_wp2_with fail
  clear vc_0 vc_1 vc_2 vc_3
  go_loopw [19] (fun i wr => ∃ k : Nat, k ≤ bs.length ∧ i = .int .i64 k ∧ Hid (St (pre ++ (bs.take k).map bitVa) wr) ∧ Hid (Below w0.heap.size w0 wr)) (fun i _ => bs.length - (intOf i).toNat)
  case atStart => exact ⟨0, Nat.zero_le _, rfl, S0, B0⟩
  case round =>
    obtain ⟨k, hk, rfl, NS, NB⟩ := hrel
    clear B0 S0 V0
    by_cases hlt : k < bs.length
    · have d1 : decide ((k : Int) < (bs.length : Int)) = true := by rw [decide_eq_true_eq]; omega
      have d2 : decide (k < bs.length) = true := by rw [decide_eq_true_eq]; omega
      have hki : (k : Int) < (bs.length : Int) := by omega
      have hk0 : (0 : Int) ≤ (k : Int) := by omega
      obtain ⟨b, off, rfl, hc⟩ := HG4.out.resolve_left (fun e => by rw [e] at hlt; exact absurd hlt (Nat.not_lt_zero _))
      have e0 := cell_stays NB.out (hc k hlt)
      have HZ := Lib.hid (HG3.out bs[k] (List.getElem_mem hlt))
      have HXx := Lib.hid (hX bs[k] (List.getElem_mem hlt))
      have HQ := Lib.hid (take_map_succ bitVa bs k hlt pre)
      have HLn := Lib.hid (show (pre ++ (bs.take k).map bitVa).length < 4096 by rw [List.length_append, List.length_map, List.length_take]; omega)
      generalize bs[k] = z at e0 HZ HXx HQ
      clear hc
      have HBV := Lib.hid (bitValue_new z HZ.out wr)
      unfold BitNew at HBV
      go_wp2_with fail
      refine (HBV.out).mono ?_
      rintro e w3 ⟨n9, rfl, hvp, hb⟩
      have HX := Lib.hid (HT.out _ _ _ _ _ HLn.out HXx.out NS.out NB.out hb hvp)
      unfold EachPost at HX
      rw [HQ.out] at HX
      clear hvp hb e0 HBV
      go_wp2_with fail
      refine (HX.out).mono ?_
      rintro e w4 ⟨rfl, h1, h2⟩
      have G1 := Lib.hid h1
      have G2 := Lib.hid h2
      clear h1 h2
      go_wp2
      go_roundw
      case rel => exact ⟨k + 1, by omega, by go_num, G1, G2⟩
      case measure => simp [intOf]; omega
    · obtain rfl : k = bs.length := by omega
      have d1 : decide ((bs.length : Int) < (bs.length : Int)) = false := by rw [decide_eq_false_iff_not]; omega
      have d2 : decide (bs.length < bs.length) = false := by rw [decide_eq_false_iff_not]; omega
      have HS9 := NS.out
      rw [List.take_length] at HS9
      have G1 := Lib.hid HS9
      clear HS9
      go_wp2
      go_returns
      exact ⟨rfl, G1.out, NB.out⟩
set_option maxRecDepth 100000 in
set_option maxHeartbeats 8000000 in
theorem each_arr2 (w0 : World) (X : Va → Prop) (St : List Va → World → Prop) (g : FuncId) (c1 c2 : Value) (pre : List Va) (ls : List Va) (n : Int) (D : Option Addr) (c q b' o' : Nat) (v2 : Value) (w : World) (h64 : ls.length ≤ 4096) (HD : Hid (ls.length = 0 ∨ D = some ⟨b', o', none⟩)) (HV : Hid (VaAt w0 ls b' o' ∨ ls.length = 0))
    (HLn : Hid (∀ k, k < ls.length → (pre ++ ((ls.take k).map splitV).flatten).length + c ≤ 4096))
    (HS : Hid (∀ (k : Nat) (hk : k < ls.length) (u : World) (cs : List Value) (pr : List Va), VaC w0 ls[k] cs → Below w0.heap.size w0 u → St pr u → pr.length + c ≤ 4096 → Calls Tryz.prog 80 #[.agg cs.toArray, .func (.func g) #[] #[c1, c2]] u (EachPost w0 St (pr ++ splitV ls[k]))))
    (_HE : ∀ args w, (callFunc g args).run Tryz.prog w = .ok (.enter g args) w)
    (_HT : Hid (Takes2 w0 X St g c1 c2)) (HLs : Hid (Lasts St)) (hst : Hid (St pre w)) (hB : Hid (Below w0.heap.size w0 w)) :
    Calls Tryz.prog 80 #[.agg #[.int .i64 6, .int .i64 n, v2, .slice D ls.length q], .func (.func g) #[] #[c1, c2]] w (EachPost w0 St (pre ++ (ls.map splitV).flatten)) := by
  have Y0 := below_alloc w (.cells #[.int .i64 6, .int .i64 n, v2, .slice D ls.length q] 38)
  have B0 := Lib.hid (below_then hB.out Y0)
  have S0 : Hid (St (pre ++ ((ls.take 0).map splitV).flatten) (w.alloc (.cells #[.int .i64 6, .int .i64 n, v2, .slice D ls.length q] 38))) := Lib.hid (by simpa using HLs.out _ _ _ hst.out Y0)
  have V0 := Lib.hid (box1 w 38 #[.int .i64 6, .int .i64 n, v2, .slice D ls.length q])
  clear Y0 hB hst
  go_enter Tryz.func80, Tryz.ntmps80
  obtain ⟨vc_0, vc_1, vc_2, vc_3⟩ := four V0.out
  go_wp2_with fail
  clear vc_0 vc_1 vc_2 vc_3
  go_loopw [33] (fun i wr => ∃ k : Nat, k ≤ ls.length ∧ i = .int .i64 k ∧ Hid (St (pre ++ ((ls.take k).map splitV).flatten) wr) ∧ Hid (Below w0.heap.size w0 wr)) (fun i _ => ls.length - (intOf i).toNat)
  case atStart => exact ⟨0, Nat.zero_le _, rfl, S0, B0⟩
  case round =>
    obtain ⟨k, hk, rfl, NS, NB⟩ := hrel
    clear B0 S0 V0
    by_cases hlt : k < ls.length
    · have hD : D = some ⟨b', o', none⟩ := HD.out.resolve_left (by omega)
      subst hD
      obtain ⟨kk2, nn2, A2, m2, c9, A3, m3, c8, hva, g0, g1, g2, g3⟩ := row_at ls o' (HV.out.resolve_right (by omega)) k hlt
      replace g0 := cell_stays NB.out g0
      replace g1 := cell_stays NB.out g1
      replace g2 := cell_stays NB.out g2
      replace g3 := cell_stays NB.out g3
      have hbb := below_alloc wr (.cells #[.int .i64 kk2, .int .i64 nn2, .slice A2 m2 c9, .slice A3 m3 c8] 38)
      have d1 : decide ((k : Int) < (ls.length : Int)) = true := by rw [decide_eq_true_eq]; omega
      have d2 : decide (k < ls.length) = true := by rw [decide_eq_true_eq]; omega
      have hki : (k : Int) < (ls.length : Int) := by omega
      have hk0 : (0 : Int) ≤ (k : Int) := by omega
      have HX := Lib.hid (HS.out k hlt _ _ _ hva (below_then NB.out hbb) (HLs.out _ _ _ NS.out hbb) (HLn.out k hlt))
      unfold EachPost at HX
      rw [take_flat_succ ls k hlt pre] at HX
      clear hva hbb
      go_wp2_with fail
      refine (HX.out).mono ?_
      rintro e w4 ⟨rfl, h1, h2⟩
      have G1 := Lib.hid h1
      have G2 := Lib.hid h2
      clear h1 h2
      go_wp2
      go_roundw
      case rel => exact ⟨k + 1, by omega, by go_num, G1, G2⟩
      case measure => simp [intOf]; omega
    · obtain rfl : k = ls.length := by omega
      have d1 : decide ((ls.length : Int) < (ls.length : Int)) = false := by rw [decide_eq_false_iff_not]; omega
      have d2 : decide (ls.length < ls.length) = false := by rw [decide_eq_false_iff_not]; omega
      have HS9 := NS.out
      rw [List.take_length] at HS9
      have G1 := Lib.hid HS9
      clear HS9
      go_wp2
      go_returns
      exact ⟨rfl, G1.out, NB.out⟩
theorem each_good2 {t : Ty} {v : Va} (ht : Good isNameL t) (hh : HasG t v) (hsm : smV v) (w0 : World) (X : Va → Prop) (St : List Va → World → Prop) (g : FuncId) (c1 c2 : Value) (pre : List Va) (cs : List Value) (w : World) (hl : pre.length + countT t ≤ 4096) (hX : ∀ x ∈ splitV v, X x) (hv : VaC w0 v cs)
    (HE : ∀ args w, (callFunc g args).run Tryz.prog w = .ok (.enter g args) w)
    (HT : Hid (Takes2 w0 X St g c1 c2)) (HLs : Hid (Lasts St)) (hst : Hid (St pre w)) (hB : Hid (Below w0.heap.size w0 w)) :
    Calls Tryz.prog 80 #[.agg cs.toArray, .func (.func g) #[] #[c1, c2]] w (EachPost w0 St (pre ++ splitV v)) := by
  have key : ∀ (e : Ty) (x : Va) (cs : List Value) (pr : List Va) (u : World), Flat isNameL e → HasF e x → smV x → pr.length + countT e ≤ 4096 → (∀ y ∈ splitV x, X y) → VaC w0 x cs → St pr u → Below w0.heap.size w0 u → Calls Tryz.prog 80 #[.agg cs.toArray, .func (.func g) #[] #[c1, c2]] u (EachPost w0 St (pr ++ splitV x)) := by
    intro e x cs pr u he hx hsx hlx hXx hvx hsu hbu
    have hvx0 := hvx
    obtain ⟨A, n, c, B, m, d, rfl, g1, g2, g3, g4, g5, g6⟩ := vaC_open hvx
    by_cases h4 : e.kind = 4
    · obtain ⟨kx, nx, bs, ls⟩ := x
      have hk : kx = e.kind := has_kind (of_hasF hx)
      obtain rfl : kx = 4 := hk.trans h4
      obtain rfl : n = bs.length := g1
      have hcs : splitV (.mk 4 nx bs ls) = bs.map bitVa := by rw [splitV_def, if_pos rfl]
      have hcl := (flat_split he hx).1
      rw [hcs] at hXx hcl ⊢
      rw [List.length_map] at hcl
      exact each_vec2 w0 X St g c1 c2 pr bs _ _ _ _ u (by omega) (fun b hb => hXx _ (List.mem_map.2 ⟨b, hb, rfl⟩)) g3 HE HT HLs hsu hbu
    · have h6 := (flat_kind he).1
      have hk : x.kind = e.kind := has_kind (of_hasF hx)
      have hs : splitV x = [x] := by
        obtain ⟨kx, nx, bs, ls⟩ := x
        have hk : kx = e.kind := hk
        rw [splitV_def, if_neg (by omega), if_neg (by omega)]
      have hcl := (flat_split he hx).1
      rw [hs] at hXx hcl ⊢
      exact each_flat2 w0 X St g c1 c2 pr x _ _ _ _ _ _ _ _ u (by rw [beq_eq_false_iff_ne]; omega) (by rw [beq_eq_false_iff_ne]; omega) hsx (by rw [← hcl] at hlx; simp at hlx; omega) (hXx x (by simp)) hvx0 HE HT HLs hsu hbu
  cases ht with
  | flat t ht =>
    cases hh with
    | arr l nm ns e ls hl h => exact absurd rfl (flat_kind ht).1
    | flat _ _ hf => exact key t v cs pre w ht hf hsm hl hX hv hst.out hB.out
  | arr l e h1 h2 he =>
    cases hh with
    | flat _ _ hf => cases hf
    | arr _ _ _ _ ls hls hh =>
      obtain ⟨A, n, c, B, m, d, rfl, g1, g2, g3, g4, g5, g6⟩ := vaC_open hv
      obtain rfl : m = ls.length := g2
      obtain ⟨b', o', d1, d2⟩ := va_rows (ls := ls) g6
      have hcs : splitV (.mk 6 0 [] ls) = (ls.map splitV).flatten := by rw [splitV_def, if_neg (by omega), if_pos rfl, splitVs_eq]
      rw [hcs] at hX ⊢
      rw [countT_arr, Int.toNat_natCast] at hl
      have hce := (flat_count he).2
      have hsz : ∀ x ∈ ls, (splitV x).length = countT e := fun x hx => (flat_split he (hh x hx)).1
      have hll : ls.length = l := by omega
      exact each_arr2 w0 X St g c1 c2 pre ls _ _ (countT e) _ b' o' _ w (by omega) d1 d2 (fun k hk => by
          rw [List.length_append, flat_len_sum splitV (countT e) _ (fun x hx => hsz x (List.mem_of_mem_take hx)), List.length_take, Nat.min_eq_left (by omega)]
          have := Nat.mul_le_mul_right (countT e) (show k + 1 ≤ l by omega)
          rw [Nat.succ_mul] at this
          omega)
        (fun k hk u cs pr hva hbu hsu hlu => key e ls[k] cs pr u he (hh _ (List.getElem_mem hk)) (((smV_def _ _ _ _).1 hsm).2.2 _ (List.getElem_mem hk)) (by omega) (fun y hy => hX y (List.mem_flatten.2 ⟨_, List.mem_map.2 ⟨_, List.getElem_mem hk, rfl⟩, hy⟩)) hva hsu hbu) HE HT HLs hst hB
end Go.Proofs.YtdiagnhdigakpaaGreatDoor
