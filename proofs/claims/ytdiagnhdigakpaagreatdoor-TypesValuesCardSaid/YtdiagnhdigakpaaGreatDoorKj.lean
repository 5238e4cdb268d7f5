/- The contracts of the program's read and Parse. -/
import Derived.Test.YtdiagnhdigakpaaGreatDoorKi
namespace Go.Proofs.YtdiagnhdigakpaaGreatDoor
open Go.RowKit

theorem pread_any {t : Ty} {s : ByteArray} {w : World} {cs : List Value} (ht : Good isNameL t) (hw : Std w) (hs : s.size < 4294967281) (h : TyC w t cs) :
    Calls Tryz.prog 86 #[.agg cs.toArray, .string s] w (ReadOf t (bl s) w) := by
  cases ht with
  | flat t ht => exact pread_flat ht hw (by omega) h
  | arr l e h1 h2 he =>
    have hF : ∀ x, hasV (.mk 6 l noName [] [e]) x = true → HasG (.mk 6 l noName [] [e]) x := fun x hx => hasG_of (.arr l e h1 h2 he) hx
    obtain ⟨A, n, c, B, m, d, rfl, hn, rfl, hst, hT⟩ := tyC_open h
    rcases hT with hT | ⟨b, off, rfl, hT⟩
    · cases hT
    obtain ⟨A1, n1, c1, A2, n2, c2, k1, k5⟩ := one_open hT
    refine (read_arr l h1 h2 noName _ b off d e.kind e.len e.name A1 A2 n1 c1 n2 c2 s hs e w hw k5 (fun u x hu hx => pread_flat he (hw.later hu) (by omega) (TyC.later hu _ _ k1))).mono ?_
    rintro ee w' ⟨vs, hc, hl, hu⟩
    refine ⟨_, hc, fun x hx he2 => ?_⟩
    cases hF x hx with
    | flat _ _ hv => cases hv
    | arr _ _ _ _ ls hll hh =>
    rw [textV_arr] at he2
    have hm : midL (bl s) [91] [93] = [44].intercalate (ls.map fun v => textV e v) := by
      rw [← he2, show (91 :: ([44].intercalate (ls.map fun v => textV e v) ++ [93]) : List UInt8) = [91] ++ ([44].intercalate (ls.map fun v => textV e v) ++ [93]) from rfl, mid_of]
    have hp := pieces_join (l := l) (xs := ls.map fun v => textV e v) h1 (by rw [List.length_map]; omega) (by
      intro y hy
      obtain ⟨v, hv, rfl⟩ := List.mem_map.1 hy
      exact flat_comma he (hh v hv)) (m := sb (midL (bl s) [91] [93])) (by rw [bl_sb, hm])
    have hpl := congrArg List.length hp
    rw [List.length_map, List.length_map] at hpl
    have : vs = ls := by
      apply List.ext_getElem (by omega)
      intro j hj hj'
      have hjp : j < (piecesB l (sb (midL (bl s) [91] [93]))).length := by omega
      refine hu j hj hjp _ (of_hasF (hh _ (List.getElem_mem hj'))) ?_
      have := List.getElem_of_eq hp.symm (i := j) (by rw [List.length_map]; exact hj')
      rw [List.getElem_map, List.getElem_map] at this
      exact this
    rw [this]
theorem copy_vaP {u w' : World} {v : Va} {e : Ending} (h : CopyOf u v e w') : ∃ A n c B m d, e = .returned (.agg #[.int .i64 v.kind, .int .i64 v.n, .slice A n c, .slice B m d]) ∧ VaP (fun b => u.heap.size ≤ b) w' v [.int .i64 v.kind, .int .i64 v.n, .slice A n c, .slice B m d] ∧ Below u.heap.size u w' := by
  obtain ⟨vb, vl, rfl, ho, hv, hb⟩ := h
  obtain ⟨A, c, e1, -⟩ := ho.sl
  obtain ⟨B, d, e2⟩ := hv.shape
  subst e1
  subst e2
  obtain ⟨k, n, bs, ls⟩ := v
  exact ⟨_, _, _, _, _, _, rfl, vaP_iff.2 ⟨_, _, rfl, own_bitP ho (fun b hb _ => hb), hv.vas (fun b hb _ => hb) (fun b hb _ => hb)⟩, hb⟩
theorem VaP.set {S : Nat → Prop} {w : World} {v : Va} {cs : List Value} (h : VaP S w v cs) {a : Addr} (hS : ∀ b, S b → b ≠ a.block) (u : Value) : VaP S (w.setCell a u) v cs :=
  VaP.turn (fun b hb _ => ⟨hb, Below.heap_setCell _ _ _ _ (hS b hb)⟩) _ _ h
theorem VaP.set4 {S : Nat → Prop} {w : World} {v : Va} {cs : List Value} (h : VaP S w v cs) {g : Nat} (hS : ∀ b, S b → b ≠ g) (a b c d : Value) : VaP S ((((w.setCell ⟨g, 0, none⟩ a).setCell ⟨g, 1, none⟩ b).setCell ⟨g, 2, none⟩ c).setCell ⟨g, 3, none⟩ d) v cs :=
  (((h.set (a := ⟨g, 0, none⟩) hS a).set (a := ⟨g, 1, none⟩) hS b).set (a := ⟨g, 2, none⟩) hS c).set (a := ⟨g, 3, none⟩) hS d
def zeroV : Va := .mk 0 0 [] []
theorem zero_c (w : World) : VaC w zeroV [.int .i64 0, .int .i64 0, .slice none 0 0, .slice none 0 0] := by
  unfold zeroV
  rw [VaC]
  exact ⟨_, none, 0, rfl, ⟨none, 0, rfl, by simp, by simp, by simp, .inl rfl⟩, by simp, by simp, .inl rfl⟩
/-- What Parse returns of a type that may be valid. -/
def ParsedAs (a : Bool) (t : Ty) (s : List UInt8) (v : Va) (E : Nat) : Prop :=
  (a = false ∧ v = zeroV ∧ E = 2) ∨ (a = true ∧ hasV t v = true ∧ textV t v = s ∧ E = 0) ∨ (a = true ∧ (∀ x, hasV t x = true → textV t x ≠ s) ∧ v = zeroV ∧ E = 44)
def ParsePost (a : Bool) (t : Ty) (s : List UInt8) (w : World) (e : Ending) (w' : World) : Prop :=
  ∃ (v : Va) (E : Nat) (A : Option Addr) (n c : Nat) (B : Option Addr) (m d : Nat), e = .returned (.tuple #[.agg #[.int .i64 v.kind, .int .i64 v.n, .slice A n c, .slice B m d], .int .i64 (E : Nat)]) ∧ VaC w' v [.int .i64 v.kind, .int .i64 v.n, .slice A n c, .slice B m d] ∧ ParsedAs a t s v E ∧ Below w.heap.size w w'
set_option maxRecDepth 100000 in
set_option maxHeartbeats 8000000 in
theorem parse_gen (t : Ty) (k l : Int) (nm : ByteArray) (v3 v4 : Value) (s : ByteArray) (a : Bool) (w : World)
    (HA : Hid (∀ u, Below w.heap.size w u → Calls Tryz.prog 16 #[.agg #[.int .i64 k, .int .i64 l, .string nm, v3, v4]] u fun e w' => e = .returned (.bool a) ∧ Below u.heap.size u w'))
    (HR : Hid (a = true → ∀ u, Below w.heap.size w u → Calls Tryz.prog 86 #[.agg #[.int .i64 k, .int .i64 l, .string nm, v3, v4], .string s] u (ReadOf t (bl s) u)))
    (HF : Hid (a = true → ∀ u v cs, Below w.heap.size w u → VaC u v cs → Calls Tryz.prog 74 #[.agg #[.int .i64 k, .int .i64 l, .string nm, v3, v4], .agg cs.toArray] u fun e w' => e = .returned (.bool (hasV t v)) ∧ Below u.heap.size u w'))
    (HW : Hid (a = true → ∀ u v cs, Below w.heap.size w u → hasV t v = true → VaC u v cs → Calls Tryz.prog 78 #[.agg #[.int .i64 k, .int .i64 l, .string nm, v3, v4], .agg cs.toArray] u (WriPost (textV t v) u))) :
    Calls Tryz.prog 42 #[.agg #[.int .i64 k, .int .i64 l, .string nm, v3, v4], .string s] w (ParsePost a t (bl s) w) := by
  have H2 := Lib.hid (boxes2 w 26 38 #[.int .i64 k, .int .i64 l, .string nm, v3, v4] #[.int .i64 0, .int .i64 0, .slice none 0 0, .slice none 0 0])
  have H0 := Lib.hid H2.out.2.2.1
  have hs4 : w.heap.size ≤ w.heap.size + 1 := by omega
  cases a
  · clear HR HF HW
    go_enter Tryz.func42, Tryz.ntmps42
    go_wp2_with fail
    refine (HA.out _ H0.out).mono ?_
    rintro e w1 ⟨rfl, hb1⟩
    have H1 := Lib.hid (below_then H0.out hb1)
    have K1 := Lib.hid (H2.out.2.1.later hb1)
    obtain ⟨c0, c1, c2, c3⟩ := four K1.out
    have f0 := K1.out.free 0
    have f1 := K1.out.free 1
    have f2 := K1.out.free 2
    have f3 := K1.out.free 3
    clear hb1
    go_wp2
    refine bodyPost_ret (by simp [results, Tryz.results42, go_sem, c0, c1, c2, c3]; try rfl) rfl ?_
    exact ⟨zeroV, 2, none, 0, 0, none, 0, 0, rfl, zero_c _, .inl ⟨rfl, rfl, rfl⟩, set4_below H1.out hs4 _ _ _ _⟩
  · have HRY := Lib.hid (HR.out rfl)
    have HFY := Lib.hid (HF.out rfl)
    have HWY := Lib.hid (HW.out rfl)
    clear HR HF HW
    go_enter Tryz.func42, Tryz.ntmps42
    go_wp2_with fail
    refine (HA.out _ H0.out).mono ?_
    rintro e w1 ⟨rfl, hb1⟩
    have H1 := Lib.hid (below_then H0.out hb1)
    have K1 := Lib.hid (H2.out.2.1.later hb1)
    have T1 := Lib.hid (H2.out.1.later hb1)
    have HZ := Lib.hid (Nat.le_trans (show w.heap.size + 2 ≤ _ by have := H2.out.2.1.lt; omega) hb1.size)
    obtain ⟨p0, p1, p2, p3, p4⟩ := fives T1.out
    clear hb1
    go_wp2_with fail
    refine (HRY.out _ H1.out).mono ?_
    rintro e w2 ⟨v, hc, hu⟩
    obtain ⟨A, n, c, B, m, d, rfl, hvp, hb2⟩ := copy_vaP hc
    have HU := Lib.hid hu
    have VB : Hid (Below w2.heap.size w2 (w2.alloc (.cells #[.int .i64 v.kind, .int .i64 v.n, .slice A n c, .slice B m d] 38))) := below_alloc _ _
    have VP := Lib.hid ((hvp.mono (S' := fun b => w.heap.size + 2 ≤ b) (fun b hb _ => by have := HZ.out; omega)).later VB.out)
    have H3 := Lib.hid (below_then (below_then H1.out hb2) VB.out)
    have K3 := Lib.hid ((K1.out.later hb2).later VB.out)
    have T3 := Lib.hid ((T1.out.later hb2).later VB.out)
    have V3 : Hid (Blk (w2.alloc (.cells #[.int .i64 v.kind, .int .i64 v.n, .slice A n c, .slice B m d] 38)) w2.heap.size 38 #[.int .i64 v.kind, .int .i64 v.n, .slice A n c, .slice B m d]) := Blk.new _ _ _
    have HFv := Lib.hid (HFY.out _ v _ H3.out (VaP.toC _ _ VP.out))
    have HWv := Lib.hid (fun (hh : hasV t v = true) (u : World) (hbu : Below (w2.alloc (.cells #[.int .i64 v.kind, .int .i64 v.n, .slice A n c, .slice B m d] 38)).heap.size (w2.alloc (.cells #[.int .i64 v.kind, .int .i64 v.n, .slice A n c, .slice B m d] 38)) u) => HWY.out u v _ (below_then H3.out hbu) hh (VaP.toC _ _ (VP.out.later hbu)))
    clear p0 p1 p2 p3 p4 hc hu hvp hb2 HFY HWY HRY
    obtain ⟨p0, p1, p2, p3, p4⟩ := fives T3.out
    obtain ⟨q0, q1, q2, q3⟩ := four V3.out
    cases hf : hasV t v with
    | false =>
      rw [hf] at HFv
      have HNo : Hid (∀ x, hasV t x = true → textV t x ≠ bl s) := fun x hx he => by
        have := HU.out x hx he
        rw [this, hx] at hf
        cases hf
      clear hf HU HWv
      go_wp2_with fail
      refine (HFv.out).mono ?_
      rintro e w4 ⟨rfl, hb4⟩
      have H4 := Lib.hid (below_then H3.out hb4)
      have K4 := Lib.hid (K3.out.later hb4)
      obtain ⟨c0, c1, c2, c3⟩ := four K4.out
      have f0 := K4.out.free 0
      have f1 := K4.out.free 1
      have f2 := K4.out.free 2
      have f3 := K4.out.free 3
      clear hb4 p0 p1 p2 p3 p4 q0 q1 q2 q3
      go_wp2
      refine bodyPost_ret (by simp [results, Tryz.results42, go_sem, c0, c1, c2, c3]; try rfl) rfl ?_
      exact ⟨zeroV, 44, none, 0, 0, none, 0, 0, rfl, zero_c _, .inr (.inr ⟨rfl, HNo.out, rfl, rfl⟩), set4_below H4.out hs4 _ _ _ _⟩
    | true =>
      rw [hf] at HFv
      have HWw := Lib.hid (HWv.out hf)
      have HV := Lib.hid hf
      unfold WriPost at HWw
      clear hf HWv
      by_cases he : textV t v = bl s
      · have HE := Lib.hid he
        rw [he, sb_bl] at HWw
        have heq : (s.toList == s.toList) = true := beq_self_eq_true _
        clear he
        go_wp2_with fail
        refine (HFv.out).mono ?_
        rintro e w4 ⟨rfl, hb4⟩
        have H4 := Lib.hid (below_then H3.out hb4)
        have HB4 := Lib.hid hb4
        have K4 := Lib.hid (K3.out.later hb4)
        have T4 := Lib.hid (T3.out.later hb4)
        have V4 := Lib.hid (V3.out.later hb4)
        clear hb4 p0 p1 p2 p3 p4 q0 q1 q2 q3
        obtain ⟨p0, p1, p2, p3, p4⟩ := fives T4.out
        obtain ⟨q0, q1, q2, q3⟩ := four V4.out
        go_wp2_with fail
        refine (HWw.out _ HB4.out).mono ?_
        rintro e w5 ⟨rfl, hb5⟩
        have H5 := Lib.hid (below_then H4.out hb5)
        have K5 := Lib.hid (K4.out.later hb5)
        have V5 := Lib.hid (V4.out.later hb5)
        have VP5 := Lib.hid ((VP.out.later HB4.out).later hb5)
        clear hb5 p0 p1 p2 p3 p4 q0 q1 q2 q3
        obtain ⟨q0, q1, q2, q3⟩ := four V5.out
        obtain ⟨c0, c1, c2, c3⟩ := four K5.out
        have f0 := K5.out.free 0
        have f1 := K5.out.free 1
        have f2 := K5.out.free 2
        have f3 := K5.out.free 3
        go_wp2
        refine bodyPost_ret (by simp [results, Tryz.results42, go_sem, c0, c1, c2, c3]; try rfl) rfl ?_
        exact ⟨v, 0, A, n, c, B, m, d, rfl, VaP.toC _ _ (VP5.out.set4 (fun b hb => by omega) _ _ _ _), .inr (.inl ⟨rfl, HV.out, HE.out, rfl⟩), set4_below H5.out hs4 _ _ _ _⟩
      · have HNo : Hid (∀ x, hasV t x = true → textV t x ≠ bl s) := fun x hx h2 => by
          have := HU.out x hx h2
          rw [this] at he
          exact he h2
        have hne : ((sb (textV t v)).toList == s.toList) = false := str_ne (fun h => he (by rw [← h, bl_sb]))
        generalize sb (textV t v) = y at HWw hne
        clear he
        go_wp2_with fail
        refine (HFv.out).mono ?_
        rintro e w4 ⟨rfl, hb4⟩
        have H4 := Lib.hid (below_then H3.out hb4)
        have HB4 := Lib.hid hb4
        have K4 := Lib.hid (K3.out.later hb4)
        have T4 := Lib.hid (T3.out.later hb4)
        have V4 := Lib.hid (V3.out.later hb4)
        clear hb4 p0 p1 p2 p3 p4 q0 q1 q2 q3
        obtain ⟨p0, p1, p2, p3, p4⟩ := fives T4.out
        obtain ⟨q0, q1, q2, q3⟩ := four V4.out
        go_wp2_with fail
        refine (HWw.out _ HB4.out).mono ?_
        rintro e w5 ⟨rfl, hb5⟩
        have H5 := Lib.hid (below_then H4.out hb5)
        have K5 := Lib.hid (K4.out.later hb5)
        clear hb5 p0 p1 p2 p3 p4 q0 q1 q2 q3
        obtain ⟨c0, c1, c2, c3⟩ := four K5.out
        have f0 := K5.out.free 0
        have f1 := K5.out.free 1
        have f2 := K5.out.free 2
        have f3 := K5.out.free 3
        go_wp2
        refine bodyPost_ret (by simp [results, Tryz.results42, go_sem, c0, c1, c2, c3]; try rfl) rfl ?_
        exact ⟨zeroV, 44, none, 0, 0, none, 0, 0, rfl, zero_c _, .inr (.inr ⟨rfl, HNo.out, rfl, rfl⟩), set4_below H5.out hs4 _ _ _ _⟩
theorem pparse_any (t : Ty) (s : ByteArray) (cs : List Value) (w : World) (ht : smT t) (hs : s.size < 4294967281) (hw : Std w) (h : TyC w t cs) :
    Calls Tryz.prog 42 #[.agg cs.toArray, .string s] w (ParsePost (validT isNameL t) t (bl s) w) := by
  have h0 := h
  obtain ⟨A, n, c, B, m, d, rfl, _⟩ := tyC_open h
  exact parse_gen t _ _ _ _ _ s (validT isNameL t) w (fun u hu => pvalid_any t _ u ht (h0.later hu)) (fun hv u hu => pread_any (valid_good hv) (hw.later hu) hs (h0.later hu))
    (fun hv u v cs hu hvc => pfits_any (valid_good hv) ht (h0.later hu) hvc)
    (fun hv u v cs hu hh hvc => pwritten_any (valid_good hv) ht (hasG_of (valid_good hv) hh) (hw.later hu) (h0.later hu) hvc)
end Go.Proofs.YtdiagnhdigakpaaGreatDoor
/- The contract of the program's assemble over a function whose values are all the same: vectors. -/
namespace Go.Proofs.YtdiagnhdigakpaaGreatDoor
open Go.RowKit

/-- The bits after k rounds. -/
def fillZ (l z k : Nat) : List Nat := List.replicate k z ++ List.replicate (l - k) 0
theorem fillZ_set {l z k : Nat} (h : k < l) : (fillZ l z k).set k z = fillZ l z (k + 1) := by
  unfold fillZ
  rw [List.set_append_right _ _ (by simp), List.length_replicate, Nat.sub_self, show l - k = (l - (k + 1)) + 1 by omega, List.replicate_succ, List.set_cons_zero, List.replicate_succ' (n := k), List.append_assoc]
  rfl
theorem fillZ_len {l z k : Nat} (h : k ≤ l) : (fillZ l z k).length = l := by unfold fillZ; simp; omega
theorem one_bit {u : World} {z : Nat} {A B : Option Addr} {n c m d : Nat} (h : VaC u (.mk 1 0 [z] []) [.int .i64 1, .int .i64 0, .slice A n c, .slice B m d]) : ∃ bz oz, A = some ⟨bz, oz, none⟩ ∧ n = 1 ∧ u.cell? ⟨bz, oz, none⟩ = some (.int .u8 (z : Nat)) := by
  obtain ⟨C, x, p, D, y, q, e, hx, -, ⟨A', c', e2, h1, h2, h3, hc⟩, -⟩ := vaC_open h
  injection e with _ e
  injection e with _ e
  injection e with e3 _
  injection e3 with e4 e5 e6
  injection e2 with e7 e8 e9
  subst e4
  subst e7
  rcases hc with hc | ⟨b, off, rfl, hc⟩
  · cases hc
  · exact ⟨b, off, rfl, by rw [e5, hx]; rfl, hc 0 (by simp [Va.bits])⟩
set_option maxRecDepth 100000 in
set_option maxHeartbeats 8000000 in
theorem asm_vec (l z : Nat) (h64 : l ≤ 64) (hz : z ≤ 3) (nm : ByteArray) (v3 v4 cap : Value) (g : FuncId) (w : World)
    (HE : ∀ args w, (callFunc g args).run Tryz.prog w = .ok (.enter g args) w)
    (HN : Hid (∀ u, Below w.heap.size w u → Calls Tryz.prog g #[cap] u (CopyOf u (.mk 1 0 [z] [])))) :
    Calls Tryz.prog 67 #[.agg #[.int .i64 4, .int .i64 (l : Nat), .string nm, v3, v4], .func (.func g) #[] #[cap]] w (CopyOf w (.mk 4 0 (List.replicate l z) [])) := by
  have H2 := Lib.hid (boxes2 w 26 38 #[.int .i64 4, .int .i64 (l : Nat), .string nm, v3, v4] #[.int .i64 0, .int .i64 0, .slice none 0 0, .slice none 0 0])
  go_enter Tryz.func67, Tryz.ntmps67
  go_wp2_with (refine Lg.wpList_make_bits rfl _ _ rfl l rfl rfl (by omega) ?_; intro w1 hown1 hb1; have HO1 := Lib.hid (hown1.alloc (.cells #[.int .i64 4, .int .i64 0, .slice (some ⟨w.heap.size + 1 + 1, 0, none⟩) l l, .slice none 0 0] 38)); have HK1 := Lib.hid ((H2.out.2.1.later hb1).later (below_alloc w1 (.cells #[.int .i64 4, .int .i64 0, .slice (some ⟨w.heap.size + 1 + 1, 0, none⟩) l l, .slice none 0 0] 38))); have HT1 := Lib.hid (H2.out.1.later hb1); have HT2 := Lib.hid (HT1.out.later (below_alloc w1 (.cells #[.int .i64 4, .int .i64 0, .slice (some ⟨w.heap.size + 1 + 1, 0, none⟩) l l, .slice none 0 0] 38))); have HV1 := Lib.hid (Blk.new w1 38 #[.int .i64 4, .int .i64 0, .slice (some ⟨w.heap.size + 1 + 1, 0, none⟩) l l, .slice none 0 0]); have HB1 := Lib.hid (below_then (below_then H2.out.2.2.1 hb1) (below_alloc w1 (.cells #[.int .i64 4, .int .i64 0, .slice (some ⟨w.heap.size + 1 + 1, 0, none⟩) l l, .slice none 0 0] 38))); have HS1 := Lib.hid hown1.2.2.2; have HL1 := Lib.hid (hown1.1.lt _ rfl); obtain ⟨p0, p1, p2, p3, p4⟩ := fives HT1.out; obtain ⟨q0, q1, q2, q3, q4⟩ := fives HT2.out; clear hown1 hb1)
  have hO := HO1.out
  have hL := HL1.out
  simp only [World.size_alloc] at hO hL
  obtain ⟨b2, hb2⟩ : ∃ b2, b2 = w.heap.size + 1 + 1 := ⟨_, rfl⟩
  obtain ⟨b4, hb4⟩ : ∃ b4, b4 = w1.heap.size := ⟨_, rfl⟩
  have HV2 := HV1
  have HK2 := HK1
  have HB2 := HB1
  rw [← hb2] at hO hL HV2 HK2 HB2 ⊢
  rw [← hb4] at hL HV2 ⊢
  have HO2 := Lib.hid hO
  have hs1 : w.heap.size + 1 < b2 := by omega
  have hs2 : b2 < b4 := hL.2
  clear hO hL HO1 HV1 HK1 HB1 HL1 HS1 p0 p1 p2 p3 p4 q0 q1 q2 q3 q4 HT1 HT2 hb2 hb4
  go_loopw [20] (fun i wr => ∃ k : Nat, k ≤ l ∧ i = .int .i64 k ∧ Hid (Lg.Own wr b2 (.slice (some ⟨b2, 0, none⟩) l l) (fillZ l z k)) ∧ Hid (Blk wr b4 38 #[.int .i64 4, .int .i64 0, .slice (some ⟨b2, 0, none⟩) l l, .slice none 0 0]) ∧ Hid (Blk wr (w.heap.size + 1) 38 #[.int .i64 0, .int .i64 0, .slice none 0 0, .slice none 0 0]) ∧ Hid (Below w.heap.size w wr)) (fun i _ => l - (intOf i).toNat)
  case atStart => exact ⟨0, Nat.zero_le _, rfl, by simpa [fillZ] using HO2, HV2, HK2, HB2⟩
  case round =>
    obtain ⟨k, hk, rfl, HO, HV, HK, HB⟩ := hrel
    clear HO2 HV2 HK2 HB2 H2
    by_cases hlt : k < l
    · have HX := Lib.hid (HN.out wr HB.out)
      have d1 : decide ((k : Int) < (l : Int)) = true := by rw [decide_eq_true_eq]; omega
      have d2 : decide (k < l) = true := by rw [decide_eq_true_eq]; omega
      have hki : (k : Int) < (l : Int) := by omega
      have hk0 : (0 : Int) ≤ (k : Int) := by omega
      go_wp2_with fail
      refine (HX.out).mono ?_
      rintro e w3 hc
      obtain ⟨A, n, c, B, m, d, rfl, hvp, hb3⟩ := copy_vaP hc
      dsimp only [Va.kind, Va.n] at hvp ⊢
      obtain ⟨bz, oz, rfl, rfl, hcz⟩ := one_bit (VaP.toC _ _ hvp)
      have VB : Hid (Below w3.heap.size w3 (w3.alloc (.cells #[.int .i64 1, .int .i64 0, .slice (some ⟨bz, oz, none⟩) 1 c, .slice B m d] 38))) := below_alloc _ _
      have S4 : Hid (Blk (w3.alloc (.cells #[.int .i64 1, .int .i64 0, .slice (some ⟨bz, oz, none⟩) 1 c, .slice B m d] 38)) w3.heap.size 38 #[.int .i64 1, .int .i64 0, .slice (some ⟨bz, oz, none⟩) 1 c, .slice B m d]) := Blk.new _ _ _
      have g0 := cell_stays VB.out hcz
      have HBb := Lib.hid (below_then hb3 VB.out)
      have V4 := Lib.hid (HV.out.later HBb.out)
      have O4 := Lib.hid (HO.out.kept HBb.out)
      have K4 := Lib.hid (HK.out.later HBb.out)
      have B4 := Lib.hid (below_then HB.out HBb.out)
      obtain ⟨s0, s1, s2, s3⟩ := four S4.out
      obtain ⟨t0, t1, t2, t3⟩ := four V4.out
      obtain ⟨o1, o2⟩ := O4.out.cell k (by rw [fillZ_len hk]; exact hlt)
      have O5 := Lib.hid ((O4.out.kept (below_drewN (Below.refl _ _) 1)).stored k z (by omega))
      rw [fillZ_set hlt] at O5
      have V5 := Lib.hid ((V4.out.later (below_drewN (Below.refl _ _) 1)).other (a := ⟨b2, k, none⟩) (show b2 ≠ b4 by omega) (.int .u8 (z : Nat)))
      have K5 := Lib.hid ((K4.out.later (below_drewN (Below.refl _ _) 1)).other (a := ⟨b2, k, none⟩) (show b2 ≠ w.heap.size + 1 by omega) (.int .u8 (z : Nat)))
      have B5 := Lib.hid ((below_drewN B4.out 1).setCell (p := ⟨b2, k, none⟩) (show w.heap.size ≤ b2 by omega) (.int .u8 (z : Nat)))
      generalize (fillZ l z k)[k]'(by rw [fillZ_len hk]; exact hlt) = z0 at o1
      clear hc hvp hb3 hcz HX
      go_wp2_with fail
      go_region
      go_wp2
      go_roundw
      case rel => exact ⟨k + 1, by omega, by go_num, O5.out.1, V5, K5, B5⟩
      case measure => simp [intOf]; omega
    · obtain rfl : k = l := by omega
      have d1 : decide ((k : Int) < (k : Int)) = false := by rw [decide_eq_false_iff_not]; omega
      have d2 : decide (k < k) = false := by rw [decide_eq_false_iff_not]; omega
      have hO := HO.out
      have hf : fillZ k z k = List.replicate k z := by unfold fillZ; simp
      rw [hf] at hO
      have HO3 := Lib.hid hO
      obtain ⟨e0, e1, e2, e3⟩ := four HV.out
      obtain ⟨c0, c1, c2, c3⟩ := four HK.out
      have f0 := HK.out.free 0
      have f1 := HK.out.free 1
      have f2 := HK.out.free 2
      have f3 := HK.out.free 3
      clear hO
      go_wp2
      refine bodyPost_ret (by simp [results, Tryz.results67, go_sem, c0, c1, c2, c3]; try rfl) rfl ?_
      have hs5 := HO3.out.2.2.2
      exact ⟨_, _, rfl, own_weak (own_setLow (a := ⟨_, _, none⟩) (own_setLow (a := ⟨_, _, none⟩) (own_setLow (a := ⟨_, _, none⟩) (own_setLow (a := ⟨_, _, none⟩) HO3.out hs1 _) hs1 _) hs1 _) hs1 _) (by omega), OwnV.nil _ (by simp [World.setCell]; omega), set4_below HB.out (by omega) _ _ _ _⟩
end Go.Proofs.YtdiagnhdigakpaaGreatDoor
/- The contracts of the program's assemble over scalars, and of the function that First hands to it. -/
namespace Go.Proofs.YtdiagnhdigakpaaGreatDoor
open Go.RowKit

set_option maxRecDepth 100000 in
set_option maxHeartbeats 8000000 in
theorem asm_flat (k l : Int) (hk4 : (k == 4) = false) (hk6 : (k == 6) = false) (nm : ByteArray) (v3 v4 cap : Value) (g : FuncId) (x : Va) (hx : x.list = []) (hxb : x.bits.length ≤ 10000) (w : World)
    (HE : ∀ args w, (callFunc g args).run Tryz.prog w = .ok (.enter g args) w)
    (HN : Hid (∀ u, Below w.heap.size w u → Calls Tryz.prog g #[cap] u (CopyOf u x))) :
    Calls Tryz.prog 67 #[.agg #[.int .i64 k, .int .i64 l, .string nm, v3, v4], .func (.func g) #[] #[cap]] w (CopyOf w x) := by
  have H2 := Lib.hid (boxes2 w 26 38 #[.int .i64 k, .int .i64 l, .string nm, v3, v4] #[.int .i64 0, .int .i64 0, .slice none 0 0, .slice none 0 0])
  have HX := Lib.hid (HN.out _ H2.out.2.2.1)
  clear HN
  go_enter Tryz.func67, Tryz.ntmps67
  go_wp2_with fail
  refine (HX.out).mono ?_
  rintro e w3 hc
  obtain ⟨A, n, c, B, m, d, rfl, hvp, hb3⟩ := copy_vaP hc
  obtain ⟨C', x', p', D', y', q', hcs, hx1, hy1, hbs, -, -, -⟩ := vaC_open (VaP.toC _ _ hvp)
  simp only [List.cons.injEq, Value.slice.injEq, and_true, true_and] at hcs
  obtain ⟨⟨rfl, rfl, rfl⟩, rfl, rfl, rfl⟩ := hcs
  subst hx1
  obtain rfl : m = 0 := by rw [hy1, hx]; rfl
  have HC := Lib.hid (clone_at x.kind x.n A B c d 0 0 x.bits [] w3 (bitS_sl hbs (by omega)) hxb (by simp) (.inl rfl) (.inr rfl) (fun k hk => absurd hk (Nat.not_lt_zero _)))
  have K3 := Lib.hid (H2.out.2.1.later hb3)
  have B3 := Lib.hid (below_then H2.out.2.2.1 hb3)
  have hs3 : w.heap.size + 1 < w3.heap.size := K3.out.lt
  obtain ⟨k2, n2, bs2, ls2⟩ := x
  have hx : ls2 = [] := hx
  subst hx
  dsimp only [Va.kind, Va.n, Va.bits, Va.list] at HC ⊢
  clear hc hvp hb3 hbs hy1
  go_wp2_with fail
  refine (HC.out).mono ?_
  rintro e w4 ⟨vb, vl, rfl, ho, hv, hb4⟩
  obtain ⟨A4, q4, e1, -⟩ := ho.sl
  obtain ⟨B4, d4, e2⟩ := hv.shape
  dsimp only [Va.kind, Va.n, Va.bits, Va.list] at ho hv e1 e2 ⊢
  subst e1
  subst e2
  have HO := Lib.hid ho
  have HV := Lib.hid hv
  have K4 := Lib.hid (K3.out.later hb4)
  have HB := Lib.hid (below_then B3.out hb4)
  obtain ⟨c0, c1, c2, c3⟩ := four K4.out
  have f0 := K4.out.free 0
  have f1 := K4.out.free 1
  have f2 := K4.out.free 2
  have f3 := K4.out.free 3
  clear ho hv hb4
  go_wp2
  refine bodyPost_ret (by simp [results, Tryz.results67, go_sem, c0, c1, c2, c3]; try rfl) rfl ?_
  have hs2 : ∀ b, w3.heap.size ≤ b → b ≠ w.heap.size + 1 := fun b hb => by omega
  exact ⟨_, _, rfl, own_weak (own_setLow (a := ⟨_, _, none⟩) (own_setLow (a := ⟨_, _, none⟩) (own_setLow (a := ⟨_, _, none⟩) (own_setLow (a := ⟨_, _, none⟩) HO.out hs3 _) hs3 _) hs3 _) hs3 _) (by omega), OwnV.weak (OwnV.setLow (a := ⟨_, _, none⟩) (OwnV.setLow (a := ⟨_, _, none⟩) (OwnV.setLow (a := ⟨_, _, none⟩) (OwnV.setLow (a := ⟨_, _, none⟩) HV.out hs3 hs2 _) hs3 hs2 _) hs3 hs2 _) hs3 hs2 _) (by omega) (fun b hb => by omega), set4_below HB.out (by omega) _ _ _ _⟩
theorem own_one (w : World) (z : Nat) (hz : z ≤ 3) {w' : World} {g : Nat} (hg : w.heap.size ≤ g) (h : Blk w' g 72 #[.int .u8 (z : Nat)]) : Lg.Own w' w.heap.size (.slice (some ⟨g, 0, none⟩) 1 1) [z] := by
  have hlt := h.lt
  exact ⟨⟨by simp [Lg.bitCells], .inr ⟨g, 1, _, rfl, hg, h, Nat.le_refl _, by decide, by simp, by simp [Lg.bitCells]⟩⟩, by simp, by simp; omega, by omega⟩
set_option maxRecDepth 100000 in
set_option maxHeartbeats 8000000 in
theorem first1_bit (p : Nat) (w : World) (hp : w.cell? ⟨p, 0, none⟩ = some (.int .i64 1)) :
    Calls Tryz.prog 68 #[.pointer (some ⟨p, 0, none⟩)] w (CopyOf w (.mk 1 0 [2] [])) := by
  have K1 := Lib.hid (box1 w 38 #[.int .i64 0, .int .i64 0, .slice none 0 0, .slice none 0 0])
  have HB0 := Lib.hid (below_alloc w (.cells #[.int .i64 0, .int .i64 0, .slice none 0 0, .slice none 0 0] 38))
  have g := cell_stays HB0.out hp
  have HX := Lib.hid (bitValue_any 2 (w.alloc (.cells #[.int .i64 0, .int .i64 0, .slice none 0 0, .slice none 0 0] 38)))
  rw [show (w.alloc (.cells #[.int .i64 0, .int .i64 0, .slice none 0 0, .slice none 0 0] 38)).heap.size = w.heap.size + 1 from World.size_alloc _ _] at HX
  clear hp
  go_enter Tryz.func68, Tryz.ntmps68
  go_wp2_with fail
  refine (HX.out).mono ?_
  rintro e w1 ⟨rfl, hbk, hb1⟩
  have hb1' : Below (w.alloc (.cells #[.int .i64 0, .int .i64 0, .slice none 0 0, .slice none 0 0] 38)).heap.size (w.alloc (.cells #[.int .i64 0, .int .i64 0, .slice none 0 0, .slice none 0 0] 38)) w1 := by rw [World.size_alloc]; exact hb1
  have K2 := Lib.hid (K1.out.later hb1')
  have HB := Lib.hid (below_then HB0.out hb1')
  have HK := Lib.hid hbk
  obtain ⟨c0, c1, c2, c3⟩ := four K2.out
  have f0 := K2.out.free 0
  have f1 := K2.out.free 1
  have f2 := K2.out.free 2
  have f3 := K2.out.free 3
  clear hbk hb1 hb1'
  go_wp2
  refine bodyPost_ret (by simp [results, Tryz.results68, go_sem, c0, c1, c2, c3]; try rfl) rfl ?_
  have hs := HB.out.size
  refine ⟨_, _, rfl, own_one w 2 (by omega) (by omega) ((((HK.out.other (a := ⟨w.heap.size, 0, none⟩) (show w.heap.size ≠ w.heap.size + 1 + 1 by omega) _).other (a := ⟨w.heap.size, 1, none⟩) (show w.heap.size ≠ w.heap.size + 1 + 1 by omega) _).other (a := ⟨w.heap.size, 2, none⟩) (show w.heap.size ≠ w.heap.size + 1 + 1 by omega) _).other (a := ⟨w.heap.size, 3, none⟩) (show w.heap.size ≠ w.heap.size + 1 + 1 by omega) _), OwnV.nil _ (by simpa [World.setCell] using hs), set4_below HB.out (Nat.le_refl _) _ _ _ _⟩
set_option maxRecDepth 100000 in
set_option maxHeartbeats 8000000 in
theorem first1_other (p : Nat) (k : Int) (hk : (k == 1) = false) (w : World) (hp : w.cell? ⟨p, 0, none⟩ = some (.int .i64 k)) :
    Calls Tryz.prog 68 #[.pointer (some ⟨p, 0, none⟩)] w (CopyOf w (.mk k 0 [] [])) := by
  have K1 := Lib.hid (box1 w 38 #[.int .i64 0, .int .i64 0, .slice none 0 0, .slice none 0 0])
  have HB0 := Lib.hid (below_alloc w (.cells #[.int .i64 0, .int .i64 0, .slice none 0 0, .slice none 0 0] 38))
  have g := cell_stays HB0.out hp
  clear hp
  go_enter Tryz.func68, Tryz.ntmps68
  go_wp2
  refine bodyPost_ret (by simp [results, Tryz.results68, go_sem]; try rfl) rfl ?_
  have hs : w.heap.size ≤ (w.alloc (.cells #[.int .i64 k, .int .i64 0, .slice none 0 0, .slice none 0 0] 38)).heap.size := by rw [World.size_alloc]; omega
  exact ⟨_, _, rfl, Lg.Own.nil _ hs, OwnV.nil _ hs, below_alloc _ _⟩
end Go.Proofs.YtdiagnhdigakpaaGreatDoor
/- A made row of values of the call's own; the contract of the program's assemble over arrays. -/
namespace Go.Proofs.YtdiagnhdigakpaaGreatDoor
open Go.RowKit

def zero4 : List Value := [.int .i64 0, .int .i64 0, .slice none 0 0, .slice none 0 0]
theorem made_va (n : Nat) : (madeCells (Value.cells (.agg #[.int .i64 0, .int .i64 0, .slice none 0 0, .slice none 0 0])) (n * 4)).toList = (List.replicate n zero4).flatten := by
  apply List.ext_getElem?
  intro i
  have h4 : ∀ cs ∈ List.replicate n zero4, cs.length = 4 := fun cs hcs => by rw [List.eq_of_mem_replicate hcs]; rfl
  by_cases hi : i < n * 4
  · have hf := flat_get h4 (i / 4) (by rw [List.length_replicate]; omega) (i % 4) (by omega)
    rw [show i / 4 * 4 + i % 4 = i by omega, List.getElem_replicate] at hf
    rw [hf]
    have hm : i % 4 < 4 := by omega
    simp only [madeCells, Value.cells, Array.toList_map, Array.toList_range, List.getElem?_map, List.getElem?_range hi, Option.map_some]
    show some ((#[.int .i64 0, .int .i64 0, .slice none 0 0, .slice none 0 0] : Array Value)[i % 4]!) = _
    obtain h | h | h | h : i % 4 = 0 ∨ i % 4 = 1 ∨ i % 4 = 2 ∨ i % 4 = 3 := by omega
    all_goals rw [h]; rfl
  · rw [List.getElem?_eq_none (by rw [Array.length_toList, size_madeCells]; omega), List.getElem?_eq_none (by rw [flat_len h4, List.length_replicate]; omega)]
theorem zero_P {S : Nat → Prop} (w : World) : VaP S w zeroV zero4 := vaP_iff.2 ⟨_, _, rfl, bitP_nil w, vasP_nil w⟩
theorem OwnV.made {S : Nat → Prop} {w : World} {base n : Nat} {v : Value} (h : w.ownsRow base 38 4 v n (madeCells (Value.cells (.agg #[.int .i64 0, .int .i64 0, .slice none 0 0, .slice none 0 0])) (n * 4)).toList) (hn : n ≤ 100000) (hB : base ≤ w.heap.size) : OwnV S w base v (List.replicate n zeroV) := by
  rw [made_va] at h
  refine ⟨⟨List.replicate n zero4, by rwa [List.length_replicate], by simp, fun cs hcs => by rw [List.eq_of_mem_replicate hcs]; rfl, fun k hk hk' => ?_⟩, by simpa using hn, hB⟩
  rw [List.getElem_replicate, List.getElem_replicate]
  exact zero_P w
theorem flat_set (a0 a1 a2 a3 : Value) : ∀ (css : List (List Value)) (k : Nat), (∀ cs ∈ css, cs.length = 4) → k < css.length → (css.set k [a0, a1, a2, a3]).flatten = (((css.flatten.set (k * 4) a0).set (k * 4 + 1) a1).set (k * 4 + 2) a2).set (k * 4 + 3) a3
  | [], k, _, hk => absurd hk (Nat.not_lt_zero _)
  | c :: r, 0, h, _ => by
    have hc := h c (by simp)
    match c, hc with
    | [x0, x1, x2, x3], _ => simp
  | c :: r, k + 1, h, hk => by
    have hc := h c (by simp)
    rw [List.set_cons_succ, List.flatten_cons, List.flatten_cons, flat_set a0 a1 a2 a3 r k (fun x hx => h x (by simp [hx])) (by simpa using hk)]
    rw [List.set_append_right _ _ (by omega), List.set_append_right _ _ (by omega), List.set_append_right _ _ (by omega), List.set_append_right _ _ (by omega)]
    rw [hc, show (k + 1) * 4 - 4 = k * 4 by omega, show (k + 1) * 4 + 1 - 4 = k * 4 + 1 by omega, show (k + 1) * 4 + 2 - 4 = k * 4 + 2 by omega, show (k + 1) * 4 + 3 - 4 = k * 4 + 3 by omega]
theorem OwnV.stored4 {S : Nat → Prop} {w : World} {base g n c : Nat} {ls : List Va} (h : OwnV S w base (.slice (some ⟨g, 0, none⟩) n c) ls) {x : Va} {a0 a1 a2 a3 : Value} (hx : VaP (fun b => S b ∧ b ≠ g) w x [a0, a1, a2, a3]) (k : Nat) (hk : k < ls.length) :
    OwnV S ((((w.setCell ⟨g, k * 4, none⟩ a0).setCell ⟨g, k * 4 + 1, none⟩ a1).setCell ⟨g, k * 4 + 2, none⟩ a2).setCell ⟨g, k * 4 + 3, none⟩ a3) base (.slice (some ⟨g, 0, none⟩) n c) (ls.set k x) := by
  obtain ⟨⟨css, ho, h1, h2, h3⟩, hn, hB⟩ := h
  have hlen : n = ls.length := by
    rcases ho.2 with ⟨h', _⟩ | ⟨g', cap', cur, h', hb, _⟩
    · simp at h'
    · simp only [Value.slice.injEq] at h'
      omega
  subst hlen
  obtain ⟨o1, _⟩ := ho.stored (k * 4) a0
  obtain ⟨o2, _⟩ := o1.stored (k * 4 + 1) a1
  obtain ⟨o3, _⟩ := o2.stored (k * 4 + 2) a2
  obtain ⟨o4, _⟩ := o3.stored (k * 4 + 3) a3
  have hT : ∀ {v : Va} {cs : List Value} {S' : Nat → Prop}, (∀ b, S' b → b ≠ g) → VaP S' w v cs → VaP S' ((((w.setCell ⟨g, k * 4, none⟩ a0).setCell ⟨g, k * 4 + 1, none⟩ a1).setCell ⟨g, k * 4 + 2, none⟩ a2).setCell ⟨g, k * 4 + 3, none⟩ a3) v cs :=
    fun hS hv => (((hv.set (a := ⟨g, _, none⟩) hS a0).set (a := ⟨g, _, none⟩) hS a1).set (a := ⟨g, _, none⟩) hS a2).set (a := ⟨g, _, none⟩) hS a3
  refine ⟨⟨css.set k [a0, a1, a2, a3], ?_, by simp [h1], ?_, ?_⟩, by simpa using hn, by simpa [World.setCell] using hB⟩
  · rw [flat_set a0 a1 a2 a3 css k h2 (by omega), List.length_set]
    exact o4
  · intro y hy
    rcases List.mem_or_eq_of_mem_set hy with h | h
    · exact h2 y h
    · rw [h]; rfl
  · intro j hj hj'
    rw [List.length_set] at hj hj'
    by_cases hjk : k = j
    · subst hjk
      rw [List.getElem_set_self, List.getElem_set_self]
      exact (hT (fun b hb => hb.2) hx).mono fun b hb _ => ⟨hb.1, by simp [Value.ownBlock]; exact fun e => hb.2 e.symm⟩
    · rw [List.getElem_set_ne hjk, List.getElem_set_ne hjk]
      exact hT (fun b hb e => hb.2 (by rw [e]; rfl)) (h3 j hj hj')
theorem OwnV.cell4 {S : Nat → Prop} {w : World} {base g n c : Nat} {ls : List Va} (h : OwnV S w base (.slice (some ⟨g, 0, none⟩) n c) ls) (k : Nat) (hk : k < ls.length) (j : Nat) (hj : j < 4) : ∃ u, w.cell? ⟨g, k * 4 + j, none⟩ = some u ∧ w.frozen? ⟨g, k * 4 + j, none⟩ = false := by
  obtain ⟨⟨css, ho, h1, h2, h3⟩, hn, hB⟩ := h
  have hlen : n = ls.length := by
    rcases ho.2 with ⟨h', _⟩ | ⟨g', cap', cur, h', hb, _⟩
    · simp at h'
    · simp only [Value.slice.injEq] at h'
      omega
  subst hlen
  have hf := flat_len h2
  have hlt : k * 4 + j < css.flatten.length := by rw [hf, h1]; omega
  exact ⟨css.flatten[k * 4 + j], by rw [ho.cellAt (k * 4 + j) (by omega), List.getElem?_eq_getElem hlt], ho.frozenAt _⟩
theorem wpList_make_va {ops : Array Oper} {rest : List Oper} {o : Oper} {a : Act} {Q : Exit → Act → World → Prop} {w : World} (hg : o.guard = none) (l c : Operand) (hop : o.op = Op.makeSlice 36 l c)
    (n : Nat) (hl : a.eval l = .int .i64 (n : Int)) (hc : a.eval c = .int .i64 (n : Int)) (hn : n ≤ 100000)
    (hK : ∀ w', (∀ S, OwnV S w' w.heap.size (.slice (some ⟨w.heap.size, 0, none⟩) n n) (List.replicate n zeroV)) → w.heap.size < w'.heap.size → Below w.heap.size w w' → wpList Tryz.prog ops Q rest (a.put o.dst (.slice (some ⟨w.heap.size, 0, none⟩) n n)) w') :
    wpList Tryz.prog ops Q (o :: rest) a w := by
  obtain ⟨i, hi, hz, hsize, hby⟩ := info_parts Tryz.infoVa
  refine wpList_make_full _ hg l c 36 hop w.heap.size 38 i _ 4 Tryz.underlying36 hi hz hsize _ _ _ _ n hl hc rfl rfl (by rw [hby]; omega) (by unfold maxLen; omega) (Nat.le_refl _) ?_
  intro w1 hown hg1
  exact hK w1 (fun S => OwnV.made hown hn hg1.size) (hown.lt _ rfl).2 ((Below.refl _ _).grown hg1 (Nat.le_refl _) (fun k hk => by cases hk))
end Go.Proofs.YtdiagnhdigakpaaGreatDoor
/- The contract of the program's assemble over a function whose values are all the same: arrays. -/
namespace Go.Proofs.YtdiagnhdigakpaaGreatDoor
open Go.RowKit

def fillV (l : Nat) (x : Va) (k : Nat) : List Va := List.replicate k x ++ List.replicate (l - k) zeroV
theorem fillV_set {l k : Nat} {x : Va} (h : k < l) : (fillV l x k).set k x = fillV l x (k + 1) := by
  unfold fillV
  rw [List.set_append_right _ _ (by simp), List.length_replicate, Nat.sub_self, show l - k = (l - (k + 1)) + 1 by omega, List.replicate_succ, List.set_cons_zero, List.replicate_succ' (n := k), List.append_assoc]
  rfl
theorem fillV_len {l k : Nat} {x : Va} (h : k ≤ l) : (fillV l x k).length = l := by unfold fillV; simp; omega
set_option maxRecDepth 100000 in
set_option maxHeartbeats 8000000 in
theorem asm_arr (l : Nat) (h64 : l ≤ 64) (nm : ByteArray) (v3 cap : Value) (b off d : Nat) (k1 l1 : Int) (nm1 : ByteArray) (A1 A2 : Option Addr) (n1 c1 n2 c2 : Nat) (g : FuncId) (x : Va) (w : World)
    (h5 : Hid (Ty5 w b off k1 l1 nm1 (.slice A1 n1 c1) (.slice A2 n2 c2)))
    (HS : Hid (∀ u, Below w.heap.size w u → Calls Tryz.prog 67 #[.agg #[.int .i64 k1, .int .i64 l1, .string nm1, .slice A1 n1 c1, .slice A2 n2 c2], .func (.func g) #[] #[cap]] u (CopyOf u x))) :
    Calls Tryz.prog 67 #[.agg #[.int .i64 6, .int .i64 (l : Nat), .string nm, v3, .slice (some ⟨b, off, none⟩) 1 d], .func (.func g) #[] #[cap]] w (CopyOf w (.mk 6 0 [] (List.replicate l x))) := by
  have H2 := Lib.hid (boxes2 w 26 38 #[.int .i64 6, .int .i64 (l : Nat), .string nm, v3, .slice (some ⟨b, off, none⟩) 1 d] #[.int .i64 0, .int .i64 0, .slice none 0 0, .slice none 0 0])
  go_enter Tryz.func67, Tryz.ntmps67
  go_wp2_with (refine wpList_make_va rfl _ _ rfl l rfl rfl (by omega) ?_; intro w1 hown1 hlt1 hb1; have HO1 := Lib.hid ((hown1 (fun b => w.heap.size + 1 + 1 ≤ b)).kept (below_alloc w1 (.cells #[.int .i64 6, .int .i64 0, .slice none 0 0, .slice (some ⟨w.heap.size + 1 + 1, 0, none⟩) l l] 38))); have HK1 := Lib.hid ((H2.out.2.1.later hb1).later (below_alloc w1 (.cells #[.int .i64 6, .int .i64 0, .slice none 0 0, .slice (some ⟨w.heap.size + 1 + 1, 0, none⟩) l l] 38))); have HT1 := Lib.hid (H2.out.1.later hb1); have HT2 := Lib.hid (HT1.out.later (below_alloc w1 (.cells #[.int .i64 6, .int .i64 0, .slice none 0 0, .slice (some ⟨w.heap.size + 1 + 1, 0, none⟩) l l] 38))); have HV1 := Lib.hid (Blk.new w1 38 #[.int .i64 6, .int .i64 0, .slice none 0 0, .slice (some ⟨w.heap.size + 1 + 1, 0, none⟩) l l]); have HB1 := Lib.hid (below_then (below_then H2.out.2.2.1 hb1) (below_alloc w1 (.cells #[.int .i64 6, .int .i64 0, .slice none 0 0, .slice (some ⟨w.heap.size + 1 + 1, 0, none⟩) l l] 38))); have HL1 := Lib.hid hlt1; obtain ⟨p0, p1, p2, p3, p4⟩ := fives HT1.out; obtain ⟨q0, q1, q2, q3, q4⟩ := fives HT2.out; clear hown1 hb1 hlt1)
  have hO := HO1.out
  have hL := HL1.out
  simp only [World.size_alloc] at hO hL
  obtain ⟨b2, hb2⟩ : ∃ b2, b2 = w.heap.size + 1 + 1 := ⟨_, rfl⟩
  obtain ⟨b4, hb4⟩ : ∃ b4, b4 = w1.heap.size := ⟨_, rfl⟩
  have HV2 := HV1
  have HK2 := HK1
  have HB2 := HB1
  have HT3 := HT2
  rw [← hb2] at hO hL HV2 HK2 HB2 HT3 ⊢
  rw [← hb4] at hL HV2 ⊢
  have HO2 := Lib.hid hO
  have hs1 : w.heap.size + 1 < b2 := by omega
  have hs2 : b2 < b4 := hL
  clear hO hL HO1 HV1 HK1 HB1 HL1 p0 p1 p2 p3 p4 q0 q1 q2 q3 q4 HT1 HT2 hb2 hb4
  go_loopw [43] (fun i wr => ∃ k : Nat, k ≤ l ∧ i = .int .i64 k ∧ Hid (OwnV (fun b => b2 ≤ b) wr b2 (.slice (some ⟨b2, 0, none⟩) l l) (fillV l x k)) ∧ Hid (Blk wr b4 38 #[.int .i64 6, .int .i64 0, .slice none 0 0, .slice (some ⟨b2, 0, none⟩) l l]) ∧ Hid (Blk wr (w.heap.size + 1) 38 #[.int .i64 0, .int .i64 0, .slice none 0 0, .slice none 0 0]) ∧ Hid (Blk wr w.heap.size 26 #[.int .i64 6, .int .i64 (l : Nat), .string nm, v3, .slice (some ⟨b, off, none⟩) 1 d]) ∧ Hid (Below w.heap.size w wr)) (fun i _ => l - (intOf i).toNat)
  case atStart => exact ⟨0, Nat.zero_le _, rfl, by simpa [fillV] using HO2, HV2, HK2, HT3, HB2⟩
  case round =>
    obtain ⟨k, hk, rfl, HO, HV, HK, HT, HB⟩ := hrel
    clear HO2 HV2 HK2 HB2 H2 HT3
    by_cases hlt : k < l
    · have d1 : decide ((k : Int) < (l : Int)) = true := by rw [decide_eq_true_eq]; omega
      have d2 : decide (k < l) = true := by rw [decide_eq_true_eq]; omega
      have hki : (k : Int) < (l : Int) := by omega
      have hk0 : (0 : Int) ≤ (k : Int) := by omega
      have HX := Lib.hid (HS.out (wr.drewN 1) (below_drewN HB.out 1))
      have hbd := Lib.hid (below_drewN (Below.refl wr.heap.size wr) 1)
      obtain ⟨p0, p1, p2, p3, p4⟩ := fives HT.out
      obtain ⟨t0, t1, t2, t3⟩ := four HV.out
      obtain ⟨e0, e1, e2, e3, e4⟩ := h5.out.later HB.out
      have hs5 := HV.out.lt
      have hkl : k < (fillV l x k).length := by rw [fillV_len hk]; exact hlt
      go_wp2_with fail
      go_region_with (go_at_call 67; refine (HX.out).mono ?_; rintro e w3 hc; obtain ⟨A, n, c, B, m, dd, rfl, hvp, hb3⟩ := copy_vaP hc; have HBb := Lib.hid (below_then hbd.out hb3); have V4 := Lib.hid (HV.out.later HBb.out); have T4 := Lib.hid (HT.out.later HBb.out); have O4 := Lib.hid (HO.out.kept HBb.out); have K4 := Lib.hid (HK.out.later HBb.out); have B4 := Lib.hid (below_then HB.out HBb.out); have VP := Lib.hid (hvp.mono (S' := fun b => b2 ≤ b ∧ b ≠ b2) (fun b hb _ => by have : wr.heap.size ≤ b := hb; omega)); obtain ⟨y0, y1, y2, y3, y4⟩ := fives T4.out; obtain ⟨s0, s1, s2, s3⟩ := four V4.out; obtain ⟨u0, o0, f0⟩ := O4.out.cell4 k hkl 0 (by omega); obtain ⟨u1, o1, f1⟩ := O4.out.cell4 k hkl 1 (by omega); obtain ⟨u2, o2, f2⟩ := O4.out.cell4 k hkl 2 (by omega); obtain ⟨u3, o3, f3⟩ := O4.out.cell4 k hkl 3 (by omega); rw [Nat.add_zero] at o0 f0; clear hc hvp hb3)
      all_goals
        have O5 := Lib.hid (O4.out.stored4 VP.out k hkl)
        rw [fillV_set hlt] at O5
        have V5 := Lib.hid ((((V4.out.other (a := ⟨b2, k * 4, none⟩) (show b2 ≠ b4 by omega) (.int .i64 x.kind)).other (a := ⟨b2, k * 4 + 1, none⟩) (show b2 ≠ b4 by omega) (.int .i64 x.n)).other (a := ⟨b2, k * 4 + 2, none⟩) (show b2 ≠ b4 by omega) (.slice A n c)).other (a := ⟨b2, k * 4 + 3, none⟩) (show b2 ≠ b4 by omega) (.slice B m dd))
        have K5 := Lib.hid ((((K4.out.other (a := ⟨b2, k * 4, none⟩) (show b2 ≠ w.heap.size + 1 by omega) (.int .i64 x.kind)).other (a := ⟨b2, k * 4 + 1, none⟩) (show b2 ≠ w.heap.size + 1 by omega) (.int .i64 x.n)).other (a := ⟨b2, k * 4 + 2, none⟩) (show b2 ≠ w.heap.size + 1 by omega) (.slice A n c)).other (a := ⟨b2, k * 4 + 3, none⟩) (show b2 ≠ w.heap.size + 1 by omega) (.slice B m dd))
        have T5 := Lib.hid ((((T4.out.other (a := ⟨b2, k * 4, none⟩) (show b2 ≠ w.heap.size by omega) (.int .i64 x.kind)).other (a := ⟨b2, k * 4 + 1, none⟩) (show b2 ≠ w.heap.size by omega) (.int .i64 x.n)).other (a := ⟨b2, k * 4 + 2, none⟩) (show b2 ≠ w.heap.size by omega) (.slice A n c)).other (a := ⟨b2, k * 4 + 3, none⟩) (show b2 ≠ w.heap.size by omega) (.slice B m dd))
        have B5 := Lib.hid ((((B4.out.setCell (p := ⟨b2, k * 4, none⟩) (show w.heap.size ≤ b2 by omega) (.int .i64 x.kind)).setCell (p := ⟨b2, k * 4 + 1, none⟩) (show w.heap.size ≤ b2 by omega) (.int .i64 x.n)).setCell (p := ⟨b2, k * 4 + 2, none⟩) (show w.heap.size ≤ b2 by omega) (.slice A n c)).setCell (p := ⟨b2, k * 4 + 3, none⟩) (show w.heap.size ≤ b2 by omega) (.slice B m dd))
        go_wp2
        go_roundw
        case rel => exact ⟨k + 1, by omega, by go_num, O5, V5, K5, T5, B5⟩
        case measure => simp [intOf]; omega
    · obtain rfl : k = l := by omega
      have d1 : decide ((k : Int) < (k : Int)) = false := by rw [decide_eq_false_iff_not]; omega
      have d2 : decide (k < k) = false := by rw [decide_eq_false_iff_not]; omega
      have hO := HO.out
      have hf : fillV k x k = List.replicate k x := by unfold fillV; simp
      rw [hf] at hO
      have HO3 := Lib.hid hO
      obtain ⟨e0, e1, e2, e3⟩ := four HV.out
      obtain ⟨c0, c1, c2, c3⟩ := four HK.out
      have f0 := HK.out.free 0
      have f1 := HK.out.free 1
      have f2 := HK.out.free 2
      have f3 := HK.out.free 3
      clear hO h5 HS
      go_wp2
      refine bodyPost_ret (by simp [results, Tryz.results67, go_sem, c0, c1, c2, c3]; try rfl) rfl ?_
      have hs5 := HB.out.size
      have hs6 : ∀ b, b2 ≤ b → b ≠ w.heap.size + 1 := fun b hb => by omega
      exact ⟨_, _, rfl, Lg.Own.nil _ (by simpa [World.setCell] using hs5), OwnV.weak (OwnV.setLow (a := ⟨_, _, none⟩) (OwnV.setLow (a := ⟨_, _, none⟩) (OwnV.setLow (a := ⟨_, _, none⟩) (OwnV.setLow (a := ⟨_, _, none⟩) HO3.out hs1 hs6 _) hs1 hs6 _) hs1 hs6 _) hs1 hs6 _) (by omega) (fun b hb => by omega), set4_below HB.out (by omega) _ _ _ _⟩
end Go.Proofs.YtdiagnhdigakpaaGreatDoor
/- The contract of the program's First. -/
namespace Go.Proofs.YtdiagnhdigakpaaGreatDoor
open Go.RowKit

theorem firstV_mk (k l : Int) (nm : ByteArray) (ns : List ByteArray) (es : List Ty) (h1 : ¬ k = 1) (h4 : ¬ k = 4) (h6 : ¬ k = 6) : firstV (.mk k l nm ns es) = .mk k 0 [] [] := by
  match es with
  | [] => simp [firstV, h1, h4, h6]
  | [e] => simp [firstV, h1, h4, h6]
  | e :: e2 :: r => simp [firstV, h1, h4, h6]
theorem firstV_bit (l : Int) (nm : ByteArray) (ns : List ByteArray) (es : List Ty) : firstV (.mk 1 l nm ns es) = .mk 1 0 [2] [] := by
  match es with
  | [] => simp [firstV]
  | [e] => simp [firstV]
  | e :: e2 :: r => simp [firstV]
theorem firstV_vec (l : Int) (nm : ByteArray) (ns : List ByteArray) (es : List Ty) : firstV (.mk 4 l nm ns es) = .mk 4 0 (List.replicate l.toNat 2) [] := by
  match es with
  | [] => simp [firstV]
  | [e] => simp [firstV]
  | e :: e2 :: r => simp [firstV]
theorem f1_enters : ∀ args w, (callFunc 68 args).run Tryz.prog w = .ok (.enter 68 args) w := enters_of Tryz.func68 (by kernel_rfl) rfl
theorem asm_first_flat {t : Ty} (ht : Flat isNameL t) (v3 v4 : Value) (p : Nat) (w : World) (hp : w.cell? ⟨p, 0, none⟩ = some (.int .i64 (scalarT t).kind)) :
    Calls Tryz.prog 67 #[.agg #[.int .i64 t.kind, .int .i64 t.len, .string t.name, v3, v4], .func (.func 68) #[] #[.pointer (some ⟨p, 0, none⟩)]] w (CopyOf w (firstV t)) := by
  cases ht with
  | sc k hk =>
    rw [scalarT_mk _ _ _ _ _ (by omega) (by omega)] at hp
    by_cases h1 : k = 1
    · subst h1
      rw [firstV_bit]
      exact asm_flat 1 0 rfl rfl noName _ _ _ _ _ rfl (by simp [Va.bits]) w f1_enters (fun u hu => first1_bit p u (cell_stays hu hp))
    · rw [firstV_mk _ _ _ _ _ h1 (by omega) (by omega)]
      exact asm_flat k 0 (by rw [beq_eq_false_iff_ne]; omega) (by rw [beq_eq_false_iff_ne]; omega) noName _ _ _ _ _ rfl (by simp [Va.bits]) w f1_enters (fun u hu => first1_other p k (by rw [beq_eq_false_iff_ne]; exact h1) u (cell_stays hu hp))
  | vec l h1 h2 =>
    rw [scalarT_vec] at hp
    rw [firstV_vec, Int.toNat_natCast]
    exact asm_vec l 2 h2 (by omega) noName _ _ _ _ w f1_enters (fun u hu => first1_bit p u (cell_stays hu hp))
  | en nm ns h1 h2 =>
    rw [scalarT_mk _ _ _ _ _ (by omega) (by omega)] at hp
    rw [firstV_mk _ _ _ _ _ (by omega) (by omega) (by omega)]
    exact asm_flat 5 0 rfl rfl nm _ _ _ _ _ rfl (by simp [Va.bits]) w f1_enters (fun u hu => first1_other p 5 rfl u (cell_stays hu hp))
theorem asm_first {t : Ty} {cs : List Value} {w : World} (ht : Good isNameL t) (h : TyC w t cs) (p : Nat) (hp : w.cell? ⟨p, 0, none⟩ = some (.int .i64 (scalarT t).kind)) :
    Calls Tryz.prog 67 #[.agg cs.toArray, .func (.func 68) #[] #[.pointer (some ⟨p, 0, none⟩)]] w (CopyOf w (firstV t)) := by
  cases ht with
  | flat t ht =>
    obtain ⟨A, n, c, B, m, d, rfl, _⟩ := tyC_open h
    exact asm_first_flat ht _ _ p w hp
  | arr l e h1 h2 he =>
    obtain ⟨A, n, c, B, m, d, rfl, hn, rfl, hs, hT⟩ := tyC_open h
    rcases hT with hT | ⟨b, off, rfl, hT⟩
    · cases hT
    obtain ⟨A1, n1, c1, A2, n2, c2, k1, k5⟩ := one_open hT
    rw [firstV_arr, Int.toNat_natCast]
    rw [scalarT_arr] at hp
    exact asm_arr l h2 noName _ _ b off d e.kind e.len e.name A1 A2 n1 c1 n2 c2 _ (firstV e) w k5 (fun u hu => asm_first_flat he _ _ p u (cell_stays hu hp))
/-- The first value, or none. -/
def firstR (t : Ty) : Va := if validT isNameL t then firstV t else zeroV
def FirstPost (v : Va) (E : Nat) (w : World) (e : Ending) (w' : World) : Prop :=
  ∃ (A : Option Addr) (n c : Nat) (B : Option Addr) (m d : Nat), e = .returned (.tuple #[.agg #[.int .i64 v.kind, .int .i64 v.n, .slice A n c, .slice B m d], .int .i64 (E : Nat)]) ∧ VaC w' v [.int .i64 v.kind, .int .i64 v.n, .slice A n c, .slice B m d] ∧ Below w.heap.size w w'
set_option maxRecDepth 100000 in
set_option maxHeartbeats 8000000 in
theorem first_gen (_t st : Ty) (x : Va) (k l : Int) (nm : ByteArray) (v3 v4 : Value) (a : Bool) (w : World)
    (HA : Hid (∀ u, Below w.heap.size w u → Calls Tryz.prog 16 #[.agg #[.int .i64 k, .int .i64 l, .string nm, v3, v4]] u fun e w' => e = .returned (.bool a) ∧ Below u.heap.size u w'))
    (HS : Hid (a = true → ∀ u, Below w.heap.size w u → Calls Tryz.prog 66 #[.agg #[.int .i64 k, .int .i64 l, .string nm, v3, v4]] u (ScalarPost u st)))
    (HM : Hid (a = true → ∀ u p, Below w.heap.size w u → u.cell? ⟨p, 0, none⟩ = some (.int .i64 st.kind) → Calls Tryz.prog 67 #[.agg #[.int .i64 k, .int .i64 l, .string nm, v3, v4], .func (.func 68) #[] #[.pointer (some ⟨p, 0, none⟩)]] u (CopyOf u x))) :
    Calls Tryz.prog 22 #[.agg #[.int .i64 k, .int .i64 l, .string nm, v3, v4]] w (FirstPost (if a then x else zeroV) (if a then 0 else 2) w) := by
  have H2 := Lib.hid (boxes2 w 26 38 #[.int .i64 k, .int .i64 l, .string nm, v3, v4] #[.int .i64 0, .int .i64 0, .slice none 0 0, .slice none 0 0])
  have H0 := Lib.hid H2.out.2.2.1
  have hs4 : w.heap.size ≤ w.heap.size + 1 := by omega
  cases a
  · clear HS HM
    go_enter Tryz.func22, Tryz.ntmps22
    go_wp2_with fail
    refine (HA.out _ H0.out).mono ?_
    rintro e w1 ⟨rfl, hb1⟩
    have H1 := Lib.hid (below_then H0.out hb1)
    have K1 := Lib.hid (H2.out.2.1.later hb1)
    obtain ⟨c0, c1, c2, c3⟩ := four K1.out
    have f0 := K1.out.free 0
    have f1 := K1.out.free 1
    have f2 := K1.out.free 2
    have f3 := K1.out.free 3
    clear hb1
    go_wp2
    refine bodyPost_ret (by simp [results, Tryz.results22, go_sem, c0, c1, c2, c3]; try rfl) rfl ?_
    exact ⟨none, 0, 0, none, 0, 0, rfl, zero_c _, set4_below H1.out hs4 _ _ _ _⟩
  · have HSY := Lib.hid (HS.out rfl)
    have HMY := Lib.hid (HM.out rfl)
    clear HS HM
    rw [if_pos rfl, if_pos rfl]
    unfold ScalarPost at HSY
    go_enter Tryz.func22, Tryz.ntmps22
    go_wp2_with fail
    refine (HA.out _ H0.out).mono ?_
    rintro e w1 ⟨rfl, hb1⟩
    have H1 := Lib.hid (below_then H0.out hb1)
    have K1 := Lib.hid (H2.out.2.1.later hb1)
    have T1 := Lib.hid (H2.out.1.later hb1)
    obtain ⟨p0, p1, p2, p3, p4⟩ := fives T1.out
    clear hb1
    go_wp2_with fail
    refine (HSY.out _ H1.out).mono ?_
    rintro e w2 ⟨A, n, c, B, m, d, rfl, -, hb2⟩
    have KB : Hid (Below w2.heap.size w2 (w2.alloc (.cells #[.int .i64 st.kind] 22))) := below_alloc _ _
    have KK : Hid ((w2.alloc (.cells #[.int .i64 st.kind] 22)).cell? ⟨w2.heap.size, 0, none⟩ = some (.int .i64 st.kind)) := (Blk.new w2 _ _).cell 0
    have H3 := Lib.hid (below_then (below_then H1.out hb2) KB.out)
    have K3 := Lib.hid ((K1.out.later hb2).later KB.out)
    have T3 := Lib.hid ((T1.out.later hb2).later KB.out)
    have HX := Lib.hid (HMY.out _ w2.heap.size H3.out KK.out)
    have hfd : ∀ w : World, (Instr.field 26 (.agg #[.int .i64 st.kind, .int .i64 st.len, .string st.name, .slice A n c, .slice B m d]) 0).run Tryz.prog w = .ok (.int .i64 st.kind) w := fun _ => by kernel_rfl
    clear hb2 p0 p1 p2 p3 p4
    obtain ⟨p0, p1, p2, p3, p4⟩ := fives T3.out
    go_wp2_with fail
    refine (HX.out).mono ?_
    rintro e w4 hc
    obtain ⟨A4, n4, c4, B4, m4, d4, rfl, hvp, hb4⟩ := copy_vaP hc
    have hs5 := K3.out.lt
    have VP := Lib.hid (hvp.mono (S' := fun b => b ≠ w.heap.size + 1) (fun b hb _ => by have hb : (w2.alloc (.cells #[.int .i64 st.kind] 22)).heap.size ≤ b := hb; omega))
    have H4 := Lib.hid (below_then H3.out hb4)
    have K4 := Lib.hid (K3.out.later hb4)
    obtain ⟨c0, c1, c2, c3⟩ := four K4.out
    have f0 := K4.out.free 0
    have f1 := K4.out.free 1
    have f2 := K4.out.free 2
    have f3 := K4.out.free 3
    clear hc hvp hb4 p0 p1 p2 p3 p4
    go_wp2
    refine bodyPost_ret (by simp [results, Tryz.results22, go_sem, c0, c1, c2, c3]; try rfl) rfl ?_
    exact ⟨A4, n4, c4, B4, m4, d4, rfl, VaP.toC _ _ (VP.out.set4 (fun b hb => hb) _ _ _ _), set4_below H4.out hs4 _ _ _ _⟩
theorem pfirst_any (t : Ty) (cs : List Value) (w : World) (ht : smT t) (h : TyC w t cs) :
    Calls Tryz.prog 22 #[.agg cs.toArray] w (FirstPost (firstR t) (valE t) w) := by
  have h0 := h
  obtain ⟨A, n, c, B, m, d, rfl, _⟩ := tyC_open h
  exact first_gen t (scalarT t) (firstV t) _ _ _ _ _ (validT isNameL t) w (fun u hu => pvalid_any t _ u ht (h0.later hu)) (fun hv u hu => pscalar_any (valid_good hv) (h0.later hu)) (fun hv u p hu hp => asm_first (valid_good hv) (h0.later hu) p hp)
end Go.Proofs.YtdiagnhdigakpaaGreatDoor
