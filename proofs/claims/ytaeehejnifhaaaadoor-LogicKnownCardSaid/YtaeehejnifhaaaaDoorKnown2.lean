/- LogicKnown's walk. -/
import Derived.Test.YtaeehejnifhaaaaDoorKnown1
namespace Go.Proofs.YtaeehejnifhaaaaDoor
open Go.RowKit

theorem refIs_yes {u : Value} {zs : List Nat} {w0 w : World} (h : Sl w0 u zs) (hb : Below w0.heap.size w0 w) (hv : isV zs = true) :
    Calls Tryd.prog 28 #[u] w fun e w' => e = .returned (.bool true) ∧ w = w' := by
  have := refIs_any u zs w (h.later hb)
  rwa [hv] at this
theorem refIs_no {u : Value} {zs : List Nat} {w0 w : World} (h : Sl w0 u zs) (hb : Below w0.heap.size w0 w) (hv : isV zs = false) :
    Calls Tryd.prog 28 #[u] w fun e w' => e = .returned (.bool false) ∧ w = w' := by
  have := refIs_any u zs w (h.later hb)
  rwa [hv] at this

theorem covers_true {u v : Value} {a b : List Nat} {w : World} (hu : Sl w u a) (hv : Sl w v b) (h : covV a b = true ∧ covE a b = 0) :
    Calls Tryd.prog 33 #[u, v] w fun e w' => e = .returned (.tuple #[.bool true, .int .i64 0]) ∧ Below w.heap.size w w' := by
  have := covers_any u v a b w hu hv
  rwa [h.1, h.2] at this
theorem map_lit {s : ByteArray} {u v : Value} {a b : List Nat} {w : World} (hk : nameK s ≤ 5) (ht : two a b = true) (hT : Tabs w) (hu : Sl w u a) (hv : Sl w v b) :
    Calls Tryd.prog 29 #[.string s, u, v] w fun e w' => ∃ x, e = .returned (.tuple #[x, .int .i64 0]) ∧ Sl w' x (List.zipWith (opN (nameK s)) a b) ∧ Below w.heap.size w w' := by
  have := map_any s u v a b w hT hu hv
  rw [(map_yes hk ht).1, (map_yes hk ht).2] at this
  exact this
theorem map_none {s : ByteArray} {u v : Value} {a b : List Nat} {w : World} (hk : ¬ nameK s ≤ 5) (hT : Tabs w) (hu : Sl w u a) (hv : Sl w v b) :
    Calls Tryd.prog 29 #[.string s, u, v] w fun e w' => ∃ (A : Option Addr) (c : Nat), e = .returned (.tuple #[.slice A 0 c, .int .i64 2]) ∧ Below w.heap.size w w' := by
  have := map_any s u v a b w hT hu hv
  have hno : ¬ (nameK s ≤ 5 ∧ two a b = true) := fun h => hk h.1
  rw [(map_no hno).1, (map_no hno).2] at this
  refine this.mono ?_
  rintro e w' ⟨x, rfl, ⟨A, c, rfl, _⟩, hb⟩
  exact ⟨A, c, rfl, hb⟩

set_option maxRecDepth 100000 in
set_option maxHeartbeats 2000000 in
theorem known_good (s : ByteArray) (x0 x1 x2 x3 : Value) (a b c e : List Nat) (w : World) (hT : Tabs w) (h0 : Sl w x0 a) (h1 : Sl w x1 b) (h2 : Sl w x2 c) (h3 : Sl w x3 e)
    (va : isV a = true) (vb : isV b = true) (l1 : a.length = b.length) (l2 : a.length = c.length) (l3 : a.length = e.length) (vc : isV c = true) (vd : isV e = true) :
    Calls Tryd.prog 11 #[.string s, .agg #[x0, x1, x2, x3]] w fun e w' => e = .returned (.bool true) ∧ Below w.heap.size w w' := by
  have hb0 := below_alloc w (.cells #[x0, x1, x2, x3] 57)
  have hbq : ∀ q, Below w.heap.size w ((w.alloc (.cells #[x0, x1, x2, x3] 57)).drewN q) := fun q => below_drewN hb0 q
  have HB0 := Lib.hid hbq
  have HT0 := Lib.hid hT
  have HX0 := Lib.hid h0
  have HX1 := Lib.hid h1
  have HX2 := Lib.hid h2
  have HX3 := Lib.hid h3
  obtain ⟨A0, c0, rfl, hn0, _, g0⟩ := h0
  obtain ⟨A1, c1, rfl, hn1, _, g1⟩ := h1
  obtain ⟨A2, c2, rfl, hn2, _, g2⟩ := h2
  obtain ⟨A3, c3, rfl, hn3, _, g3⟩ := h3
  have n1 : ((a.length : Int) != (b.length : Int)) = false := by rw [bne_eq_false_iff_eq]; omega
  have n2 : ((a.length : Int) != (c.length : Int)) = false := by rw [bne_eq_false_iff_eq]; omega
  have n3 : ((a.length : Int) != (e.length : Int)) = false := by rw [bne_eq_false_iff_eq]; omega
  have m1 : ((a.length : Int) == (b.length : Int)) = true := by rw [beq_iff_eq]; omega
  have m2 : ((a.length : Int) == (c.length : Int)) = true := by rw [beq_iff_eq]; omega
  have m3 : ((a.length : Int) == (e.length : Int)) = true := by rw [beq_iff_eq]; omega
  have V0 := Lib.hid va
  have V1 := Lib.hid vb
  have V2 := Lib.hid vc
  have V3 := Lib.hid vd
  have L1 := Lib.hid l1
  have L2 := Lib.hid l2
  have L3 := Lib.hid l3
  have G0 := Lib.hid g0
  have G1 := Lib.hid g1
  have G2 := Lib.hid g2
  have G3 := Lib.hid g3
  clear hT hbq hb0 g0 g1 g2 g3 va vb vc vd l1 l2 l3
  go_enter Tryd.func11, Tryd.ntmps11
  go_wp2_with fail
  go_quiet (fail)
  go_wp2_with fail
  refine (refIs_yes HX0.out (HB0.out _) V0.out).mono ?_
  rintro e w' ⟨rfl, rfl⟩
  go_wp2_with fail
  refine (refIs_yes HX1.out (HB0.out _) V1.out).mono ?_
  rintro e w' ⟨rfl, rfl⟩
  go_wp2_with fail
  refine (refIs_yes HX2.out (HB0.out _) V2.out).mono ?_
  rintro e w' ⟨rfl, rfl⟩
  go_wp2_with fail
  refine (refIs_yes HX3.out (HB0.out _) V3.out).mono ?_
  rintro e w' ⟨rfl, rfl⟩
  go_wp2_with fail
  have HBW := Lib.hid (HB0.out nq)
  generalize (w.alloc (.cells #[.slice A0 a.length c0, .slice A1 b.length c1, .slice A2 c.length c2, .slice A3 e.length c3] 57)).drewN nq = W0 at HBW
  clear n1 n2 n3 m1 m2 m3
  go_loopw [9, 10, 69] (fun v u i wr => ∃ k : Nat, k ≤ a.length ∧ i = .int .i64 k ∧ Own wr w.heap.size v (mixK a c k) ∧ Own wr w.heap.size u (mixK b e k) ∧ Apart u v ∧ Apart v u ∧ Below w.heap.size w wr) (fun _ _ i _ => a.length - (intOf i).toNat)
  case atStart => exact ⟨0, Nat.zero_le _, rfl, Own.nil _ HBW.out.size, Own.nil _ HBW.out.size, .inl rfl, .inl rfl, HBW.out⟩
  case round =>
    obtain ⟨k, hk, rfl, hv, hu, hap, hap', hb⟩ := hrel
    have HV := Lib.hid hv
    have HU := Lib.hid hu
    have HP := Lib.hid hap
    have HP' := Lib.hid hap'
    have HB := Lib.hid hb
    clear hv hu hap hap' hb
    by_cases hlt : k < a.length
    · have k1 : k < b.length := by have := L1.out; omega
      have k2 : k < c.length := by have := L2.out; omega
      have k3 : k < e.length := by have := L3.out; omega
      obtain ⟨b0, o0, rfl, g0⟩ := G0.out.resolve_left (fun h => by rw [h] at hlt; exact absurd hlt (by simp))
      obtain ⟨b1, o1, rfl, g1⟩ := G1.out.resolve_left (fun h => by rw [h] at k1; exact absurd k1 (by simp))
      obtain ⟨b2, o2, rfl, g2⟩ := G2.out.resolve_left (fun h => by rw [h] at k2; exact absurd k2 (by simp))
      obtain ⟨b3, o3, rfl, g3⟩ := G3.out.resolve_left (fun h => by rw [h] at k3; exact absurd k3 (by simp))
      have q0 := (HB.out.cell (block_lt_of_cell (g0 k hlt))).trans (g0 k hlt)
      have q1 := (HB.out.cell (block_lt_of_cell (g1 k k1))).trans (g1 k k1)
      have q2 := (HB.out.cell (block_lt_of_cell (g2 k k2))).trans (g2 k k2)
      have q3 := (HB.out.cell (block_lt_of_cell (g3 k k3))).trans (g3 k k3)
      clear g0 g1 g2 g3
      have t0 := bitsB_at (isV_bits V0.out).1 hlt
      have t1 := bitsB_at (isV_bits V1.out).1 k1
      have t2 := bitsB_at (isV_bits V2.out).1 k2
      have t3 := bitsB_at (isV_bits V3.out).1 k3
      have R1 := Lib.hid (mixK_succ hlt k2)
      have R2 := Lib.hid (mixK_succ k1 k3)
      have N1 : Hid ((mixK a c k).length + 1 ≤ 140737488355328) := by
        have := mixK_len (a := a) (c := c) hk L2.out
        have := (isV_bits V0.out).2.2
        show (mixK a c k).length + 1 ≤ 140737488355328
        omega
      have N2 : Hid ((mixK b e k).length + 1 ≤ 140737488355328) := by
        have := mixK_len (a := b) (c := e) (k := k) (by omega) (L1.out.symm.trans L3.out)
        have := (isV_bits V0.out).2.2
        show (mixK b e k).length + 1 ≤ 140737488355328
        omega
      generalize a[k] = z0 at q0 t0 R1
      generalize b[k] = z1 at q1 t1 R2
      generalize c[k] = z2 at q2 t2 R1
      generalize e[k] = z3 at q3 t3 R2
      by_cases d1 : 1 < z0
      all_goals
        by_cases d2 : 1 < z1
        all_goals
          simp only [mixN, d1, d2, if_true, if_false] at R1 R2
          have D1 : decide ((1 : Int) < (z0 : Int)) = decide (1 < z0) := by simp; omega
          have D2 : decide ((1 : Int) < (z1 : Int)) = decide (1 < z1) := by simp; omega
          simp only [d1, d2, decide_true, decide_false] at D1 D2
          go_wp2
          go_quiet (fail)
          go_wp2_with (first | (at_builtin; refine wpList_append_sl2 rfl _ _ rfl w.heap.size _ _ _ _ rfl rfl ((HV.out.drewN _).alloc _) (Sl.one _ _ (by omega)) N1.out (by simp) ?_; intro v1 w1 hown1 hg1 h51; have HZ1 := Lib.hid (And.intro hown1 (And.intro hg1 h51)); clear hown1 hg1 h51) | (at_builtin; refine wpList_append_sl2 rfl _ _ rfl w.heap.size _ _ _ _ rfl rfl ((append_apart ((HU.out.drewN _).alloc _) HP.out HZ1.out.2.1 HZ1.out.2.2).1.alloc _) (Sl.one _ _ (by omega)) N2.out (by simp) ?_; intro v2 w2 hown2 hg2 h52; have HZ2 := Lib.hid (And.intro hown2 (And.intro hg2 h52)); clear hown2 hg2 h52))
          go_roundw
          case rel =>
            refine ⟨k + 1, by omega, by go_num, ?_⟩
            rw [R1.out, R2.out]
            exact two_appends HB.out HV.out HU.out HP.out HP'.out HZ1.out HZ2.out
          case measure => simp [intOf]; omega
    · have hP : Sl wr u9 (List.zipWith mixN a c) := by rw [← mixK_end hlt L2.out]; exact HV.out.sl
      have hR : Sl wr u10 (List.zipWith mixN b e) := by rw [← mixK_end (k := k) (by have := L1.out; omega) (L1.out.symm.trans L3.out)]; exact HU.out.sl
      have T2 := mix_two V0.out V2.out L2.out
      have T3 := mix_two V1.out V3.out (L1.out.symm.trans L3.out)
      have tp : two a b = true := by unfold two; rw [V0.out, V1.out]; simpa using L1.out
      have tq : two (List.zipWith mixN a c) (List.zipWith mixN b e) = true := by
        unfold two
        rw [(two_yes T2).2.1, (two_yes T3).2.1]
        have := (two_yes T2).2.2
        have := (two_yes T3).2.2
        have := L1.out
        simp; simp at *; omega
      have C1 := Lib.hid (mix_cov V0.out V2.out L2.out)
      have TP := Lib.hid tp
      have TQ := Lib.hid tq
      have HT1 := Lib.hid (HT0.out.later HB.out)
      have HA1 := Lib.hid (HX0.out.later HB.out)
      have HE1 := Lib.hid (HX1.out.later HB.out)
      have HP1 := Lib.hid hP
      have HR1 := Lib.hid hR
      have HB1 := HB
      clear hP hR T2 T3 tp tq HV HU HP HP' G0 G1 G2 G3
      go_wp2_with fail
      refine (copied_any _ _ _ HA1.out).mono ?_
      rintro e w2 ⟨y1, rfl, hown, hb2⟩
      have HC2 := Lib.hid hown.sl
      clear hown
      have HT2 := Lib.hid (HT1.out.later hb2)
      have HA2 := Lib.hid (HA1.out.later hb2)
      have HE2 := Lib.hid (HE1.out.later hb2)
      have HP2 := Lib.hid (HP1.out.later hb2)
      have HR2 := Lib.hid (HR1.out.later hb2)
      have HB2 := Lib.hid (below_then HB1.out hb2)
      clear hb2
      go_wp2_with fail
      refine (copied_any _ _ _ HP2.out).mono ?_
      rintro e w3 ⟨y2, rfl, hown, hb3⟩
      have HD3 := Lib.hid hown.sl
      clear hown
      have HT3 := Lib.hid (HT2.out.later hb3)
      have HA3 := Lib.hid (HA2.out.later hb3)
      have HE3 := Lib.hid (HE2.out.later hb3)
      have HP3 := Lib.hid (HP2.out.later hb3)
      have HR3 := Lib.hid (HR2.out.later hb3)
      have HC3 := Lib.hid (HC2.out.later hb3)
      have HB3 := Lib.hid (below_then HB2.out hb3)
      clear hb3
      go_wp2_with fail
      refine (covers_true HC3.out HD3.out C1.out).mono ?_
      rintro e w4 ⟨rfl, hb4⟩
      have HT4 := Lib.hid (HT3.out.later hb4)
      have HA4 := Lib.hid (HA3.out.later hb4)
      have HE4 := Lib.hid (HE3.out.later hb4)
      have HP4 := Lib.hid (HP3.out.later hb4)
      have HR4 := Lib.hid (HR3.out.later hb4)
      have HB4 := Lib.hid (below_then HB3.out hb4)
      clear hb4
      by_cases hk : nameK s ≤ 5
      · have HK := Lib.hid hk
        have CZ := Lib.hid (zip_cov hk V0.out V1.out V2.out V3.out L1.out L2.out L3.out)
        clear hk
        go_wp2_with fail
        refine (map_lit HK.out TP.out HT4.out HA4.out HE4.out).mono ?_
        rintro e w5 ⟨y3, rfl, hx, hb5⟩
        have HF5 := Lib.hid hx
        clear hx
        have HT5 := Lib.hid (HT4.out.later hb5)
        have HA5 := Lib.hid (HA4.out.later hb5)
        have HE5 := Lib.hid (HE4.out.later hb5)
        have HP5 := Lib.hid (HP4.out.later hb5)
        have HR5 := Lib.hid (HR4.out.later hb5)
        have HB5 := Lib.hid (below_then HB4.out hb5)
        clear hb5
        go_wp2_with fail
        refine (map_lit HK.out TQ.out HT5.out HP5.out HR5.out).mono ?_
        rintro e w6 ⟨y4, rfl, hx, hb6⟩
        have HG6 := Lib.hid hx
        clear hx
        have HT6 := Lib.hid (HT5.out.later hb6)
        have HA6 := Lib.hid (HA5.out.later hb6)
        have HE6 := Lib.hid (HE5.out.later hb6)
        have HP6 := Lib.hid (HP5.out.later hb6)
        have HR6 := Lib.hid (HR5.out.later hb6)
        have HF6 := Lib.hid (HF5.out.later hb6)
        have HB6 := Lib.hid (below_then HB5.out hb6)
        clear hb6
        go_wp2_with fail
        refine (covers_true HF6.out HG6.out CZ.out).mono ?_
        rintro e w7 ⟨rfl, hb7⟩
        have HT7 := Lib.hid (HT6.out.later hb7)
        have HB7 := Lib.hid (below_then HB6.out hb7)
        clear hb7
        go_wp2_with fail
        refine (awake_any _ HT7.out).mono ?_
        rintro e w99 ⟨rfl, hb99⟩
        have HB99 := Lib.hid (below_then HB7.out hb99)
        clear hb99
        go_wp2
        go_ret
        exact ⟨rfl, HB99.out⟩
      · have HK := Lib.hid hk
        clear hk
        go_wp2_with fail
        refine (map_none HK.out HT4.out HA4.out HE4.out).mono ?_
        rintro e w5 ⟨A5, c5, rfl, hb5⟩
        have HT5 := Lib.hid (HT4.out.later hb5)
        have HA5 := Lib.hid (HA4.out.later hb5)
        have HE5 := Lib.hid (HE4.out.later hb5)
        have HP5 := Lib.hid (HP4.out.later hb5)
        have HR5 := Lib.hid (HR4.out.later hb5)
        have HB5 := Lib.hid (below_then HB4.out hb5)
        clear hb5
        go_wp2_with fail
        refine (map_none HK.out HT5.out HP5.out HR5.out).mono ?_
        rintro e w6 ⟨A6, c6, rfl, hb6⟩
        have HT6 := Lib.hid (HT5.out.later hb6)
        have HB6 := Lib.hid (below_then HB5.out hb6)
        clear hb6
        go_wp2_with fail
        refine (awake_any _ HT6.out).mono ?_
        rintro e w99 ⟨rfl, hb99⟩
        have HB99 := Lib.hid (below_then HB6.out hb99)
        clear hb99
        go_wp2
        go_ret
        exact ⟨rfl, HB99.out⟩

set_option maxRecDepth 100000 in
set_option maxHeartbeats 2000000 in
theorem known_bad0 (s : ByteArray) (x0 x1 x2 x3 : Value) (a b c e : List Nat) (w : World) (hT : Tabs w) (h0 : Sl w x0 a) (h1 : Sl w x1 b) (h2 : Sl w x2 c) (h3 : Sl w x3 e)  (va : isV a = false) :
    Calls Tryd.prog 11 #[.string s, .agg #[x0, x1, x2, x3]] w fun e w' => e = .returned (.bool true) ∧ Below w.heap.size w w' := by
  have hb0 := below_alloc w (.cells #[x0, x1, x2, x3] 57)
  have hbq : ∀ q, Below w.heap.size w ((w.alloc (.cells #[x0, x1, x2, x3] 57)).drewN q) := fun q => below_drewN hb0 q
  have HB0 := Lib.hid hbq
  have HT0 := Lib.hid hT
  have HX0 := Lib.hid h0
  have HX1 := Lib.hid h1
  have HX2 := Lib.hid h2
  have HX3 := Lib.hid h3
  obtain ⟨A0, c0, rfl, hn0, _, g0⟩ := h0
  obtain ⟨A1, c1, rfl, hn1, _, g1⟩ := h1
  obtain ⟨A2, c2, rfl, hn2, _, g2⟩ := h2
  obtain ⟨A3, c3, rfl, hn3, _, g3⟩ := h3
  clear hT hbq hb0
  have Hva := Lib.hid va
  clear g0 g1 g2 g3 va
  go_enter Tryd.func11, Tryd.ntmps11
  go_wp2_with fail
  go_quiet (fail)
  go_wp2_with fail
  refine (refIs_no HX0.out (HB0.out _) Hva.out).mono ?_
  rintro e w' ⟨rfl, rfl⟩
  go_wp2_with fail
  refine (awake_any _ (HT0.out.later (HB0.out _))).mono ?_
  rintro e w9 ⟨rfl, hb9⟩
  have HB9 := Lib.hid (below_then (HB0.out _) hb9)
  clear hb9
  go_wp2
  go_ret
  exact ⟨rfl, HB9.out⟩

set_option maxRecDepth 100000 in
set_option maxHeartbeats 2000000 in
theorem known_bad1 (s : ByteArray) (x0 x1 x2 x3 : Value) (a b c e : List Nat) (w : World) (hT : Tabs w) (h0 : Sl w x0 a) (h1 : Sl w x1 b) (h2 : Sl w x2 c) (h3 : Sl w x3 e) (va : isV a = true) (vb : isV b = false) :
    Calls Tryd.prog 11 #[.string s, .agg #[x0, x1, x2, x3]] w fun e w' => e = .returned (.bool true) ∧ Below w.heap.size w w' := by
  have hb0 := below_alloc w (.cells #[x0, x1, x2, x3] 57)
  have hbq : ∀ q, Below w.heap.size w ((w.alloc (.cells #[x0, x1, x2, x3] 57)).drewN q) := fun q => below_drewN hb0 q
  have HB0 := Lib.hid hbq
  have HT0 := Lib.hid hT
  have HX0 := Lib.hid h0
  have HX1 := Lib.hid h1
  have HX2 := Lib.hid h2
  have HX3 := Lib.hid h3
  obtain ⟨A0, c0, rfl, hn0, _, g0⟩ := h0
  obtain ⟨A1, c1, rfl, hn1, _, g1⟩ := h1
  obtain ⟨A2, c2, rfl, hn2, _, g2⟩ := h2
  obtain ⟨A3, c3, rfl, hn3, _, g3⟩ := h3
  clear hT hbq hb0
  have Hva := Lib.hid va
  have Hvb := Lib.hid vb
  clear g0 g1 g2 g3 va vb
  go_enter Tryd.func11, Tryd.ntmps11
  go_wp2_with fail
  go_quiet (fail)
  go_wp2_with fail
  refine (refIs_yes HX0.out (HB0.out _) Hva.out).mono ?_
  rintro e w' ⟨rfl, rfl⟩
  go_wp2_with fail
  refine (refIs_no HX1.out (HB0.out _) Hvb.out).mono ?_
  rintro e w' ⟨rfl, rfl⟩
  go_wp2_with fail
  refine (awake_any _ (HT0.out.later (HB0.out _))).mono ?_
  rintro e w9 ⟨rfl, hb9⟩
  have HB9 := Lib.hid (below_then (HB0.out _) hb9)
  clear hb9
  go_wp2
  go_ret
  exact ⟨rfl, HB9.out⟩

set_option maxRecDepth 100000 in
set_option maxHeartbeats 2000000 in
theorem known_bad2 (s : ByteArray) (x0 x1 x2 x3 : Value) (a b c e : List Nat) (w : World) (hT : Tabs w) (h0 : Sl w x0 a) (h1 : Sl w x1 b) (h2 : Sl w x2 c) (h3 : Sl w x3 e) (va : isV a = true) (vb : isV b = true) (l1 : a.length ≠ b.length) :
    Calls Tryd.prog 11 #[.string s, .agg #[x0, x1, x2, x3]] w fun e w' => e = .returned (.bool true) ∧ Below w.heap.size w w' := by
  have hb0 := below_alloc w (.cells #[x0, x1, x2, x3] 57)
  have hbq : ∀ q, Below w.heap.size w ((w.alloc (.cells #[x0, x1, x2, x3] 57)).drewN q) := fun q => below_drewN hb0 q
  have HB0 := Lib.hid hbq
  have HT0 := Lib.hid hT
  have HX0 := Lib.hid h0
  have HX1 := Lib.hid h1
  have HX2 := Lib.hid h2
  have HX3 := Lib.hid h3
  obtain ⟨A0, c0, rfl, hn0, _, g0⟩ := h0
  obtain ⟨A1, c1, rfl, hn1, _, g1⟩ := h1
  obtain ⟨A2, c2, rfl, hn2, _, g2⟩ := h2
  obtain ⟨A3, c3, rfl, hn3, _, g3⟩ := h3
  clear hT hbq hb0
  have n1 : ((a.length : Int) != (b.length : Int)) = true := by rw [bne_iff_ne]; omega
  have m1 : ((a.length : Int) == (b.length : Int)) = false := by rw [beq_eq_false_iff_ne]; omega
  have Hva := Lib.hid va
  have Hvb := Lib.hid vb
  clear g0 g1 g2 g3 va vb l1
  go_enter Tryd.func11, Tryd.ntmps11
  go_wp2_with fail
  go_quiet (fail)
  go_wp2_with fail
  refine (refIs_yes HX0.out (HB0.out _) Hva.out).mono ?_
  rintro e w' ⟨rfl, rfl⟩
  go_wp2_with fail
  refine (refIs_yes HX1.out (HB0.out _) Hvb.out).mono ?_
  rintro e w' ⟨rfl, rfl⟩
  go_wp2_with fail
  refine (awake_any _ (HT0.out.later (HB0.out _))).mono ?_
  rintro e w9 ⟨rfl, hb9⟩
  have HB9 := Lib.hid (below_then (HB0.out _) hb9)
  clear hb9
  go_wp2
  go_ret
  exact ⟨rfl, HB9.out⟩

set_option maxRecDepth 100000 in
set_option maxHeartbeats 2000000 in
theorem known_bad3 (s : ByteArray) (x0 x1 x2 x3 : Value) (a b c e : List Nat) (w : World) (hT : Tabs w) (h0 : Sl w x0 a) (h1 : Sl w x1 b) (h2 : Sl w x2 c) (h3 : Sl w x3 e) (va : isV a = true) (vb : isV b = true) (l1 : a.length = b.length) (l2 : a.length ≠ c.length) :
    Calls Tryd.prog 11 #[.string s, .agg #[x0, x1, x2, x3]] w fun e w' => e = .returned (.bool true) ∧ Below w.heap.size w w' := by
  have hb0 := below_alloc w (.cells #[x0, x1, x2, x3] 57)
  have hbq : ∀ q, Below w.heap.size w ((w.alloc (.cells #[x0, x1, x2, x3] 57)).drewN q) := fun q => below_drewN hb0 q
  have HB0 := Lib.hid hbq
  have HT0 := Lib.hid hT
  have HX0 := Lib.hid h0
  have HX1 := Lib.hid h1
  have HX2 := Lib.hid h2
  have HX3 := Lib.hid h3
  obtain ⟨A0, c0, rfl, hn0, _, g0⟩ := h0
  obtain ⟨A1, c1, rfl, hn1, _, g1⟩ := h1
  obtain ⟨A2, c2, rfl, hn2, _, g2⟩ := h2
  obtain ⟨A3, c3, rfl, hn3, _, g3⟩ := h3
  clear hT hbq hb0
  have n1 : ((a.length : Int) != (b.length : Int)) = false := by rw [bne_eq_false_iff_eq]; omega
  have m1 : ((a.length : Int) == (b.length : Int)) = true := by rw [beq_iff_eq]; omega
  have n2 : ((a.length : Int) != (c.length : Int)) = true := by rw [bne_iff_ne]; omega
  have m2 : ((a.length : Int) == (c.length : Int)) = false := by rw [beq_eq_false_iff_ne]; omega
  have Hva := Lib.hid va
  have Hvb := Lib.hid vb
  clear g0 g1 g2 g3 va vb l1 l2
  go_enter Tryd.func11, Tryd.ntmps11
  go_wp2_with fail
  go_quiet (fail)
  go_wp2_with fail
  refine (refIs_yes HX0.out (HB0.out _) Hva.out).mono ?_
  rintro e w' ⟨rfl, rfl⟩
  go_wp2_with fail
  refine (refIs_yes HX1.out (HB0.out _) Hvb.out).mono ?_
  rintro e w' ⟨rfl, rfl⟩
  go_wp2_with fail
  refine (awake_any _ (HT0.out.later (HB0.out _))).mono ?_
  rintro e w9 ⟨rfl, hb9⟩
  have HB9 := Lib.hid (below_then (HB0.out _) hb9)
  clear hb9
  go_wp2
  go_ret
  exact ⟨rfl, HB9.out⟩

set_option maxRecDepth 100000 in
set_option maxHeartbeats 2000000 in
theorem known_bad4 (s : ByteArray) (x0 x1 x2 x3 : Value) (a b c e : List Nat) (w : World) (hT : Tabs w) (h0 : Sl w x0 a) (h1 : Sl w x1 b) (h2 : Sl w x2 c) (h3 : Sl w x3 e) (va : isV a = true) (vb : isV b = true) (l1 : a.length = b.length) (l2 : a.length = c.length) (l3 : a.length ≠ e.length) :
    Calls Tryd.prog 11 #[.string s, .agg #[x0, x1, x2, x3]] w fun e w' => e = .returned (.bool true) ∧ Below w.heap.size w w' := by
  have hb0 := below_alloc w (.cells #[x0, x1, x2, x3] 57)
  have hbq : ∀ q, Below w.heap.size w ((w.alloc (.cells #[x0, x1, x2, x3] 57)).drewN q) := fun q => below_drewN hb0 q
  have HB0 := Lib.hid hbq
  have HT0 := Lib.hid hT
  have HX0 := Lib.hid h0
  have HX1 := Lib.hid h1
  have HX2 := Lib.hid h2
  have HX3 := Lib.hid h3
  obtain ⟨A0, c0, rfl, hn0, _, g0⟩ := h0
  obtain ⟨A1, c1, rfl, hn1, _, g1⟩ := h1
  obtain ⟨A2, c2, rfl, hn2, _, g2⟩ := h2
  obtain ⟨A3, c3, rfl, hn3, _, g3⟩ := h3
  clear hT hbq hb0
  have n1 : ((a.length : Int) != (b.length : Int)) = false := by rw [bne_eq_false_iff_eq]; omega
  have m1 : ((a.length : Int) == (b.length : Int)) = true := by rw [beq_iff_eq]; omega
  have n2 : ((a.length : Int) != (c.length : Int)) = false := by rw [bne_eq_false_iff_eq]; omega
  have m2 : ((a.length : Int) == (c.length : Int)) = true := by rw [beq_iff_eq]; omega
  have n3 : ((a.length : Int) != (e.length : Int)) = true := by rw [bne_iff_ne]; omega
  have m3 : ((a.length : Int) == (e.length : Int)) = false := by rw [beq_eq_false_iff_ne]; omega
  have Hva := Lib.hid va
  have Hvb := Lib.hid vb
  clear g0 g1 g2 g3 va vb l1 l2 l3
  go_enter Tryd.func11, Tryd.ntmps11
  go_wp2_with fail
  go_quiet (fail)
  go_wp2_with fail
  refine (refIs_yes HX0.out (HB0.out _) Hva.out).mono ?_
  rintro e w' ⟨rfl, rfl⟩
  go_wp2_with fail
  refine (refIs_yes HX1.out (HB0.out _) Hvb.out).mono ?_
  rintro e w' ⟨rfl, rfl⟩
  go_wp2_with fail
  refine (awake_any _ (HT0.out.later (HB0.out _))).mono ?_
  rintro e w9 ⟨rfl, hb9⟩
  have HB9 := Lib.hid (below_then (HB0.out _) hb9)
  clear hb9
  go_wp2
  go_ret
  exact ⟨rfl, HB9.out⟩

set_option maxRecDepth 100000 in
set_option maxHeartbeats 2000000 in
theorem known_bad5 (s : ByteArray) (x0 x1 x2 x3 : Value) (a b c e : List Nat) (w : World) (hT : Tabs w) (h0 : Sl w x0 a) (h1 : Sl w x1 b) (h2 : Sl w x2 c) (h3 : Sl w x3 e) (va : isV a = true) (vb : isV b = true) (l1 : a.length = b.length) (l2 : a.length = c.length) (l3 : a.length = e.length) (vc : isV c = false) :
    Calls Tryd.prog 11 #[.string s, .agg #[x0, x1, x2, x3]] w fun e w' => e = .returned (.bool true) ∧ Below w.heap.size w w' := by
  have hb0 := below_alloc w (.cells #[x0, x1, x2, x3] 57)
  have hbq : ∀ q, Below w.heap.size w ((w.alloc (.cells #[x0, x1, x2, x3] 57)).drewN q) := fun q => below_drewN hb0 q
  have HB0 := Lib.hid hbq
  have HT0 := Lib.hid hT
  have HX0 := Lib.hid h0
  have HX1 := Lib.hid h1
  have HX2 := Lib.hid h2
  have HX3 := Lib.hid h3
  obtain ⟨A0, c0, rfl, hn0, _, g0⟩ := h0
  obtain ⟨A1, c1, rfl, hn1, _, g1⟩ := h1
  obtain ⟨A2, c2, rfl, hn2, _, g2⟩ := h2
  obtain ⟨A3, c3, rfl, hn3, _, g3⟩ := h3
  clear hT hbq hb0
  have n1 : ((a.length : Int) != (b.length : Int)) = false := by rw [bne_eq_false_iff_eq]; omega
  have m1 : ((a.length : Int) == (b.length : Int)) = true := by rw [beq_iff_eq]; omega
  have n2 : ((a.length : Int) != (c.length : Int)) = false := by rw [bne_eq_false_iff_eq]; omega
  have m2 : ((a.length : Int) == (c.length : Int)) = true := by rw [beq_iff_eq]; omega
  have n3 : ((a.length : Int) != (e.length : Int)) = false := by rw [bne_eq_false_iff_eq]; omega
  have m3 : ((a.length : Int) == (e.length : Int)) = true := by rw [beq_iff_eq]; omega
  have Hva := Lib.hid va
  have Hvb := Lib.hid vb
  have Hvc := Lib.hid vc
  clear g0 g1 g2 g3 va vb vc l1 l2 l3
  go_enter Tryd.func11, Tryd.ntmps11
  go_wp2_with fail
  go_quiet (fail)
  go_wp2_with fail
  refine (refIs_yes HX0.out (HB0.out _) Hva.out).mono ?_
  rintro e w' ⟨rfl, rfl⟩
  go_wp2_with fail
  refine (refIs_yes HX1.out (HB0.out _) Hvb.out).mono ?_
  rintro e w' ⟨rfl, rfl⟩
  go_wp2_with fail
  refine (refIs_no HX2.out (HB0.out _) Hvc.out).mono ?_
  rintro e w' ⟨rfl, rfl⟩
  go_wp2_with fail
  refine (awake_any _ (HT0.out.later (HB0.out _))).mono ?_
  rintro e w9 ⟨rfl, hb9⟩
  have HB9 := Lib.hid (below_then (HB0.out _) hb9)
  clear hb9
  go_wp2
  go_ret
  exact ⟨rfl, HB9.out⟩

set_option maxRecDepth 100000 in
set_option maxHeartbeats 2000000 in
theorem known_bad6 (s : ByteArray) (x0 x1 x2 x3 : Value) (a b c e : List Nat) (w : World) (hT : Tabs w) (h0 : Sl w x0 a) (h1 : Sl w x1 b) (h2 : Sl w x2 c) (h3 : Sl w x3 e) (va : isV a = true) (vb : isV b = true) (l1 : a.length = b.length) (l2 : a.length = c.length) (l3 : a.length = e.length) (vc : isV c = true) (vd : isV e = false) :
    Calls Tryd.prog 11 #[.string s, .agg #[x0, x1, x2, x3]] w fun e w' => e = .returned (.bool true) ∧ Below w.heap.size w w' := by
  have hb0 := below_alloc w (.cells #[x0, x1, x2, x3] 57)
  have hbq : ∀ q, Below w.heap.size w ((w.alloc (.cells #[x0, x1, x2, x3] 57)).drewN q) := fun q => below_drewN hb0 q
  have HB0 := Lib.hid hbq
  have HT0 := Lib.hid hT
  have HX0 := Lib.hid h0
  have HX1 := Lib.hid h1
  have HX2 := Lib.hid h2
  have HX3 := Lib.hid h3
  obtain ⟨A0, c0, rfl, hn0, _, g0⟩ := h0
  obtain ⟨A1, c1, rfl, hn1, _, g1⟩ := h1
  obtain ⟨A2, c2, rfl, hn2, _, g2⟩ := h2
  obtain ⟨A3, c3, rfl, hn3, _, g3⟩ := h3
  clear hT hbq hb0
  have n1 : ((a.length : Int) != (b.length : Int)) = false := by rw [bne_eq_false_iff_eq]; omega
  have m1 : ((a.length : Int) == (b.length : Int)) = true := by rw [beq_iff_eq]; omega
  have n2 : ((a.length : Int) != (c.length : Int)) = false := by rw [bne_eq_false_iff_eq]; omega
  have m2 : ((a.length : Int) == (c.length : Int)) = true := by rw [beq_iff_eq]; omega
  have n3 : ((a.length : Int) != (e.length : Int)) = false := by rw [bne_eq_false_iff_eq]; omega
  have m3 : ((a.length : Int) == (e.length : Int)) = true := by rw [beq_iff_eq]; omega
  have Hva := Lib.hid va
  have Hvb := Lib.hid vb
  have Hvc := Lib.hid vc
  have Hvd := Lib.hid vd
  clear g0 g1 g2 g3 va vb vc vd l1 l2 l3
  go_enter Tryd.func11, Tryd.ntmps11
  go_wp2_with fail
  go_quiet (fail)
  go_wp2_with fail
  refine (refIs_yes HX0.out (HB0.out _) Hva.out).mono ?_
  rintro e w' ⟨rfl, rfl⟩
  go_wp2_with fail
  refine (refIs_yes HX1.out (HB0.out _) Hvb.out).mono ?_
  rintro e w' ⟨rfl, rfl⟩
  go_wp2_with fail
  refine (refIs_yes HX2.out (HB0.out _) Hvc.out).mono ?_
  rintro e w' ⟨rfl, rfl⟩
  go_wp2_with fail
  refine (refIs_no HX3.out (HB0.out _) Hvd.out).mono ?_
  rintro e w' ⟨rfl, rfl⟩
  go_wp2_with fail
  refine (awake_any _ (HT0.out.later (HB0.out _))).mono ?_
  rintro e w9 ⟨rfl, hb9⟩
  have HB9 := Lib.hid (below_then (HB0.out _) hb9)
  clear hb9
  go_wp2
  go_ret
  exact ⟨rfl, HB9.out⟩

theorem logicKnown_walk (s : ByteArray) (x0 x1 x2 x3 : Value) (a b c e : List Nat) (w : World) (hT : Tabs w) (h0 : Sl w x0 a) (h1 : Sl w x1 b) (h2 : Sl w x2 c) (h3 : Sl w x3 e) :
    Calls Tryd.prog 11 #[.string s, .agg #[x0, x1, x2, x3]] w fun e w' => e = .returned (.bool true) ∧ Below w.heap.size w w' := by
  have neg : ∀ {p : Bool}, ¬ p = true → p = false := by intro p h; simpa using h
  by_cases va : isV a = true
  case neg => exact known_bad0 s x0 x1 x2 x3 a b c e w hT h0 h1 h2 h3 (neg va)
  by_cases vb : isV b = true
  case neg => exact known_bad1 s x0 x1 x2 x3 a b c e w hT h0 h1 h2 h3 va (neg vb)
  by_cases l1 : a.length = b.length
  case neg => exact known_bad2 s x0 x1 x2 x3 a b c e w hT h0 h1 h2 h3 va vb l1
  by_cases l2 : a.length = c.length
  case neg => exact known_bad3 s x0 x1 x2 x3 a b c e w hT h0 h1 h2 h3 va vb l1 l2
  by_cases l3 : a.length = e.length
  case neg => exact known_bad4 s x0 x1 x2 x3 a b c e w hT h0 h1 h2 h3 va vb l1 l2 l3
  by_cases vc : isV c = true
  case neg => exact known_bad5 s x0 x1 x2 x3 a b c e w hT h0 h1 h2 h3 va vb l1 l2 l3 (neg vc)
  by_cases vd : isV e = true
  case neg => exact known_bad6 s x0 x1 x2 x3 a b c e w hT h0 h1 h2 h3 va vb l1 l2 l3 vc (neg vd)
  exact known_good s x0 x1 x2 x3 a b c e w hT h0 h1 h2 h3 va vb l1 l2 l3 vc vd
end Go.Proofs.YtaeehejnifhaaaaDoor
