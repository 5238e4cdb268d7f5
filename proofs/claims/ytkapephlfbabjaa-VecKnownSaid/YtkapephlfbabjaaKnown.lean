/- VecKnown: with more known, sums, differences and products are covered by what they were; no condition. -/
import Derived.Test.YtkapephlfbabjaaLaw
import Derived.Test.YtkapephlfbabjaaAwake
import Derived.Test.YtkapephlfbabjaaKnownNo
namespace Go.Proofs.Ytkapephlfbabjaa
open Go.ChangeShapes Go.WideShapes Go.ChangeAt Go.WideMaps Go.WideElems Go.RowKit
open Go.ChangeMaps (open_string)

theorem cells_on {w w1 : World} {b off : Nat} {zs : List Nat} (hc : ∀ (k : Nat) (h : k < zs.length), w.cell? ⟨b, off + k, none⟩ = some (.int .u8 (zs[k] : Nat))) (hb : Below w.heap.size w w1) :
    ∀ (k : Nat) (h : k < zs.length), w1.cell? ⟨b, off + k, none⟩ = some (.int .u8 (zs[k] : Nat)) := fun k h => (hb.cell (block_lt_of_cell (hc k h))).trans (hc k h)
set_option maxRecDepth 100000 in
set_option maxHeartbeats 8000000 in
theorem known_good (A0 A1 : Option Addr) (n c0 c1 c2 c3 b2 o2 b3 o3 : Nat) (w : World) (a b c e SAdd TAdd SSub TSub SMul TMul : List Nat) (hn : n ≤ 64) (hn1 : 1 ≤ n) (hal : Hid (a.length = n)) (hbl : Hid (b.length = n)) (hcl : Hid (c.length = n)) (hel : Hid (e.length = n))
    (HCz : Hid (∀ z ∈ c, z < 256)) (HEz : Hid (∀ z ∈ e, z < 256)) (Ha : Hid (Sl w (.slice A0 n c0) a)) (Hb : Hid (Sl w (.slice A1 n c1) b)) (Hc : Hid (Sl w (.slice (some ⟨b2, o2, none⟩) n c2) c)) (He : Hid (Sl w (.slice (some ⟨b3, o3, none⟩) n c3) e))
    (G2 : Hid (∀ (k : Nat) (h : k < c.length), w.cell? ⟨b2, o2 + k, none⟩ = some (.int .u8 (c[k] : Nat)))) (G3 : Hid (∀ (k : Nat) (h : k < e.length), w.cell? ⟨b3, o3 + k, none⟩ = some (.int .u8 (e[k] : Nat))))
    (HIa : Hid (∀ v w, Sl w v a → Calls Try.prog 53 #[v] w fun e w' => e = .returned (.bool true) ∧ w = w')) (HIb : Hid (∀ v w, Sl w v b → Calls Try.prog 53 #[v] w fun e w' => e = .returned (.bool true) ∧ w = w')) (HIc : Hid (∀ v w, Sl w v c → Calls Try.prog 53 #[v] w fun e w' => e = .returned (.bool true) ∧ w = w')) (HIe : Hid (∀ v w, Sl w v e → Calls Try.prog 53 #[v] w fun e w' => e = .returned (.bool true) ∧ w = w'))
    (HAdd1 : Hid (∀ u v w, Sl w u a → Sl w v b → Calls Try.prog 29 #[u, v] w fun e w' => ∃ x, e = .returned (.tuple #[x, .int .i64 0]) ∧ Sl w' x SAdd ∧ Below w.heap.size w w')) (HAdd2 : Hid (∀ u v w, Sl w u (mixL a c) → Sl w v (mixL b e) → Calls Try.prog 29 #[u, v] w fun e w' => ∃ x, e = .returned (.tuple #[x, .int .i64 0]) ∧ Sl w' x TAdd ∧ Below w.heap.size w w')) (HAdd3 : Hid (∀ u v w, Sl w u SAdd → Sl w v TAdd → Calls Try.prog 55 #[u, v] w fun e w' => e = .returned (.bool true) ∧ Below w.heap.size w w'))
    (HSub1 : Hid (∀ u v w, Sl w u a → Sl w v b → Calls Try.prog 31 #[u, v] w fun e w' => ∃ x, e = .returned (.tuple #[x, .int .i64 0]) ∧ Sl w' x SSub ∧ Below w.heap.size w w')) (HSub2 : Hid (∀ u v w, Sl w u (mixL a c) → Sl w v (mixL b e) → Calls Try.prog 31 #[u, v] w fun e w' => ∃ x, e = .returned (.tuple #[x, .int .i64 0]) ∧ Sl w' x TSub ∧ Below w.heap.size w w')) (HSub3 : Hid (∀ u v w, Sl w u SSub → Sl w v TSub → Calls Try.prog 55 #[u, v] w fun e w' => e = .returned (.bool true) ∧ Below w.heap.size w w'))
    (HMul1 : Hid (∀ u v w, Sl w u a → Sl w v b → Calls Try.prog 33 #[u, v] w fun e w' => ∃ x, e = .returned (.tuple #[x, .int .i64 0]) ∧ Sl w' x SMul ∧ Below w.heap.size w w')) (HMul2 : Hid (∀ u v w, Sl w u (mixL a c) → Sl w v (mixL b e) → Calls Try.prog 33 #[u, v] w fun e w' => ∃ x, e = .returned (.tuple #[x, .int .i64 0]) ∧ Sl w' x TMul ∧ Below w.heap.size w w')) (HMul3 : Hid (∀ u v w, Sl w u SMul → Sl w v TMul → Calls Try.prog 55 #[u, v] w fun e w' => e = .returned (.bool true) ∧ Below w.heap.size w w')) :
    Calls Try.prog 12 #[.agg #[.slice A0 n c0, .slice A1 n c1, .slice (some ⟨b2, o2, none⟩) n c2, .slice (some ⟨b3, o3, none⟩) n c3]] w fun e w' => e = .returned (.bool true) ∧ Below w.heap.size w w' := by
  have hbN : Hid (∀ q, Below w.heap.size w ((w.alloc (.cells #[.slice A0 n c0, .slice A1 n c1, .slice (some ⟨b2, o2, none⟩) n c2, .slice (some ⟨b3, o3, none⟩) n c3] 52)).drewN q)) := fun q => below_drewN (below_alloc w (.cells #[.slice A0 n c0, .slice A1 n c1, .slice (some ⟨b2, o2, none⟩) n c2, .slice (some ⟨b3, o3, none⟩) n c3] 52)) q
  go_enter Try.func12, Try.ntmps12
  go_wp2_with fail
  go_quiet (fail)
  generalize hW1 : World.drewN _ _ = W1
  have hb0 : Below w.heap.size w W1 := hW1 ▸ hbN.out _
  have HC := Lib.hid (cells_on G2.out hb0)
  have HE := Lib.hid (cells_on G3.out hb0)
  have HB0 := Lib.hid hb0
  have Ha0 := Lib.hid (Ha.out.later hb0)
  have Hb0 := Lib.hid (Hb.out.later hb0)
  clear hb0 Ha Hb
  clear hW1 hbN G2 G3
  go_wp2_with fail
  refine (HIa.out _ _ Ha0.out).mono ?_
  rintro e w' ⟨rfl, rfl⟩
  go_wp2_with fail
  refine (HIb.out _ _ Hb0.out).mono ?_
  rintro e w' ⟨rfl, rfl⟩
  have HC0 := Lib.hid (Hc.out.later HB0.out)
  have HE0 := Lib.hid (He.out.later HB0.out)
  clear Hc He
  go_wp2_with fail
  refine (HIc.out _ _ HC0.out).mono ?_
  rintro e w' ⟨rfl, rfl⟩
  go_wp2_with fail
  refine (HIe.out _ _ HE0.out).mono ?_
  rintro e w' ⟨rfl, rfl⟩
  go_wp2_with fail
  refine (copied_any _ a _ Ha0.out).mono ?_
  rintro e' v1 ⟨x1, rfl, sx, hb1⟩
  obtain ⟨g, cap, rfl⟩ := sx.form (by have := hal.out; omega)
  have Hx1 := Lib.hid sx
  have hb1' := Lib.hid hb1
  clear sx
  have hB1 := Hb0.out.later hb1
  have HB1v := Lib.hid hB1
  clear hB1 hb1
  go_wp2_with fail
  refine (copied_any _ b _ HB1v.out).mono ?_
  rintro e' v2 ⟨y1, rfl, sy, hb2⟩
  obtain ⟨g', cap', rfl⟩ := sy.form (by have := hbl.out; omega)
  have hne : ¬ g' = g := by have := (Hx1.out.block).2; have := sy.block.1; omega
  have hg1 := Hx1.out.block.1
  have hg2 : W1.heap.size ≤ g' := Nat.le_trans hb1'.out.size sy.block.1
  have hX2 := Hx1.out.kept hb2
  have HB2 := Lib.hid (below_then hb1'.out hb2)
  have hs1 := Lib.hid hb1'.out.size
  have HY2 := Lib.hid sy
  have HX2 := Lib.hid hX2
  clear sy hX2 hb2 hb1' Hx1 HB1v
  have ea := hal.out
  have eb := hbl.out
  have HX3 : Hid (Own v2 W1.heap.size (.slice (some ⟨g, 0, none⟩) n cap) (mixP a c 0)) := by rw [mixP_zero, ← ea]; exact HX2
  have HY3 : Hid (Own v2 v1.heap.size (.slice (some ⟨g', 0, none⟩) n cap') (mixP b e 0)) := by rw [mixP_zero, ← eb]; exact HY2
  rw [ea, eb]
  clear HX2 HY2 ea eb
  go_wp2_with fail
  go_loopw [68] (fun i wr => ∃ k : Nat, k ≤ n ∧ i = .int .i64 k ∧ Own wr W1.heap.size (.slice (some ⟨g, 0, none⟩) n cap) (mixP a c k) ∧ Own wr v1.heap.size (.slice (some ⟨g', 0, none⟩) n cap') (mixP b e k) ∧ Below W1.heap.size W1 wr) (fun i _ => n - (intOf i).toNat)
  case atStart => exact ⟨0, Nat.zero_le _, rfl, HX3.out, HY3.out, HB2.out⟩
  case round =>
    obtain ⟨k, hk, rfl, hv, hu, hb3⟩ := hrel
    have HV := Lib.hid hv
    have HU := Lib.hid hu
    clear hv hu HX3 HY3 HB2
    by_cases hlt : k < n
    · skip
      have k0 : k < a.length := by have := hal.out; omega
      have k1 : k < b.length := by have := hbl.out; omega
      have k2 : k < c.length := by have := hcl.out; omega
      have k3 : k < e.length := by have := hel.out; omega
      obtain ⟨q0, f0⟩ := HV.out.cell k (by rw [mixP_len]; exact k0)
      obtain ⟨q1, f1⟩ := HU.out.cell k (by rw [mixP_len]; exact k1)
      rw [mixP_at k0] at q0
      rw [mixP_at k1] at q1
      have q2 := (hb3.cell (block_lt_of_cell (HC.out k k2))).trans (HC.out k k2)
      have q3 := (hb3.cell (block_lt_of_cell (HE.out k k3))).trans (HE.out k k3)
      have l2 := block_lt_of_cell (HC.out k k2)
      have l3 := block_lt_of_cell (HE.out k k3)
      simp only at l2 l3
      have e1 : ¬ b2 = g := by omega
      have e2 : ¬ b2 = g' := by omega
      have e3 : ¬ b3 = g := by omega
      have e4 : ¬ b3 = g' := by omega
      have e5 : ¬ g = g' := by omega
      clear l2 l3 hg1 hg2
      have z2 : c[k] < 256 := HCz.out _ (List.getElem_mem k2)
      have z3 : e[k] < 256 := HEz.out _ (List.getElem_mem k3)
      have S1 := Lib.hid (mixP_set k0 k2)
      have S2 := Lib.hid (mixP_set k1 k3)
      have T1 := Lib.hid (mixP_keep (c := c) k0)
      have T2 := Lib.hid (mixP_keep (c := e) k1)
      have HB3 := Lib.hid hb3
      clear hb3
      have M1 : Hid (∀ h, (mixP b e k)[k]'h = b[k]) := fun _ => mixP_at k1
      generalize a[k] = x0 at q0 S1 T1
      generalize b[k] = x1 at q1 S2 T2 M1
      generalize c[k] = x2 at q2 S1 z2
      generalize e[k] = x3 at q3 S2 z3
      clear k0 k1 k2 k3
      by_cases d1 : 1 < x0
      · by_cases d2 : 1 < x1
        · skip
          have D0 : decide ((1 : Int) < (x0 : Int)) = true := by rw [decide_eq_true_eq]; omega
          have D1 : decide ((1 : Int) < (x1 : Int)) = true := by rw [decide_eq_true_eq]; omega
          have hS := HV.out.stored k x2 z2
          have eS : (mixP a c k).set k x2 = mixP a c (k + 1) := by have := S1.out; unfold mixN at this; rw [if_pos d1] at this; exact this
          rw [eS] at hS
          have HVs := Lib.hid hS.1
          have HBs := Lib.hid (HB3.out.trans (hS.2 _ (Nat.le_refl _)))
          have HUs := Lib.hid (HV.out.other HU.out hne k (.int .u8 (x2 : Nat)))
          clear hS eS
          obtain ⟨q5, f5⟩ := HUs.out.cell k (by rw [mixP_len]; have := hbl.out; omega)
          rw [M1.out] at q5
          have hS := HUs.out.stored k x3 z3
          have eS : (mixP b e k).set k x3 = mixP b e (k + 1) := by have := S2.out; unfold mixN at this; rw [if_pos d2] at this; exact this
          rw [eS] at hS
          have HUt := Lib.hid hS.1
          have HBt := Lib.hid (HBs.out.trans (hS.2 _ hs1.out))
          have HVt := Lib.hid (HUs.out.other HVs.out (Ne.symm hne) k (.int .u8 (x3 : Nat)))
          clear hS eS
          clear d1 d2
          go_wp2
          go_roundw
          case rel => exact ⟨k + 1, by omega, by go_num, HVt.out, HUt.out, HBt.out⟩
          case measure => simp [intOf]; omega
        · skip
          have D0 : decide ((1 : Int) < (x0 : Int)) = true := by rw [decide_eq_true_eq]; omega
          have D1 : decide ((1 : Int) < (x1 : Int)) = false := by rw [decide_eq_false_iff_not]; omega
          have hS := HV.out.stored k x2 z2
          have eS : (mixP a c k).set k x2 = mixP a c (k + 1) := by have := S1.out; unfold mixN at this; rw [if_pos d1] at this; exact this
          rw [eS] at hS
          have HVs := Lib.hid hS.1
          have HBs := Lib.hid (HB3.out.trans (hS.2 _ (Nat.le_refl _)))
          have HUs := Lib.hid (HV.out.other HU.out hne k (.int .u8 (x2 : Nat)))
          clear hS eS
          obtain ⟨q5, f5⟩ := HUs.out.cell k (by rw [mixP_len]; have := hbl.out; omega)
          rw [M1.out] at q5
          have eK := T2.out d2
          have HUt : Hid (Own (wr.setCell ⟨g, k, none⟩ (.int .u8 (x2 : Nat))) v1.heap.size (.slice (some ⟨g', 0, none⟩) n cap') (mixP b e (k + 1))) := by rw [← eK]; exact Lib.hid HUs.out
          clear eK
          clear d1 d2
          go_wp2
          go_roundw
          case rel => exact ⟨k + 1, by omega, by go_num, HVs.out, HUt.out, HBs.out⟩
          case measure => simp [intOf]; omega
      · by_cases d2 : 1 < x1
        · skip
          have D0 : decide ((1 : Int) < (x0 : Int)) = false := by rw [decide_eq_false_iff_not]; omega
          have D1 : decide ((1 : Int) < (x1 : Int)) = true := by rw [decide_eq_true_eq]; omega
          have eK := T1.out d1
          have HVs : Hid (Own wr W1.heap.size (.slice (some ⟨g, 0, none⟩) n cap) (mixP a c (k + 1))) := by rw [← eK]; exact HV
          clear eK
          have hS := HU.out.stored k x3 z3
          have eS : (mixP b e k).set k x3 = mixP b e (k + 1) := by have := S2.out; unfold mixN at this; rw [if_pos d2] at this; exact this
          rw [eS] at hS
          have HUt := Lib.hid hS.1
          have HBt := Lib.hid (HB3.out.trans (hS.2 _ hs1.out))
          have HVt := Lib.hid (HU.out.other HVs.out (Ne.symm hne) k (.int .u8 (x3 : Nat)))
          clear hS eS
          clear d1 d2
          go_wp2
          go_roundw
          case rel => exact ⟨k + 1, by omega, by go_num, HVt.out, HUt.out, HBt.out⟩
          case measure => simp [intOf]; omega
        · skip
          have D0 : decide ((1 : Int) < (x0 : Int)) = false := by rw [decide_eq_false_iff_not]; omega
          have D1 : decide ((1 : Int) < (x1 : Int)) = false := by rw [decide_eq_false_iff_not]; omega
          have eK := T1.out d1
          have HVs : Hid (Own wr W1.heap.size (.slice (some ⟨g, 0, none⟩) n cap) (mixP a c (k + 1))) := by rw [← eK]; exact HV
          clear eK
          have eK := T2.out d2
          have HUt : Hid (Own wr v1.heap.size (.slice (some ⟨g', 0, none⟩) n cap') (mixP b e (k + 1))) := by rw [← eK]; exact Lib.hid HU.out
          clear eK
          clear d1 d2
          go_wp2
          go_roundw
          case rel => exact ⟨k + 1, by omega, by go_num, HVs.out, HUt.out, HB3.out⟩
          case measure => simp [intOf]; omega
    · skip
      obtain rfl : k = n := by omega
      have eA : mixP a c k = mixL a c := by unfold mixL; rw [hal.out]
      have eB : mixP b e k = mixL b e := by unfold mixL; rw [hbl.out]
      rw [eA] at HV
      rw [eB] at HU
      have Hv3 := Lib.hid HV.out.sl
      have Hw3 := Lib.hid HU.out.sl
      clear HV HU eA eB hlt hg1 hg2 hne HC HE
      have HB3 := Lib.hid (below_then HB0.out hb3)
      have Ha3 := Lib.hid (Ha0.out.later hb3)
      have Hb3 := Lib.hid (Hb0.out.later hb3)
      clear hb3 Ha0 Hb0 HB0
      go_wp2_with fail
      refine (HAdd1.out _ _ _ Ha3.out Hb3.out).mono ?_
      rintro e v4 ⟨p, rfl, sp, hb4⟩
      have HB4 := Lib.hid (below_then HB3.out hb4)
      have Ha4 := Lib.hid (Ha3.out.later hb4)
      have Hb4 := Lib.hid (Hb3.out.later hb4)
      have Hv4 := Lib.hid (Hv3.out.later hb4)
      have Hw4 := Lib.hid (Hw3.out.later hb4)
      have Hp4 := Lib.hid sp
      clear hb4 sp Ha3 Hb3 Hv3 Hw3 HB3
      go_wp2_with fail
      refine (HAdd2.out _ _ _ Hv4.out Hw4.out).mono ?_
      rintro e v5 ⟨q, rfl, sq, hb5⟩
      have HB5 := Lib.hid (below_then HB4.out hb5)
      have Ha5 := Lib.hid (Ha4.out.later hb5)
      have Hb5 := Lib.hid (Hb4.out.later hb5)
      have Hv5 := Lib.hid (Hv4.out.later hb5)
      have Hw5 := Lib.hid (Hw4.out.later hb5)
      have Hp5 := Lib.hid (Hp4.out.later hb5)
      have Hq5 := Lib.hid sq
      clear hb5 sq Ha4 Hb4 Hv4 Hw4 Hp4 HB4
      go_wp2_with fail
      refine (HAdd3.out _ _ _ Hp5.out Hq5.out).mono ?_
      rintro e v6 ⟨rfl, hb6⟩
      have HB6 := Lib.hid (below_then HB5.out hb6)
      have Ha6 := Lib.hid (Ha5.out.later hb6)
      have Hb6 := Lib.hid (Hb5.out.later hb6)
      have Hv6 := Lib.hid (Hv5.out.later hb6)
      have Hw6 := Lib.hid (Hw5.out.later hb6)
      have Hp6 := Lib.hid (Hp5.out.later hb6)
      have Hq6 := Lib.hid (Hq5.out.later hb6)
      clear hb6 Ha5 Hb5 Hv5 Hw5 Hp5 Hq5 HB5
      go_wp2_with fail
      refine (HSub1.out _ _ _ Ha6.out Hb6.out).mono ?_
      rintro e v7 ⟨p, rfl, sp, hb7⟩
      have HB7 := Lib.hid (below_then HB6.out hb7)
      have Ha7 := Lib.hid (Ha6.out.later hb7)
      have Hb7 := Lib.hid (Hb6.out.later hb7)
      have Hv7 := Lib.hid (Hv6.out.later hb7)
      have Hw7 := Lib.hid (Hw6.out.later hb7)
      have Hp7 := Lib.hid sp
      clear hb7 sp Ha6 Hb6 Hv6 Hw6 HB6
      go_wp2_with fail
      refine (HSub2.out _ _ _ Hv7.out Hw7.out).mono ?_
      rintro e v8 ⟨q, rfl, sq, hb8⟩
      have HB8 := Lib.hid (below_then HB7.out hb8)
      have Ha8 := Lib.hid (Ha7.out.later hb8)
      have Hb8 := Lib.hid (Hb7.out.later hb8)
      have Hv8 := Lib.hid (Hv7.out.later hb8)
      have Hw8 := Lib.hid (Hw7.out.later hb8)
      have Hp8 := Lib.hid (Hp7.out.later hb8)
      have Hq8 := Lib.hid sq
      clear hb8 sq Ha7 Hb7 Hv7 Hw7 Hp7 HB7
      go_wp2_with fail
      refine (HSub3.out _ _ _ Hp8.out Hq8.out).mono ?_
      rintro e v9 ⟨rfl, hb9⟩
      have HB9 := Lib.hid (below_then HB8.out hb9)
      have Ha9 := Lib.hid (Ha8.out.later hb9)
      have Hb9 := Lib.hid (Hb8.out.later hb9)
      have Hv9 := Lib.hid (Hv8.out.later hb9)
      have Hw9 := Lib.hid (Hw8.out.later hb9)
      have Hp9 := Lib.hid (Hp8.out.later hb9)
      have Hq9 := Lib.hid (Hq8.out.later hb9)
      clear hb9 Ha8 Hb8 Hv8 Hw8 Hp8 Hq8 HB8
      go_wp2_with fail
      refine (HMul1.out _ _ _ Ha9.out Hb9.out).mono ?_
      rintro e v10 ⟨p, rfl, sp, hb10⟩
      have HB10 := Lib.hid (below_then HB9.out hb10)
      have Ha10 := Lib.hid (Ha9.out.later hb10)
      have Hb10 := Lib.hid (Hb9.out.later hb10)
      have Hv10 := Lib.hid (Hv9.out.later hb10)
      have Hw10 := Lib.hid (Hw9.out.later hb10)
      have Hp10 := Lib.hid sp
      clear hb10 sp Ha9 Hb9 Hv9 Hw9 HB9
      go_wp2_with fail
      refine (HMul2.out _ _ _ Hv10.out Hw10.out).mono ?_
      rintro e v11 ⟨q, rfl, sq, hb11⟩
      have HB11 := Lib.hid (below_then HB10.out hb11)
      have Ha11 := Lib.hid (Ha10.out.later hb11)
      have Hb11 := Lib.hid (Hb10.out.later hb11)
      have Hv11 := Lib.hid (Hv10.out.later hb11)
      have Hw11 := Lib.hid (Hw10.out.later hb11)
      have Hp11 := Lib.hid (Hp10.out.later hb11)
      have Hq11 := Lib.hid sq
      clear hb11 sq Ha10 Hb10 Hv10 Hw10 Hp10 HB10
      go_wp2_with fail
      refine (HMul3.out _ _ _ Hp11.out Hq11.out).mono ?_
      rintro e v12 ⟨rfl, hb12⟩
      have HB12 := Lib.hid (below_then HB11.out hb12)
      have Ha12 := Lib.hid (Ha11.out.later hb12)
      have Hb12 := Lib.hid (Hb11.out.later hb12)
      have Hv12 := Lib.hid (Hv11.out.later hb12)
      have Hw12 := Lib.hid (Hw11.out.later hb12)
      have Hp12 := Lib.hid (Hp11.out.later hb12)
      have Hq12 := Lib.hid (Hq11.out.later hb12)
      clear hb12 Ha11 Hb11 Hv11 Hw11 Hp11 Hq11 HB11
      go_wp2_with fail
      refine (awake_any _).mono ?_
      rintro e v13 ⟨rfl, hb13⟩
      have HB13 := Lib.hid (below_then HB12.out hb13)
      have Ha13 := Lib.hid (Ha12.out.later hb13)
      have Hb13 := Lib.hid (Hb12.out.later hb13)
      have Hv13 := Lib.hid (Hv12.out.later hb13)
      have Hw13 := Lib.hid (Hw12.out.later hb13)
      clear hb13 Ha12 Hb12 Hv12 Hw12 HB12
      go_wp2
      go_ret
      exact ⟨rfl, HB13.out⟩
theorem vecKnown_walk (x0 x1 x2 x3 : Value) (a b c e : List Nat) (w : World) (h0 : Sl w x0 a) (h1 : Sl w x1 b) (h2 : Sl w x2 c) (h3 : Sl w x3 e) :
    Calls Try.prog 12 #[.agg #[x0, x1, x2, x3]] w fun e w' => e = .returned (.bool true) ∧ Below w.heap.size w w' := by
  have k0 := h0
  have k1 := h1
  have k2 := h2
  have k3 := h3
  obtain ⟨A0, c0, rfl, _⟩ := k0
  obtain ⟨A1, c1, rfl, _⟩ := k1
  obtain ⟨A2, c2, rfl, _⟩ := k2
  obtain ⟨A3, c3, rfl, _⟩ := k3
  cases va : isV a
  · exact known_na A0 A1 A2 A3 _ _ _ _ c0 c1 c2 c3 0 w a b c e h0 h1 h2 h3 (isF va)
  cases vb : isV b
  · exact known_nb A0 A1 A2 A3 _ _ _ _ c0 c1 c2 c3 0 w a b c e h0 h1 h2 h3 (isF va) (isF vb)
  cases vc : isV c
  · exact known_nc A0 A1 A2 A3 _ _ _ _ c0 c1 c2 c3 0 w a b c e h0 h1 h2 h3 (isF va) (isF vb) (isF vc)
  cases ve : isV e
  · exact known_ne A0 A1 A2 A3 _ _ _ _ c0 c1 c2 c3 0 w a b c e h0 h1 h2 h3 (isF va) (isF vb) (isF vc) (isF ve)
  by_cases l1 : b.length = a.length
  · by_cases l2 : c.length = a.length
    · by_cases l3 : e.length = a.length
      · obtain ⟨_, a1, a64⟩ := isV_bits va
        obtain ⟨g2, o2, d2, he2, _, z2, hc2⟩ := h2.cells (by omega)
        obtain ⟨g3, o3, d3, he3, _, z3, hc3⟩ := h3.cells (by omega)
        injection he2 with e2 _ _
        subst e2
        injection he3 with e3 _ _
        subst e3
        rw [l1] at h1 ⊢
        rw [l2] at h2 ⊢
        rw [l3] at h3 ⊢
        have t := two_of va vb l1
        have t' : two (mixL a c) (mixL b e) = true := two_of (mixL_isV va vc l2) (mixL_isV vb ve (by omega)) (by rw [show (mixL a c).length = a.length from mixP_len _ _ _, show (mixL b e).length = b.length from mixP_len _ _ _]; exact l1)
        exact known_good A0 A1 a.length c0 c1 c2 c3 g2 o2 g3 o3 w a b c e (calV addO a b) (calV addO (mixL a c) (mixL b e)) (calV subO a b) (calV subO (mixL a c) (mixL b e)) (calV mulO a b) (calV mulO (mixL a c) (mixL b e)) a64 a1 rfl l1 l2 l3 z2 z3 h0 h1 h2 h3 hc2 hc3
          (isF va) (isF vb) (isF vc) (isF ve) (addF t rfl) (addF t' rfl) (fun _ _ _ h h' => covers_any _ _ _ _ _ h h' (cal_cov t vc ve l2 l3)) (subF t rfl) (subF t' rfl) (fun _ _ _ h h' => covers_any _ _ _ _ _ h h' (cal_cov t vc ve l2 l3))
          (mulF t rfl) (mulF t' rfl) (fun _ _ _ h h' => covers_any _ _ _ _ _ h h' (cal_cov t vc ve l2 l3))
      · rw [l1] at h1 ⊢
        rw [l2] at h2 ⊢
        exact known_l3 A0 A1 A2 A3 _ 0 0 _ c0 c1 c2 c3 0 w a b c e h0 h1 h2 h3 (isF va) (isF vb) (isF vc) (isF ve) l3
    · rw [l1] at h1 ⊢
      exact known_l2 A0 A1 A2 A3 _ 0 _ _ c0 c1 c2 c3 0 w a b c e h0 h1 h2 h3 (isF va) (isF vb) (isF vc) (isF ve) l2
  · exact known_l1 A0 A1 A2 A3 _ _ _ _ c0 c1 c2 c3 0 w a b c e h0 h1 h2 h3 (isF va) (isF vb) (isF vc) (isF ve) l1

set_option maxRecDepth 100000 in
theorem vecKnown_lifted (os : Os) (started : os.Started) (H : Type) (enc : TypeId × Value → H) :
    ReturnsInHanded {} Try.checked os 12 .any (Rows.vecKnownSpec.pre6 enc Try.prog Try.f12 [] false) (Rows.vecKnownSpec.post enc Try.prog Try.f12 false true false false) := by
  refine returnsInHanded_of_change_sized (C := Try.checked) own started (by kernel_rfl) Try.func12
    (ChangeSpec.witness6 (enc := enc) (C := Try.checked) false ⟨#[], #[.agg #[.slice none 0 0, .slice none 0 0, .slice none 0 0, .slice none 0 0]], []⟩ 8 (by kernel_rfl) (by kernel_rfl) (by kernel_rfl) (by kernel_rfl)) ?_
  intro W base args ds gs before hval0 hW _ hsz0 _
  have hval : ∀ (j : Nat) t v, Try.f12.params[j]? = some t → args[j]? = some v → Value.okWide Try.prog W .any base t v := hval0
  have hsz : (DataW.weightsEach Try.prog (Try.f12.params.toList ++ Rows.vecKnownSpec.plain.varTypes Try.prog) (ds ++ gs)).all (· ≤ reachBytes) = true := hsz0
  have hW' := hW
  obtain ⟨p, q, hA0, hV, rfl, hfz, hnd⟩ := hW
  have hA1 := hA0
  have hA : DataW.TrodAll enc Try.prog W 0 (fun _ => true) true Try.f12.params.toList args.toList ds p := hA0
  rw [Try.params12] at hA hval hsz
  obtain ⟨v0, d0, rfl, rfl, h0⟩ := trodAll_one hA
  obtain ⟨rfl, rfl⟩ := trodVars_none hV
  obtain ⟨x0, x1, x2, x3, a, b, c, e, rfl, k0, k1, k2, k3⟩ := four_open (hval 0 52 v0 rfl rfl) h0 (fun n hn => by simpa using List.all_eq_true.1 hsz n (DataW.weights_mem_each (j := 0) rfl rfl n hn))

  clear hval0 hsz0
  simp only [List.append_nil] at hW' hA1
  refine (vecKnown_walk x0 x1 x2 x3 a b c e W k0 k1 k2 k3).mono fun e W' ⟨he, hb⟩ => ?_
  subst he
  exact ⟨_, rfl, law_post (by rw [Try.params12]; exact types_ok [52] (by kernel_rfl)) (by kernel_rfl) rfl rfl hA1 hW' hb⟩

theorem vecKnown_holds : Rows.VecKnownSaid :=
  OpenClaim.holds_of_wide 12 Try.f12 rfl rfl rfl rfl rfl rfl rfl ⟨rfl, rfl, rfl, rfl, rfl⟩ rfl rfl rfl rfl rfl (by kernel_rfl) Try.func12 (by kernel_rfl)
    (of_decide_eq_true (by kernel_rfl)) (by unfold Func.isWrapper; first | (rw [if_pos (by decide +kernel)]; kernel_rfl) | (rw [if_neg (by decide +kernel)]; exact ⟨rfl, rfl⟩))
    (fun os started H enc _ => vecKnown_lifted os started H enc)
#print axioms vecKnown_holds
end Go.Proofs.Ytkapephlfbabjaa
