/- VecOne: of two known vectors just one is so: Less, Less the other way, or Same; so it is of Signed, and Signed is Less with the highest bits turned; no condition. -/
import Derived.Test.YtkapephlfbabjaaLaw
import Derived.Test.YtkapephlfbabjaaAwake
import Derived.Test.YtkapephlfbabjaaTops
import Derived.BigRegion
namespace Go.Proofs.Ytkapephlfbabjaa
open Go.ChangeShapes Go.WideShapes Go.ChangeAt Go.WideMaps Go.WideElems Go.RowKit
open Go.ChangeMaps (open_string)

set_option maxRecDepth 100000 in
set_option maxHeartbeats 8000000 in
theorem one_at (A A' : Option Addr) (n q c0 c1 x y x' y' : Nat) (l m s bl ab : Bool) (w : World) (a b C D : List Nat) (hn : n ≤ 64) (hq : (n : Int) - 1 = (q : Int)) (hal : Hid (a.length = n)) (hbl : Hid (b.length = n))
    (Ha : Hid (Sl w (.slice A n c0) a)) (Hb : Hid (Sl w (.slice A' n c1) b)) (HIa : Hid (∀ v w, Sl w v a → Calls Try.prog 53 #[v] w fun e w' => e = .returned (.bool true) ∧ w = w')) (HIb : Hid (∀ v w, Sl w v b → Calls Try.prog 53 #[v] w fun e w' => e = .returned (.bool true) ∧ w = w'))
    (HKa : Hid (∀ v w, Sl w v a → Calls Try.prog 54 #[v] w fun e w' => e = .returned (.bool true) ∧ w = w')) (HKb : Hid (∀ v w, Sl w v b → Calls Try.prog 54 #[v] w fun e w' => e = .returned (.bool true) ∧ w = w'))
    (HL1 : Hid (∀ u v w, Sl w u a → Sl w v b → Calls Try.prog 35 #[u, v] w fun e w' => e = .returned (.tuple #[.bool l, .int .i64 0]) ∧ Below w.heap.size w w')) (HL2 : Hid (∀ u v w, Sl w u b → Sl w v a → Calls Try.prog 35 #[u, v] w fun e w' => e = .returned (.tuple #[.bool m, .int .i64 0]) ∧ Below w.heap.size w w')) (HSm : Hid (∀ u v w, Sl w u a → Sl w v b → Calls Try.prog 39 #[u, v] w fun e w' => e = .returned (.tuple #[.bool s, .int .i64 0]) ∧ Below w.heap.size w w'))
    (HG1 : Hid (∀ u v w, Sl w u a → Sl w v b → Calls Try.prog 37 #[u, v] w fun e w' => e = .returned (.tuple #[.bool bl, .int .i64 0]) ∧ Below w.heap.size w w')) (HG2 : Hid (∀ u v w, Sl w u b → Sl w v a → Calls Try.prog 37 #[u, v] w fun e w' => e = .returned (.tuple #[.bool ab, .int .i64 0]) ∧ Below w.heap.size w w')) (HT : Hid (∀ u v w, Sl w u C → Sl w v D → Calls Try.prog 35 #[u, v] w fun e w' => e = .returned (.tuple #[.bool bl, .int .i64 0]) ∧ Below w.heap.size w w'))
    (haq : Hid (∀ h, a[q]'h = x)) (hbq : Hid (∀ h, b[q]'h = y)) (hx : IntKind.u8.wrap (1 - (x : Int)) = (x' : Int)) (hy : IntKind.u8.wrap (1 - (y : Int)) = (y' : Int)) (hC : Hid (C = a.set q x')) (hD : Hid (D = b.set q y')) (hx2 : x' < 256) (hy2 : y' < 256)
    (hall : (l = false ∧ m = false ∧ s = true ∧ bl = false ∧ ab = false) ∨ (((l = true ∧ m = false) ∨ (l = false ∧ m = true)) ∧ s = false ∧ ((bl = true ∧ ab = false) ∨ (bl = false ∧ ab = true)))) :
    Calls Try.prog 11 #[.slice A n c0, .slice A' n c1] w fun e w' => e = .returned (.bool true) ∧ Below w.heap.size w w' := by
  rcases hall with ⟨rfl, rfl, rfl, rfl, rfl⟩ | ⟨⟨rfl, rfl⟩ | ⟨rfl, rfl⟩, rfl, ⟨rfl, rfl⟩ | ⟨rfl, rfl⟩⟩
  all_goals
    go_enter Try.func11, Try.ntmps11
    go_wp2_with fail
    refine (HIa.out _ _ Ha.out).mono ?_
    rintro e w' ⟨rfl, rfl⟩
    go_wp2_with fail
    refine (HIb.out _ _ Hb.out).mono ?_
    rintro e w' ⟨rfl, rfl⟩
    go_wp2_with fail
    refine (HKa.out _ _ Ha.out).mono ?_
    rintro e w' ⟨rfl, rfl⟩
    go_wp2_with fail
    refine (HKb.out _ _ Hb.out).mono ?_
    rintro e w' ⟨rfl, rfl⟩
    go_wp2_with fail
    refine (HL1.out _ _ _ Ha.out Hb.out).mono ?_
    rintro e v1 ⟨rfl, hb1⟩
    have HB1 := Lib.hid hb1
    have Ha1 := Lib.hid (Ha.out.later hb1)
    have Hb1 := Lib.hid (Hb.out.later hb1)
    clear hb1 Ha Hb
    go_wp2_with fail
    refine (HL2.out _ _ _ Hb1.out Ha1.out).mono ?_
    rintro e v2 ⟨rfl, hb2⟩
    have HB2 := Lib.hid (below_then HB1.out hb2)
    have Ha2 := Lib.hid (Ha1.out.later hb2)
    have Hb2 := Lib.hid (Hb1.out.later hb2)
    clear hb2 Ha1 Hb1 HB1
    go_wp2_with fail
    refine (HSm.out _ _ _ Ha2.out Hb2.out).mono ?_
    rintro e v3 ⟨rfl, hb3⟩
    have HB3 := Lib.hid (below_then HB2.out hb3)
    have Ha3 := Lib.hid (Ha2.out.later hb3)
    have Hb3 := Lib.hid (Hb2.out.later hb3)
    clear hb3 Ha2 Hb2 HB2
    go_wp2_with fail
    refine (HG1.out _ _ _ Ha3.out Hb3.out).mono ?_
    rintro e v4 ⟨rfl, hb4⟩
    have HB4 := Lib.hid (below_then HB3.out hb4)
    have Ha4 := Lib.hid (Ha3.out.later hb4)
    have Hb4 := Lib.hid (Hb3.out.later hb4)
    clear hb4 Ha3 Hb3 HB3
    go_wp2_with fail
    refine (HG2.out _ _ _ Hb4.out Ha4.out).mono ?_
    rintro e v5 ⟨rfl, hb5⟩
    have HB5 := Lib.hid (below_then HB4.out hb5)
    have Ha5 := Lib.hid (Ha4.out.later hb5)
    have Hb5 := Lib.hid (Hb4.out.later hb5)
    clear hb5 Ha4 Hb4 HB4
    go_wp2_with fail
    have hs5 := Lib.hid HB5.out.size
    refine (copied_any _ a _ Ha5.out).mono ?_
    rintro e v6 ⟨x6, rfl, sx, hb6⟩
    have hs6 := Lib.hid (Nat.le_trans hs5.out hb6.size)
    obtain ⟨g, cap, rfl⟩ := sx.form (by have := hal.out; omega)
    have Hx6 := Lib.hid sx
    clear sx
    have HB6 := Lib.hid (below_then HB5.out hb6)
    have Ha6 := Lib.hid (Ha5.out.later hb6)
    have Hb6 := Lib.hid (Hb5.out.later hb6)
    clear hb6 Ha5 Hb5 HB5
    go_wp2_with fail
    refine (copied_any _ b _ Hb6.out).mono ?_
    rintro e v7 ⟨y7, rfl, sy, hb7⟩
    obtain ⟨g', cap', rfl⟩ := sy.form (by have := hbl.out; omega)
    have Hy7 := Lib.hid sy
    have hne : g' ≠ g := by have := (Hx6.out.block).2; have := sy.block.1; omega
    have Hx7 := Lib.hid (Hx6.out.kept hb7)
    clear sy
    have HB7 := Lib.hid (below_then HB6.out hb7)
    have Ha7 := Lib.hid (Ha6.out.later hb7)
    have Hb7 := Lib.hid (Hb6.out.later hb7)
    clear hb7 Ha6 Hb6 HB6
    have eal := hal.out
    have ebl := hbl.out
    have Hx7 : Hid (Own v7 v5.heap.size (.slice (some ⟨g, 0, none⟩) n cap) a) := by rw [← eal]; exact Hx7
    rw [eal]
    have Hy7 : Hid (Own v7 v6.heap.size (.slice (some ⟨g', 0, none⟩) n cap') b) := by rw [← ebl]; exact Hy7
    rw [ebl]
    obtain ⟨gc1, gf1⟩ := Hx7.out.cell q (by omega)
    obtain ⟨gc2, gf2⟩ := Hy7.out.cell q (by omega)
    rw [haq.out] at gc1
    rw [hbq.out] at gc2
    clear eal ebl
    go_wp2_with fail
    have hn1 : IntKind.i64.wrap ((n : Int) - 1) = (q : Int) := by rw [hq]; exact wrap_i64 (by omega)
    have hq0 : (0 : Int) ≤ (q : Int) := by omega
    have hqn : (q : Int) < (n : Int) := by omega
    have hS := Hx7.out.stored q x' hx2
    have hO := Hx7.out.other Hy7.out hne q (.int .u8 (x' : Nat))
    have hT1 := hO.stored q y' hy2
    have hX1 := hO.other hS.1 (Ne.symm hne) q (.int .u8 (y' : Nat))
    have hb8 := (HB7.out.trans (hS.2 _ hs5.out)).trans (hT1.2 _ hs6.out)
    rw [← hC.out] at hX1
    have hY1 := hT1.1
    rw [← hD.out] at hY1
    have HX8 := Lib.hid (hX1.drewN 1).sl
    have HY8 := Lib.hid (hY1.drewN 1).sl
    have HB8 := Lib.hid (below_drewN hb8 1)
    clear hS hO hT1 hX1 hY1 hb8
    go_region
    have HX9 : Hid (Sl (World.drew _) (.slice (some ⟨g, 0, none⟩) n cap) C) := HX8
    have HY9 : Hid (Sl (World.drew _) (.slice (some ⟨g', 0, none⟩) n cap') D) := HY8
    have HB9 : Hid (Below w.heap.size w (World.drew _)) := HB8
    clear HX8 HY8 HB8
    generalize World.drew _ = W8 at *
    go_wp2_with fail
    refine (HT.out _ _ _ HX9.out HY9.out).mono ?_
    rintro e v9 ⟨rfl, hb9⟩
    have HB10 := Lib.hid (below_then HB9.out hb9)
    clear hb9 HX9 HY9
    go_wp2_with fail
    refine (awake_any _).mono ?_
    rintro e v11 ⟨rfl, hb11⟩
    have HB11 := Lib.hid (below_then HB10.out hb11)
    clear hb11 HB10
    go_wp2
    go_ret
    exact ⟨rfl, HB11.out⟩
set_option maxRecDepth 100000 in
set_option maxHeartbeats 2000000 in
theorem one_na (A A' : Option Addr) (n m c c' : Nat) (w : World) (a b : List Nat) (Ha : Hid (Sl w (.slice A n c) a)) (Hb : Hid (Sl w (.slice A' m c') b)) (HIa : Hid (∀ v w, Sl w v a → Calls Try.prog 53 #[v] w fun e w' => e = .returned (.bool false) ∧ w = w'))  :
    Calls Try.prog 11 #[.slice A n c, .slice A' m c'] w fun e w' => e = .returned (.bool true) ∧ Below w.heap.size w w' := by
  skip
  go_enter Try.func11, Try.ntmps11
  go_wp2_with fail
  refine (HIa.out _ _ Ha.out).mono ?_
  rintro e w' ⟨rfl, rfl⟩
  go_wp2_with fail
  refine (awake_any _).mono ?_
  rintro e v1 ⟨rfl, hb1⟩
  have HB1 := Lib.hid hb1
  have Ha1 := Lib.hid (Ha.out.later hb1)
  have Hb1 := Lib.hid (Hb.out.later hb1)
  clear hb1 Ha Hb
  go_wp2
  go_ret
  exact ⟨rfl, HB1.out⟩
set_option maxRecDepth 100000 in
set_option maxHeartbeats 2000000 in
theorem one_nb (A A' : Option Addr) (n m c c' : Nat) (w : World) (a b : List Nat) (Ha : Hid (Sl w (.slice A n c) a)) (Hb : Hid (Sl w (.slice A' m c') b)) (HIa : Hid (∀ v w, Sl w v a → Calls Try.prog 53 #[v] w fun e w' => e = .returned (.bool true) ∧ w = w')) (HIb : Hid (∀ v w, Sl w v b → Calls Try.prog 53 #[v] w fun e w' => e = .returned (.bool false) ∧ w = w'))  :
    Calls Try.prog 11 #[.slice A n c, .slice A' m c'] w fun e w' => e = .returned (.bool true) ∧ Below w.heap.size w w' := by
  skip
  go_enter Try.func11, Try.ntmps11
  go_wp2_with fail
  refine (HIa.out _ _ Ha.out).mono ?_
  rintro e w' ⟨rfl, rfl⟩
  go_wp2_with fail
  refine (HIb.out _ _ Hb.out).mono ?_
  rintro e w' ⟨rfl, rfl⟩
  go_wp2_with fail
  refine (awake_any _).mono ?_
  rintro e v1 ⟨rfl, hb1⟩
  have HB1 := Lib.hid hb1
  have Ha1 := Lib.hid (Ha.out.later hb1)
  have Hb1 := Lib.hid (Hb.out.later hb1)
  clear hb1 Ha Hb
  go_wp2
  go_ret
  exact ⟨rfl, HB1.out⟩
set_option maxRecDepth 100000 in
set_option maxHeartbeats 2000000 in
theorem one_nl (A A' : Option Addr) (n m c c' : Nat) (w : World) (a b : List Nat) (Ha : Hid (Sl w (.slice A n c) a)) (Hb : Hid (Sl w (.slice A' m c') b)) (HIa : Hid (∀ v w, Sl w v a → Calls Try.prog 53 #[v] w fun e w' => e = .returned (.bool true) ∧ w = w')) (HIb : Hid (∀ v w, Sl w v b → Calls Try.prog 53 #[v] w fun e w' => e = .returned (.bool true) ∧ w = w')) (hl : ¬ m = n) :
    Calls Try.prog 11 #[.slice A n c, .slice A' m c'] w fun e w' => e = .returned (.bool true) ∧ Below w.heap.size w w' := by
  have h1 : ((n : Int) != (m : Int)) = true := by rw [bne_iff_ne]; omega
  have h2 : ((n : Int) == (m : Int)) = false := by rw [beq_eq_false_iff_ne]; omega
  clear hl
  go_enter Try.func11, Try.ntmps11
  go_wp2_with fail
  refine (HIa.out _ _ Ha.out).mono ?_
  rintro e w' ⟨rfl, rfl⟩
  go_wp2_with fail
  refine (HIb.out _ _ Hb.out).mono ?_
  rintro e w' ⟨rfl, rfl⟩
  go_wp2_with fail
  refine (awake_any _).mono ?_
  rintro e v1 ⟨rfl, hb1⟩
  have HB1 := Lib.hid hb1
  have Ha1 := Lib.hid (Ha.out.later hb1)
  have Hb1 := Lib.hid (Hb.out.later hb1)
  clear hb1 Ha Hb
  go_wp2
  go_ret
  exact ⟨rfl, HB1.out⟩
set_option maxRecDepth 100000 in
set_option maxHeartbeats 2000000 in
theorem one_ka (A A' : Option Addr) (n _m c c' : Nat) (w : World) (a b : List Nat) (Ha : Hid (Sl w (.slice A n c) a)) (Hb : Hid (Sl w (.slice A' n c') b)) (HIa : Hid (∀ v w, Sl w v a → Calls Try.prog 53 #[v] w fun e w' => e = .returned (.bool true) ∧ w = w')) (HIb : Hid (∀ v w, Sl w v b → Calls Try.prog 53 #[v] w fun e w' => e = .returned (.bool true) ∧ w = w')) (HKa : Hid (∀ v w, Sl w v a → Calls Try.prog 54 #[v] w fun e w' => e = .returned (.bool false) ∧ w = w'))  :
    Calls Try.prog 11 #[.slice A n c, .slice A' n c'] w fun e w' => e = .returned (.bool true) ∧ Below w.heap.size w w' := by
  skip
  go_enter Try.func11, Try.ntmps11
  go_wp2_with fail
  refine (HIa.out _ _ Ha.out).mono ?_
  rintro e w' ⟨rfl, rfl⟩
  go_wp2_with fail
  refine (HIb.out _ _ Hb.out).mono ?_
  rintro e w' ⟨rfl, rfl⟩
  go_wp2_with fail
  refine (HKa.out _ _ Ha.out).mono ?_
  rintro e w' ⟨rfl, rfl⟩
  go_wp2_with fail
  refine (awake_any _).mono ?_
  rintro e v1 ⟨rfl, hb1⟩
  have HB1 := Lib.hid hb1
  have Ha1 := Lib.hid (Ha.out.later hb1)
  have Hb1 := Lib.hid (Hb.out.later hb1)
  clear hb1 Ha Hb
  go_wp2
  go_ret
  exact ⟨rfl, HB1.out⟩
set_option maxRecDepth 100000 in
set_option maxHeartbeats 2000000 in
theorem one_kb (A A' : Option Addr) (n _m c c' : Nat) (w : World) (a b : List Nat) (Ha : Hid (Sl w (.slice A n c) a)) (Hb : Hid (Sl w (.slice A' n c') b)) (HIa : Hid (∀ v w, Sl w v a → Calls Try.prog 53 #[v] w fun e w' => e = .returned (.bool true) ∧ w = w')) (HIb : Hid (∀ v w, Sl w v b → Calls Try.prog 53 #[v] w fun e w' => e = .returned (.bool true) ∧ w = w')) (HKa : Hid (∀ v w, Sl w v a → Calls Try.prog 54 #[v] w fun e w' => e = .returned (.bool true) ∧ w = w')) (HKb : Hid (∀ v w, Sl w v b → Calls Try.prog 54 #[v] w fun e w' => e = .returned (.bool false) ∧ w = w'))  :
    Calls Try.prog 11 #[.slice A n c, .slice A' n c'] w fun e w' => e = .returned (.bool true) ∧ Below w.heap.size w w' := by
  skip
  go_enter Try.func11, Try.ntmps11
  go_wp2_with fail
  refine (HIa.out _ _ Ha.out).mono ?_
  rintro e w' ⟨rfl, rfl⟩
  go_wp2_with fail
  refine (HIb.out _ _ Hb.out).mono ?_
  rintro e w' ⟨rfl, rfl⟩
  go_wp2_with fail
  refine (HKa.out _ _ Ha.out).mono ?_
  rintro e w' ⟨rfl, rfl⟩
  go_wp2_with fail
  refine (HKb.out _ _ Hb.out).mono ?_
  rintro e w' ⟨rfl, rfl⟩
  go_wp2_with fail
  refine (awake_any _).mono ?_
  rintro e v1 ⟨rfl, hb1⟩
  have HB1 := Lib.hid hb1
  have Ha1 := Lib.hid (Ha.out.later hb1)
  have Hb1 := Lib.hid (Hb.out.later hb1)
  clear hb1 Ha Hb
  go_wp2
  go_ret
  exact ⟨rfl, HB1.out⟩
theorem turn_u8 {x : Nat} (h : x ≤ 1) : IntKind.u8.wrap (1 - (x : Int)) = ((1 - x : Nat) : Int) := by
  obtain rfl | rfl : x = 0 ∨ x = 1 := by omega
  · rfl
  · rfl
theorem vecOne_walk (u v : Value) (a b : List Nat) (w : World) (hu : Sl w u a) (hv : Sl w v b) :
    Calls Try.prog 11 #[u, v] w fun e w' => e = .returned (.bool true) ∧ Below w.heap.size w w' := by
  have hu0 := hu
  have hv0 := hv
  obtain ⟨A, c, rfl, _⟩ := hu0
  obtain ⟨A', c', rfl, _⟩ := hv0
  cases va : isV a
  · exact one_na A A' _ _ c c' w a b hu hv (isF va)
  cases vb : isV b
  · exact one_nb A A' _ _ c c' w a b hu hv (isF va) (isF vb)
  by_cases hl : b.length = a.length
  · rw [hl] at hv ⊢
    cases ka : knB a
    · exact one_ka A A' _ 0 c c' w a b hu hv (isF va) (isF vb) (by rw [← knV_of va] at ka; rw [← ka]; exact fun v w h => sure_any v a w h)
    cases kb : knB b
    · exact one_kb A A' _ 0 c c' w a b hu hv (isF va) (isF vb) (by rw [← knV_of va] at ka; rw [← ka]; exact fun v w h => sure_any v a w h) (by rw [← knV_of vb] at kb; rw [← kb]; exact fun v w h => sure_any v b w h)
    obtain ⟨_, a1, a64⟩ := isV_bits va
    obtain ⟨q, hq⟩ : ∃ q, a.length = q + 1 := ⟨a.length - 1, by omega⟩
    have hb : b.length = q + 1 := by omega
    have ta := top_le hq ka
    have tb := top_le hb kb
    have t1 := two_of va vb hl
    have t2 := two_of vb va hl.symm
    have b1 : both a b = true := by unfold both; rw [ka, kb]; rfl
    have b2 : both b a = true := by unfold both; rw [ka, kb]; rfl
    have hC : isV (turnL a q (1 - a[q]'(by omega))) = true := turnL_isV va (by omega)
    have hD : isV (turnL b q (1 - b[q]'(by omega))) = true := turnL_isV vb (by omega)
    have kC : knB (turnL a q (1 - a[q]'(by omega))) = true := turnL_known ka (by omega)
    have kD : knB (turnL b q (1 - b[q]'(by omega))) = true := turnL_known kb (by omega)
    have t3 : two (turnL a q (1 - a[q]'(by omega))) (turnL b q (1 - b[q]'(by omega))) = true := two_of hC hD (by rw [turnL_len, turnL_len]; exact hl)
    have b3 : both (turnL a q (1 - a[q]'(by omega))) (turnL b q (1 - b[q]'(by omega))) = true := by unfold both; rw [kC, kD]; rfl
    refine one_at A A' a.length q c c' (a[q]'(by omega)) (b[q]'(by omega)) (1 - a[q]'(by omega)) (1 - b[q]'(by omega)) _ _ _ _ _ w a b (turnL a q (1 - a[q]'(by omega))) (turnL b q (1 - b[q]'(by omega))) a64 (by omega) rfl hl hu hv (isF va) (isF vb)
      (by rw [← knV_of va] at ka; rw [← ka]; exact fun v w h => sure_any v a w h) (by rw [← knV_of vb] at kb; rw [← kb]; exact fun v w h => sure_any v b w h)
      (fun _ _ _ h h' => less_at t1 b1 rfl h h') (fun _ _ _ h h' => less_at t2 b2 rfl h h') (fun _ _ _ h h' => vsame_at t1 rfl h h')
      (fun _ _ _ h h' => signed_at t1 b1 rfl h h') (fun _ _ _ h h' => signed_at t2 b2 rfl h h') (fun _ _ _ h h' => less_at t3 b3 (turned_less hq hb (by omega) ka kb) h h')
      (fun _ => rfl) (fun _ => rfl) (turn_u8 ta) (turn_u8 tb) rfl rfl (by omega) (by omega) (one_ways hq hb (by omega) ka kb)
  · exact one_nl A A' _ _ c c' w a b hu hv (isF va) (isF vb) hl

set_option maxRecDepth 100000 in
theorem vecOne_lifted (os : Os) (started : os.Started) (H : Type) (enc : TypeId × Value → H) :
    ReturnsInHanded {} Try.checked os 11 .any (Rows.vecOneSpec.pre6 enc Try.prog Try.f11 [] false) (Rows.vecOneSpec.post enc Try.prog Try.f11 false true false false) := by
  refine returnsInHanded_of_change_sized (C := Try.checked) own started (by kernel_rfl) Try.func11
    (ChangeSpec.witness6 (enc := enc) (C := Try.checked) false ⟨#[], #[.slice none 0 0, .slice none 0 0], []⟩ 8 (by kernel_rfl) (by kernel_rfl) (by kernel_rfl) (by kernel_rfl)) ?_
  intro W base args ds gs before hval0 hW _ hsz0 _
  have hval : ∀ (j : Nat) t v, Try.f11.params[j]? = some t → args[j]? = some v → Value.okWide Try.prog W .any base t v := hval0
  have hsz : (DataW.weightsEach Try.prog (Try.f11.params.toList ++ Rows.vecOneSpec.plain.varTypes Try.prog) (ds ++ gs)).all (· ≤ reachBytes) = true := hsz0
  have hW' := hW
  obtain ⟨p, q, hA0, hV, rfl, hfz, hnd⟩ := hW
  have hA1 := hA0
  have hA : DataW.TrodAll enc Try.prog W 0 (fun _ => true) true Try.f11.params.toList args.toList ds p := hA0
  rw [Try.params11] at hA hval hsz
  obtain ⟨v0, v1, d0, d1, p0, p1, rfl, rfl, rfl, h0, h1⟩ := trodAll_two hA
  obtain ⟨rfl, rfl⟩ := trodVars_none hV
  obtain ⟨a, ha⟩ := sl_open (hval 0 22 v0 rfl rfl) h0 (fun elems spare hd => sized_slice hsz (j := 0) rfl (by rw [hd]; rfl) Try.underlying22)
  obtain ⟨b, hb⟩ := sl_open (hval 1 22 v1 rfl rfl) h1 (fun elems spare hd => sized_slice hsz (j := 1) rfl (by rw [hd]; rfl) Try.underlying22)

  clear hval0 hsz0
  simp only [List.append_nil] at hW' hA1
  refine (vecOne_walk v0 v1 a b W ha hb).mono fun e W' ⟨he, hb⟩ => ?_
  subst he
  exact ⟨_, rfl, law_post (by rw [Try.params11]; exact types_ok [22, 22] (by kernel_rfl)) (by kernel_rfl) rfl rfl hA1 hW' hb⟩

theorem vecOne_holds : Rows.VecOneSaid :=
  OpenClaim.holds_of_wide 11 Try.f11 rfl rfl rfl rfl rfl rfl rfl ⟨rfl, rfl, rfl, rfl, rfl⟩ rfl rfl rfl rfl rfl (by kernel_rfl) Try.func11 (by kernel_rfl)
    (of_decide_eq_true (by kernel_rfl)) (by unfold Func.isWrapper; first | (rw [if_pos (by decide +kernel)]; kernel_rfl) | (rw [if_neg (by decide +kernel)]; exact ⟨rfl, rfl⟩))
    (fun os started H enc _ => vecOne_lifted os started H enc)
#print axioms vecOne_holds
end Go.Proofs.Ytkapephlfbabjaa
