/- VecCuts: the pieces above and below any place, together, are the vector; what is put is there, and all else stays; no condition. -/
import Derived.Test.YtkapephlfbabjaaLaw
import Derived.Test.YtkapephlfbabjaaAwake
import Derived.Test.YtkapephlfbabjaaBits
namespace Go.Proofs.Ytkapephlfbabjaa
open Go.ChangeShapes Go.WideShapes Go.ChangeAt Go.WideMaps Go.WideElems Go.RowKit
open Go.ChangeMaps (open_string)

set_option maxRecDepth 100000 in
set_option maxHeartbeats 8000000 in
theorem cuts_at (b off n c : Nat) (A' : Option Addr) (m c' : Nat) (k : Int) (n1 r p d s h : Nat) (w : World) (a bs H L Y : List Nat) (hn : n ≤ 64) (h2 : decide ((n : Int) < 2) = false) (h1 : 1 ≤ n) (_hm : m ≤ 64) (hn1 : (n : Int) - 1 = (n1 : Int)) (hnw : IntKind.u64.wrap (n1 : Int) = (n1 : Int))
    (hn0 : ¬ (n1 : Int) = 0) (_hz0 : ((n1 : Int) == 0) = false) (hrem : (IntKind.u64.wrap k).tmod (n1 : Int) = (r : Int)) (hr64 : r ≤ 64) (hp : (1 : Int) + (r : Int) = (p : Int)) (hp1 : (p : Int) - 1 = (r : Int)) (hd : (n : Int) - (p : Int) = (d : Int)) (hs : (p : Int) + (m : Int) = (s : Int)) (hh : (s : Int) - 1 = (h : Int)) (hs64 : s ≤ 128) (hp64 : p ≤ 64) (hd64 : d ≤ 64)
    (hal : Hid (a.length = n)) (HA : Hid (Sl w (.slice (some ⟨b, off, none⟩) n c) a)) (HVc : Hid (∀ (j : Nat) (h : j < a.length), w.cell? ⟨b, off + j, none⟩ = some (.int .u8 (a[j] : Nat)))) (HB : Hid (Sl w (.slice A' m c') bs))
    (HIa : Hid (∀ v w, Sl w v a → Calls Try.prog 53 #[v] w fun e w' => e = .returned (.bool true) ∧ w = w')) (HIb : Hid (∀ v w, Sl w v bs → Calls Try.prog 53 #[v] w fun e w' => e = .returned (.bool true) ∧ w = w'))
    (HS1 : Hid (∀ v w, Sl w v a → Calls Try.prog 47 #[v, .int .i64 (n1 : Nat), .int .i64 (p : Nat)] w fun e w' => ∃ x, e = .returned (.tuple #[x, .int .i64 0]) ∧ Sl w' x H ∧ Below w.heap.size w w')) (HS2 : Hid (∀ v w, Sl w v a → Calls Try.prog 47 #[v, .int .i64 (r : Nat), .int .i64 0] w fun e w' => ∃ x, e = .returned (.tuple #[x, .int .i64 0]) ∧ Sl w' x L ∧ Below w.heap.size w w')) (HCt : Hid (∀ u v w, Sl w u H → Sl w v L → Calls Try.prog 45 #[u, v] w fun e w' => ∃ x, e = .returned (.tuple #[x, .int .i64 0]) ∧ Sl w' x a ∧ Below w.heap.size w w'))
    (HN : Ends (decide (m ≤ d)) (Hid (∀ u v w, Sl w u a → Sl w v bs → Calls Try.prog 49 #[u, .int .i64 (h : Nat), .int .i64 (p : Nat), v] w fun e w' => ∃ x, e = .returned (.tuple #[x, .int .i64 0]) ∧ Sl w' x Y ∧ Below w.heap.size w w') ∧ Hid (∀ v w, Sl w v Y → Calls Try.prog 47 #[v, .int .i64 (h : Nat), .int .i64 (p : Nat)] w fun e w' => ∃ x, e = .returned (.tuple #[x, .int .i64 0]) ∧ Sl w' x bs ∧ Below w.heap.size w w') ∧ Hid (Y.length = n) ∧ Hid (∀ j (h : j < Y.length) (h' : j < a.length), (j < p ∨ s ≤ j) → Y[j] = a[j]))) :
    Calls Try.prog 10 #[.slice (some ⟨b, off, none⟩) n c, .slice A' m c', .int .i64 k] w fun e w' => e = .returned (.bool true) ∧ Below w.heap.size w w' := by
  go_enter Try.func10, Try.ntmps10
  go_wp2_with fail
  refine (HIa.out _ _ HA.out).mono ?_
  rintro e w' ⟨rfl, rfl⟩
  go_wp2_with fail
  refine (HIb.out _ _ HB.out).mono ?_
  rintro e w' ⟨rfl, rfl⟩
  go_wp2_with fail
  refine (HS1.out _ _ HA.out).mono ?_
  rintro e v1 ⟨x, rfl, sx, hb1⟩
  have HB1 := Lib.hid hb1
  have Ha1 := Lib.hid (HA.out.later hb1)
  have Hb1 := Lib.hid (HB.out.later hb1)
  have Hx1 := Lib.hid sx
  clear hb1 sx HA HB
  go_wp2_with fail
  refine (HS2.out _ _ Ha1.out).mono ?_
  rintro e v2 ⟨y, rfl, sy, hb2⟩
  have HB2 := Lib.hid (below_then HB1.out hb2)
  have Ha2 := Lib.hid (Ha1.out.later hb2)
  have Hb2 := Lib.hid (Hb1.out.later hb2)
  have Hx2 := Lib.hid (Hx1.out.later hb2)
  have Hy2 := Lib.hid sy
  clear hb2 sy Ha1 Hb1 Hx1 HB1
  go_wp2_with fail
  refine (HCt.out _ _ _ Hx2.out Hy2.out).mono ?_
  rintro e v3 ⟨z, rfl, sz, hb3⟩
  have HB3 := Lib.hid (below_then HB2.out hb3)
  have Ha3 := Lib.hid (Ha2.out.later hb3)
  have Hb3 := Lib.hid (Hb2.out.later hb3)
  have Hx3 := Lib.hid (Hx2.out.later hb3)
  have Hy3 := Lib.hid (Hy2.out.later hb3)
  have Hz3 := Lib.hid sz
  clear hb3 sz Ha2 Hb2 Hx2 Hy2 HB2
  go_wp2_with fail
  refine (same_at _ _ _ _ Hz3.out Ha3.out).mono ?_
  rintro e v4 ⟨rfl, hb4⟩
  have HB4 := Lib.hid (below_then HB3.out hb4)
  have Ha4 := Lib.hid (Ha3.out.later hb4)
  have Hb4 := Lib.hid (Hb3.out.later hb4)
  have Hz4 := Lib.hid (Hz3.out.later hb4)
  clear hb4 Ha3 Hb3 Hz3 HB3
  by_cases hdm : d < m
  · skip
    have d1 : decide ((d : Int) < (m : Int)) = true := by rw [decide_eq_true_eq]; omega
    have d2 : decide (d < m) = true := by rw [decide_eq_true_eq]; omega
    go_wp2_with fail
    refine (awake_any _).mono ?_
    rintro e v5 ⟨rfl, hb5⟩
    have HB5 := Lib.hid (below_then HB4.out hb5)
    have Ha5 := Lib.hid (Ha4.out.later hb5)
    have Hb5 := Lib.hid (Hb4.out.later hb5)
    clear hb5 Ha4 Hb4 HB4
    go_wp2
    go_ret
    exact ⟨rfl, HB5.out⟩
  · skip
    have d1 : decide ((d : Int) < (m : Int)) = false := by rw [decide_eq_false_iff_not]; omega
    have d2 : decide (d < m) = false := by rw [decide_eq_false_iff_not]; omega
    obtain ⟨HPu, HS3, HYl, HYg⟩ := HN (decide_eq_true (by omega))
    go_wp2_with fail
    refine (HPu.out _ _ _ Ha4.out Hb4.out).mono ?_
    rintro e v5 ⟨y, rfl, sy, hb5⟩
    have HB5 := Lib.hid (below_then HB4.out hb5)
    have Ha5 := Lib.hid (Ha4.out.later hb5)
    have Hb5 := Lib.hid (Hb4.out.later hb5)
    have Hy5 := Lib.hid sy
    clear hb5 sy Ha4 Hb4 HB4
    obtain ⟨b1, off1, cy, rfl, ⟨_, hqy⟩, _, hcy⟩ := Hy5.out.cells (by have := HYl.out; omega)
    have HCY := Lib.hid hcy
    have HBy := Lib.hid (Below.refl v5.heap.size v5)
    have HYq := Lib.hid hqy
    clear hqy hcy
    have hyl := HYl.out
    have HYs := Hy5
    clear Hy5
    rw [hyl] at HYs HYq ⊢
    clear hyl
    go_wp2_with fail
    refine (HS3.out _ _ HYs.out).mono ?_
    rintro e v6 ⟨z, rfl, sz, hb6⟩
    have HBy6 := Lib.hid (below_then HBy.out hb6)
    clear HBy
    have HB6 := Lib.hid (below_then HB5.out hb6)
    have Ha6 := Lib.hid (Ha5.out.later hb6)
    have Hb6 := Lib.hid (Hb5.out.later hb6)
    have Hy6 := Lib.hid (HYs.out.later hb6)
    have Hz6 := Lib.hid sz
    clear hb6 sz Ha5 Hb5 HYs HB5
    go_wp2_with fail
    refine (same_at _ _ _ _ Hz6.out Hb6.out).mono ?_
    rintro e v7 ⟨rfl, hb7⟩
    have HBy7 := Lib.hid (below_then HBy6.out hb7)
    clear HBy6
    have HB7 := Lib.hid (below_then HB6.out hb7)
    have Ha7 := Lib.hid (Ha6.out.later hb7)
    have Hb7 := Lib.hid (Hb6.out.later hb7)
    have Hy7 := Lib.hid (Hy6.out.later hb7)
    have Hz7 := Lib.hid (Hz6.out.later hb7)
    clear hb7 Ha6 Hb6 Hy6 Hz6 HB6
    have HCY2 : Hid (∀ (j : Nat) (h : j < Y.length), v7.cell? ⟨b1, off1 + j, none⟩ = some (.int .u8 (Y[j] : Nat))) := fun j h => ((HBy7.out).cell (block_lt_of_cell (HCY.out j h))).trans (HCY.out j h)
    have HCA2 : Hid (∀ (j : Nat) (h : j < a.length), v7.cell? ⟨b, off + j, none⟩ = some (.int .u8 (a[j] : Nat))) := fun j h => ((HB7.out).cell (block_lt_of_cell (HVc.out j h))).trans (HVc.out j h)
    clear HCY HBy7
    go_wp2_with fail
    go_loopw [129] (fun i wr => ∃ j : Nat, j ≤ n ∧ i = .int .i64 j ∧ Below v7.heap.size v7 wr) (fun i _ => n - (intOf i).toNat)
    case atStart => exact ⟨0, Nat.zero_le _, rfl, Below.refl _ _⟩
    case round =>
      obtain ⟨j, hj, rfl, hb8⟩ := hrel
      have hsw : IntKind.i64.wrap ((p : Int) + (m : Int)) = (s : Int) := by rw [hs]; exact wrap_i64 (by omega)
      have hj0 : (0 : Int) ≤ (j : Int) := by omega
      by_cases hlt : j < n
      · skip
        have hjY : j < Y.length := by have := HYl.out; omega
        have hji : (j : Int) < (n : Int) := by omega
        have hja : j < a.length := by have := hal.out; omega
        have g1 := (hb8.cell (block_lt_of_cell (HCY2.out j hjY))).trans (HCY2.out j hjY)
        have g2 := (hb8.cell (block_lt_of_cell (HCA2.out j hja))).trans (HCA2.out j hja)
        have HBj := Lib.hid hb8
        clear hb8
        by_cases hjp : j < p
        · skip
          have e0 : decide ((j : Int) < (p : Int)) = true := by rw [decide_eq_true_eq]; omega
          have e1 : decide (j < p) = true := by rw [decide_eq_true_eq]; omega
          rw [HYg.out j hjY hja (by left; omega)] at g1
          generalize a[j] = z at g1 g2
          clear hjY hja
          go_wp2
          go_quiet (fail)
          go_wp2
          go_roundw
          case rel => exact ⟨j + 1, by omega, by go_num, below_drewN HBj.out _⟩
          case measure => simp [intOf]; omega
        · by_cases hjs : s ≤ j
          · skip
            have e0 : decide ((j : Int) < (p : Int)) = false := by rw [decide_eq_false_iff_not]; omega
            have e1 : decide (j < p) = false := by rw [decide_eq_false_iff_not]; omega
            have e2 : decide ((s : Int) ≤ (j : Int)) = true := by rw [decide_eq_true_eq]; omega
            have e3 : decide (s ≤ j) = true := by rw [decide_eq_true_eq]; omega
            rw [HYg.out j hjY hja (by right; omega)] at g1
            generalize a[j] = z at g1 g2
            clear hjY hja
            go_wp2
            go_quiet (fail)
            go_wp2
            go_roundw
            case rel => exact ⟨j + 1, by omega, by go_num, below_drewN HBj.out _⟩
            case measure => simp [intOf]; omega
          · skip
            have e0 : decide ((j : Int) < (p : Int)) = false := by rw [decide_eq_false_iff_not]; omega
            have e1 : decide (j < p) = false := by rw [decide_eq_false_iff_not]; omega
            have e2 : decide ((s : Int) ≤ (j : Int)) = false := by rw [decide_eq_false_iff_not]; omega
            have e3 : decide (s ≤ j) = false := by rw [decide_eq_false_iff_not]; omega
            generalize Y[j] = y at g1
            generalize a[j] = z at g2
            clear hjY hja
            go_wp2
            go_quiet (fail)
            go_wp2
            go_roundw
            case rel => exact ⟨j + 1, by omega, by go_num, below_drewN HBj.out _⟩
            case measure => simp [intOf]; omega
      · skip
        have HB8 := Lib.hid (below_then HB7.out hb8)
        have Ha8 := Lib.hid (Ha7.out.later hb8)
        have Hb8 := Lib.hid (Hb7.out.later hb8)
        clear hb8 Ha7 Hb7 HB7
        go_wp2_with fail
        refine (awake_any _).mono ?_
        rintro e v9 ⟨rfl, hb9⟩
        have HB9 := Lib.hid (below_then HB8.out hb9)
        have Ha9 := Lib.hid (Ha8.out.later hb9)
        have Hb9 := Lib.hid (Hb8.out.later hb9)
        clear hb9 Ha8 Hb8 HB8
        go_wp2
        go_ret
        exact ⟨rfl, HB9.out⟩
set_option maxRecDepth 100000 in
set_option maxHeartbeats 2000000 in
theorem cuts_na (A A' : Option Addr) (n m c c' : Nat) (k : Int) (w : World) (a b : List Nat) (Ha : Hid (Sl w (.slice A n c) a)) (Hb : Hid (Sl w (.slice A' m c') b)) (HIa : Hid (∀ v w, Sl w v a → Calls Try.prog 53 #[v] w fun e w' => e = .returned (.bool false) ∧ w = w'))  :
    Calls Try.prog 10 #[.slice A n c, .slice A' m c', .int .i64 k] w fun e w' => e = .returned (.bool true) ∧ Below w.heap.size w w' := by
  skip
  go_enter Try.func10, Try.ntmps10
  go_wp2_with fail
  refine (HIa.out _ _ Ha.out).mono ?_
  rintro e w' ⟨rfl, rfl⟩
  go_wp2_with fail
  refine (awake_any _).mono ?_
  rintro e v1 ⟨rfl, hb1⟩
  have HB1 := Lib.hid hb1
  have Ha1 := Lib.hid (Ha.out.later hb1)
  have Hb1 := Lib.hid (Hb.out.later hb1)
  clear hb1 Ha Hb
  go_wp2
  go_ret
  exact ⟨rfl, HB1.out⟩
set_option maxRecDepth 100000 in
set_option maxHeartbeats 2000000 in
theorem cuts_nb (A A' : Option Addr) (n m c c' : Nat) (k : Int) (w : World) (a b : List Nat) (Ha : Hid (Sl w (.slice A n c) a)) (Hb : Hid (Sl w (.slice A' m c') b)) (HIa : Hid (∀ v w, Sl w v a → Calls Try.prog 53 #[v] w fun e w' => e = .returned (.bool true) ∧ w = w')) (HIb : Hid (∀ v w, Sl w v b → Calls Try.prog 53 #[v] w fun e w' => e = .returned (.bool false) ∧ w = w'))  :
    Calls Try.prog 10 #[.slice A n c, .slice A' m c', .int .i64 k] w fun e w' => e = .returned (.bool true) ∧ Below w.heap.size w w' := by
  skip
  go_enter Try.func10, Try.ntmps10
  go_wp2_with fail
  refine (HIa.out _ _ Ha.out).mono ?_
  rintro e w' ⟨rfl, rfl⟩
  go_wp2_with fail
  refine (HIb.out _ _ Hb.out).mono ?_
  rintro e w' ⟨rfl, rfl⟩
  go_wp2_with fail
  refine (awake_any _).mono ?_
  rintro e v1 ⟨rfl, hb1⟩
  have HB1 := Lib.hid hb1
  have Ha1 := Lib.hid (Ha.out.later hb1)
  have Hb1 := Lib.hid (Hb.out.later hb1)
  clear hb1 Ha Hb
  go_wp2
  go_ret
  exact ⟨rfl, HB1.out⟩
set_option maxRecDepth 100000 in
set_option maxHeartbeats 2000000 in
theorem cuts_short (A A' : Option Addr) (n m c c' : Nat) (k : Int) (w : World) (a b : List Nat) (Ha : Hid (Sl w (.slice A n c) a)) (Hb : Hid (Sl w (.slice A' m c') b)) (HIa : Hid (∀ v w, Sl w v a → Calls Try.prog 53 #[v] w fun e w' => e = .returned (.bool true) ∧ w = w')) (HIb : Hid (∀ v w, Sl w v b → Calls Try.prog 53 #[v] w fun e w' => e = .returned (.bool true) ∧ w = w')) (hn : n < 2) :
    Calls Try.prog 10 #[.slice A n c, .slice A' m c', .int .i64 k] w fun e w' => e = .returned (.bool true) ∧ Below w.heap.size w w' := by
  have h1 : decide (n < 2) = true := by rw [decide_eq_true_eq]; omega
  have h2 : decide ((n : Int) < 2) = true := by rw [decide_eq_true_eq]; omega
  clear hn
  go_enter Try.func10, Try.ntmps10
  go_wp2_with fail
  refine (HIa.out _ _ Ha.out).mono ?_
  rintro e w' ⟨rfl, rfl⟩
  go_wp2_with fail
  refine (HIb.out _ _ Hb.out).mono ?_
  rintro e w' ⟨rfl, rfl⟩
  go_wp2_with fail
  refine (awake_any _).mono ?_
  rintro e v1 ⟨rfl, hb1⟩
  have HB1 := Lib.hid hb1
  have Ha1 := Lib.hid (Ha.out.later hb1)
  have Hb1 := Lib.hid (Hb.out.later hb1)
  clear hb1 Ha Hb
  go_wp2
  go_ret
  exact ⟨rfl, HB1.out⟩
theorem vecCuts_walk (u v : Value) (a b : List Nat) (k : Int) (w : World) (hu : Sl w u a) (hv : Sl w v b) :
    Calls Try.prog 10 #[u, v, .int .i64 k] w fun e w' => e = .returned (.bool true) ∧ Below w.heap.size w w' := by
  have hu0 := hu
  have hv0 := hv
  obtain ⟨A, c, rfl, _⟩ := hu0
  obtain ⟨A', c', rfl, _⟩ := hv0
  cases va : isV a
  · exact cuts_na A A' _ _ c c' k w a b hu hv (isF va)
  cases vb : isV b
  · exact cuts_nb A A' _ _ c c' k w a b hu hv (isF va) (isF vb)
  obtain ⟨_, a1, a64⟩ := isV_bits va
  obtain ⟨_, b1, b64⟩ := isV_bits vb
  by_cases hn : a.length < 2
  · exact cuts_short A A' _ _ c c' k w a b hu hv (isF va) (isF vb) hn
  · obtain ⟨g, off, c2, he, _, _, hc⟩ := hu.cells a1
    injection he with he1 he2 he3
    subst he1
    have hr : toU k % (a.length - 1) < a.length - 1 := Nat.mod_lt _ (by omega)
    have er : (IntKind.u64.wrap k).tmod ((a.length - 1 : Nat) : Int) = ((toU k % (a.length - 1) : Nat) : Int) := by
      rw [toU_wrap, Int.tmod_eq_emod_of_nonneg (by omega)]
      exact (Int.natCast_emod _ _).symm
    generalize toU k % (a.length - 1) = r at hr er
    obtain ⟨n1, hn1⟩ : ∃ n1, n1 = a.length - 1 := ⟨_, rfl⟩
    rw [← hn1] at er hr
    have hs : (a.drop (r + 1)).take (n1 - (r + 1) + 1) = a.drop (r + 1) := List.take_of_length_le (by rw [List.length_drop]; omega)
    have hl : (a.drop 0).take (r - 0 + 1) = a.take (r + 1) := rfl
    refine cuts_at g off a.length c A' b.length c' k n1 r (r + 1) (a.length - (r + 1)) (r + 1 + b.length) (r + b.length) w a b (a.drop (r + 1)) (a.take (r + 1)) (splice a (r + 1) b) a64 (decide_eq_false (by omega)) a1 b64 (by omega) (wrap_nat (by omega))
      (by omega) (by rw [beq_eq_false_iff_ne]; omega) er (by omega) (by omega) (by omega) (by omega) (by omega) (by omega) (by omega) (by omega) (by omega) rfl hu hc hv (isF va) (isF vb)
      (fun _ _ h => slice_at va (by omega) (by omega) hs h) (fun _ _ h => slice_at (h := r) (l := 0) va (by omega) (by omega) hl h)
      (fun _ _ _ h h' => cat_at (isV_drop va (by omega)) (isV_take va (by omega) (by omega)) (by rw [List.length_drop, List.length_take]; omega) (List.take_append_drop _ _) h h') ?_
    intro hd
    have hd := of_decide_eq_true hd
    have hp : r + 1 + b.length ≤ a.length := by omega
    refine ⟨fun _ _ _ h h' => put_at va vb (by omega) (by omega) (by omega) h h', fun _ _ h => slice_at (splice_isV va vb hp) (by rw [splice_len hp]; omega) (by omega) (splice_piece hp (by omega)) h, splice_len hp, ?_⟩
    intro j h h' ho
    rcases ho with ho | ho
    · exact splice_low hp ho h
    · exact splice_high hp ho h

set_option maxRecDepth 100000 in
theorem vecCuts_lifted (os : Os) (started : os.Started) (H : Type) (enc : TypeId × Value → H) :
    ReturnsInHanded {} Try.checked os 10 .any (Rows.vecCutsSpec.pre6 enc Try.prog Try.f10 [] false) (Rows.vecCutsSpec.post enc Try.prog Try.f10 false true false false) := by
  refine returnsInHanded_of_change_sized (C := Try.checked) own started (by kernel_rfl) Try.func10
    (ChangeSpec.witness6 (enc := enc) (C := Try.checked) false ⟨#[], #[.slice none 0 0, .slice none 0 0, .int .i64 0], []⟩ 8 (by kernel_rfl) (by kernel_rfl) (by kernel_rfl) (by kernel_rfl)) ?_
  intro W base args ds gs before hval0 hW _ hsz0 _
  have hval : ∀ (j : Nat) t v, Try.f10.params[j]? = some t → args[j]? = some v → Value.okWide Try.prog W .any base t v := hval0
  have hsz : (DataW.weightsEach Try.prog (Try.f10.params.toList ++ Rows.vecCutsSpec.plain.varTypes Try.prog) (ds ++ gs)).all (· ≤ reachBytes) = true := hsz0
  have hW' := hW
  obtain ⟨p, q, hA0, hV, rfl, hfz, hnd⟩ := hW
  have hA1 := hA0
  have hA : DataW.TrodAll enc Try.prog W 0 (fun _ => true) true Try.f10.params.toList args.toList ds p := hA0
  rw [Try.params10] at hA hval hsz
  obtain ⟨v0, v1, v2, d0, d1, d2, p0, p1, p2, rfl, rfl, rfl, h0, h1, h2⟩ := trodAll_three hA
  obtain ⟨rfl, rfl⟩ := trodVars_none hV
  obtain ⟨a, ha⟩ := sl_open (hval 0 22 v0 rfl rfl) h0 (fun elems spare hd => sized_slice hsz (j := 0) rfl (by rw [hd]; rfl) Try.underlying22)
  obtain ⟨b, hb⟩ := sl_open (hval 1 22 v1 rfl rfl) h1 (fun elems spare hd => sized_slice hsz (j := 1) rfl (by rw [hd]; rfl) Try.underlying22)
  obtain ⟨k, rfl, rfl, rfl, wk⟩ := open_int Try.underlying3 (hval 2 3 v2 rfl rfl) h2
  have bk := bounds_i64 wk

  clear hval0 hsz0
  simp only [List.append_nil] at hW' hA1
  refine (vecCuts_walk v0 v1 a b k W ha hb).mono fun e W' ⟨he, hb⟩ => ?_
  subst he
  exact ⟨_, rfl, law_post (by rw [Try.params10]; exact types_ok [22, 22, 3] (by kernel_rfl)) (by kernel_rfl) rfl rfl hA1 hW' hb⟩

theorem vecCuts_holds : Rows.VecCutsSaid :=
  OpenClaim.holds_of_wide 10 Try.f10 rfl rfl rfl rfl rfl rfl rfl ⟨rfl, rfl, rfl, rfl, rfl⟩ rfl rfl rfl rfl rfl (by kernel_rfl) Try.func10 (by kernel_rfl)
    (of_decide_eq_true (by kernel_rfl)) (by unfold Func.isWrapper; first | (rw [if_pos (by decide +kernel)]; kernel_rfl) | (rw [if_neg (by decide +kernel)]; exact ⟨rfl, rfl⟩))
    (fun os started H enc _ => vecCuts_lifted os started H enc)
#print axioms vecCuts_holds
end Go.Proofs.Ytkapephlfbabjaa
