/- The laws' own check, awake, returns true. -/
import Derived.Test.YtkapephlfbabjaaCut
import Derived.Test.YtkapephlfbabjaaCmp
import Derived.Test.YtkapephlfbabjaaInt
namespace Go.Proofs.Ytkapephlfbabjaa
open Go.RowKit

theorem add_63 (u v : Value) (w : World) (hu : Sl w u [0, 1, 1, 0]) (hv : Sl w v [1, 1, 0, 0]) : Calls Try.prog 29 #[u, v] w fun e w' => ∃ x, e = .returned (.tuple #[x, .int .i64 0]) ∧ Sl w' x [1, 0, 0, 1] ∧ Below w.heap.size w w' :=
  add_any u v [0, 1, 1, 0] [1, 1, 0, 0] w hu hv
theorem add_6x (u v : Value) (w : World) (hu : Sl w u [0, 1, 1, 0]) (hv : Sl w v [1, 2, 0, 0]) : Calls Try.prog 29 #[u, v] w fun e w' => ∃ x, e = .returned (.tuple #[x, .int .i64 0]) ∧ Sl w' x [2, 2, 2, 2] ∧ Below w.heap.size w w' :=
  add_any u v [0, 1, 1, 0] [1, 2, 0, 0] w hu hv
theorem add_nil (u v : Value) (w : World) (hu : Sl w u [0, 1, 1, 0]) (hv : Sl w v []) : Calls Try.prog 29 #[u, v] w fun e w' => ∃ x, e = .returned (.tuple #[x, .int .i64 2]) ∧ Sl w' x [] ∧ Below w.heap.size w w' :=
  add_any u v [0, 1, 1, 0] [] w hu hv
theorem number_6 (u : Value) (w : World) (hu : Sl w u [0, 1, 1, 0]) : Calls Try.prog 18 #[u] w fun e w' => e = .returned (.tuple #[.int .u64 6, .int .i64 0]) ∧ w = w' :=
  number_any u [0, 1, 1, 0] w hu
theorem int_quo (w : World) : Calls Try.prog 51 #[.string ⟨#[47]⟩, .int .i64 (-7), .int .i64 2] w fun e w' => e = .returned (.tuple #[.int .i64 (-4), .int .i64 0]) ∧ Below w.heap.size w w' :=
  (int_any ⟨#[47]⟩ (-7) 2 w).mono fun _ _ ⟨he, hw⟩ => ⟨he.trans (ret_jj (by kernel_rfl) (by kernel_rfl)), hw⟩
theorem int_mod (w : World) : Calls Try.prog 51 #[.string ⟨#[109, 111, 100]⟩, .int .i64 (-7), .int .i64 2] w fun e w' => e = .returned (.tuple #[.int .i64 1, .int .i64 0]) ∧ Below w.heap.size w w' :=
  (int_any ⟨#[109, 111, 100]⟩ (-7) 2 w).mono fun _ _ ⟨he, hw⟩ => ⟨he.trans (ret_jj (by kernel_rfl) (by kernel_rfl)), hw⟩
theorem cat_12 (u v : Value) (w : World) (hu : Sl w u [0, 1]) (hv : Sl w v [2, 0]) : Calls Try.prog 45 #[u, v] w fun e w' => ∃ x, e = .returned (.tuple #[x, .int .i64 0]) ∧ Sl w' x [2, 0, 0, 1] ∧ Below w.heap.size w w' :=
  cat_any u v [0, 1] [2, 0] w hu hv
theorem signed_10 (u v : Value) (w : World) (hu : Sl w u [1, 1, 1, 1]) (hv : Sl w v [0, 0, 0, 0]) : Calls Try.prog 37 #[u, v] w fun e w' => e = .returned (.tuple #[.bool true, .int .i64 0]) ∧ Below w.heap.size w w' :=
  (signed_any u v [1, 1, 1, 1] [0, 0, 0, 0] w hu hv).mono fun _ _ ⟨he, hw⟩ => ⟨he.trans (ret_bi (by kernel_rfl) (by kernel_rfl)), hw⟩
theorem same_at (zs : List Nat) (u v : Value) (w : World) (hu : Sl w u zs) (hv : Sl w v zs) : Calls Try.prog 24 #[u, v] w fun e w' => e = .returned (.bool true) ∧ Below w.heap.size w w' := by
  have := same_any u v zs zs w hu hv
  rwa [show eqL zs zs = true by unfold eqL; simp] at this

set_option maxHeartbeats 2000000 in
set_option maxRecDepth 100000 in
theorem awake_any (w : World) :
    Calls Try.prog 16 #[] w fun e w' => e = .returned (.bool true) ∧ Below w.heap.size w w' := by
  go_enter Try.func16, Try.ntmps16
  go_wp2_with fail
  have hb0 := below_then (below_alloc w (.cells #[.int .u8 0, .int .u8 1, .int .u8 1, .int .u8 0] 49)) (below_alloc _ (.cells #[.int .u8 1, .int .u8 1, .int .u8 0, .int .u8 0] 49))
  have h6 := (show Sl (w.alloc (.cells #[.int .u8 0, .int .u8 1, .int .u8 1, .int .u8 0] 49)) (.slice (some ⟨w.heap.size, 0, none⟩) 4 4) [0, 1, 1, 0] from Sl.lit w [0, 1, 1, 0] _ rfl (by decide) (by decide) _ rfl _ _ rfl (by decide)).later (below_alloc _ (.cells #[.int .u8 1, .int .u8 1, .int .u8 0, .int .u8 0] 49))
  refine (add_63 _ _ _ h6 (Sl.lit _ [1, 1, 0, 0] _ rfl (by decide) (by decide) _ (by simp) _ _ rfl (by decide))).mono ?_
  rintro e w1 ⟨x1, rfl, s1, hb1⟩
  have H6 := Lib.hid (h6.later hb1)
  have HB1 := Lib.hid (below_then hb0 hb1)
  have HS1 := Lib.hid s1
  clear h6 hb0 hb1 s1
  go_wp2_with fail
  have hb2 := below_alloc w1 (.cells #[.int .u8 1, .int .u8 2, .int .u8 0, .int .u8 0] 49)
  refine (add_6x _ _ _ (H6.out.later hb2) (Sl.lit w1 [1, 2, 0, 0] _ rfl (by decide) (by decide) _ (by simp) _ _ rfl (by decide))).mono ?_
  rintro e w2 ⟨x2, rfl, s2, hb3⟩
  have hb4 := below_then hb2 hb3
  have H62 := Lib.hid (H6.out.later hb4)
  have HB2 := Lib.hid (below_then HB1.out hb4)
  have HS12 := Lib.hid (HS1.out.later hb4)
  have HS2 := Lib.hid s2
  clear hb2 hb3 hb4 s2 H6 HB1 HS1
  go_wp2_with fail
  refine (number_6 _ _ H62.out).mono ?_
  rintro e w' ⟨rfl, rfl⟩
  go_wp2_with fail
  refine (int_quo _).mono ?_
  rintro e w3 ⟨rfl, hb3⟩
  have H63 := Lib.hid (H62.out.later hb3)
  have HB3 := Lib.hid (below_then HB2.out hb3)
  have HS13 := Lib.hid (HS12.out.later hb3)
  have HS23 := Lib.hid (HS2.out.later hb3)
  clear hb3 H62 HB2 HS12 HS2
  go_wp2_with fail
  refine (int_mod _).mono ?_
  rintro e w4 ⟨rfl, hb4⟩
  have H64 := Lib.hid (H63.out.later hb4)
  have HB4 := Lib.hid (below_then HB3.out hb4)
  have HS14 := Lib.hid (HS13.out.later hb4)
  have HS24 := Lib.hid (HS23.out.later hb4)
  clear hb4 H63 HB3 HS13 HS23
  go_wp2_with fail
  have hb5 := below_then (below_alloc w4 (.cells #[.int .u8 0, .int .u8 1] 49)) (below_alloc _ (.cells #[.int .u8 2, .int .u8 0] 49))
  refine (cat_12 _ _ _ ((show Sl (w4.alloc (.cells #[.int .u8 0, .int .u8 1] 49)) (.slice (some ⟨w4.heap.size, 0, none⟩) 2 2) [0, 1] from Sl.lit w4 [0, 1] _ rfl (by decide) (by decide) _ rfl _ _ rfl (by decide)).later (below_alloc _ (.cells #[.int .u8 2, .int .u8 0] 49))) (Sl.lit _ [2, 0] _ rfl (by decide) (by decide) _ (by simp) _ _ rfl (by decide))).mono ?_
  rintro e w5 ⟨x3, rfl, s3, hb6⟩
  have hb7 := below_then hb5 hb6
  have H65 := Lib.hid (H64.out.later hb7)
  have HB5 := Lib.hid (below_then HB4.out hb7)
  have HS15 := Lib.hid (HS14.out.later hb7)
  have HS25 := Lib.hid (HS24.out.later hb7)
  have HS3 := Lib.hid s3
  clear hb5 hb6 hb7 s3 H64 HB4 HS14 HS24
  go_wp2_with fail
  have hb8 := below_then (below_alloc w5 (.cells #[.int .u8 1, .int .u8 1, .int .u8 1, .int .u8 1] 49)) (below_alloc _ (.cells #[.int .u8 0, .int .u8 0, .int .u8 0, .int .u8 0] 49))
  refine (signed_10 _ _ _ ((show Sl (w5.alloc (.cells #[.int .u8 1, .int .u8 1, .int .u8 1, .int .u8 1] 49)) (.slice (some ⟨w5.heap.size, 0, none⟩) 4 4) [1, 1, 1, 1] from Sl.lit w5 [1, 1, 1, 1] _ rfl (by decide) (by decide) _ rfl _ _ rfl (by decide)).later (below_alloc _ (.cells #[.int .u8 0, .int .u8 0, .int .u8 0, .int .u8 0] 49))) (Sl.lit _ [0, 0, 0, 0] _ rfl (by decide) (by decide) _ (by simp) _ _ rfl (by decide))).mono ?_
  rintro e w6 ⟨rfl, hb9⟩
  have hb10 := below_then hb8 hb9
  have H66 := Lib.hid (H65.out.later hb10)
  have HB6 := Lib.hid (below_then HB5.out hb10)
  have HS16 := Lib.hid (HS15.out.later hb10)
  have HS26 := Lib.hid (HS25.out.later hb10)
  have HS36 := Lib.hid (HS3.out.later hb10)
  clear hb8 hb9 hb10 H65 HB5 HS15 HS25 HS3
  go_wp2_with fail
  refine (add_nil _ _ _ H66.out (sl_nil _)).mono ?_
  rintro e w7 ⟨x4, rfl, _, hb11⟩
  have HB7 := Lib.hid (below_then HB6.out hb11)
  have HS17 := Lib.hid (HS16.out.later hb11)
  have HS27 := Lib.hid (HS26.out.later hb11)
  have HS37 := Lib.hid (HS36.out.later hb11)
  clear hb11 H66 HB6 HS16 HS26 HS36
  go_wp2_with fail
  have hc1 := below_alloc w7 (.cells #[.int .u8 1, .int .u8 0, .int .u8 0, .int .u8 1] 49)
  refine (same_at [1, 0, 0, 1] _ _ _ (HS17.out.later hc1) (Sl.lit w7 [1, 0, 0, 1] _ rfl (by decide) (by decide) _ (by simp) _ _ rfl (by decide))).mono ?_
  rintro e w8 ⟨rfl, hc2⟩
  have hc3 := below_then hc1 hc2
  have HB8 := Lib.hid (below_then HB7.out hc3)
  have HS28 := Lib.hid (HS27.out.later hc3)
  have HS38 := Lib.hid (HS37.out.later hc3)
  clear hc1 hc2 hc3 HB7 HS17 HS27 HS37
  go_wp2_with fail
  have hc1 := below_alloc w8 (.cells #[.int .u8 2, .int .u8 2, .int .u8 2, .int .u8 2] 49)
  refine (same_at [2, 2, 2, 2] _ _ _ (HS28.out.later hc1) (Sl.lit w8 [2, 2, 2, 2] _ rfl (by decide) (by decide) _ (by simp) _ _ rfl (by decide))).mono ?_
  rintro e w9 ⟨rfl, hc2⟩
  have hc3 := below_then hc1 hc2
  have HB9 := Lib.hid (below_then HB8.out hc3)
  have HS39 := Lib.hid (HS38.out.later hc3)
  clear hc1 hc2 hc3 HB8 HS28 HS38
  go_wp2_with fail
  have hc1 := below_alloc w9 (.cells #[.int .u8 2, .int .u8 0, .int .u8 0, .int .u8 1] 49)
  refine (same_at [2, 0, 0, 1] _ _ _ (HS39.out.later hc1) (Sl.lit w9 [2, 0, 0, 1] _ rfl (by decide) (by decide) _ (by simp) _ _ rfl (by decide))).mono ?_
  rintro e w10 ⟨rfl, hc2⟩
  have HB10 := Lib.hid (below_then HB9.out (below_then hc1 hc2))
  clear hc1 hc2 HB9 HS39
  go_wp2
  go_ret
  exact ⟨rfl, HB10.out⟩
end Go.Proofs.Ytkapephlfbabjaa
