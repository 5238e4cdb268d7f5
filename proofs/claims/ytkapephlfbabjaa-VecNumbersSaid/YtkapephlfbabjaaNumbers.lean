/- VecNumbers: Number, Of, ToInt, ToVec and Resize return what the chapter says, for any bits and numbers; no condition. -/
import Derived.Test.YtkapephlfbabjaaLaw
import Derived.Test.YtkapephlfbabjaaAwake
import Derived.Test.YtkapephlfbabjaaLong
import Derived.Test.YtkapephlfbabjaaRefB
namespace Go.Proofs.Ytkapephlfbabjaa
open Go.ChangeShapes Go.WideShapes Go.ChangeAt Go.WideMaps Go.WideElems Go.RowKit
open Go.ChangeMaps (open_string)

set_option maxHeartbeats 4000000 in
theorem numbers_short (v : Value) (zs : List Nat) (k n : Int) (w : World) (h : Sl w v zs) (bk : -9223372036854775808 ≤ k ∧ k ≤ 9223372036854775807) (hlong : longB [zs] = false) :
    Calls Try.prog 3 #[v, .int .i64 k, .int .i64 n] w fun e w' => e = .returned (.bool true) ∧ Below w.heap.size w w' := by
  have HLo := Lib.hid (long_one h hlong)
  have Hv0 := Lib.hid (h.later (below_alloc w (.cells #[v] 22)))
  have HB0 := Lib.hid (below_alloc w (.cells #[v] 22))
  obtain ⟨A, c, rfl, hn, _⟩ := h
  clear hlong
  go_enter Try.func3, Try.ntmps3
  go_wp2_with fail
  refine (HLo.out).mono ?_
  rintro e w' ⟨rfl, rfl⟩
  generalize w.alloc _ = W0 at *
  go_wp2_with fail
  refine (copied_any _ zs _ Hv0.out).mono ?_
  rintro e v1 ⟨y, rfl, sy, hb1⟩
  have HB1 := Lib.hid (below_then HB0.out hb1)
  have Hv1 := Lib.hid (Hv0.out.later hb1)
  have Hy1 := Lib.hid sy.sl
  clear hb1 sy Hv0 HB0
  go_wp2_with fail
  refine (number_any _ zs _ Hy1.out).mono ?_
  rintro e w' ⟨rfl, rfl⟩
  go_wp2_with fail
  refine (refNumber_any _ zs _ Hv1.out).mono ?_
  rintro e w' ⟨rfl, rfl⟩
  generalize numV zs = nv
  generalize numE zs = ne
  go_wp2_with fail
  refine (toInt_any _ zs _ Hy1.out).mono ?_
  rintro e w' ⟨rfl, rfl⟩
  go_wp2_with fail
  refine (refToInt_any _ zs _ Hv1.out).mono ?_
  rintro e w' ⟨rfl, rfl⟩
  generalize intV zs = iv
  generalize intE zs = ie
  go_wp2_with fail
  refine (of_any k n _).mono ?_
  rintro e v2 ⟨p, rfl, sp, hb2⟩
  have HB2 := Lib.hid (below_then HB1.out hb2)
  have Hv2 := Lib.hid (Hv1.out.later hb2)
  have Hy2 := Lib.hid (Hy1.out.later hb2)
  have Hp2 := Lib.hid sp
  clear hb2 sp Hv1 Hy1 HB1
  go_wp2_with fail
  refine (refOf_any k n _ bk.1 bk.2).mono ?_
  rintro e v3 ⟨q, rfl, sq, hb3⟩
  have HB3 := Lib.hid (below_then HB2.out hb3)
  have Hv3 := Lib.hid (Hv2.out.later hb3)
  have Hy3 := Lib.hid (Hy2.out.later hb3)
  have Hp3 := Lib.hid (Hp2.out.later hb3)
  have Hq3 := Lib.hid sq
  clear hb3 sq Hv2 Hy2 Hp2 HB2
  go_wp2_with fail
  refine (same_at (ofV k n) _ _ _ Hp3.out Hq3.out).mono ?_
  rintro e v4 ⟨rfl, hb4⟩
  have HB4 := Lib.hid (below_then HB3.out hb4)
  have Hv4 := Lib.hid (Hv3.out.later hb4)
  have Hy4 := Lib.hid (Hy3.out.later hb4)
  have Hp4 := Lib.hid (Hp3.out.later hb4)
  have Hq4 := Lib.hid (Hq3.out.later hb4)
  clear hb4 Hv3 Hy3 Hp3 Hq3 HB3
  generalize ofE 2 n = oe
  go_wp2_with fail
  refine (toVec_any k n _).mono ?_
  rintro e v5 ⟨p, rfl, sp, hb5⟩
  have HB5 := Lib.hid (below_then HB4.out hb5)
  have Hv5 := Lib.hid (Hv4.out.later hb5)
  have Hy5 := Lib.hid (Hy4.out.later hb5)
  have Hp5 := Lib.hid sp
  clear hb5 sp Hv4 Hy4 HB4
  go_wp2_with fail
  refine (refToVec_any k n _ bk.1 bk.2).mono ?_
  rintro e v6 ⟨q, rfl, sq, hb6⟩
  have HB6 := Lib.hid (below_then HB5.out hb6)
  have Hv6 := Lib.hid (Hv5.out.later hb6)
  have Hy6 := Lib.hid (Hy5.out.later hb6)
  have Hp6 := Lib.hid (Hp5.out.later hb6)
  have Hq6 := Lib.hid sq
  clear hb6 sq Hv5 Hy5 Hp5 HB5
  go_wp2_with fail
  refine (same_at (ofV k n) _ _ _ Hp6.out Hq6.out).mono ?_
  rintro e v7 ⟨rfl, hb7⟩
  have HB7 := Lib.hid (below_then HB6.out hb7)
  have Hv7 := Lib.hid (Hv6.out.later hb7)
  have Hy7 := Lib.hid (Hy6.out.later hb7)
  have Hp7 := Lib.hid (Hp6.out.later hb7)
  have Hq7 := Lib.hid (Hq6.out.later hb7)
  clear hb7 Hv6 Hy6 Hp6 Hq6 HB6
  generalize ofE 19 n = te
  go_wp2_with fail
  refine (resize_any _ zs n _ Hy7.out).mono ?_
  rintro e v8 ⟨p, rfl, sp, hb8⟩
  have HB8 := Lib.hid (below_then HB7.out hb8)
  have Hv8 := Lib.hid (Hv7.out.later hb8)
  have Hy8 := Lib.hid (Hy7.out.later hb8)
  have Hp8 := Lib.hid sp
  clear hb8 sp Hv7 Hy7 HB7
  go_wp2_with fail
  refine (refResize_any _ zs n _ Hv8.out).mono ?_
  rintro e v9 ⟨q, rfl, sq, hb9⟩
  have HB9 := Lib.hid (below_then HB8.out hb9)
  have Hv9 := Lib.hid (Hv8.out.later hb9)
  have Hy9 := Lib.hid (Hy8.out.later hb9)
  have Hp9 := Lib.hid (Hp8.out.later hb9)
  have Hq9 := Lib.hid sq
  clear hb9 sq Hv8 Hy8 Hp8 HB8
  go_wp2_with fail
  refine (same_at (rszV zs n) _ _ _ Hp9.out Hq9.out).mono ?_
  rintro e v10 ⟨rfl, hb10⟩
  have HB10 := Lib.hid (below_then HB9.out hb10)
  have Hv10 := Lib.hid (Hv9.out.later hb10)
  have Hy10 := Lib.hid (Hy9.out.later hb10)
  have Hp10 := Lib.hid (Hp9.out.later hb10)
  have Hq10 := Lib.hid (Hq9.out.later hb10)
  clear hb10 Hv9 Hy9 Hp9 Hq9 HB9
  go_wp2_with fail
  refine (same_at zs _ _ _ Hv10.out Hy10.out).mono ?_
  rintro e v11 ⟨rfl, hb11⟩
  have HB11 := Lib.hid (below_then HB10.out hb11)
  have Hv11 := Lib.hid (Hv10.out.later hb11)
  have Hy11 := Lib.hid (Hy10.out.later hb11)
  clear hb11 Hv10 Hy10 HB10
  go_wp2_with fail
  refine (awake_any _).mono ?_
  rintro e v12 ⟨rfl, hb12⟩
  have HB12 := Lib.hid (below_then HB11.out hb12)
  have Hv12 := Lib.hid (Hv11.out.later hb12)
  have Hy12 := Lib.hid (Hy11.out.later hb12)
  clear hb12 Hv11 Hy11 HB11
  go_wp2
  go_ret
  exact ⟨rfl, HB12.out⟩
theorem numbers_long (v : Value) (zs : List Nat) (k n : Int) (w : World) (h : Sl w v zs) (hlong : longB [zs] = true) :
    Calls Try.prog 3 #[v, .int .i64 k, .int .i64 n] w fun e w' => e = .returned (.bool true) ∧ Below w.heap.size w w' := by
  have HLo := Lib.hid (long_one h hlong)
  have Hv0 := Lib.hid (h.later (below_alloc w (.cells #[v] 22)))
  have HB0 := Lib.hid (below_alloc w (.cells #[v] 22))
  obtain ⟨A, c, rfl, hn, _⟩ := h
  clear hlong
  go_enter Try.func3, Try.ntmps3
  go_wp2_with fail
  refine (HLo.out).mono ?_
  rintro e w' ⟨rfl, rfl⟩
  generalize w.alloc _ = W0 at *
  go_wp2_with fail
  refine (awake_any _).mono ?_
  rintro e v1 ⟨rfl, hb1⟩
  have HB1 := Lib.hid (below_then HB0.out hb1)
  have Hv1 := Lib.hid (Hv0.out.later hb1)
  clear hb1 Hv0 HB0
  go_wp2
  go_ret
  exact ⟨rfl, HB1.out⟩
theorem vecNumbers_walk (v : Value) (zs : List Nat) (k n : Int) (w : World) (h : Sl w v zs) (bk : -9223372036854775808 ≤ k ∧ k ≤ 9223372036854775807) :
    Calls Try.prog 3 #[v, .int .i64 k, .int .i64 n] w fun e w' => e = .returned (.bool true) ∧ Below w.heap.size w w' := by
  cases hl : longB [zs]
  · exact numbers_short v zs k n w h bk hl
  · exact numbers_long v zs k n w h hl

set_option maxRecDepth 100000 in
theorem vecNumbers_lifted (os : Os) (started : os.Started) (H : Type) (enc : TypeId × Value → H) :
    ReturnsInHanded {} Try.checked os 3 .any (Rows.vecNumbersSpec.pre6 enc Try.prog Try.f3 [] false) (Rows.vecNumbersSpec.post enc Try.prog Try.f3 false true false false) := by
  refine returnsInHanded_of_change_sized (C := Try.checked) own started (by kernel_rfl) Try.func3
    (ChangeSpec.witness6 (enc := enc) (C := Try.checked) false ⟨#[], #[.slice none 0 0, .int .i64 0, .int .i64 0], []⟩ 8 (by kernel_rfl) (by kernel_rfl) (by kernel_rfl) (by kernel_rfl)) ?_
  intro W base args ds gs before hval0 hW _ hsz0 _
  have hval : ∀ (j : Nat) t v, Try.f3.params[j]? = some t → args[j]? = some v → Value.okWide Try.prog W .any base t v := hval0
  have hsz : (DataW.weightsEach Try.prog (Try.f3.params.toList ++ Rows.vecNumbersSpec.plain.varTypes Try.prog) (ds ++ gs)).all (· ≤ reachBytes) = true := hsz0
  have hW' := hW
  obtain ⟨p, q, hA0, hV, rfl, hfz, hnd⟩ := hW
  have hA1 := hA0
  have hA : DataW.TrodAll enc Try.prog W 0 (fun _ => true) true Try.f3.params.toList args.toList ds p := hA0
  rw [Try.params3] at hA hval hsz
  obtain ⟨v0, v1, v2, d0, d1, d2, p0, p1, p2, rfl, rfl, rfl, h0, h1, h2⟩ := trodAll_three hA
  obtain ⟨rfl, rfl⟩ := trodVars_none hV
  obtain ⟨zs, hzs⟩ := sl_open (hval 0 22 v0 rfl rfl) h0 (fun elems spare hd => sized_slice hsz (j := 0) rfl (by rw [hd]; rfl) Try.underlying22)
  obtain ⟨k, rfl, rfl, rfl, wk⟩ := open_int Try.underlying3 (hval 1 3 v1 rfl rfl) h1
  have bk := bounds_i64 wk
  obtain ⟨n, rfl, rfl, rfl, wn⟩ := open_int Try.underlying3 (hval 2 3 v2 rfl rfl) h2
  have bn := bounds_i64 wn

  clear hval0 hsz0
  simp only [List.append_nil] at hW' hA1
  refine (vecNumbers_walk v0 zs k n W hzs bk).mono fun e W' ⟨he, hb⟩ => ?_
  subst he
  exact ⟨_, rfl, law_post (by rw [Try.params3]; exact types_ok [22, 3, 3] (by kernel_rfl)) (by kernel_rfl) rfl rfl hA1 hW' hb⟩

theorem vecNumbers_holds : Rows.VecNumbersSaid :=
  OpenClaim.holds_of_wide 3 Try.f3 rfl rfl rfl rfl rfl rfl rfl ⟨rfl, rfl, rfl, rfl, rfl⟩ rfl rfl rfl rfl rfl (by kernel_rfl) Try.func3 (by kernel_rfl)
    (of_decide_eq_true (by kernel_rfl)) (by unfold Func.isWrapper; first | (rw [if_pos (by decide +kernel)]; kernel_rfl) | (rw [if_neg (by decide +kernel)]; exact ⟨rfl, rfl⟩))
    (fun os started H enc _ => vecNumbers_lifted os started H enc)
#print axioms vecNumbers_holds
end Go.Proofs.Ytkapephlfbabjaa
