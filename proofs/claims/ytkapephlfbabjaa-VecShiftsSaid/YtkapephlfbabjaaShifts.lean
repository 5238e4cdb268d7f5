/- VecShifts: Left and Right return what the chapter says, for any bits and distances; no condition. -/
import Derived.Test.YtkapephlfbabjaaLaw
import Derived.Test.YtkapephlfbabjaaAwake
import Derived.Test.YtkapephlfbabjaaLong
import Derived.Test.YtkapephlfbabjaaRefB
namespace Go.Proofs.Ytkapephlfbabjaa
open Go.ChangeShapes Go.WideShapes Go.ChangeAt Go.WideMaps Go.WideElems Go.RowKit
open Go.ChangeMaps (open_string)

set_option maxHeartbeats 4000000 in
theorem shifts_short (v : Value) (zs : List Nat) (k : Int) (w : World) (h : Sl w v zs) (hlong : longB [zs] = false) :
    Calls Try.prog 5 #[v, .int .i64 k] w fun e w' => e = .returned (.bool true) ∧ Below w.heap.size w w' := by
  have HLo := Lib.hid (long_one h hlong)
  have Hv0 := Lib.hid (h.later (below_alloc w (.cells #[v] 22)))
  have HB0 := Lib.hid (below_alloc w (.cells #[v] 22))
  obtain ⟨A, c, rfl, hn, _⟩ := h
  clear hlong
  go_enter Try.func5, Try.ntmps5
  go_wp2_with fail
  refine (HLo.out).mono ?_
  rintro e w' ⟨rfl, rfl⟩
  generalize w.alloc _ = W0 at *
  go_wp2_with fail
  refine (copied_any _ zs _ Hv0.out).mono ?_
  rintro e v1 ⟨y, rfl, sy, hb1⟩
  have HB1 := Lib.hid (below_then HB0.out hb1)
  have Hv1 := Lib.hid (Hv0.out.later hb1)
  have Hy1 := Lib.hid sy.sl
  clear hb1 sy Hv0 HB0
  go_wp2_with fail
  refine (left_any _ zs k _ Hy1.out).mono ?_
  rintro e v2 ⟨p, rfl, sp, hb2⟩
  have HB2 := Lib.hid (below_then HB1.out hb2)
  have Hv2 := Lib.hid (Hv1.out.later hb2)
  have Hy2 := Lib.hid (Hy1.out.later hb2)
  have Hp2 := Lib.hid sp
  clear hb2 sp Hv1 Hy1 HB1
  go_wp2_with fail
  refine (refLeft_any _ zs k _ Hv2.out).mono ?_
  rintro e v3 ⟨q, rfl, sq, hb3⟩
  have HB3 := Lib.hid (below_then HB2.out hb3)
  have Hv3 := Lib.hid (Hv2.out.later hb3)
  have Hy3 := Lib.hid (Hy2.out.later hb3)
  have Hp3 := Lib.hid (Hp2.out.later hb3)
  have Hq3 := Lib.hid sq
  clear hb3 sq Hv2 Hy2 Hp2 HB2
  go_wp2_with fail
  refine (same_at (leftV zs k) _ _ _ Hp3.out Hq3.out).mono ?_
  rintro e v4 ⟨rfl, hb4⟩
  have HB4 := Lib.hid (below_then HB3.out hb4)
  have Hv4 := Lib.hid (Hv3.out.later hb4)
  have Hy4 := Lib.hid (Hy3.out.later hb4)
  have Hp4 := Lib.hid (Hp3.out.later hb4)
  have Hq4 := Lib.hid (Hq3.out.later hb4)
  clear hb4 Hv3 Hy3 Hp3 Hq3 HB3
  generalize lrE zs k = le
  go_wp2_with fail
  refine (right_any _ zs k _ Hy4.out).mono ?_
  rintro e v5 ⟨p, rfl, sp, hb5⟩
  have HB5 := Lib.hid (below_then HB4.out hb5)
  have Hv5 := Lib.hid (Hv4.out.later hb5)
  have Hy5 := Lib.hid (Hy4.out.later hb5)
  have Hp5 := Lib.hid sp
  clear hb5 sp Hv4 Hy4 HB4
  go_wp2_with fail
  refine (refRight_any _ zs k _ Hv5.out).mono ?_
  rintro e v6 ⟨q, rfl, sq, hb6⟩
  have HB6 := Lib.hid (below_then HB5.out hb6)
  have Hv6 := Lib.hid (Hv5.out.later hb6)
  have Hy6 := Lib.hid (Hy5.out.later hb6)
  have Hp6 := Lib.hid (Hp5.out.later hb6)
  have Hq6 := Lib.hid sq
  clear hb6 sq Hv5 Hy5 Hp5 HB5
  go_wp2_with fail
  refine (same_at (rightV zs k) _ _ _ Hp6.out Hq6.out).mono ?_
  rintro e v7 ⟨rfl, hb7⟩
  have HB7 := Lib.hid (below_then HB6.out hb7)
  have Hv7 := Lib.hid (Hv6.out.later hb7)
  have Hy7 := Lib.hid (Hy6.out.later hb7)
  have Hp7 := Lib.hid (Hp6.out.later hb7)
  have Hq7 := Lib.hid (Hq6.out.later hb7)
  clear hb7 Hv6 Hy6 Hp6 Hq6 HB6
  go_wp2_with fail
  refine (same_at zs _ _ _ Hv7.out Hy7.out).mono ?_
  rintro e v8 ⟨rfl, hb8⟩
  have HB8 := Lib.hid (below_then HB7.out hb8)
  have Hv8 := Lib.hid (Hv7.out.later hb8)
  have Hy8 := Lib.hid (Hy7.out.later hb8)
  clear hb8 Hv7 Hy7 HB7
  go_wp2_with fail
  refine (awake_any _).mono ?_
  rintro e v9 ⟨rfl, hb9⟩
  have HB9 := Lib.hid (below_then HB8.out hb9)
  have Hv9 := Lib.hid (Hv8.out.later hb9)
  have Hy9 := Lib.hid (Hy8.out.later hb9)
  clear hb9 Hv8 Hy8 HB8
  go_wp2
  go_ret
  exact ⟨rfl, HB9.out⟩
theorem shifts_long (v : Value) (zs : List Nat) (k : Int) (w : World) (h : Sl w v zs) (hlong : longB [zs] = true) :
    Calls Try.prog 5 #[v, .int .i64 k] w fun e w' => e = .returned (.bool true) ∧ Below w.heap.size w w' := by
  have HLo := Lib.hid (long_one h hlong)
  have Hv0 := Lib.hid (h.later (below_alloc w (.cells #[v] 22)))
  have HB0 := Lib.hid (below_alloc w (.cells #[v] 22))
  obtain ⟨A, c, rfl, hn, _⟩ := h
  clear hlong
  go_enter Try.func5, Try.ntmps5
  go_wp2_with fail
  refine (HLo.out).mono ?_
  rintro e w' ⟨rfl, rfl⟩
  generalize w.alloc _ = W0 at *
  go_wp2_with fail
  refine (awake_any _).mono ?_
  rintro e v1 ⟨rfl, hb1⟩
  have HB1 := Lib.hid (below_then HB0.out hb1)
  have Hv1 := Lib.hid (Hv0.out.later hb1)
  clear hb1 Hv0 HB0
  go_wp2
  go_ret
  exact ⟨rfl, HB1.out⟩
theorem vecShifts_walk (v : Value) (zs : List Nat) (k : Int) (w : World) (h : Sl w v zs) :
    Calls Try.prog 5 #[v, .int .i64 k] w fun e w' => e = .returned (.bool true) ∧ Below w.heap.size w w' := by
  cases hl : longB [zs]
  · exact shifts_short v zs k w h hl
  · exact shifts_long v zs k w h hl

set_option maxRecDepth 100000 in
theorem vecShifts_lifted (os : Os) (started : os.Started) (H : Type) (enc : TypeId × Value → H) :
    ReturnsInHanded {} Try.checked os 5 .any (Rows.vecShiftsSpec.pre6 enc Try.prog Try.f5 [] false) (Rows.vecShiftsSpec.post enc Try.prog Try.f5 false true false false) := by
  refine returnsInHanded_of_change_sized (C := Try.checked) own started (by kernel_rfl) Try.func5
    (ChangeSpec.witness6 (enc := enc) (C := Try.checked) false ⟨#[], #[.slice none 0 0, .int .i64 0], []⟩ 8 (by kernel_rfl) (by kernel_rfl) (by kernel_rfl) (by kernel_rfl)) ?_
  intro W base args ds gs before hval0 hW _ hsz0 _
  have hval : ∀ (j : Nat) t v, Try.f5.params[j]? = some t → args[j]? = some v → Value.okWide Try.prog W .any base t v := hval0
  have hsz : (DataW.weightsEach Try.prog (Try.f5.params.toList ++ Rows.vecShiftsSpec.plain.varTypes Try.prog) (ds ++ gs)).all (· ≤ reachBytes) = true := hsz0
  have hW' := hW
  obtain ⟨p, q, hA0, hV, rfl, hfz, hnd⟩ := hW
  have hA1 := hA0
  have hA : DataW.TrodAll enc Try.prog W 0 (fun _ => true) true Try.f5.params.toList args.toList ds p := hA0
  rw [Try.params5] at hA hval hsz
  obtain ⟨v0, v1, d0, d1, p0, p1, rfl, rfl, rfl, h0, h1⟩ := trodAll_two hA
  obtain ⟨rfl, rfl⟩ := trodVars_none hV
  obtain ⟨zs, hzs⟩ := sl_open (hval 0 22 v0 rfl rfl) h0 (fun elems spare hd => sized_slice hsz (j := 0) rfl (by rw [hd]; rfl) Try.underlying22)
  obtain ⟨k, rfl, rfl, rfl, wk⟩ := open_int Try.underlying3 (hval 1 3 v1 rfl rfl) h1
  have bk := bounds_i64 wk

  clear hval0 hsz0
  simp only [List.append_nil] at hW' hA1
  refine (vecShifts_walk v0 zs k W hzs).mono fun e W' ⟨he, hb⟩ => ?_
  subst he
  exact ⟨_, rfl, law_post (by rw [Try.params5]; exact types_ok [22, 3] (by kernel_rfl)) (by kernel_rfl) rfl rfl hA1 hW' hb⟩

theorem vecShifts_holds : Rows.VecShiftsSaid :=
  OpenClaim.holds_of_wide 5 Try.f5 rfl rfl rfl rfl rfl rfl rfl ⟨rfl, rfl, rfl, rfl, rfl⟩ rfl rfl rfl rfl rfl (by kernel_rfl) Try.func5 (by kernel_rfl)
    (of_decide_eq_true (by kernel_rfl)) (by unfold Func.isWrapper; first | (rw [if_pos (by decide +kernel)]; kernel_rfl) | (rw [if_neg (by decide +kernel)]; exact ⟨rfl, rfl⟩))
    (fun os started H enc _ => vecShifts_lifted os started H enc)
#print axioms vecShifts_holds
end Go.Proofs.Ytkapephlfbabjaa
