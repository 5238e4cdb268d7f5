/- VecSums: Add, Sub, Mul, Less, Signed and Same return what the chapter says, for any two lists; no condition. -/
import Derived.Test.YtkapephlfbabjaaLaw
import Derived.Test.YtkapephlfbabjaaAwake
import Derived.Test.YtkapephlfbabjaaLong
import Derived.Test.YtkapephlfbabjaaRefB
import Derived.Test.YtkapephlfbabjaaRefE
namespace Go.Proofs.Ytkapephlfbabjaa
open Go.ChangeShapes Go.WideShapes Go.ChangeAt Go.WideMaps Go.WideElems Go.RowKit
open Go.ChangeMaps (open_string)

set_option maxHeartbeats 4000000 in
theorem sums_short (u v : Value) (a b : List Nat) (w : World) (hu : Sl w u a) (hv : Sl w v b) (hlong : longB [a, b] = false) :
    Calls Try.prog 4 #[u, v] w fun e w' => e = .returned (.bool true) ∧ Below w.heap.size w w' := by
  have HLo := Lib.hid (long_two hu hv hlong)
  have Hu0 := Lib.hid (hu.later (below_alloc w (.cells #[u, v] 22)))
  have Hv0 := Lib.hid (hv.later (below_alloc w (.cells #[u, v] 22)))
  have HB0 := Lib.hid (below_alloc w (.cells #[u, v] 22))
  obtain ⟨A, c, rfl, hn, _⟩ := hu
  obtain ⟨A', c', rfl, hn', _⟩ := hv
  clear hlong
  go_enter Try.func4, Try.ntmps4
  go_wp2_with fail
  refine (HLo.out).mono ?_
  rintro e w' ⟨rfl, rfl⟩
  generalize w.alloc _ = W0 at *
  go_wp2_with fail
  refine (copied_any _ a _ Hu0.out).mono ?_
  rintro e v1 ⟨x, rfl, sx, hb1⟩
  have HB1 := Lib.hid (below_then HB0.out hb1)
  have Hu1 := Lib.hid (Hu0.out.later hb1)
  have Hv1 := Lib.hid (Hv0.out.later hb1)
  have Hx1 := Lib.hid sx.sl
  clear hb1 sx Hu0 Hv0 HB0
  go_wp2_with fail
  refine (copied_any _ b _ Hv1.out).mono ?_
  rintro e v2 ⟨y, rfl, sy, hb2⟩
  have HB2 := Lib.hid (below_then HB1.out hb2)
  have Hu2 := Lib.hid (Hu1.out.later hb2)
  have Hv2 := Lib.hid (Hv1.out.later hb2)
  have Hx2 := Lib.hid (Hx1.out.later hb2)
  have Hy2 := Lib.hid sy.sl
  clear hb2 sy Hu1 Hv1 Hx1 HB1
  go_wp2_with fail
  refine (add_any _ _ a b _ Hx2.out Hy2.out).mono ?_
  rintro e v3 ⟨p, rfl, sp, hb3⟩
  have HB3 := Lib.hid (below_then HB2.out hb3)
  have Hu3 := Lib.hid (Hu2.out.later hb3)
  have Hv3 := Lib.hid (Hv2.out.later hb3)
  have Hx3 := Lib.hid (Hx2.out.later hb3)
  have Hy3 := Lib.hid (Hy2.out.later hb3)
  have Hp3 := Lib.hid sp
  clear hb3 sp Hu2 Hv2 Hx2 Hy2 HB2
  go_wp2_with fail
  refine (refAdd_any _ _ a b _ Hu3.out Hv3.out).mono ?_
  rintro e v4 ⟨q, rfl, sq, hb4⟩
  have HB4 := Lib.hid (below_then HB3.out hb4)
  have Hu4 := Lib.hid (Hu3.out.later hb4)
  have Hv4 := Lib.hid (Hv3.out.later hb4)
  have Hx4 := Lib.hid (Hx3.out.later hb4)
  have Hy4 := Lib.hid (Hy3.out.later hb4)
  have Hp4 := Lib.hid (Hp3.out.later hb4)
  have Hq4 := Lib.hid sq
  clear hb4 sq Hu3 Hv3 Hx3 Hy3 Hp3 HB3
  go_wp2_with fail
  refine (same_at (calV addO a b) _ _ _ Hp4.out Hq4.out).mono ?_
  rintro e v5 ⟨rfl, hb5⟩
  have HB5 := Lib.hid (below_then HB4.out hb5)
  have Hu5 := Lib.hid (Hu4.out.later hb5)
  have Hv5 := Lib.hid (Hv4.out.later hb5)
  have Hx5 := Lib.hid (Hx4.out.later hb5)
  have Hy5 := Lib.hid (Hy4.out.later hb5)
  have Hp5 := Lib.hid (Hp4.out.later hb5)
  have Hq5 := Lib.hid (Hq4.out.later hb5)
  clear hb5 Hu4 Hv4 Hx4 Hy4 Hp4 Hq4 HB4
  go_wp2_with fail
  refine (sub_any _ _ a b _ Hx5.out Hy5.out).mono ?_
  rintro e v6 ⟨p, rfl, sp, hb6⟩
  have HB6 := Lib.hid (below_then HB5.out hb6)
  have Hu6 := Lib.hid (Hu5.out.later hb6)
  have Hv6 := Lib.hid (Hv5.out.later hb6)
  have Hx6 := Lib.hid (Hx5.out.later hb6)
  have Hy6 := Lib.hid (Hy5.out.later hb6)
  have Hp6 := Lib.hid sp
  clear hb6 sp Hu5 Hv5 Hx5 Hy5 HB5
  go_wp2_with fail
  refine (refSub_any _ _ a b _ Hu6.out Hv6.out).mono ?_
  rintro e v7 ⟨q, rfl, sq, hb7⟩
  have HB7 := Lib.hid (below_then HB6.out hb7)
  have Hu7 := Lib.hid (Hu6.out.later hb7)
  have Hv7 := Lib.hid (Hv6.out.later hb7)
  have Hx7 := Lib.hid (Hx6.out.later hb7)
  have Hy7 := Lib.hid (Hy6.out.later hb7)
  have Hp7 := Lib.hid (Hp6.out.later hb7)
  have Hq7 := Lib.hid sq
  clear hb7 sq Hu6 Hv6 Hx6 Hy6 Hp6 HB6
  go_wp2_with fail
  refine (same_at (calV subO a b) _ _ _ Hp7.out Hq7.out).mono ?_
  rintro e v8 ⟨rfl, hb8⟩
  have HB8 := Lib.hid (below_then HB7.out hb8)
  have Hu8 := Lib.hid (Hu7.out.later hb8)
  have Hv8 := Lib.hid (Hv7.out.later hb8)
  have Hx8 := Lib.hid (Hx7.out.later hb8)
  have Hy8 := Lib.hid (Hy7.out.later hb8)
  have Hp8 := Lib.hid (Hp7.out.later hb8)
  have Hq8 := Lib.hid (Hq7.out.later hb8)
  clear hb8 Hu7 Hv7 Hx7 Hy7 Hp7 Hq7 HB7
  go_wp2_with fail
  refine (mul_any _ _ a b _ Hx8.out Hy8.out).mono ?_
  rintro e v9 ⟨p, rfl, sp, hb9⟩
  have HB9 := Lib.hid (below_then HB8.out hb9)
  have Hu9 := Lib.hid (Hu8.out.later hb9)
  have Hv9 := Lib.hid (Hv8.out.later hb9)
  have Hx9 := Lib.hid (Hx8.out.later hb9)
  have Hy9 := Lib.hid (Hy8.out.later hb9)
  have Hp9 := Lib.hid sp
  clear hb9 sp Hu8 Hv8 Hx8 Hy8 HB8
  go_wp2_with fail
  refine (refMul_any _ _ a b _ Hu9.out Hv9.out).mono ?_
  rintro e v10 ⟨q, rfl, sq, hb10⟩
  have HB10 := Lib.hid (below_then HB9.out hb10)
  have Hu10 := Lib.hid (Hu9.out.later hb10)
  have Hv10 := Lib.hid (Hv9.out.later hb10)
  have Hx10 := Lib.hid (Hx9.out.later hb10)
  have Hy10 := Lib.hid (Hy9.out.later hb10)
  have Hp10 := Lib.hid (Hp9.out.later hb10)
  have Hq10 := Lib.hid sq
  clear hb10 sq Hu9 Hv9 Hx9 Hy9 Hp9 HB9
  go_wp2_with fail
  refine (same_at (calV mulO a b) _ _ _ Hp10.out Hq10.out).mono ?_
  rintro e v11 ⟨rfl, hb11⟩
  have HB11 := Lib.hid (below_then HB10.out hb11)
  have Hu11 := Lib.hid (Hu10.out.later hb11)
  have Hv11 := Lib.hid (Hv10.out.later hb11)
  have Hx11 := Lib.hid (Hx10.out.later hb11)
  have Hy11 := Lib.hid (Hy10.out.later hb11)
  have Hp11 := Lib.hid (Hp10.out.later hb11)
  have Hq11 := Lib.hid (Hq10.out.later hb11)
  clear hb11 Hu10 Hv10 Hx10 Hy10 Hp10 Hq10 HB10
  go_wp2_with fail
  refine (less_any _ _ a b _ Hx11.out Hy11.out).mono ?_
  rintro e v12 ⟨rfl, hb12⟩
  have HB12 := Lib.hid (below_then HB11.out hb12)
  have Hu12 := Lib.hid (Hu11.out.later hb12)
  have Hv12 := Lib.hid (Hv11.out.later hb12)
  have Hx12 := Lib.hid (Hx11.out.later hb12)
  have Hy12 := Lib.hid (Hy11.out.later hb12)
  clear hb12 Hu11 Hv11 Hx11 Hy11 HB11
  go_wp2_with fail
  refine (refLess_any _ _ a b _ Hu12.out Hv12.out).mono ?_
  rintro e v13 ⟨rfl, hb13⟩
  have HB13 := Lib.hid (below_then HB12.out hb13)
  have Hu13 := Lib.hid (Hu12.out.later hb13)
  have Hv13 := Lib.hid (Hv12.out.later hb13)
  have Hx13 := Lib.hid (Hx12.out.later hb13)
  have Hy13 := Lib.hid (Hy12.out.later hb13)
  clear hb13 Hu12 Hv12 Hx12 Hy12 HB12
  generalize cmpV (decide (num a < num b)) a b = lb
  go_wp2_with fail
  refine (signed_any _ _ a b _ Hx13.out Hy13.out).mono ?_
  rintro e v14 ⟨rfl, hb14⟩
  have HB14 := Lib.hid (below_then HB13.out hb14)
  have Hu14 := Lib.hid (Hu13.out.later hb14)
  have Hv14 := Lib.hid (Hv13.out.later hb14)
  have Hx14 := Lib.hid (Hx13.out.later hb14)
  have Hy14 := Lib.hid (Hy13.out.later hb14)
  clear hb14 Hu13 Hv13 Hx13 Hy13 HB13
  go_wp2_with fail
  refine (refSigned_any _ _ a b _ Hu14.out Hv14.out).mono ?_
  rintro e v15 ⟨rfl, hb15⟩
  have HB15 := Lib.hid (below_then HB14.out hb15)
  have Hu15 := Lib.hid (Hu14.out.later hb15)
  have Hv15 := Lib.hid (Hv14.out.later hb15)
  have Hx15 := Lib.hid (Hx14.out.later hb15)
  have Hy15 := Lib.hid (Hy14.out.later hb15)
  clear hb15 Hu14 Hv14 Hx14 Hy14 HB14
  generalize cmpV (decide (sgnI a.length (num a) < sgnI a.length (num b))) a b = sb
  go_wp2_with fail
  refine (vsame_any _ _ a b _ Hx15.out Hy15.out).mono ?_
  rintro e v16 ⟨rfl, hb16⟩
  have HB16 := Lib.hid (below_then HB15.out hb16)
  have Hu16 := Lib.hid (Hu15.out.later hb16)
  have Hv16 := Lib.hid (Hv15.out.later hb16)
  have Hx16 := Lib.hid (Hx15.out.later hb16)
  have Hy16 := Lib.hid (Hy15.out.later hb16)
  clear hb16 Hu15 Hv15 Hx15 Hy15 HB15
  go_wp2_with fail
  refine (refEqual_any _ _ a b _ Hu16.out Hv16.out).mono ?_
  rintro e v17 ⟨rfl, hb17⟩
  have HB17 := Lib.hid (below_then HB16.out hb17)
  have Hu17 := Lib.hid (Hu16.out.later hb17)
  have Hv17 := Lib.hid (Hv16.out.later hb17)
  have Hx17 := Lib.hid (Hx16.out.later hb17)
  have Hy17 := Lib.hid (Hy16.out.later hb17)
  clear hb17 Hu16 Hv16 Hx16 Hy16 HB16
  generalize samV a b = eb
  generalize calE a b = ee
  go_wp2_with fail
  refine (same_at a _ _ _ Hu17.out Hx17.out).mono ?_
  rintro e v18 ⟨rfl, hb18⟩
  have HB18 := Lib.hid (below_then HB17.out hb18)
  have Hu18 := Lib.hid (Hu17.out.later hb18)
  have Hv18 := Lib.hid (Hv17.out.later hb18)
  have Hx18 := Lib.hid (Hx17.out.later hb18)
  have Hy18 := Lib.hid (Hy17.out.later hb18)
  clear hb18 Hu17 Hv17 Hx17 Hy17 HB17
  go_wp2_with fail
  refine (same_at b _ _ _ Hv18.out Hy18.out).mono ?_
  rintro e v19 ⟨rfl, hb19⟩
  have HB19 := Lib.hid (below_then HB18.out hb19)
  have Hu19 := Lib.hid (Hu18.out.later hb19)
  have Hv19 := Lib.hid (Hv18.out.later hb19)
  have Hx19 := Lib.hid (Hx18.out.later hb19)
  have Hy19 := Lib.hid (Hy18.out.later hb19)
  clear hb19 Hu18 Hv18 Hx18 Hy18 HB18
  go_wp2_with fail
  refine (awake_any _).mono ?_
  rintro e v20 ⟨rfl, hb20⟩
  have HB20 := Lib.hid (below_then HB19.out hb20)
  have Hu20 := Lib.hid (Hu19.out.later hb20)
  have Hv20 := Lib.hid (Hv19.out.later hb20)
  have Hx20 := Lib.hid (Hx19.out.later hb20)
  have Hy20 := Lib.hid (Hy19.out.later hb20)
  clear hb20 Hu19 Hv19 Hx19 Hy19 HB19
  go_wp2
  go_ret
  exact ⟨rfl, HB20.out⟩
theorem sums_long (u v : Value) (a b : List Nat) (w : World) (hu : Sl w u a) (hv : Sl w v b) (hlong : longB [a, b] = true) :
    Calls Try.prog 4 #[u, v] w fun e w' => e = .returned (.bool true) ∧ Below w.heap.size w w' := by
  have HLo := Lib.hid (long_two hu hv hlong)
  have Hu0 := Lib.hid (hu.later (below_alloc w (.cells #[u, v] 22)))
  have Hv0 := Lib.hid (hv.later (below_alloc w (.cells #[u, v] 22)))
  have HB0 := Lib.hid (below_alloc w (.cells #[u, v] 22))
  obtain ⟨A, c, rfl, hn, _⟩ := hu
  obtain ⟨A', c', rfl, hn', _⟩ := hv
  clear hlong
  go_enter Try.func4, Try.ntmps4
  go_wp2_with fail
  refine (HLo.out).mono ?_
  rintro e w' ⟨rfl, rfl⟩
  generalize w.alloc _ = W0 at *
  go_wp2_with fail
  refine (awake_any _).mono ?_
  rintro e v1 ⟨rfl, hb1⟩
  have HB1 := Lib.hid (below_then HB0.out hb1)
  have Hu1 := Lib.hid (Hu0.out.later hb1)
  have Hv1 := Lib.hid (Hv0.out.later hb1)
  clear hb1 Hu0 Hv0 HB0
  go_wp2
  go_ret
  exact ⟨rfl, HB1.out⟩
theorem vecSums_walk (u v : Value) (a b : List Nat) (w : World) (hu : Sl w u a) (hv : Sl w v b) :
    Calls Try.prog 4 #[u, v] w fun e w' => e = .returned (.bool true) ∧ Below w.heap.size w w' := by
  cases hl : longB [a, b]
  · exact sums_short u v a b w hu hv hl
  · exact sums_long u v a b w hu hv hl

set_option maxRecDepth 100000 in
theorem vecSums_lifted (os : Os) (started : os.Started) (H : Type) (enc : TypeId × Value → H) :
    ReturnsInHanded {} Try.checked os 4 .any (Rows.vecSumsSpec.pre6 enc Try.prog Try.f4 [] false) (Rows.vecSumsSpec.post enc Try.prog Try.f4 false true false false) := by
  refine returnsInHanded_of_change_sized (C := Try.checked) own started (by kernel_rfl) Try.func4
    (ChangeSpec.witness6 (enc := enc) (C := Try.checked) false ⟨#[], #[.slice none 0 0, .slice none 0 0], []⟩ 8 (by kernel_rfl) (by kernel_rfl) (by kernel_rfl) (by kernel_rfl)) ?_
  intro W base args ds gs before hval0 hW _ hsz0 _
  have hval : ∀ (j : Nat) t v, Try.f4.params[j]? = some t → args[j]? = some v → Value.okWide Try.prog W .any base t v := hval0
  have hsz : (DataW.weightsEach Try.prog (Try.f4.params.toList ++ Rows.vecSumsSpec.plain.varTypes Try.prog) (ds ++ gs)).all (· ≤ reachBytes) = true := hsz0
  have hW' := hW
  obtain ⟨p, q, hA0, hV, rfl, hfz, hnd⟩ := hW
  have hA1 := hA0
  have hA : DataW.TrodAll enc Try.prog W 0 (fun _ => true) true Try.f4.params.toList args.toList ds p := hA0
  rw [Try.params4] at hA hval hsz
  obtain ⟨v0, v1, d0, d1, p0, p1, rfl, rfl, rfl, h0, h1⟩ := trodAll_two hA
  obtain ⟨rfl, rfl⟩ := trodVars_none hV
  obtain ⟨a, ha⟩ := sl_open (hval 0 22 v0 rfl rfl) h0 (fun elems spare hd => sized_slice hsz (j := 0) rfl (by rw [hd]; rfl) Try.underlying22)
  obtain ⟨b, hb⟩ := sl_open (hval 1 22 v1 rfl rfl) h1 (fun elems spare hd => sized_slice hsz (j := 1) rfl (by rw [hd]; rfl) Try.underlying22)

  clear hval0 hsz0
  simp only [List.append_nil] at hW' hA1
  refine (vecSums_walk v0 v1 a b W ha hb).mono fun e W' ⟨he, hb⟩ => ?_
  subst he
  exact ⟨_, rfl, law_post (by rw [Try.params4]; exact types_ok [22, 22] (by kernel_rfl)) (by kernel_rfl) rfl rfl hA1 hW' hb⟩

theorem vecSums_holds : Rows.VecSumsSaid :=
  OpenClaim.holds_of_wide 4 Try.f4 rfl rfl rfl rfl rfl rfl rfl ⟨rfl, rfl, rfl, rfl, rfl⟩ rfl rfl rfl rfl rfl (by kernel_rfl) Try.func4 (by kernel_rfl)
    (of_decide_eq_true (by kernel_rfl)) (by unfold Func.isWrapper; first | (rw [if_pos (by decide +kernel)]; kernel_rfl) | (rw [if_neg (by decide +kernel)]; exact ⟨rfl, rfl⟩))
    (fun os started H enc _ => vecSums_lifted os started H enc)
#print axioms vecSums_holds
end Go.Proofs.Ytkapephlfbabjaa
