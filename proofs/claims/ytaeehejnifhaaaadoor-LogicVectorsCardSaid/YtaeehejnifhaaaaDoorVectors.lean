/- LogicVectors: Is, Known, Map, Inverse, Covers and Text return what the chapter says, for any two lists, and leave these as they were (for at most 200 bits); no condition, but that the five tables are as the program's text lays them (the card ties them). -/
import Derived.Test.YtaeehejnifhaaaaDoorLaw
import Derived.Test.YtaeehejnifhaaaaDoorCards
import Derived.Test.YtaeehejnifhaaaaDoorTie
import Derived.Test.YtaeehejnifhaaaaDoorOne
import Derived.Test.YtaeehejnifhaaaaDoorCov
namespace Go.Proofs.YtaeehejnifhaaaaDoor
open Go.ChangeShapes Go.WideShapes Go.ChangeAt Go.WideMaps Go.WideElems Go.RowKit
open Go.ChangeMaps (open_string)

set_option maxRecDepth 100000 in
set_option maxHeartbeats 4000000 in
theorem logicVectors_walk (s : ByteArray) (x y : Value) (a b : List Nat) (w : World) (hT : Tabs w) (hx : Sl w x a) (hy : Sl w y b) :
    Calls Tryd.prog 5 #[.string s, x, y] w fun e w' => e = .returned (.bool true) ∧ Below w.heap.size w w' := by
  have HT0 := Lib.hid hT
  have HX0 := Lib.hid hx
  have HY0 := Lib.hid hy
  have HB0 := Lib.hid (Below.refl w.heap.size w)
  clear hT hx hy
  by_cases hl : a.length ≤ 200
  · by_cases hl' : b.length ≤ 200
    · have HL := Lib.hid hl
      have HL' := Lib.hid hl'
      clear hl hl'
      go_enter Tryd.func5, Tryd.ntmps5
      go_wp2_with fail
      refine (HX0.out.long_no HL.out _).mono ?_
      rintro e w' ⟨rfl, rfl⟩
      go_wp2_with fail
      refine (HY0.out.long_no HL'.out _).mono ?_
      rintro e w' ⟨rfl, rfl⟩
      go_wp2_with fail
      refine (copied_any _ _ _ HX0.out).mono ?_
      rintro e w1 ⟨u, rfl, hown, hb1⟩
      have HU1 := Lib.hid hown.sl
      clear hown
      have HT1 := Lib.hid (HT0.out.later hb1)
      have HX1 := Lib.hid (HX0.out.later hb1)
      have HY1 := Lib.hid (HY0.out.later hb1)
      have HB1 := Lib.hid (below_then HB0.out hb1)
      clear hb1
      go_wp2_with fail
      refine (copied_any _ _ _ HY1.out).mono ?_
      rintro e w2 ⟨v, rfl, hown, hb2⟩
      have HV2 := Lib.hid hown.sl
      clear hown
      have HT2 := Lib.hid (HT1.out.later hb2)
      have HX2 := Lib.hid (HX1.out.later hb2)
      have HY2 := Lib.hid (HY1.out.later hb2)
      have HU2 := Lib.hid (HU1.out.later hb2)
      have HB2 := Lib.hid (below_then HB1.out hb2)
      clear hb2
      go_wp2_with fail
      refine (known_any _ _ _ HU2.out).mono ?_
      rintro e w' ⟨rfl, rfl⟩
      go_wp2_with fail
      refine (refKnown_any _ _ _ HX2.out).mono ?_
      rintro e w' ⟨rfl, rfl⟩
      go_wp2_with fail
      refine (is_any _ _ _ HU2.out).mono ?_
      rintro e w' ⟨rfl, rfl⟩
      go_wp2_with fail
      refine (refIs_any _ _ _ HX2.out).mono ?_
      rintro e w' ⟨rfl, rfl⟩
      go_wp2_with fail
      refine (map_any s _ _ _ _ _ HT2.out HU2.out HV2.out).mono ?_
      rintro e w3 ⟨p, rfl, hp, hb3⟩
      have HP3 := Lib.hid hp
      clear hp
      have HT3 := Lib.hid (HT2.out.later hb3)
      have HX3 := Lib.hid (HX2.out.later hb3)
      have HY3 := Lib.hid (HY2.out.later hb3)
      have HU3 := Lib.hid (HU2.out.later hb3)
      have HV3 := Lib.hid (HV2.out.later hb3)
      have HB3 := Lib.hid (below_then HB2.out hb3)
      clear hb3
      go_wp2_with fail
      refine (refMap_any s _ _ _ _ _ HX3.out HY3.out).mono ?_
      rintro e w4 ⟨q, rfl, hq, hb4⟩
      have HQ4 := Lib.hid hq
      clear hq
      have HT4 := Lib.hid (HT3.out.later hb4)
      have HX4 := Lib.hid (HX3.out.later hb4)
      have HY4 := Lib.hid (HY3.out.later hb4)
      have HU4 := Lib.hid (HU3.out.later hb4)
      have HV4 := Lib.hid (HV3.out.later hb4)
      have HP4 := Lib.hid (HP3.out.later hb4)
      have HB4 := Lib.hid (below_then HB3.out hb4)
      clear hb4
      go_wp2_with fail
      refine (same_self HP4.out HQ4.out).mono ?_
      rintro e w5 ⟨rfl, hb5⟩
      have HT5 := Lib.hid (HT4.out.later hb5)
      have HX5 := Lib.hid (HX4.out.later hb5)
      have HY5 := Lib.hid (HY4.out.later hb5)
      have HU5 := Lib.hid (HU4.out.later hb5)
      have HV5 := Lib.hid (HV4.out.later hb5)
      have HB5 := Lib.hid (below_then HB4.out hb5)
      clear hb5
      go_wp2_with fail
      refine (inverse_any _ _ _ HT5.out HU5.out).mono ?_
      rintro e w6 ⟨p', rfl, hp, hb6⟩
      have HP6 := Lib.hid hp
      clear hp
      have HT6 := Lib.hid (HT5.out.later hb6)
      have HX6 := Lib.hid (HX5.out.later hb6)
      have HY6 := Lib.hid (HY5.out.later hb6)
      have HU6 := Lib.hid (HU5.out.later hb6)
      have HV6 := Lib.hid (HV5.out.later hb6)
      have HB6 := Lib.hid (below_then HB5.out hb6)
      clear hb6
      go_wp2_with fail
      refine (refInverse_any _ _ _ HX6.out).mono ?_
      rintro e w7 ⟨q', rfl, hq, hb7⟩
      have HQ7 := Lib.hid hq
      clear hq
      have HT7 := Lib.hid (HT6.out.later hb7)
      have HX7 := Lib.hid (HX6.out.later hb7)
      have HY7 := Lib.hid (HY6.out.later hb7)
      have HU7 := Lib.hid (HU6.out.later hb7)
      have HV7 := Lib.hid (HV6.out.later hb7)
      have HP7 := Lib.hid (HP6.out.later hb7)
      have HB7 := Lib.hid (below_then HB6.out hb7)
      clear hb7
      go_wp2_with fail
      refine (same_self HP7.out HQ7.out).mono ?_
      rintro e w8 ⟨rfl, hb8⟩
      have HT8 := Lib.hid (HT7.out.later hb8)
      have HX8 := Lib.hid (HX7.out.later hb8)
      have HY8 := Lib.hid (HY7.out.later hb8)
      have HU8 := Lib.hid (HU7.out.later hb8)
      have HV8 := Lib.hid (HV7.out.later hb8)
      have HB8 := Lib.hid (below_then HB7.out hb8)
      clear hb8
      go_wp2_with fail
      refine (covers_any _ _ _ _ _ HU8.out HV8.out).mono ?_
      rintro e w9 ⟨rfl, hb9⟩
      have HT9 := Lib.hid (HT8.out.later hb9)
      have HX9 := Lib.hid (HX8.out.later hb9)
      have HY9 := Lib.hid (HY8.out.later hb9)
      have HU9 := Lib.hid (HU8.out.later hb9)
      have HV9 := Lib.hid (HV8.out.later hb9)
      have HB9 := Lib.hid (below_then HB8.out hb9)
      clear hb9
      go_wp2_with fail
      refine (refCovers_any _ _ _ _ _ HX9.out HY9.out).mono ?_
      rintro e w10 ⟨rfl, hb10⟩
      have HT10 := Lib.hid (HT9.out.later hb10)
      have HX10 := Lib.hid (HX9.out.later hb10)
      have HY10 := Lib.hid (HY9.out.later hb10)
      have HU10 := Lib.hid (HU9.out.later hb10)
      have HV10 := Lib.hid (HV9.out.later hb10)
      have HB10 := Lib.hid (below_then HB9.out hb10)
      clear hb10
      go_wp2_with fail
      refine (text_any _ _ _ HU10.out).mono ?_
      rintro e w11 ⟨rfl, hb11⟩
      have HT11 := Lib.hid (HT10.out.later hb11)
      have HX11 := Lib.hid (HX10.out.later hb11)
      have HY11 := Lib.hid (HY10.out.later hb11)
      have HU11 := Lib.hid (HU10.out.later hb11)
      have HV11 := Lib.hid (HV10.out.later hb11)
      have HB11 := Lib.hid (below_then HB10.out hb11)
      clear hb11
      go_wp2_with fail
      refine (refText_any _ _ _ HX11.out).mono ?_
      rintro e w' ⟨rfl, rfl⟩
      go_wp2_with fail
      refine (same_self HX11.out HU11.out).mono ?_
      rintro e w12 ⟨rfl, hb12⟩
      have HT12 := Lib.hid (HT11.out.later hb12)
      have HX12 := Lib.hid (HX11.out.later hb12)
      have HY12 := Lib.hid (HY11.out.later hb12)
      have HU12 := Lib.hid (HU11.out.later hb12)
      have HV12 := Lib.hid (HV11.out.later hb12)
      have HB12 := Lib.hid (below_then HB11.out hb12)
      clear hb12
      go_wp2_with fail
      refine (same_self HY12.out HV12.out).mono ?_
      rintro e w13 ⟨rfl, hb13⟩
      have HT13 := Lib.hid (HT12.out.later hb13)
      have HB13 := Lib.hid (below_then HB12.out hb13)
      clear hb13
      go_wp2_with fail
      refine (awake_any _ HT13.out).mono ?_
      rintro e w99 ⟨rfl, hb99⟩
      have HB99 := Lib.hid (below_then HB13.out hb99)
      clear hb99
      go_wp2
      go_ret
      exact ⟨rfl, HB99.out⟩
    · have HL := Lib.hid hl
      have HL' := Lib.hid hl'
      clear hl hl'
      go_enter Tryd.func5, Tryd.ntmps5
      go_wp2_with fail
      refine (HX0.out.long_no HL.out _).mono ?_
      rintro e w' ⟨rfl, rfl⟩
      go_wp2_with fail
      refine (HY0.out.long_yes HL'.out _).mono ?_
      rintro e w' ⟨rfl, rfl⟩
      go_wp2_with fail
      refine (awake_any _ HT0.out).mono ?_
      rintro e w99 ⟨rfl, hb99⟩
      have HB99 := Lib.hid (below_then HB0.out hb99)
      clear hb99
      go_wp2
      go_ret
      exact ⟨rfl, HB99.out⟩
  · have HL := Lib.hid hl
    clear hl
    go_enter Tryd.func5, Tryd.ntmps5
    go_wp2_with fail
    refine (HX0.out.long_yes HL.out _).mono ?_
    rintro e w' ⟨rfl, rfl⟩
    go_wp2_with fail
    refine (awake_any _ HT0.out).mono ?_
    rintro e w99 ⟨rfl, hb99⟩
    have HB99 := Lib.hid (below_then HB0.out hb99)
    clear hb99
    go_wp2
    go_ret
    exact ⟨rfl, HB99.out⟩

set_option maxRecDepth 100000 in
theorem logicVectors_lifted (os : Os) (started : os.Started) (H : Type) (enc : TypeId × Value → H) :
    ReturnsInHanded {} Tryd.checked os 5 .any (fun w args => (Rows.logicVectorsSpec.pre enc Tryd.prog Tryd.f5 [] false w args ∧ laidMetH Tryd.prog laid5 w) ∧ sizedMet enc Tryd.prog Tryd.f5 (OpenSpec.ofChange Rows.logicVectorsSpec) false w args)
      (Rows.logicVectorsSpec.post enc Tryd.prog Tryd.f5 false true false false) := by
  refine returnsInHanded_of_change_and (C := Tryd.checked) (X := fun w _ => laidMetH Tryd.prog laid5 w) (fun _ _ _ hh h => h.of_heap hh) own started (by kernel_rfl) Tryd.func5
    (ChangeSpec.witness_shaped (enc := enc) (C := Tryd.checked) (os := os) (X := fun w _ => laidMetH Tryd.prog laid5 w) false (World.doorLaid Tryd.prog 50 os) #[.string ByteArray.empty, .slice none 0 0, .slice none 0 0] 8 rfl (World.shaped_of_RefB (by kernel_rfl) (by kernel_rfl)) (by kernel_rfl) (by kernel_rfl) (by kernel_rfl) (door_met os _)) ?_
  intro W base args ds gs before hval0 hW _ hsz0 hL _
  have hval : ∀ (j : Nat) t v, Tryd.f5.params[j]? = some t → args[j]? = some v → Value.okWide Tryd.prog W .any base t v := hval0
  have hsz : (DataW.weightsEach Tryd.prog (Tryd.f5.params.toList ++ Rows.logicVectorsSpec.plain.varTypes Tryd.prog) (ds ++ gs)).all (· ≤ reachBytes) = true := hsz0
  have hW' := hW
  obtain ⟨p, q, hA0, hV, rfl, hfz, hnd⟩ := hW
  have hA1 := hA0
  have hA : DataW.TrodAll enc Tryd.prog W 0 (fun _ => true) true Tryd.f5.params.toList args.toList ds p := hA0
  rw [Tryd.params5] at hA hval hsz
  obtain ⟨v0, v1, v2, d0, d1, d2, p0, p1, p2, rfl, rfl, rfl, h0, h1, h2⟩ := trodAll_three hA
  obtain ⟨rfl, rfl⟩ := trodVars_none hV
  obtain ⟨s, rfl, rfl, rfl, hs⟩ := open_string Tryd.underlying9 (hval 0 9 v0 rfl rfl) h0
  obtain ⟨a, ha⟩ := sl_open (hval 1 31 v1 rfl rfl) h1 (fun elems spare hd => sized_slice hsz (j := 1) rfl (by rw [hd]; rfl) Tryd.underlying31)
  obtain ⟨b, hb⟩ := sl_open (hval 2 31 v2 rfl rfl) h2 (fun elems spare hd => sized_slice hsz (j := 2) rfl (by rw [hd]; rfl) Tryd.underlying31)

  clear hval0 hsz0
  simp only [List.append_nil] at hW' hA1
  have hT := of_laid hL
  refine (logicVectors_walk s _ _ _ _ W hT ha hb).mono fun e W' ⟨he, hb⟩ => ?_
  subst he
  exact ⟨_, rfl, law_post (by rw [Tryd.params5]; exact types_ok [9, 31, 31] (by kernel_rfl)) (by kernel_rfl) rfl rfl hA1 hW' hb⟩

theorem logicVectors_said : Rows.LogicVectorsSaid :=
  OpenClaim.holds_of_wide 5 Tryd.f5 rfl rfl rfl rfl rfl rfl rfl ⟨rfl, rfl, rfl, rfl, rfl⟩ rfl rfl rfl rfl rfl (by kernel_rfl) Tryd.func5 (by kernel_rfl)
    (of_decide_eq_true (by kernel_rfl)) (by unfold Func.isWrapper; first | (rw [if_pos (by decide +kernel)]; kernel_rfl) | (rw [if_neg (by decide +kernel)]; exact ⟨rfl, rfl⟩))
    (fun os started H enc _ => logicVectors_lifted os started H enc)

theorem logicVectors_holds : Rows.LogicVectorsCardSaid :=
  Claim7.holds_tied_plain_at .later [] [.data, .data, .data, .data, .data] true _ false
    logicVectors_said (fun _ h => by cases h) (by kernel_rfl) (fun _ h => by cases h) logicVectors_row_tie rfl ⟨rfl, rfl⟩ (by kernel_rfl) rfl
    (fun f fn hf hfn => by
      obtain rfl : f = 5 := Option.some.inj ((show Tryd.prog.funcNamed "netwright/netwrightlaw01.LogicVectors" = some 5 by kernel_rfl).symm.trans hf) |>.symm
      obtain rfl : fn = Tryd.f5 := (Option.some.inj (Tryd.func5.symm.trans hfn)).symm
      exact ⟨by kernel_rfl, fun j t ht => by
        rw [Tryd.params5] at ht
        exact stand_ok [9, 31, 31] (by kernel_rfl) t (by simpa using Array.mem_of_getElem? ht)⟩)
    (by kernel_rfl)
#print axioms logicVectors_holds
end Go.Proofs.YtaeehejnifhaaaaDoor
