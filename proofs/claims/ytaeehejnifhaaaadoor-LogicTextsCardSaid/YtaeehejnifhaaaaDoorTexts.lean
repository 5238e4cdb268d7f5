/- LogicTexts: Parse of the Text of any vector is the vector; no condition, but that the five tables are as the program's text lays them (the card ties them). -/
import Derived.Test.YtaeehejnifhaaaaDoorLaw
import Derived.Test.YtaeehejnifhaaaaDoorCards
import Derived.Test.YtaeehejnifhaaaaDoorTie
import Derived.Test.YtaeehejnifhaaaaDoorOne
namespace Go.Proofs.YtaeehejnifhaaaaDoor
open Go.ChangeShapes Go.WideShapes Go.ChangeAt Go.WideMaps Go.WideElems Go.RowKit
open Go.ChangeMaps (open_string)

theorem txt_par {zs : List Nat} (h : isV zs = true) : parV (zs.map ltr).reverse = zs ∧ parE (zs.map ltr).reverse = 0 := by
  obtain ⟨hb, h1, h2⟩ := isV_bits h
  have hm : ((zs.map ltr).reverse.map lc).reverse = zs := by
    rw [List.map_reverse, List.reverse_reverse, List.map_map]
    conv => rhs; rw [← List.map_id zs]
    apply List.map_congr_left
    intro z hz
    exact lc_ltr (bitsB_mem hb hz)
  have hp : parB (zs.map ltr).reverse = true := by
    rw [parB_fits (by simpa using h1) (by simpa using h2)]
    unfold lcB
    rw [List.all_reverse, List.all_eq_true]
    intro x hx
    obtain ⟨z, hz, rfl⟩ := List.mem_map.1 hx
    rw [lc_ltr (bitsB_mem hb hz)]
    simpa using bitsB_mem hb hz
  obtain ⟨e1, e2⟩ := par_yes hp
  exact ⟨e1.trans hm, e2⟩
set_option maxHeartbeats 1000000 in
theorem logicTexts_walk (v : Value) (zs : List Nat) (w : World) (hT : Tabs w) (h : Sl w v zs) :
    Calls Tryd.prog 8 #[v] w fun e w' => e = .returned (.bool true) ∧ Below w.heap.size w w' := by
  have HT := Lib.hid hT
  have HS := Lib.hid h
  have hI := refIs_any v zs w h
  obtain ⟨A, c, rfl, hn, _⟩ := h
  clear hT
  by_cases hv : isV zs = true
  · rw [hv] at hI
    have HI := Lib.hid hI
    have HV := Lib.hid (txt_par hv)
    have hx : ∀ w u, Sl w u zs → Calls Tryd.prog 35 #[u] w fun e w' => e = .returned (.tuple #[.string (strOf (zs.map ltr).reverse), .int .i64 0]) ∧ Below w.heap.size w w' := fun w u hu => by
      have := text_any u zs w hu
      unfold txtV txtE at this
      rwa [hv] at this
    have HX := Lib.hid hx
    have hp : ∀ w, Calls Tryd.prog 39 #[.string (strOf (zs.map ltr).reverse)] w fun e w' => ∃ u, e = .returned (.tuple #[u, .int .i64 0]) ∧ Sl w' u zs ∧ Below w.heap.size w w' := fun w => by
      have := parse_any (strOf (zs.map ltr).reverse) w
      rw [show (strOf (zs.map ltr).reverse).data.toList = (zs.map ltr).reverse from rfl, HV.out.1, HV.out.2] at this
      exact this
    have HP := Lib.hid hp
    have hsz := strOf_size (zs.map ltr).reverse
    rw [List.length_reverse, List.length_map] at hsz
    generalize strOf (zs.map ltr).reverse = str at HX HP hsz
    have hlen : ((str.size : Int) == (zs.length : Int)) = true := by rw [beq_iff_eq]; omega
    clear hI hv hx hp hsz
    go_enter Tryd.func8, Tryd.ntmps8
    go_wp2_with fail
    refine (HI.out).mono ?_
    rintro e w' ⟨rfl, rfl⟩
    go_wp2_with fail
    refine (copied_any _ _ _ HS.out).mono ?_
    rintro e w1 ⟨u, rfl, hown, hb1⟩
    have HU1 := Lib.hid hown.sl
    have HS1 := Lib.hid (HS.out.later hb1)
    have HT1 := Lib.hid (HT.out.later hb1)
    have HB1 := Lib.hid hb1
    clear hown hb1
    go_wp2_with fail
    refine (HX.out _ _ HU1.out).mono ?_
    rintro e w2 ⟨rfl, hb2⟩
    have HS2 := Lib.hid (HS1.out.later hb2)
    have HT2 := Lib.hid (HT1.out.later hb2)
    have HB2 := Lib.hid (below_then HB1.out hb2)
    clear hb2
    go_wp2_with fail
    refine (HP.out _).mono ?_
    rintro e w3 ⟨u3, rfl, hu3, hb3⟩
    have HU3 := Lib.hid hu3
    have HS3 := Lib.hid (HS2.out.later hb3)
    have HT3 := Lib.hid (HT2.out.later hb3)
    have HB3 := Lib.hid (below_then HB2.out hb3)
    clear hb3 hu3
    go_wp2_with fail
    refine (same_self HS3.out HU3.out).mono ?_
    rintro e w4 ⟨rfl, hb4⟩
    have HT4 := Lib.hid (HT3.out.later hb4)
    have HB4 := Lib.hid (below_then HB3.out hb4)
    clear hb4
    go_wp2_with fail
    refine (awake_any _ HT4.out).mono ?_
    rintro e w5 ⟨rfl, hb5⟩
    have HB5 := Lib.hid (below_then HB4.out hb5)
    clear hb5
    go_wp2
    go_ret
    exact ⟨rfl, HB5.out⟩
  · have hv' : isV zs = false := by simpa using hv
    rw [hv'] at hI
    have HI := Lib.hid hI
    clear hI hv hv'
    go_enter Tryd.func8, Tryd.ntmps8
    go_wp2_with fail
    refine (HI.out).mono ?_
    rintro e w' ⟨rfl, rfl⟩
    go_wp2_with fail
    refine (awake_any _ HT.out).mono ?_
    rintro e w4 ⟨rfl, hb4⟩
    go_wp2
    go_ret
    exact ⟨rfl, hb4⟩

set_option maxRecDepth 100000 in
theorem logicTexts_lifted (os : Os) (started : os.Started) (H : Type) (enc : TypeId × Value → H) :
    ReturnsInHanded {} Tryd.checked os 8 .any (fun w args => (Rows.logicTextsSpec.pre enc Tryd.prog Tryd.f8 [] false w args ∧ laidMetH Tryd.prog laid5 w) ∧ sizedMet enc Tryd.prog Tryd.f8 (OpenSpec.ofChange Rows.logicTextsSpec) false w args)
      (Rows.logicTextsSpec.post enc Tryd.prog Tryd.f8 false true false false) := by
  refine returnsInHanded_of_change_and (C := Tryd.checked) (X := fun w _ => laidMetH Tryd.prog laid5 w) (fun _ _ _ hh h => h.of_heap hh) own started (by kernel_rfl) Tryd.func8
    (ChangeSpec.witness_shaped (enc := enc) (C := Tryd.checked) (os := os) (X := fun w _ => laidMetH Tryd.prog laid5 w) false (World.doorLaid Tryd.prog 50 os) #[.slice none 0 0] 8 rfl (World.shaped_of_RefB (by kernel_rfl) (by kernel_rfl)) (by kernel_rfl) (by kernel_rfl) (by kernel_rfl) (door_met os _)) ?_
  intro W base args ds gs before hval0 hW _ hsz0 hL _
  have hval : ∀ (j : Nat) t v, Tryd.f8.params[j]? = some t → args[j]? = some v → Value.okWide Tryd.prog W .any base t v := hval0
  have hsz : (DataW.weightsEach Tryd.prog (Tryd.f8.params.toList ++ Rows.logicTextsSpec.plain.varTypes Tryd.prog) (ds ++ gs)).all (· ≤ reachBytes) = true := hsz0
  have hW' := hW
  obtain ⟨p, q, hA0, hV, rfl, hfz, hnd⟩ := hW
  have hA1 := hA0
  have hA : DataW.TrodAll enc Tryd.prog W 0 (fun _ => true) true Tryd.f8.params.toList args.toList ds p := hA0
  rw [Tryd.params8] at hA hval hsz
  obtain ⟨v0, d0, rfl, rfl, h0⟩ := trodAll_one hA
  obtain ⟨rfl, rfl⟩ := trodVars_none hV
  obtain ⟨zs, hzs⟩ := sl_open (hval 0 31 v0 rfl rfl) h0 (fun elems spare hd => sized_slice hsz (j := 0) rfl (by rw [hd]; rfl) Tryd.underlying31)

  clear hval0 hsz0
  simp only [List.append_nil] at hW' hA1
  have hT := of_laid hL
  refine (logicTexts_walk _ _ W hT hzs).mono fun e W' ⟨he, hb⟩ => ?_
  subst he
  exact ⟨_, rfl, law_post (by rw [Tryd.params8]; exact types_ok [31] (by kernel_rfl)) (by kernel_rfl) rfl rfl hA1 hW' hb⟩

theorem logicTexts_said : Rows.LogicTextsSaid :=
  OpenClaim.holds_of_wide 8 Tryd.f8 rfl rfl rfl rfl rfl rfl rfl ⟨rfl, rfl, rfl, rfl, rfl⟩ rfl rfl rfl rfl rfl (by kernel_rfl) Tryd.func8 (by kernel_rfl)
    (of_decide_eq_true (by kernel_rfl)) (by unfold Func.isWrapper; first | (rw [if_pos (by decide +kernel)]; kernel_rfl) | (rw [if_neg (by decide +kernel)]; exact ⟨rfl, rfl⟩))
    (fun os started H enc _ => logicTexts_lifted os started H enc)

theorem logicTexts_holds : Rows.LogicTextsCardSaid :=
  Claim7.holds_tied_plain_at .later [] [.data, .data, .data, .data, .data] true _ false
    logicTexts_said (fun _ h => by cases h) (by kernel_rfl) (fun _ h => by cases h) logicTexts_row_tie rfl ⟨rfl, rfl⟩ (by kernel_rfl) rfl
    (fun f fn hf hfn => by
      obtain rfl : f = 8 := Option.some.inj ((show Tryd.prog.funcNamed "netwright/netwrightlaw01.LogicTexts" = some 8 by kernel_rfl).symm.trans hf) |>.symm
      obtain rfl : fn = Tryd.f8 := (Option.some.inj (Tryd.func8.symm.trans hfn)).symm
      exact ⟨by kernel_rfl, fun j t ht => by
        rw [Tryd.params8] at ht
        exact stand_ok [31] (by kernel_rfl) t (by simpa using Array.mem_of_getElem? ht)⟩)
    (by kernel_rfl)
#print axioms logicTexts_holds
end Go.Proofs.YtaeehejnifhaaaaDoor
