/- LogicReads: Parse returns the vector of any string, and Text of it is the string (for at most 200 bytes); no condition, but that the five tables are as the program's text lays them (the card ties them). -/
import Derived.Test.YtaeehejnifhaaaaDoorLaw
import Derived.Test.YtaeehejnifhaaaaDoorCards
import Derived.Test.YtaeehejnifhaaaaDoorTie
import Derived.Test.YtaeehejnifhaaaaDoorOne
namespace Go.Proofs.YtaeehejnifhaaaaDoor
open Go.ChangeShapes Go.WideShapes Go.ChangeAt Go.WideMaps Go.WideElems Go.RowKit
open Go.ChangeMaps (open_string)

theorem par_txt {l : List UInt8} (h : parB l = true) : txtV (parV l) = strOf l ∧ txtE (parV l) = 0 := by
  have hp := h
  unfold parB at hp
  simp at hp
  obtain ⟨⟨h1, h2⟩, hl⟩ := hp
  obtain ⟨e1, _⟩ := par_yes h
  rw [e1]
  have h3 : ∀ x ∈ l, lc x ≤ 3 := by
    intro x hx
    unfold lcB at hl
    simpa using List.all_eq_true.1 hl x hx
  have hv : isV (l.map lc).reverse = true := by
    rw [isV_fits (by simpa using h1) (by simpa using h2)]
    apply bitsB_of
    intro z hz
    obtain ⟨x, hx, rfl⟩ := List.mem_map.1 (List.mem_reverse.1 hz)
    exact h3 x hx
  have hm : ((l.map lc).reverse.map ltr).reverse = l := by
    rw [List.map_reverse, List.reverse_reverse, List.map_map]
    conv => rhs; rw [← List.map_id l]
    apply List.map_congr_left
    intro x hx
    exact ltr_lc (h3 x hx)
  unfold txtV txtE
  rw [hv, hm]
  exact ⟨rfl, rfl⟩
theorem strOf_bytes (s : ByteArray) : strOf s.data.toList = s := by
  apply ByteArray.ext
  apply Array.toList_inj.1
  rfl
set_option maxHeartbeats 1000000 in
theorem logicReads_walk (s : ByteArray) (w : World) (hT : Tabs w) :
    Calls Tryd.prog 7 #[.string s] w fun e w' => e = .returned (.bool true) ∧ Below w.heap.size w w' := by
  have HT := Lib.hid hT
  clear hT
  by_cases hl : s.size ≤ 200
  · have hlen : decide ((200 : Int) < (s.size : Int)) = false := by rw [decide_eq_false_iff_not]; omega
    have hp : ∀ w, Calls Tryd.prog 39 #[.string s] w fun e w' => ∃ u, e = .returned (.tuple #[u, .int .i64 (parE s.data.toList : Nat)]) ∧ Sl w' u (parV s.data.toList) ∧ Below w.heap.size w w' := fun w => parse_any s w
    have hq : ∀ w, Calls Tryd.prog 40 #[.string s] w fun e w' => ∃ u, e = .returned (.tuple #[u, .int .i64 (parE s.data.toList : Nat)]) ∧ Sl w' u (parV s.data.toList) ∧ Below w.heap.size w w' := fun w => refParse_any s w
    by_cases hv : parB s.data.toList = true
    · have hx : ∀ w u, Sl w u (parV s.data.toList) → Calls Tryd.prog 35 #[u] w fun e w' => e = .returned (.tuple #[.string s, .int .i64 0]) ∧ Below w.heap.size w w' := fun w u hu => by
        have := text_any u _ w hu
        rw [(par_txt hv).1, (par_txt hv).2, strOf_bytes] at this
        exact this
      have HX := Lib.hid hx
      rw [(par_yes hv).2] at hp hq
      generalize parV s.data.toList = zs at hp hq HX
      have HP := Lib.hid hp
      have HQ := Lib.hid hq
      clear hp hq hx hl hv
      go_enter Tryd.func7, Tryd.ntmps7
      have HB0 := Lib.hid (Below.refl w.heap.size w)
      have HT0 := HT
      go_wp2_with fail
      refine (HP.out _).mono ?_
      rintro e w1 ⟨u, rfl, hu1, hb1⟩
      have HU1 := Lib.hid hu1
      clear hu1
      have HT1 := Lib.hid (HT0.out.later hb1)
      have HB1 := Lib.hid (below_then HB0.out hb1)
      clear hb1
      go_wp2_with fail
      refine (HQ.out _).mono ?_
      rintro e w2 ⟨v, rfl, hu2, hb2⟩
      have HV2 := Lib.hid hu2
      clear hu2
      have HT2 := Lib.hid (HT1.out.later hb2)
      have HU2 := Lib.hid (HU1.out.later hb2)
      have HB2 := Lib.hid (below_then HB1.out hb2)
      clear hb2
      go_wp2_with fail
      refine (same_self HU2.out HV2.out).mono ?_
      rintro e w3 ⟨rfl, hb3⟩
      have HT3 := Lib.hid (HT2.out.later hb3)
      have HU3 := Lib.hid (HU2.out.later hb3)
      have HB3 := Lib.hid (below_then HB2.out hb3)
      clear hb3
      go_wp2_with fail
      refine (HX.out _ _ HU3.out).mono ?_
      rintro e w4 ⟨rfl, hb4⟩
      have HT4 := Lib.hid (HT3.out.later hb4)
      have HB4 := Lib.hid (below_then HB3.out hb4)
      clear hb4
      go_wp2_with fail
      refine (awake_any _ HT4.out).mono ?_
      rintro e w99 ⟨rfl, hb99⟩
      have HB99 := Lib.hid (below_then HB4.out hb99)
      clear hb99
      go_wp2
      go_ret
      exact ⟨rfl, HB99.out⟩
    · have hv' : parB s.data.toList = false := by simpa using hv
      rw [(par_no hv').2, (par_no hv').1] at hp hq
      have HP := Lib.hid hp
      have HQ := Lib.hid hq
      clear hp hq hl hv hv'
      go_enter Tryd.func7, Tryd.ntmps7
      have HB0 := Lib.hid (Below.refl w.heap.size w)
      have HT0 := HT
      go_wp2_with fail
      refine (HP.out _).mono ?_
      rintro e w1 ⟨u, rfl, hu1, hb1⟩
      have HU1 := Lib.hid hu1
      clear hu1
      have HT1 := Lib.hid (HT0.out.later hb1)
      have HB1 := Lib.hid (below_then HB0.out hb1)
      clear hb1
      go_wp2_with fail
      refine (HQ.out _).mono ?_
      rintro e w2 ⟨v, rfl, hu2, hb2⟩
      have HV2 := Lib.hid hu2
      clear hu2
      have HT2 := Lib.hid (HT1.out.later hb2)
      have HU2 := Lib.hid (HU1.out.later hb2)
      have HB2 := Lib.hid (below_then HB1.out hb2)
      clear hb2
      go_wp2_with fail
      refine (same_self HU2.out HV2.out).mono ?_
      rintro e w3 ⟨rfl, hb3⟩
      have HT3 := Lib.hid (HT2.out.later hb3)
      have HB3 := Lib.hid (below_then HB2.out hb3)
      clear hb3
      go_wp2_with fail
      refine (awake_any _ HT3.out).mono ?_
      rintro e w99 ⟨rfl, hb99⟩
      have HB99 := Lib.hid (below_then HB3.out hb99)
      clear hb99
      go_wp2
      go_ret
      exact ⟨rfl, HB99.out⟩
  · have hlen : decide ((200 : Int) < (s.size : Int)) = true := by rw [decide_eq_true_eq]; omega
    clear hl
    go_enter Tryd.func7, Tryd.ntmps7
    have HB0 := Lib.hid (Below.refl w.heap.size w)
    have HT0 := HT
    go_wp2_with fail
    refine (awake_any _ HT0.out).mono ?_
    rintro e w99 ⟨rfl, hb99⟩
    have HB99 := Lib.hid (below_then HB0.out hb99)
    clear hb99
    go_wp2
    go_ret
    exact ⟨rfl, HB99.out⟩

set_option maxRecDepth 100000 in
theorem logicReads_lifted (os : Os) (started : os.Started) (H : Type) (enc : TypeId × Value → H) :
    ReturnsInHanded {} Tryd.checked os 7 .any (fun w args => (Rows.logicReadsSpec.pre enc Tryd.prog Tryd.f7 [] false w args ∧ laidMetH Tryd.prog laid5 w) ∧ sizedMet enc Tryd.prog Tryd.f7 (OpenSpec.ofChange Rows.logicReadsSpec) false w args)
      (Rows.logicReadsSpec.post enc Tryd.prog Tryd.f7 false true false false) := by
  refine returnsInHanded_of_change_and (C := Tryd.checked) (X := fun w _ => laidMetH Tryd.prog laid5 w) (fun _ _ _ hh h => h.of_heap hh) own started (by kernel_rfl) Tryd.func7
    (ChangeSpec.witness_shaped (enc := enc) (C := Tryd.checked) (os := os) (X := fun w _ => laidMetH Tryd.prog laid5 w) false (World.doorLaid Tryd.prog 50 os) #[.string ByteArray.empty] 8 rfl (World.shaped_of_RefB (by kernel_rfl) (by kernel_rfl)) (by kernel_rfl) (by kernel_rfl) (by kernel_rfl) (door_met os _)) ?_
  intro W base args ds gs before hval0 hW _ hsz0 hL _
  have hval : ∀ (j : Nat) t v, Tryd.f7.params[j]? = some t → args[j]? = some v → Value.okWide Tryd.prog W .any base t v := hval0
  have hsz : (DataW.weightsEach Tryd.prog (Tryd.f7.params.toList ++ Rows.logicReadsSpec.plain.varTypes Tryd.prog) (ds ++ gs)).all (· ≤ reachBytes) = true := hsz0
  have hW' := hW
  obtain ⟨p, q, hA0, hV, rfl, hfz, hnd⟩ := hW
  have hA1 := hA0
  have hA : DataW.TrodAll enc Tryd.prog W 0 (fun _ => true) true Tryd.f7.params.toList args.toList ds p := hA0
  rw [Tryd.params7] at hA hval hsz
  obtain ⟨v0, d0, rfl, rfl, h0⟩ := trodAll_one hA
  obtain ⟨rfl, rfl⟩ := trodVars_none hV
  obtain ⟨s, rfl, rfl, rfl, hs⟩ := open_string Tryd.underlying9 (hval 0 9 v0 rfl rfl) h0

  clear hval0 hsz0
  simp only [List.append_nil] at hW' hA1
  have hT := of_laid hL
  refine (logicReads_walk s W hT).mono fun e W' ⟨he, hb⟩ => ?_
  subst he
  exact ⟨_, rfl, law_post (by rw [Tryd.params7]; exact types_ok [9] (by kernel_rfl)) (by kernel_rfl) rfl rfl hA1 hW' hb⟩

theorem logicReads_said : Rows.LogicReadsSaid :=
  OpenClaim.holds_of_wide 7 Tryd.f7 rfl rfl rfl rfl rfl rfl rfl ⟨rfl, rfl, rfl, rfl, rfl⟩ rfl rfl rfl rfl rfl (by kernel_rfl) Tryd.func7 (by kernel_rfl)
    (of_decide_eq_true (by kernel_rfl)) (by unfold Func.isWrapper; first | (rw [if_pos (by decide +kernel)]; kernel_rfl) | (rw [if_neg (by decide +kernel)]; exact ⟨rfl, rfl⟩))
    (fun os started H enc _ => logicReads_lifted os started H enc)

theorem logicReads_holds : Rows.LogicReadsCardSaid :=
  Claim7.holds_tied_plain_at .later [] [.data, .data, .data, .data, .data] true _ false
    logicReads_said (fun _ h => by cases h) (by kernel_rfl) (fun _ h => by cases h) logicReads_row_tie rfl ⟨rfl, rfl⟩ (by kernel_rfl) rfl
    (fun f fn hf hfn => by
      obtain rfl : f = 7 := Option.some.inj ((show Tryd.prog.funcNamed "netwright/netwrightlaw01.LogicReads" = some 7 by kernel_rfl).symm.trans hf) |>.symm
      obtain rfl : fn = Tryd.f7 := (Option.some.inj (Tryd.func7.symm.trans hfn)).symm
      exact ⟨by kernel_rfl, fun j t ht => by
        rw [Tryd.params7] at ht
        exact stand_ok [9] (by kernel_rfl) t (by simpa using Array.mem_of_getElem? ht)⟩)
    (by kernel_rfl)
#print axioms logicReads_holds
end Go.Proofs.YtaeehejnifhaaaaDoor
