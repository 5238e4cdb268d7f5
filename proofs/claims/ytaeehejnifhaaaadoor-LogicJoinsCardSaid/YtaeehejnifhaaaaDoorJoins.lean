/- LogicJoins: Join resolves any vectors bit by bit (for at most 40 lists of at most 200 bits); no condition, but that the five tables are as the program's text lays them (the card ties them). -/
import Derived.Test.YtaeehejnifhaaaaDoorLaw
import Derived.Test.YtaeehejnifhaaaaDoorCards
import Derived.Test.YtaeehejnifhaaaaDoorTie
import Derived.Test.YtaeehejnifhaaaaDoorOne
import Derived.Test.YtaeehejnifhaaaaDoorJoin4
namespace Go.Proofs.YtaeehejnifhaaaaDoor
open Go.ChangeShapes Go.WideShapes Go.ChangeAt Go.WideMaps Go.WideElems Go.RowKit
open Go.ChangeMaps (open_string)

set_option maxRecDepth 100000 in
set_option maxHeartbeats 4000000 in
theorem logicJoins_walk (v : Value) (zss : List (List Nat)) (w : World) (hT : Tabs w) (h : Sls w v zss) :
    Calls Tryd.prog 6 #[v] w fun e w' => e = .returned (.bool true) ∧ Below w.heap.size w w' := by
  have HT0 := Lib.hid hT
  have HS := Lib.hid h
  have HB0 := Lib.hid (Below.refl w.heap.size w)
  obtain ⟨A, c, rfl, hn, hc⟩ := h
  have HC := Lib.hid hc
  clear hT hc
  by_cases hl : zss.length ≤ 40
  · have hlen : decide ((40 : Int) < (zss.length : Int)) = false := by rw [decide_eq_false_iff_not]; omega
    go_enter Tryd.func6, Tryd.ntmps6
    go_wp2_with fail
    clear hlen
    go_loopw [3, 16] (fun x i wr => ∃ k : Nat, k ≤ zss.length ∧ i = .int .i64 k ∧ OwnS wr w.heap.size x (zss.take k) ∧ Below w.heap.size w wr) (fun _ i _ => zss.length - (intOf i).toNat)
    case atStart => exact ⟨0, Nat.zero_le _, rfl, OwnS.nil w (Nat.le_refl _), Below.refl _ _⟩
    case round =>
      obtain ⟨k, hk, rfl, hown, hb⟩ := hrel
      have HO := Lib.hid hown
      have HB := Lib.hid hb
      clear hown hb
      by_cases hlt : k < zss.length
      · obtain ⟨b, off, rfl, hcell⟩ := HC.out.resolve_left (fun h => by rw [h] at hlt; exact absurd hlt (by simp))
        obtain ⟨u, g, hu⟩ := hcell k hlt
        have g' := (HB.out.cell (block_lt_of_cell g)).trans g
        have HU := Lib.hid (hu.later HB.out)
        have HR : Hid (zss.take (k + 1) = zss.take k ++ [zss[k]]) := List.take_succ_eq_append_getElem hlt
        have HLen : Hid ((zss.take k).length < 1000) := by
          show (zss.take k).length < 1000
          simp; omega
        clear g hu hcell
        by_cases hz : zss[k].length ≤ 200
        · have HZ := Lib.hid hz
          clear hz
          go_wp2_with fail
          refine (HU.out.long_no HZ.out _).mono ?_
          rintro e w' ⟨rfl, rfl⟩
          go_wp2_with fail
          refine (copied_any _ _ _ HU.out).mono ?_
          rintro e w1 ⟨u1, rfl, hown1, hb1⟩
          obtain ⟨A1, c1, rfl, _⟩ := hown1.sl
          have HO1 := Lib.hid (HO.out.kept hb1)
          have HU1 := Lib.hid (hown1.weaken HB.out.size)
          have HB1 := Lib.hid (below_then HB.out hb1)
          clear hown1 hb1
          go_wp2_with (at_builtin; refine wpList_append_s rfl _ _ rfl w.heap.size _ _ _ rfl rfl HO1.out HU1.out HLen.out ?_; intro v2 w2 hown2 hb2)
          have HO2 := Lib.hid hown2
          have HB2 := Lib.hid (HB1.out.trans (hb2 _ (Nat.le_refl _)))
          clear hown2 hb2
          go_wp2
          go_roundw
          case rel => exact ⟨k + 1, by omega, by go_num, by rw [HR.out]; exact HO2.out, HB2.out⟩
          case measure => simp [intOf]; omega
        · have HZ := Lib.hid hz
          clear hz
          go_wp2_with fail
          refine (HU.out.long_yes HZ.out _).mono ?_
          rintro e w' ⟨rfl, rfl⟩
          go_wp2_with fail
          refine (awake_any _ (HT0.out.later HB.out)).mono ?_
          rintro e w9 ⟨rfl, hb9⟩
          have HB9 := Lib.hid (below_then HB.out hb9)
          clear hb9
          go_wp2
          go_ret
          exact ⟨rfl, HB9.out⟩
      · have hM : OwnS wr w.heap.size u3 zss := by
          have := HO.out
          rwa [List.take_of_length_le (by omega)] at this
        have HM := Lib.hid hM.sls
        have HT := Lib.hid (HT0.out.later HB.out)
        have HV := Lib.hid (HS.out.later HB.out)
        have HL := Lib.hid hl
        clear hM
        go_wp2_with fail
        refine (join_any _ _ _ HT.out HM.out.1 HM.out.2).mono ?_
        rintro e w4 ⟨p, rfl, hp, hb4⟩
        have HP := Lib.hid hp
        have HT4 := Lib.hid (HT.out.later hb4)
        have HV4 := Lib.hid (HV.out.later hb4)
        have HB4 := Lib.hid (below_then HB.out hb4)
        clear hp hb4
        go_wp2_with fail
        refine (refJoin_any _ _ _ HV4.out HL.out).mono ?_
        rintro e w5 ⟨q, rfl, hq, hb5⟩
        have HQ := Lib.hid hq
        have HP5 := Lib.hid (HP.out.later hb5)
        have HT5 := Lib.hid (HT4.out.later hb5)
        have HB5 := Lib.hid (below_then HB4.out hb5)
        clear hq hb5
        go_wp2_with fail
        refine (same_self HP5.out HQ.out).mono ?_
        rintro e w6 ⟨rfl, hb6⟩
        have HT6 := Lib.hid (HT5.out.later hb6)
        have HB6 := Lib.hid (below_then HB5.out hb6)
        clear hb6
        go_wp2_with fail
        refine (awake_any _ HT6.out).mono ?_
        rintro e w9 ⟨rfl, hb9⟩
        have HB9 := Lib.hid (below_then HB6.out hb9)
        clear hb9
        go_wp2
        go_ret
        exact ⟨rfl, HB9.out⟩
  · have hlen : decide ((40 : Int) < (zss.length : Int)) = true := by rw [decide_eq_true_eq]; omega
    clear hl
    go_enter Tryd.func6, Tryd.ntmps6
    go_wp2_with fail
    refine (awake_any _ HT0.out).mono ?_
    rintro e w99 ⟨rfl, hb99⟩
    have HB99 := Lib.hid (below_then HB0.out hb99)
    clear hb99
    go_wp2
    go_ret
    exact ⟨rfl, HB99.out⟩

set_option maxRecDepth 100000 in
theorem logicJoins_lifted (os : Os) (started : os.Started) (H : Type) (enc : TypeId × Value → H) :
    ReturnsInHanded {} Tryd.checked os 6 .any (fun w args => (Rows.logicJoinsSpec.pre enc Tryd.prog Tryd.f6 [] false w args ∧ laidMetH Tryd.prog laid5 w) ∧ sizedMet enc Tryd.prog Tryd.f6 (OpenSpec.ofChange Rows.logicJoinsSpec) false w args)
      (Rows.logicJoinsSpec.post enc Tryd.prog Tryd.f6 false true false false) := by
  refine returnsInHanded_of_change_and (C := Tryd.checked) (X := fun w _ => laidMetH Tryd.prog laid5 w) (fun _ _ _ hh h => h.of_heap hh) own started (by kernel_rfl) Tryd.func6
    (ChangeSpec.witness_shaped (enc := enc) (C := Tryd.checked) (os := os) (X := fun w _ => laidMetH Tryd.prog laid5 w) false (World.doorLaid Tryd.prog 50 os) #[.slice none 0 0] 8 rfl (World.shaped_of_RefB (by kernel_rfl) (by kernel_rfl)) (by kernel_rfl) (by kernel_rfl) (by kernel_rfl) (door_met os _)) ?_
  intro W base args ds gs before hval0 hW _ hsz0 hL _
  have hval : ∀ (j : Nat) t v, Tryd.f6.params[j]? = some t → args[j]? = some v → Value.okWide Tryd.prog W .any base t v := hval0
  have hsz : (DataW.weightsEach Tryd.prog (Tryd.f6.params.toList ++ Rows.logicJoinsSpec.plain.varTypes Tryd.prog) (ds ++ gs)).all (· ≤ reachBytes) = true := hsz0
  have hW' := hW
  obtain ⟨p, q, hA0, hV, rfl, hfz, hnd⟩ := hW
  have hA1 := hA0
  have hA : DataW.TrodAll enc Tryd.prog W 0 (fun _ => true) true Tryd.f6.params.toList args.toList ds p := hA0
  rw [Tryd.params6] at hA hval hsz
  obtain ⟨v0, d0, rfl, rfl, h0⟩ := trodAll_one hA
  obtain ⟨rfl, rfl⟩ := trodVars_none hV
  obtain ⟨zss, hzs⟩ := sls_open (hval 0 45 v0 rfl rfl) h0 (fun n hn => by simpa using List.all_eq_true.1 hsz n (DataW.weights_mem_each (j := 0) rfl rfl n hn))

  clear hval0 hsz0
  simp only [List.append_nil] at hW' hA1
  have hT := of_laid hL
  refine (logicJoins_walk _ zss W hT hzs).mono fun e W' ⟨he, hb⟩ => ?_
  subst he
  exact ⟨_, rfl, law_post (by rw [Tryd.params6]; exact types_ok [45] (by kernel_rfl)) (by kernel_rfl) rfl rfl hA1 hW' hb⟩

theorem logicJoins_said : Rows.LogicJoinsSaid :=
  OpenClaim.holds_of_wide 6 Tryd.f6 rfl rfl rfl rfl rfl rfl rfl ⟨rfl, rfl, rfl, rfl, rfl⟩ rfl rfl rfl rfl rfl (by kernel_rfl) Tryd.func6 (by kernel_rfl)
    (of_decide_eq_true (by kernel_rfl)) (by unfold Func.isWrapper; first | (rw [if_pos (by decide +kernel)]; kernel_rfl) | (rw [if_neg (by decide +kernel)]; exact ⟨rfl, rfl⟩))
    (fun os started H enc _ => logicJoins_lifted os started H enc)

theorem logicJoins_holds : Rows.LogicJoinsCardSaid :=
  Claim7.holds_tied_plain_at .later [] [.data, .data, .data, .data, .data] true _ false
    logicJoins_said (fun _ h => by cases h) (by kernel_rfl) (fun _ h => by cases h) logicJoins_row_tie rfl ⟨rfl, rfl⟩ (by kernel_rfl) rfl
    (fun f fn hf hfn => by
      obtain rfl : f = 6 := Option.some.inj ((show Tryd.prog.funcNamed "netwright/netwrightlaw01.LogicJoins" = some 6 by kernel_rfl).symm.trans hf) |>.symm
      obtain rfl : fn = Tryd.f6 := (Option.some.inj (Tryd.func6.symm.trans hfn)).symm
      exact ⟨by kernel_rfl, fun j t ht => by
        rw [Tryd.params6] at ht
        exact stand_ok [45] (by kernel_rfl) t (by simpa using Array.mem_of_getElem? ht)⟩)
    (by kernel_rfl)
#print axioms logicJoins_holds
end Go.Proofs.YtaeehejnifhaaaaDoor
