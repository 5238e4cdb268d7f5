/- LogicDriven: resolving with z changes nothing, with itself it is the bit, and what is x stays x; with a bit more it is what it was, or the bit where nothing drove, or x (for at most 200 bits); no condition, but that the five tables are as the program's text lays them (the card ties them). -/
import Derived.Test.YtaeehejnifhaaaaDoorLaw
import Derived.Test.YtaeehejnifhaaaaDoorCards
import Derived.Test.YtaeehejnifhaaaaDoorTie
import Derived.Test.YtaeehejnifhaaaaDoorOne
import Derived.Test.YtaeehejnifhaaaaDoorRes
namespace Go.Proofs.YtaeehejnifhaaaaDoor
open Go.ChangeShapes Go.WideShapes Go.ChangeAt Go.WideMaps Go.WideElems Go.RowKit
open Go.ChangeMaps (open_string)

theorem below_app {w w1 w2 : World} {B : Nat} {o : Obj} (h : Below w.heap.size w w1) (_hB : w.heap.size ≤ B) (h' : Below w.heap.size (w1.alloc o) w2) : Below w.heap.size w w2 :=
  (h.alloc h.size o).trans h'
theorem resL_append (zs ys : List Nat) : resL (zs ++ ys) = ys.foldl resN (resL zs) := by unfold resL; rw [List.foldl_append]
theorem bits_append {zs ys : List Nat} (h : bitsB zs = true) (h' : bitsB ys = true) : bitsB (zs ++ ys) = true := by unfold bitsB at *; rw [List.all_append, h, h']; rfl
theorem resolve_at {zs : List Nat} {r : Nat} (hb : bitsB zs = true) (hr : resL zs = r) (v : Value) (w : World) (hT : Tabs w) (h : Sl w v zs) :
    Calls Tryd.prog 22 #[v] w fun e w' => e = .returned (.tuple #[.int .u8 (r : Nat), .int .i64 0]) ∧ w = w' := by
  have := resolve_any v zs w hT h
  rw [show resV zs = r by unfold resV; rw [if_pos hb, hr], show resE zs = 0 by unfold resE; rw [if_pos hb]] at this
  exact this
theorem resN_z {x : Nat} (_h : x ≤ 3) : resN x 3 = x := by unfold resN; (repeat' split) <;> omega
theorem resN_x {x : Nat} (_h : x ≤ 3) : resN x 2 = 2 := by unfold resN; (repeat' split) <;> omega
theorem res_same {b : Nat} (h : b ≤ 3) : resL [b, b, b] = b := by
  obtain rfl | rfl | rfl | rfl : b = 0 ∨ b = 1 ∨ b = 2 ∨ b = 3 := by omega
  all_goals decide

set_option maxRecDepth 100000 in
set_option maxHeartbeats 2000000 in
theorem driven_bits (v : Value) (zs : List Nat) (b : Nat) (w : World) (hT : Tabs w) (h : Sl w v zs) (hl : zs.length ≤ 200) (hb : b ≤ 3) (hz : bitsB zs = true) :
    Calls Tryd.prog 12 #[v, .int .u8 b] w fun e w' => e = .returned (.bool true) ∧ Below w.heap.size w w' := by
  have HT := Lib.hid hT
  have HS := Lib.hid h
  have HL := Lib.hid hl
  have HZ := Lib.hid hz
  have HLen : Hid (zs.length + 1 ≤ 140737488355328) := Nat.le_trans (Nat.add_le_add_right hl 1) (by decide)
  obtain ⟨x, hx⟩ : ∃ x, resL zs = x := ⟨_, rfl⟩
  have hx3 : x ≤ 3 := by rw [← hx]; exact resL_le hz
  have R1 := Lib.hid (resolve_at hz hx)
  have R2 := Lib.hid (resolve_at (r := x) (bits_append hz (ys := [3]) (by decide)) (by rw [resL_append, hx]; exact resN_z hx3))
  have R3 := Lib.hid (resolve_at (r := 2) (bits_append hz (ys := [2]) (by decide)) (by rw [resL_append, hx]; exact resN_x hx3))
  have hbb : bitsB [b] = true := bitsB_of (by intro z hz; simp at hz; omega)
  have R4 := Lib.hid (resolve_at (r := resN x b) (bits_append hz hbb) (by rw [resL_append, hx]; rfl))
  have R5 := Lib.hid (resolve_at (r := b) (zs := [b, b, b]) (bitsB_of (by intro z hz; simp at hz; omega)) (res_same hb))
  have h256 : b < 256 := by omega
  obtain ⟨A, c, rfl, hn, _, hc⟩ := h
  clear hT hl hz hx hbb
  go_enter Tryd.func12, Tryd.ntmps12
  go_wp2_with fail
  refine (HS.out.long_no HL.out _).mono ?_
  rintro e w' ⟨rfl, rfl⟩
  go_wp2_with fail
  refine (bit_yes _ _ (by omega)).mono ?_
  rintro e w' ⟨rfl, rfl⟩
  go_wp2_with fail
  go_loop [27] (fun i => ∃ k : Nat, k ≤ zs.length ∧ i = .int .i64 k) (fun i => zs.length - (intOf i).toNat)
  case atStart => exact ⟨0, Nat.zero_le _, rfl⟩
  case round =>
    obtain ⟨k, hk, rfl⟩ := hrel
    by_cases hlt : k < zs.length
    · rcases hc with rfl | ⟨b', off, rfl, hc⟩
      · exact absurd hlt (by simp)
      have g := hc k hlt
      have h3 := bitsB_at HZ.out hlt
      clear hc
      generalize zs[k] = z at g h3
      go_wp2_with (go_at_call 41; refine (bit_yes _ _ (by omega)).mono ?_; rintro e w' ⟨rfl, rfl⟩)
      go_round
      case rel => exact ⟨k + 1, by omega, by go_num⟩
      case measure => simp [intOf]; omega
    · clear hc
      have HB0 := Lib.hid (Below.refl w.heap.size w)
      go_wp2_with fail
      refine (copied_any _ _ _ (HS.out.later HB0.out)).mono ?_
      rintro e w1 ⟨u1, rfl, hown1, hb1⟩
      have HO1 := Lib.hid hown1
      have HB1 := Lib.hid (below_then HB0.out hb1)
      clear hb1 hown1
      go_wp2_with fail
      refine (R1.out _ _ (HT.out.later HB1.out) HO1.out.sl).mono ?_
      rintro e w' ⟨rfl, rfl⟩
      go_wp2_with fail
      refine (copied_any _ _ _ (HS.out.later HB1.out)).mono ?_
      rintro e w2 ⟨u2, rfl, hown2, hb2⟩
      have HO2 := Lib.hid hown2
      have HB2 := Lib.hid (below_then HB1.out hb2)
      clear hb2 hown2
      go_wp2_with (at_builtin; refine wpList_append_sl rfl _ _ rfl _ _ _ _ [3] rfl rfl (HO2.out.alloc _) (Sl.one _ 3 (by decide)) (HLen.out) ?_; intro u3 w3 hown3 hb3)
      have HO3 := Lib.hid hown3
      have HB3 := Lib.hid (below_app HB2.out HB1.out.size (hb3 _ HB1.out.size))
      clear hb3 hown3
      go_wp2_with fail
      refine (R2.out _ _ (HT.out.later HB3.out) HO3.out.sl).mono ?_
      rintro e w' ⟨rfl, rfl⟩
      go_wp2_with fail
      refine (copied_any _ _ _ (HS.out.later HB3.out)).mono ?_
      rintro e w4 ⟨u4, rfl, hown4, hb4⟩
      have HO4 := Lib.hid hown4
      have HB4 := Lib.hid (below_then HB3.out hb4)
      clear hb4 hown4
      go_wp2_with (at_builtin; refine wpList_append_sl rfl _ _ rfl _ _ _ _ [2] rfl rfl (HO4.out.alloc _) (Sl.one _ 2 (by decide)) (HLen.out) ?_; intro u5 w5 hown5 hb5)
      have HO5 := Lib.hid hown5
      have HB5 := Lib.hid (below_app HB4.out HB3.out.size (hb5 _ HB3.out.size))
      clear hb5 hown5
      go_wp2_with fail
      refine (R3.out _ _ (HT.out.later HB5.out) HO5.out.sl).mono ?_
      rintro e w' ⟨rfl, rfl⟩
      go_wp2_with fail
      refine (copied_any _ _ _ (HS.out.later HB5.out)).mono ?_
      rintro e w6 ⟨u6, rfl, hown6, hb6⟩
      have HO6 := Lib.hid hown6
      have HB6 := Lib.hid (below_then HB5.out hb6)
      clear hb6 hown6
      go_wp2_with (at_builtin; refine wpList_append_sl rfl _ _ rfl _ _ _ _ [b] rfl rfl (HO6.out.alloc _) (Sl.one _ b h256) (HLen.out) ?_; intro u7 w7 hown7 hb7)
      have HO7 := Lib.hid hown7
      have HB7 := Lib.hid (below_app HB6.out HB5.out.size (hb7 _ HB5.out.size))
      clear hb7 hown7
      go_wp2_with fail
      refine (R4.out _ _ (HT.out.later HB7.out) HO7.out.sl).mono ?_
      rintro e w' ⟨rfl, rfl⟩
      go_wp2_with fail
      refine (R5.out _ _ (HT.out.later (HB7.out.alloc HB7.out.size _)) (Sl.lit w7 [b, b, b] _ rfl (by intro z hz; simp at hz; omega) (by simp) _ rfl _ _ rfl)).mono ?_
      rintro e w' ⟨rfl, rfl⟩
      have HB8 := Lib.hid (HB7.out.alloc HB7.out.size (.cells #[.int .u8 b, .int .u8 b, .int .u8 b] 22))
      clear HO1 HO2 HO3 HO4 HO5 HO6 HO7 R1 R2 R3 R4 R5 HB0 HB1 HB2 HB3 HB4 HB5 HB6 HB7 HS HZ HL
      obtain rfl | rfl | rfl | rfl : x = 0 ∨ x = 1 ∨ x = 2 ∨ x = 3 := by omega
      all_goals
        obtain rfl | rfl | rfl | rfl : b = 0 ∨ b = 1 ∨ b = 2 ∨ b = 3 := by omega
        all_goals
          go_wp2_with fail
          refine (awake_any _ (HT.out.later HB8.out)).mono ?_
          rintro e w9 ⟨rfl, hb9⟩
          have HB9 := Lib.hid (below_then HB8.out hb9)
          clear hb9
          go_wp2
          go_ret
          exact ⟨rfl, HB9.out⟩

theorem logicDriven_walk (v : Value) (zs : List Nat) (b : Nat) (w : World) (hT : Tabs w) (h : Sl w v zs) :
    Calls Tryd.prog 12 #[v, .int .u8 b] w fun e w' => e = .returned (.bool true) ∧ Below w.heap.size w w' := by
  by_cases hl : zs.length ≤ 200
  · by_cases hb : b ≤ 3
    · by_cases hz : bitsB zs = true
      · exact driven_bits v zs b w hT h hl hb hz
      · have HT := Lib.hid hT
        have HS := Lib.hid h
        have HL := Lib.hid hl
        have hz' : bitsB zs = false := by simpa using hz
        have HZ := Lib.hid hz'
        obtain ⟨A, c, rfl, hn, _, hc⟩ := h
        clear hT hl hz hz'
        go_enter Tryd.func12, Tryd.ntmps12
        go_wp2_with fail
        refine (HS.out.long_no HL.out _).mono ?_
        rintro e w' ⟨rfl, rfl⟩
        go_wp2_with fail
        refine (bit_yes _ _ (by omega)).mono ?_
        rintro e w' ⟨rfl, rfl⟩
        go_wp2_with fail
        go_loop [27] (fun i => ∃ k : Nat, k ≤ zs.length ∧ i = .int .i64 k ∧ Hid (bitsB (zs.take k) = true)) (fun i => zs.length - (intOf i).toNat)
        case atStart => exact ⟨0, Nat.zero_le _, rfl, rfl⟩
        case round =>
          obtain ⟨k, hk, rfl, hr⟩ := hrel
          by_cases hlt : k < zs.length
          · rcases hc with rfl | ⟨b', off, rfl, hc⟩
            · exact absurd hlt (by simp)
            have g := hc k hlt
            clear hc
            by_cases h3 : zs[k] ≤ 3
            · have HR := Lib.hid (bitsB_take hlt hr.out h3)
              generalize zs[k] = z at g h3
              go_wp2_with (go_at_call 41; refine (bit_yes _ _ (by omega)).mono ?_; rintro e w' ⟨rfl, rfl⟩)
              go_round
              case rel => exact ⟨k + 1, by omega, by go_num, HR⟩
              case measure => simp [intOf]; omega
            · generalize zs[k] = z at g h3
              go_wp2_with fail
              refine (bit_no _ _ (by omega)).mono ?_
              rintro e w' ⟨rfl, rfl⟩
              go_wp2_with fail
              refine (awake_any _ HT.out).mono ?_
              rintro e w9 ⟨rfl, hb9⟩
              go_wp2
              go_ret
              exact ⟨rfl, hb9⟩
          · exfalso
            have := bitsB_end (zs := zs) (by have := hr.out; rwa [show k = zs.length by omega] at this)
            rw [HZ.out] at this
            cases this
    · have HT := Lib.hid hT
      have HS := Lib.hid h
      have HL := Lib.hid hl
      clear hT h hl
      go_enter Tryd.func12, Tryd.ntmps12
      go_wp2_with fail
      refine (HS.out.long_no HL.out _).mono ?_
      rintro e w' ⟨rfl, rfl⟩
      go_wp2_with fail
      refine (bit_no _ _ (by omega)).mono ?_
      rintro e w' ⟨rfl, rfl⟩
      go_wp2_with fail
      refine (awake_any _ HT.out).mono ?_
      rintro e w9 ⟨rfl, hb9⟩
      go_wp2
      go_ret
      exact ⟨rfl, hb9⟩
  · have HT := Lib.hid hT
    have HS := Lib.hid h
    have HL := Lib.hid hl
    clear hT h hl
    go_enter Tryd.func12, Tryd.ntmps12
    go_wp2_with fail
    refine (HS.out.long_yes HL.out _).mono ?_
    rintro e w' ⟨rfl, rfl⟩
    go_wp2_with fail
    refine (awake_any _ HT.out).mono ?_
    rintro e w9 ⟨rfl, hb9⟩
    go_wp2
    go_ret
    exact ⟨rfl, hb9⟩

set_option maxRecDepth 100000 in
theorem logicDriven_lifted (os : Os) (started : os.Started) (H : Type) (enc : TypeId × Value → H) :
    ReturnsInHanded {} Tryd.checked os 12 .any (fun w args => (Rows.logicDrivenSpec.pre enc Tryd.prog Tryd.f12 [] false w args ∧ laidMetH Tryd.prog laid5 w) ∧ sizedMet enc Tryd.prog Tryd.f12 (OpenSpec.ofChange Rows.logicDrivenSpec) false w args)
      (Rows.logicDrivenSpec.post enc Tryd.prog Tryd.f12 false true false false) := by
  refine returnsInHanded_of_change_and (C := Tryd.checked) (X := fun w _ => laidMetH Tryd.prog laid5 w) (fun _ _ _ hh h => h.of_heap hh) own started (by kernel_rfl) Tryd.func12
    (ChangeSpec.witness_shaped (enc := enc) (C := Tryd.checked) (os := os) (X := fun w _ => laidMetH Tryd.prog laid5 w) false (World.doorLaid Tryd.prog 50 os) #[.slice none 0 0, .int .u8 0] 8 rfl (World.shaped_of_RefB (by kernel_rfl) (by kernel_rfl)) (by kernel_rfl) (by kernel_rfl) (by kernel_rfl) (door_met os _)) ?_
  intro W base args ds gs before hval0 hW _ hsz0 hL _
  have hval : ∀ (j : Nat) t v, Tryd.f12.params[j]? = some t → args[j]? = some v → Value.okWide Tryd.prog W .any base t v := hval0
  have hsz : (DataW.weightsEach Tryd.prog (Tryd.f12.params.toList ++ Rows.logicDrivenSpec.plain.varTypes Tryd.prog) (ds ++ gs)).all (· ≤ reachBytes) = true := hsz0
  have hW' := hW
  obtain ⟨p, q, hA0, hV, rfl, hfz, hnd⟩ := hW
  have hA1 := hA0
  have hA : DataW.TrodAll enc Tryd.prog W 0 (fun _ => true) true Tryd.f12.params.toList args.toList ds p := hA0
  rw [Tryd.params12] at hA hval hsz
  obtain ⟨v0, v1, d0, d1, p0, p1, rfl, rfl, rfl, h0, h1⟩ := trodAll_two hA
  obtain ⟨rfl, rfl⟩ := trodVars_none hV
  obtain ⟨zs, hzs⟩ := sl_open (hval 0 31 v0 rfl rfl) h0 (fun elems spare hd => sized_slice hsz (j := 0) rfl (by rw [hd]; rfl) Tryd.underlying31)
  obtain ⟨b, rfl, rfl, rfl, wb⟩ := open_int Tryd.underlying22 (hval 1 22 v1 rfl rfl) h1
  obtain ⟨b, rfl, _⟩ := u8_nat wb

  clear hval0 hsz0
  simp only [List.append_nil] at hW' hA1
  have hT := of_laid hL
  refine (logicDriven_walk _ _ b W hT hzs).mono fun e W' ⟨he, hb⟩ => ?_
  subst he
  exact ⟨_, rfl, law_post (by rw [Tryd.params12]; exact types_ok [31, 22] (by kernel_rfl)) (by kernel_rfl) rfl rfl hA1 hW' hb⟩

theorem logicDriven_said : Rows.LogicDrivenSaid :=
  OpenClaim.holds_of_wide 12 Tryd.f12 rfl rfl rfl rfl rfl rfl rfl ⟨rfl, rfl, rfl, rfl, rfl⟩ rfl rfl rfl rfl rfl (by kernel_rfl) Tryd.func12 (by kernel_rfl)
    (of_decide_eq_true (by kernel_rfl)) (by unfold Func.isWrapper; first | (rw [if_pos (by decide +kernel)]; kernel_rfl) | (rw [if_neg (by decide +kernel)]; exact ⟨rfl, rfl⟩))
    (fun os started H enc _ => logicDriven_lifted os started H enc)

theorem logicDriven_holds : Rows.LogicDrivenCardSaid :=
  Claim7.holds_tied_plain_at .later [] [.data, .data, .data, .data, .data] true _ false
    logicDriven_said (fun _ h => by cases h) (by kernel_rfl) (fun _ h => by cases h) logicDriven_row_tie rfl ⟨rfl, rfl⟩ (by kernel_rfl) rfl
    (fun f fn hf hfn => by
      obtain rfl : f = 12 := Option.some.inj ((show Tryd.prog.funcNamed "netwright/netwrightlaw01.LogicDriven" = some 12 by kernel_rfl).symm.trans hf) |>.symm
      obtain rfl : fn = Tryd.f12 := (Option.some.inj (Tryd.func12.symm.trans hfn)).symm
      exact ⟨by kernel_rfl, fun j t ht => by
        rw [Tryd.params12] at ht
        exact stand_ok [31, 22] (by kernel_rfl) t (by simpa using Array.mem_of_getElem? ht)⟩)
    (by kernel_rfl)
#print axioms logicDriven_holds
end Go.Proofs.YtaeehejnifhaaaaDoor
