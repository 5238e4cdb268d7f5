/- LogicOpposites: nand, nor and xnor are the opposites; not of (a and b) is (not a) or (not b), and the other way; not of not of a bit that is 0 or 1 is the bit; no condition, but that the five tables are as the program's text lays them (the card ties them). -/
import Derived.Test.YtaeehejnifhaaaaDoorLaw
import Derived.Test.YtaeehejnifhaaaaDoorCards
import Derived.Test.YtaeehejnifhaaaaDoorTie
import Derived.Test.YtaeehejnifhaaaaDoorOne
namespace Go.Proofs.YtaeehejnifhaaaaDoor
open Go.ChangeShapes Go.WideShapes Go.ChangeAt Go.WideMaps Go.WideElems Go.RowKit
open Go.ChangeMaps (open_string)

theorem demorgan (a b : Nat) (ha : a ≤ 3) (hb : b ≤ 3) : orN (notN a) (notN b) = notN (andN a b) ∧ andN (notN a) (notN b) = notN (orN a b) :=
  four (P := fun a b => orN (notN a) (notN b) = notN (andN a b) ∧ andN (notN a) (notN b) = notN (orN a b)) (by decide) a b ha hb

theorem op_lit {s : ByteArray} {k : Nat} (hs : nameK s = k) (hk : k ≤ 5) {a b r : Nat} (ha : a ≤ 3) (hb : b ≤ 3) (hr : opN k a b = r) (w : World) (hT : Tabs w) :
    Calls Tryd.prog 13 #[.string s, .int .u8 a, .int .u8 b] w fun e w' => e = .returned (.tuple #[.int .u8 (r : Nat), .int .i64 0]) ∧ w = w' := by
  have := op_good s a b w hT ha hb
  rw [hs, if_pos hk, if_pos hk, hr] at this
  exact this
theorem not_lit {a r : Nat} (ha : a ≤ 3) (hr : notN a = r) (w : World) (hT : Tabs w) :
    Calls Tryd.prog 15 #[.int .u8 a] w fun e w' => e = .returned (.tuple #[.int .u8 (r : Nat), .int .i64 0]) ∧ w = w' := by
  subst hr
  exact not_good a w hT ha
def oppCells : Array Value := #[.string ⟨#[97, 110, 100]⟩, .string ⟨#[111, 114]⟩, .string ⟨#[110, 97, 110, 100]⟩, .string ⟨#[111, 114]⟩, .string ⟨#[97, 110, 100]⟩, .string ⟨#[110, 111, 114]⟩]
def Blk (w : World) (g : Nat) (t : TypeId) (cs : Array Value) : Prop := w.heap[g]? = some (.cells cs t (0, 0))
section
variable {w w' : World} {g : Nat} {t : TypeId} {cs : Array Value}
theorem Blk.new (w : World) (t : TypeId) (cs : Array Value) : Blk (w.alloc (.cells cs t)) w.heap.size t cs := heap_alloc_new w _
theorem Blk.cell (h : Blk w g t cs) (i : Nat) : w.cell? ⟨g, i, none⟩ = cs[i]? := cell_of_row w g i cs t (0, 0) h
theorem Blk.below {B : Nat} (h : Blk w g t cs) (hb : Below B w w') (hg : g < B) : Blk w' g t cs := (hb.block g hg).trans h
theorem Blk.lt (h : Blk w g t cs) : g < w.heap.size := by
  rcases Nat.lt_or_ge g w.heap.size with hlt | hge
  · exact hlt
  · unfold Blk at h; rw [Array.getElem?_eq_none hge] at h; cases h
end

set_option maxRecDepth 100000 in
set_option maxHeartbeats 2000000 in
theorem opp_bits (a b : Nat) (w : World) (hT : Tabs w) (ha : a ≤ 3) (hb : b ≤ 3) :
    Calls Tryd.prog 10 #[.int .u8 a, .int .u8 b] w fun e w' => e = .returned (.bool true) ∧ Below w.heap.size w w' := by
  have HT := Lib.hid hT
  clear hT
  go_enter Tryd.func10, Tryd.ntmps10
  go_wp2_with (go_at_call 41; refine (bit_yes _ _ (by omega)).mono ?_; rintro e w' ⟨rfl, rfl⟩)
  refine (not_good _ _ HT.out ha).mono ?_
  rintro e w' ⟨rfl, rfl⟩
  go_wp2_with fail
  refine (not_good _ _ HT.out hb).mono ?_
  rintro e w' ⟨rfl, rfl⟩
  go_wp2_with fail
  have hblk : Blk (w.alloc (.cells oppCells 54)) w.heap.size 54 oppCells := Blk.new w _ _
  have HK := Lib.hid hblk
  have HB := Lib.hid (below_alloc w (.cells oppCells 54))
  clear hblk
  change Code.wp _ _ _ _ (w.alloc (.cells oppCells 54))
  go_loopw [52] (fun i wr => ∃ k : Nat, k ≤ 2 ∧ i = .int .i64 k ∧ Blk wr w.heap.size 54 oppCells ∧ Below w.heap.size w wr) (fun i _ => 2 - (intOf i).toNat)
  case atStart => exact ⟨0, Nat.zero_le _, rfl, HK.out, HB.out⟩
  case round =>
    obtain ⟨k, hk, rfl, hblk, hbl⟩ := hrel
    have K1 := Lib.hid hblk
    have HB1 := Lib.hid hbl
    have c0 : wr.cell? ⟨w.heap.size, 0, none⟩ = some (.string ⟨#[97, 110, 100]⟩) := hblk.cell 0
    have c1 : wr.cell? ⟨w.heap.size, 1, none⟩ = some (.string ⟨#[111, 114]⟩) := hblk.cell 1
    have c2 : wr.cell? ⟨w.heap.size, 2, none⟩ = some (.string ⟨#[110, 97, 110, 100]⟩) := hblk.cell 2
    have c3 : wr.cell? ⟨w.heap.size, 3, none⟩ = some (.string ⟨#[111, 114]⟩) := hblk.cell 3
    have c4 : wr.cell? ⟨w.heap.size, 4, none⟩ = some (.string ⟨#[97, 110, 100]⟩) := hblk.cell 4
    have c5 : wr.cell? ⟨w.heap.size, 5, none⟩ = some (.string ⟨#[110, 111, 114]⟩) := hblk.cell 5
    clear hblk hbl
    obtain rfl | rfl | rfl : k = 0 ∨ k = 1 ∨ k = 2 := by omega
    · have h1 := andN_le a b
      have h2 := orN_le a b
      have n1 := notN_le a
      have n2 := notN_le b
      obtain ⟨x, hx⟩ : ∃ x, andN a b = x := ⟨_, rfl⟩
      have hx3 : x ≤ 3 := by rw [← hx]; omega
      obtain ⟨m, hm⟩ : ∃ m, notN x = m := ⟨_, rfl⟩
      have M1 := Lib.hid (op_lit (s := ⟨#[97, 110, 100]⟩) (k := 0) (by kernel_rfl) (by decide) ha hb (show opN 0 a b = x from hx))
      have M2 := Lib.hid (not_lit hx3 hm)
      have M3 := Lib.hid (op_lit (s := ⟨#[111, 114]⟩) (k := 1) (by kernel_rfl) (by decide) (a := notN a) (b := notN b) (r := m) (by omega) (by omega) (show orN (notN a) (notN b) = m by rw [← hm, ← hx]; exact (demorgan a b ha hb).1))
      have M4 := Lib.hid (op_lit (s := ⟨#[110, 97, 110, 100]⟩) (k := 3) (by kernel_rfl) (by decide) ha hb (show opN 3 a b = m by rw [← hm, ← hx]; rfl))
      clear hx hm h1 h2 n1 n2 hx3
      have HBx := Lib.hid (HB1.out.alloc HB1.out.size (.cells #[.string ⟨#[97, 110, 100]⟩, .string ⟨#[111, 114]⟩, .string ⟨#[110, 97, 110, 100]⟩] 54))
      have HTx := Lib.hid (HT.out.later HBx.out)
      have HKx := Lib.hid (K1.out.below (below_alloc wr (.cells #[.string ⟨#[97, 110, 100]⟩, .string ⟨#[111, 114]⟩, .string ⟨#[110, 97, 110, 100]⟩] 54)) K1.out.lt)
      go_wp2_with fail
      refine (M1.out _ HTx.out).mono ?_
      rintro e w' ⟨rfl, rfl⟩
      go_wp2_with fail
      refine (M2.out _ HTx.out).mono ?_
      rintro e w' ⟨rfl, rfl⟩
      go_wp2_with fail
      refine (M3.out _ HTx.out).mono ?_
      rintro e w' ⟨rfl, rfl⟩
      go_wp2_with fail
      refine (M4.out _ HTx.out).mono ?_
      rintro e w' ⟨rfl, rfl⟩
      go_wp2
      go_roundw
      case rel => exact ⟨1, by omega, rfl, HKx.out, HBx.out⟩
      case measure => simp [intOf]
    · have h1 := andN_le a b
      have h2 := orN_le a b
      have n1 := notN_le a
      have n2 := notN_le b
      obtain ⟨x, hx⟩ : ∃ x, orN a b = x := ⟨_, rfl⟩
      have hx3 : x ≤ 3 := by rw [← hx]; omega
      obtain ⟨m, hm⟩ : ∃ m, notN x = m := ⟨_, rfl⟩
      have M1 := Lib.hid (op_lit (s := ⟨#[111, 114]⟩) (k := 1) (by kernel_rfl) (by decide) ha hb (show opN 1 a b = x from hx))
      have M2 := Lib.hid (not_lit hx3 hm)
      have M3 := Lib.hid (op_lit (s := ⟨#[97, 110, 100]⟩) (k := 0) (by kernel_rfl) (by decide) (a := notN a) (b := notN b) (r := m) (by omega) (by omega) (show andN (notN a) (notN b) = m by rw [← hm, ← hx]; exact (demorgan a b ha hb).2))
      have M4 := Lib.hid (op_lit (s := ⟨#[110, 111, 114]⟩) (k := 4) (by kernel_rfl) (by decide) ha hb (show opN 4 a b = m by rw [← hm, ← hx]; rfl))
      clear hx hm h1 h2 n1 n2 hx3
      have HBx := Lib.hid (HB1.out.alloc HB1.out.size (.cells #[.string ⟨#[111, 114]⟩, .string ⟨#[97, 110, 100]⟩, .string ⟨#[110, 111, 114]⟩] 54))
      have HTx := Lib.hid (HT.out.later HBx.out)
      have HKx := Lib.hid (K1.out.below (below_alloc wr (.cells #[.string ⟨#[111, 114]⟩, .string ⟨#[97, 110, 100]⟩, .string ⟨#[110, 111, 114]⟩] 54)) K1.out.lt)
      go_wp2_with fail
      refine (M1.out _ HTx.out).mono ?_
      rintro e w' ⟨rfl, rfl⟩
      go_wp2_with fail
      refine (M2.out _ HTx.out).mono ?_
      rintro e w' ⟨rfl, rfl⟩
      go_wp2_with fail
      refine (M3.out _ HTx.out).mono ?_
      rintro e w' ⟨rfl, rfl⟩
      go_wp2_with fail
      refine (M4.out _ HTx.out).mono ?_
      rintro e w' ⟨rfl, rfl⟩
      go_wp2
      go_roundw
      case rel => exact ⟨2, by omega, rfl, HKx.out, HBx.out⟩
      case measure => simp [intOf]
    · have h1 := xorN_le a b
      have n1 := notN_le a
      obtain ⟨x, hx⟩ : ∃ x, xorN a b = x := ⟨_, rfl⟩
      have hx3 : x ≤ 3 := by rw [← hx]; omega
      obtain ⟨m, hm⟩ : ∃ m, notN x = m := ⟨_, rfl⟩
      have M1 := Lib.hid (op_lit (s := ⟨#[120, 111, 114]⟩) (k := 2) (by kernel_rfl) (by decide) ha hb (show opN 2 a b = x from hx))
      have M2 := Lib.hid (not_lit hx3 hm)
      have M3 := Lib.hid (op_lit (s := ⟨#[120, 110, 111, 114]⟩) (k := 5) (by kernel_rfl) (by decide) ha hb (show opN 5 a b = m by rw [← hm, ← hx]; rfl))
      have M4 := Lib.hid (not_lit (a := notN a) (r := notN (notN a)) (by omega) rfl)
      have HTx := Lib.hid (HT.out.later HB1.out)
      clear hx hm h1 n1 hx3 c0 c1 c2 c3 c4 c5
      go_wp2_with fail
      refine (M1.out _ HTx.out).mono ?_
      rintro e w' ⟨rfl, rfl⟩
      go_wp2_with fail
      refine (M2.out _ HTx.out).mono ?_
      rintro e w' ⟨rfl, rfl⟩
      go_wp2_with fail
      refine (M3.out _ HTx.out).mono ?_
      rintro e w' ⟨rfl, rfl⟩
      go_wp2_with fail
      refine (M4.out _ HTx.out).mono ?_
      rintro e w' ⟨rfl, rfl⟩
      clear M1 M2 M3 M4
      obtain rfl | rfl | rfl | rfl : a = 0 ∨ a = 1 ∨ a = 2 ∨ a = 3 := by omega
      all_goals
        go_wp2_with fail
        refine (awake_any _ HTx.out).mono ?_
        rintro e w9 ⟨rfl, hb9⟩
        have HB9 := Lib.hid (below_then HB1.out hb9)
        clear hb9
        go_wp2
        go_ret
        exact ⟨rfl, HB9.out⟩

theorem logicOpposites_walk (a b : Nat) (w : World) (hT : Tabs w) :
    Calls Tryd.prog 10 #[.int .u8 a, .int .u8 b] w fun e w' => e = .returned (.bool true) ∧ Below w.heap.size w w' := by
  by_cases ha : a ≤ 3
  · by_cases hb : b ≤ 3
    · exact opp_bits a b w hT ha hb
    · have HT := Lib.hid hT
      clear hT
      go_enter Tryd.func10, Tryd.ntmps10
      go_wp2_with fail
      refine (bit_yes _ _ ha).mono ?_
      rintro e w' ⟨rfl, rfl⟩
      go_wp2_with fail
      refine (bit_no _ _ (by omega)).mono ?_
      rintro e w' ⟨rfl, rfl⟩
      go_wp2_with fail
      refine (awake_any _ HT.out).mono ?_
      rintro e w9 ⟨rfl, hb9⟩
      go_wp2
      go_ret
      exact ⟨rfl, hb9⟩
  · have HT := Lib.hid hT
    clear hT
    go_enter Tryd.func10, Tryd.ntmps10
    go_wp2_with fail
    refine (bit_no _ _ (by omega)).mono ?_
    rintro e w' ⟨rfl, rfl⟩
    go_wp2_with fail
    refine (awake_any _ HT.out).mono ?_
    rintro e w9 ⟨rfl, hb9⟩
    go_wp2
    go_ret
    exact ⟨rfl, hb9⟩

set_option maxRecDepth 100000 in
theorem logicOpposites_lifted (os : Os) (started : os.Started) (H : Type) (enc : TypeId × Value → H) :
    ReturnsInHanded {} Tryd.checked os 10 .any (fun w args => (Rows.logicOppositesSpec.pre enc Tryd.prog Tryd.f10 [] false w args ∧ laidMetH Tryd.prog laid5 w) ∧ sizedMet enc Tryd.prog Tryd.f10 (OpenSpec.ofChange Rows.logicOppositesSpec) false w args)
      (Rows.logicOppositesSpec.post enc Tryd.prog Tryd.f10 false true false false) := by
  refine returnsInHanded_of_change_and (C := Tryd.checked) (X := fun w _ => laidMetH Tryd.prog laid5 w) (fun _ _ _ hh h => h.of_heap hh) own started (by kernel_rfl) Tryd.func10
    (ChangeSpec.witness_shaped (enc := enc) (C := Tryd.checked) (os := os) (X := fun w _ => laidMetH Tryd.prog laid5 w) false (World.doorLaid Tryd.prog 50 os) #[.int .u8 0, .int .u8 0] 8 rfl (World.shaped_of_RefB (by kernel_rfl) (by kernel_rfl)) (by kernel_rfl) (by kernel_rfl) (by kernel_rfl) (door_met os _)) ?_
  intro W base args ds gs before hval0 hW _ hsz0 hL _
  have hval : ∀ (j : Nat) t v, Tryd.f10.params[j]? = some t → args[j]? = some v → Value.okWide Tryd.prog W .any base t v := hval0
  have hsz : (DataW.weightsEach Tryd.prog (Tryd.f10.params.toList ++ Rows.logicOppositesSpec.plain.varTypes Tryd.prog) (ds ++ gs)).all (· ≤ reachBytes) = true := hsz0
  have hW' := hW
  obtain ⟨p, q, hA0, hV, rfl, hfz, hnd⟩ := hW
  have hA1 := hA0
  have hA : DataW.TrodAll enc Tryd.prog W 0 (fun _ => true) true Tryd.f10.params.toList args.toList ds p := hA0
  rw [Tryd.params10] at hA hval hsz
  obtain ⟨v0, v1, d0, d1, p0, p1, rfl, rfl, rfl, h0, h1⟩ := trodAll_two hA
  obtain ⟨rfl, rfl⟩ := trodVars_none hV
  obtain ⟨a, rfl, rfl, rfl, wa⟩ := open_int Tryd.underlying22 (hval 0 22 v0 rfl rfl) h0
  obtain ⟨a, rfl, _⟩ := u8_nat wa
  obtain ⟨b, rfl, rfl, rfl, wb⟩ := open_int Tryd.underlying22 (hval 1 22 v1 rfl rfl) h1
  obtain ⟨b, rfl, _⟩ := u8_nat wb

  clear hval0 hsz0
  simp only [List.append_nil] at hW' hA1
  have hT := of_laid hL
  refine (logicOpposites_walk a b W hT).mono fun e W' ⟨he, hb⟩ => ?_
  subst he
  exact ⟨_, rfl, law_post (by rw [Tryd.params10]; exact types_ok [22, 22] (by kernel_rfl)) (by kernel_rfl) rfl rfl hA1 hW' hb⟩

theorem logicOpposites_said : Rows.LogicOppositesSaid :=
  OpenClaim.holds_of_wide 10 Tryd.f10 rfl rfl rfl rfl rfl rfl rfl ⟨rfl, rfl, rfl, rfl, rfl⟩ rfl rfl rfl rfl rfl (by kernel_rfl) Tryd.func10 (by kernel_rfl)
    (of_decide_eq_true (by kernel_rfl)) (by unfold Func.isWrapper; first | (rw [if_pos (by decide +kernel)]; kernel_rfl) | (rw [if_neg (by decide +kernel)]; exact ⟨rfl, rfl⟩))
    (fun os started H enc _ => logicOpposites_lifted os started H enc)

theorem logicOpposites_holds : Rows.LogicOppositesCardSaid :=
  Claim7.holds_tied_plain_at .later [] [.data, .data, .data, .data, .data] true _ false
    logicOpposites_said (fun _ h => by cases h) (by kernel_rfl) (fun _ h => by cases h) logicOpposites_row_tie rfl ⟨rfl, rfl⟩ (by kernel_rfl) rfl
    (fun f fn hf hfn => by
      obtain rfl : f = 10 := Option.some.inj ((show Tryd.prog.funcNamed "netwright/netwrightlaw01.LogicOpposites" = some 10 by kernel_rfl).symm.trans hf) |>.symm
      obtain rfl : fn = Tryd.f10 := (Option.some.inj (Tryd.func10.symm.trans hfn)).symm
      exact ⟨by kernel_rfl, fun j t ht => by
        rw [Tryd.params10] at ht
        exact stand_ok [22, 22] (by kernel_rfl) t (by simpa using Array.mem_of_getElem? ht)⟩)
    (by kernel_rfl)
#print axioms logicOpposites_holds
end Go.Proofs.YtaeehejnifhaaaaDoor
