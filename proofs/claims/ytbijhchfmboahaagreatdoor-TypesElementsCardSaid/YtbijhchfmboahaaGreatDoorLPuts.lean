/- TypesPuts: at an index is what was put there, at each other one what was there (of few names and elements); for every input, where the library's tables and errors hold what their declarations lay (tied to the text of the pruned copy: packages api, logic, vec, lexer, types, the references 01 to 04, the law's, and the library's). -/
import Derived.Test.YtbijhchfmboahaaGreatDoorLFirst
import Derived.Test.YtbijhchfmboahaaGreatDoorUg
import Derived.Test.YtbijhchfmboahaaGreatDoorTie
import Derived.Test.YtbijhchfmboahaaGreatDoorCards
namespace Go.Proofs.YtbijhchfmboahaaGreatDoor
open Go.ChangeShapes Go.WideShapes Go.ChangeAt Go.WideMaps Go.WideElems Go.RowKit

set_option maxRecDepth 100000 in
/-- An array of two values, opened. -/
theorem twoV_open {H : Type} {enc : TypeId × Value → H} {W : World} {v : Value} {d : DataW H} {p : List MemPlace} (h : DataW.Trod enc Tryz.prog W 0 (fun _ => true) true 58 v d p) : ∃ a b c1 c2, v = .agg (c1 ++ c2).toArray ∧ VaC W a c1 ∧ VaC W b c2 := by
  obtain ⟨fuel, h⟩ := h
  obtain ⟨xs, m, _, _, hl, hx, hf⟩ := DataW.trod_array Tryz.underlying58 h
  have h0 := hf 0 (by omega)
  have h1 := hf 1 (by omega)
  rw [List.getElem?_eq_getElem (by omega)] at h0 h1
  obtain ⟨a, ha⟩ := va_read _ _ _ h0
  obtain ⟨b, hb⟩ := va_read _ _ _ h1
  have hc : Tryz.prog.cellsOf 58 = 8 := by kernel_rfl
  rw [hc] at hl
  rw [dVa] at ha hb
  have e : v.cells.toList = (v.cells.toList.drop (0 * 4)).take 4 ++ (v.cells.toList.drop (1 * 4)).take 4 := by
    rw [Nat.zero_mul, List.drop_zero, Nat.one_mul]
    have h2 : (v.cells.toList.drop 4).take 4 = v.cells.toList.drop 4 := List.take_of_length_le (by rw [List.length_drop]; omega)
    rw [h2, List.take_append_drop]
  refine ⟨a, b, _, _, ?_, ha, hb⟩
  rw [← e]
  cases v
  case agg cs => simp [Value.cells]
  all_goals (exfalso; simp [Value.cells] at hl)
set_option maxRecDepth 100000 in
/-- An array of two ints, opened. -/
theorem twoI_open {H : Type} {enc : TypeId × Value → H} {W : World} {v : Value} {d : DataW H} {p : List MemPlace} (h : DataW.Trod enc Tryz.prog W 0 (fun _ => true) true 68 v d p) : ∃ i j : Int, v = .agg #[.int .i64 i, .int .i64 j] := by
  obtain ⟨fuel, h⟩ := h
  obtain ⟨xs, m, _, _, hl, hx, hf⟩ := DataW.trod_array Tryz.underlying68 h
  have h0 := hf 0 (by omega)
  have h1 := hf 1 (by omega)
  rw [List.getElem?_eq_getElem (by omega)] at h0 h1
  have hc : Tryz.prog.cellsOf 68 = 2 := by kernel_rfl
  rw [hc] at hl
  rw [dInt] at h0 h1
  obtain ⟨u0, a0, b0⟩ := one_cell hl (show 0 < 2 by decide)
  obtain ⟨u1, a1, b1⟩ := one_cell hl (show 1 < 2 by decide)
  rw [Nat.zero_mul, b0] at h0
  rw [Nat.one_mul, b1] at h1
  obtain ⟨z0, r0, _, _⟩ := DataW.trod_int Tryz.underlying3 h0
  obtain ⟨z1, r1, _, _⟩ := DataW.trod_int Tryz.underlying3 h1
  obtain rfl := List.singleton_inj.1 r0
  obtain rfl := List.singleton_inj.1 r1
  refine ⟨z0, z1, ?_⟩
  have e : v.cells.toList = [.int .i64 z0, .int .i64 z1] := by
    apply List.ext_getElem?
    intro k
    match k with
    | 0 => exact a0
    | 1 => exact a1
    | k + 2 => rw [List.getElem?_eq_none (by omega), List.getElem?_eq_none (by simp)]
  obtain ⟨cs, hv⟩ : ∃ cs, v = .agg cs := by
    cases v
    case agg => exact ⟨_, rfl⟩
    all_goals (exfalso; simp [Value.cells] at hl)
  subst hv
  have e2 : cs.toList = [.int .i64 z0, .int .i64 z1] := by simpa [Value.cells] using e
  have e3 : cs = #[.int .i64 z0, .int .i64 z1] := Array.toList_inj.1 e2
  rw [e3]
set_option maxRecDepth 100000 in
theorem typesPuts_lifted (os : Os) (started : os.Started) (H : Type) (enc : TypeId × Value → H) :
    ReturnsInHanded {} Tryz.checked os 11 .any (fun w args => (Rows.typesPutsSpec.pre enc Tryz.prog Tryz.f11 [] false w args ∧ laidMetH Tryz.prog laid7 w) ∧ sizedMet enc Tryz.prog Tryz.f11 (OpenSpec.ofChange Rows.typesPutsSpec) false w args)
      (Rows.typesPutsSpec.post enc Tryz.prog Tryz.f11 false true false false) := by
  refine handed_all (C := Tryz.checked) (X := fun w _ => laidMetH Tryz.prog laid7 w) (fun _ _ _ hh h => h.of_heap hh) own started (by kernel_rfl) Tryz.func11
    (ChangeSpec.witness_shaped (enc := enc) (C := Tryz.checked) (os := os) (X := fun w _ => laidMetH Tryz.prog laid7 w) false (World.laidAll Tryz.prog os laid7) #[.agg #[.int .i64 0, .int .i64 0, .string ByteArray.empty, .slice none 0 0, .slice none 0 0], .agg #[.int .i64 0, .int .i64 0, .slice none 0 0, .slice none 0 0, .int .i64 0, .int .i64 0, .slice none 0 0, .slice none 0 0], .agg #[.int .i64 0, .int .i64 0]] 8 rfl (laid_shaped os) (by kernel_rfl) (by kernel_rfl) (by kernel_rfl) (laid_met os _)) ?_
  intro W base args ds gs before hval0 hW _ hsz0 hL hSh _
  have hW' := hW
  obtain ⟨p, q, hA0, hV, rfl, hfz, hnd⟩ := hW
  have hA1 := hA0
  have hA : DataW.TrodAll enc Tryz.prog W 0 (fun _ => true) true Tryz.f11.params.toList args.toList ds p := hA0
  rw [Tryz.params11] at hA
  obtain ⟨v0, v1, v2, d0, d1, d2, p0, p1, p2, rfl, rfl, rfl, h0, h1, h2⟩ := trodAll_three hA
  obtain ⟨rfl, rfl⟩ := trodVars_none hV
  obtain ⟨t, cs, rfl, ht⟩ := ty_open h0
  obtain ⟨a, b, c1, c2, rfl, ha, hb⟩ := twoV_open h1
  obtain ⟨i, j, rfl⟩ := twoI_open h2
  clear hval0 hsz0
  simp only [List.append_nil] at hW' hA1
  have hT := of_laid hL (max_cell hSh)
  refine (lawPuts_any t a b i j cs c1 c2 W hT ht ha hb).mono fun e W' ⟨he, hb'⟩ => ?_
  subst he
  exact ⟨_, rfl, law_post (by rw [Tryz.params11]; exact types_ok [26, 58, 68] (by kernel_rfl)) (by kernel_rfl) rfl rfl hA1 hW' hb'⟩

theorem typesPuts_said : Rows.TypesPutsSaid :=
  OpenClaim.holds_of_wide 11 Tryz.f11 rfl rfl rfl rfl rfl rfl rfl ⟨rfl, rfl, rfl, rfl, rfl⟩ rfl rfl rfl rfl rfl (by kernel_rfl) Tryz.func11 (by kernel_rfl)
    (of_decide_eq_true (by kernel_rfl)) (by unfold Func.isWrapper; first | (rw [if_pos (by decide +kernel)]; kernel_rfl) | (rw [if_neg (by decide +kernel)]; exact ⟨rfl, rfl⟩))
    (fun os started H enc _ => typesPuts_lifted os started H enc)

theorem typesPuts_holds : Rows.TypesPutsCardSaid :=
  Claim7.holds_tied_plain_at .later [] [.data, .data, .data, .data, .sentinel, .sentinel, .pinned] true _ true
    typesPuts_said (fun _ h => by cases h) (by kernel_rfl) (fun _ h => by cases h) typesPuts_row_tie rfl ⟨rfl, rfl⟩ (by kernel_rfl) rfl
    (fun f fn hf hfn => by
      obtain rfl : f = 11 := Option.some.inj ((show Tryz.prog.funcNamed "netwright/netwrightlaw04.TypesPuts" = some 11 by kernel_rfl).symm.trans hf) |>.symm
      obtain rfl : fn = Tryz.f11 := (Option.some.inj (Tryz.func11.symm.trans hfn)).symm
      exact ⟨by kernel_rfl, fun j t ht => by
        rw [Tryz.params11] at ht
        exact stand_ok [26, 58, 68] (by kernel_rfl) t (by simpa using Array.mem_of_getElem? ht)⟩)
    (by kernel_rfl)
#print axioms typesPuts_holds
end Go.Proofs.YtbijhchfmboahaaGreatDoor
