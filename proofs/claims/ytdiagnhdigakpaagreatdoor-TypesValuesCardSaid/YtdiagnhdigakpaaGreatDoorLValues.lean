/- TypesValues: Has, Equal, Text, Bits and Split return what the chapter says, for any type and two values (of few names, elements and parts); for every input, where the library's tables and errors hold what their declarations lay (tied to the text of the pruned copy: packages api, logic, vec, lexer, types, the references 01 to 04, the law's, and the library's). -/
import Derived.Test.YtdiagnhdigakpaaGreatDoorLFirst
import Derived.Test.YtdiagnhdigakpaaGreatDoorOd
import Derived.Test.YtdiagnhdigakpaaGreatDoorTie
import Derived.Test.YtdiagnhdigakpaaGreatDoorCards
namespace Go.Proofs.YtdiagnhdigakpaaGreatDoor
open Go.ChangeShapes Go.WideShapes Go.ChangeAt Go.WideMaps Go.WideElems Go.RowKit

/-- A value that came in, opened. -/
theorem va_open {H : Type} {enc : TypeId × Value → H} {W : World} {v : Value} {d : DataW H} {p : List MemPlace} (h : DataW.Trod enc Tryz.prog W 0 (fun _ => true) true 38 v d p) : ∃ t cs, v = .agg (List.toArray cs) ∧ VaC W t cs := by
  obtain ⟨fuel, h⟩ := h
  obtain ⟨t, ht⟩ := va_read fuel _ _ h
  refine ⟨t, v.cells.toList, ?_, ht⟩
  have hl : v.cells.toList.length = 4 := by
    obtain ⟨A, n, c, B, m, d, e, _⟩ := vaC_open ht
    rw [e]
    rfl
  cases v
  case agg cs => simp [Value.cells]
  all_goals (exfalso; simp [Value.cells] at hl)
set_option maxRecDepth 100000 in
theorem typesValues_lifted (os : Os) (started : os.Started) (H : Type) (enc : TypeId × Value → H) :
    ReturnsInHanded {} Tryz.checked os 4 .any (fun w args => (Rows.typesValuesSpec.pre enc Tryz.prog Tryz.f4 [] false w args ∧ laidMetH Tryz.prog laid7 w) ∧ sizedMet enc Tryz.prog Tryz.f4 (OpenSpec.ofChange Rows.typesValuesSpec) false w args)
      (Rows.typesValuesSpec.post enc Tryz.prog Tryz.f4 false true false false) := by
  refine handed_all (C := Tryz.checked) (X := fun w _ => laidMetH Tryz.prog laid7 w) (fun _ _ _ hh h => h.of_heap hh) own started (by kernel_rfl) Tryz.func4
    (ChangeSpec.witness_shaped (enc := enc) (C := Tryz.checked) (os := os) (X := fun w _ => laidMetH Tryz.prog laid7 w) false (World.laidAll Tryz.prog os laid7) #[.agg #[.int .i64 0, .int .i64 0, .string ByteArray.empty, .slice none 0 0, .slice none 0 0], .agg #[.int .i64 0, .int .i64 0, .slice none 0 0, .slice none 0 0], .agg #[.int .i64 0, .int .i64 0, .slice none 0 0, .slice none 0 0]] 8 rfl (laid_shaped os) (by kernel_rfl) (by kernel_rfl) (by kernel_rfl) (laid_met os _)) ?_
  intro W base args ds gs before hval0 hW _ hsz0 hL hSh _
  have hW' := hW
  obtain ⟨p, q, hA0, hV, rfl, hfz, hnd⟩ := hW
  have hA1 := hA0
  have hA : DataW.TrodAll enc Tryz.prog W 0 (fun _ => true) true Tryz.f4.params.toList args.toList ds p := hA0
  rw [Tryz.params4] at hA
  obtain ⟨v0, v1, v2, d0, d1, d2, p0, p1, p2, rfl, rfl, rfl, h0, h1, h2⟩ := trodAll_three hA
  obtain ⟨rfl, rfl⟩ := trodVars_none hV
  obtain ⟨t, cs, rfl, ht⟩ := ty_open h0
  obtain ⟨a, c1, rfl, ha⟩ := va_open h1
  obtain ⟨b, c2, rfl, hb⟩ := va_open h2
  clear hval0 hsz0
  simp only [List.append_nil] at hW' hA1
  have hT := of_laid hL (max_cell hSh)
  refine (lawValues_any t a b cs c1 c2 W hT ht ha hb).mono fun e W' ⟨he, hb'⟩ => ?_
  subst he
  exact ⟨_, rfl, law_post (by rw [Tryz.params4]; exact types_ok [26, 38, 38] (by kernel_rfl)) (by kernel_rfl) rfl rfl hA1 hW' hb'⟩

theorem typesValues_said : Rows.TypesValuesSaid :=
  OpenClaim.holds_of_wide 4 Tryz.f4 rfl rfl rfl rfl rfl rfl rfl ⟨rfl, rfl, rfl, rfl, rfl⟩ rfl rfl rfl rfl rfl (by kernel_rfl) Tryz.func4 (by kernel_rfl)
    (of_decide_eq_true (by kernel_rfl)) (by unfold Func.isWrapper; first | (rw [if_pos (by decide +kernel)]; kernel_rfl) | (rw [if_neg (by decide +kernel)]; exact ⟨rfl, rfl⟩))
    (fun os started H enc _ => typesValues_lifted os started H enc)

theorem typesValues_holds : Rows.TypesValuesCardSaid :=
  Claim7.holds_tied_plain_at .later [] [.data, .data, .data, .data, .sentinel, .sentinel, .pinned] true _ true
    typesValues_said (fun _ h => by cases h) (by kernel_rfl) (fun _ h => by cases h) typesValues_row_tie rfl ⟨rfl, rfl⟩ (by kernel_rfl) rfl
    (fun f fn hf hfn => by
      obtain rfl : f = 4 := Option.some.inj ((show Tryz.prog.funcNamed "netwright/netwrightlaw04.TypesValues" = some 4 by kernel_rfl).symm.trans hf) |>.symm
      obtain rfl : fn = Tryz.f4 := (Option.some.inj (Tryz.func4.symm.trans hfn)).symm
      exact ⟨by kernel_rfl, fun j t ht => by
        rw [Tryz.params4] at ht
        exact stand_ok [26, 38, 38] (by kernel_rfl) t (by simpa using Array.mem_of_getElem? ht)⟩)
    (by kernel_rfl)
#print axioms typesValues_holds
end Go.Proofs.YtdiagnhdigakpaaGreatDoor
