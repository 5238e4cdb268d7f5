/- The walk of LexerNames, with the program's contracts given. -/
import Derived.Test.YtfjeljehodbbmaaDoorAw
namespace Go.Proofs.YtfjeljehodbbmaaDoor
open Go.RowKit

theorem name_word {l : List UInt8} (h : isNameL l = true) : isWordL l = false := by
  unfold isNameL at h
  rw [Bool.and_eq_true, Bool.and_eq_true, Bool.and_eq_true] at h
  simpa using h.2.2.2
set_option maxHeartbeats 2000000 in
theorem names_of (HL : LexC 14) (HT : TextC 18) (HN : NameC 20) (HW : WordC 21) (s : ByteArray) (w : World) (hs : s.size ≤ 140737488355328) (hw : Std w) :
    Calls Tryd.prog 6 #[.string s] w fun e w' => e = .returned (.bool true) ∧ Below w.heap.size w w' := by
  have HStd := Lib.hid hw
  clear hw
  have HA := Lib.hid (awake_of HL HT HN HW)
  have HLo := Lib.hid (long_any s (.slice none 0 0) [] w hs (tls_nil w))
  have HN1 := Lib.hid (fun w => HN s w hs)
  have HW1 := Lib.hid (HW s)
  have HN2 := Lib.hid (refIsName_any s)
  have HW2 := Lib.hid (refIsWord_any s)
  have hno := @name_word (bl s)
  clear HL HT HN HW
  generalize isNameL (bl s) = n at *
  generalize isWordL (bl s) = m at *
  generalize longB s [] = b at *
  have hcase : (n = false ∧ m = false) ∨ (n = true ∧ m = false) ∨ (n = false ∧ m = true) := by
    cases n
    · cases m
      · exact .inl ⟨rfl, rfl⟩
      · exact .inr (.inr ⟨rfl, rfl⟩)
    · exact .inr (.inl ⟨rfl, hno rfl⟩)
  clear hno
  cases b with
  | true =>
    clear hcase
    go_enter Tryd.func6, Tryd.ntmps6
    go_wp2_with fail
    refine (HLo.out).mono ?_
    rintro e w' ⟨rfl, rfl⟩
    go_wp2_with fail
    refine (HA.out _ (by first | exact HStd.out)).mono ?_
    rintro e w9 ⟨rfl, hb9⟩
    have HB9 := Lib.hid (hb9)
    clear hb9
    go_wp2
    go_ret
    exact ⟨rfl, HB9.out⟩
  | false =>
    rcases hcase with ⟨rfl, rfl⟩ | ⟨rfl, rfl⟩ | ⟨rfl, rfl⟩
    all_goals
      go_enter Tryd.func6, Tryd.ntmps6
      go_wp2_with fail
      refine (HLo.out).mono ?_
      rintro e w' ⟨rfl, rfl⟩
      go_wp2_with fail
      refine (HN1.out _).mono ?_
      rintro e w1 ⟨rfl, hb1⟩
      have HB1 := Lib.hid hb1
      clear hb1
      go_wp2_with fail
      refine (HW1.out _).mono ?_
      rintro e w2 ⟨rfl, hb2⟩
      have HB2 := Lib.hid (below_then HB1.out hb2)
      clear hb2
      go_wp2_with fail
      refine (HN2.out _).mono ?_
      rintro e w3 ⟨rfl, hb3⟩
      have HB3 := Lib.hid (below_then HB2.out hb3)
      clear hb3
      go_wp2_with fail
      refine (HW2.out _).mono ?_
      rintro e w4 ⟨rfl, hb4⟩
      have HB4 := Lib.hid (below_then HB3.out hb4)
      clear hb4
      go_wp2_with fail
      refine (HA.out _ (by first | exact HStd.out.later HB4.out | exact HStd.out.later HB9.out | exact HStd.out.later HB3.out | exact HStd.out.later HB2.out | exact HStd.out.later HB1.out | exact HStd.out)).mono ?_
      rintro e w9 ⟨rfl, hb9⟩
      have HB9 := Lib.hid (below_then HB4.out hb9)
      clear hb9
      go_wp2
      go_ret
      exact ⟨rfl, HB9.out⟩
end Go.Proofs.YtfjeljehodbbmaaDoor
