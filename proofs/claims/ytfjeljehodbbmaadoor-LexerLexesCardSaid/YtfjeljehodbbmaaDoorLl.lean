/- The walk of LexerLexes, with the program's contracts given. -/
import Derived.Test.YtfjeljehodbbmaaDoorAw
namespace Go.Proofs.YtfjeljehodbbmaaDoor
open Go.RowKit

set_option maxHeartbeats 4000000 in
theorem lexes_of (HL : LexC 14) (HT : TextC 18) (HN : NameC 20) (HW : WordC 21) (s : ByteArray) (w : World) (hs : s.size ≤ 140737488355328) (hw : Std w) :
    Calls Tryd.prog 3 #[.string s] w fun e w' => e = .returned (.bool true) ∧ Below w.heap.size w w' := by
  have HStd := Lib.hid hw
  clear hw
  have HA := Lib.hid (awake_of HL HT HN HW)
  have HLo := Lib.hid (long_any s (.slice none 0 0) [] w hs (tls_nil w))
  have hL1 := fun w => HL s w hs
  have hL2 := fun w => refLex_c s w hs
  unfold faultV at hL1 hL2
  clear HL HT HN HW
  generalize lexC s = c at *
  generalize lexN s = nm at *
  generalize (lexP s).1 = x at *
  generalize (lexP s).2 = y at *
  generalize lexT s = l at *
  have HL1 := Lib.hid hL1
  have HL2 := Lib.hid hL2
  clear hL1 hL2
  generalize longB s [] = b at *
  cases b with
  | true =>
    go_enter Tryd.func3, Tryd.ntmps3
    go_wp2_with fail
    refine (HLo.out).mono ?_
    rintro e w' ⟨rfl, rfl⟩
    go_wp2_with fail
    refine (HA.out _ (by first | exact HStd.out)).mono ?_
    rintro e w9 ⟨rfl, hb9⟩
    have HB9 := Lib.hid (hb9)
    clear hb9
    go_wp2
    go_ret
    exact ⟨rfl, HB9.out⟩
  | false =>
    go_enter Tryd.func3, Tryd.ntmps3
    go_wp2_with fail
    refine (HLo.out).mono ?_
    rintro e w' ⟨rfl, rfl⟩
    go_wp2_with fail
    refine (HL1.out _ (by first | exact HStd.out.later HB9.out | exact HStd.out)).mono ?_
    rintro e w1 ⟨v1, rfl, t1, hb1⟩
    have hal := below_alloc w1 (.cells #[.int .i64 (c : Nat), .string nm, .int .i64 (x : Nat), .int .i64 (y : Nat)] 27)
    have HF1 := Lib.hid (Flt.new w1 c nm x y)
    have HT1 := Lib.hid (t1.later hal)
    have HB1 := Lib.hid (below_then hb1 hal)
    clear hal t1 hb1
    go_wp2_with fail
    refine (HL2.out _ (by first | exact HStd.out.later HB1.out | exact HStd.out.later HB9.out | exact HStd.out)).mono ?_
    rintro e w2 ⟨v2, rfl, t2, hb2⟩
    have hal := below_alloc w2 (.cells #[.int .i64 (c : Nat), .string nm, .int .i64 (x : Nat), .int .i64 (y : Nat)] 27)
    have hb2a := below_then hb2 hal
    obtain ⟨f0, f1, f2, f3⟩ := HF1.out.later hb2a
    have HT2 := Lib.hid (t2.later hal)
    have HT12 := Lib.hid (HT1.out.later hb2a)
    have HB2 := Lib.hid (below_then HB1.out hb2a)
    clear hal t2 hb2 hb2a HF1 HT1 HB1
    go_wp2_with fail
    refine (tsame_at _ _ l _ HT12.out HT2.out).mono ?_
    rintro e w3 ⟨rfl, hb3⟩
    have HB3 := Lib.hid (below_then HB2.out hb3)
    clear hb3 HT12 HT2 HB2
    go_wp2_with fail
    refine (HA.out _ (by first | exact HStd.out.later HB3.out | exact HStd.out.later HB9.out | exact HStd.out.later HB2.out | exact HStd.out.later HB1.out | exact HStd.out)).mono ?_
    rintro e w9 ⟨rfl, hb9⟩
    have HB9 := Lib.hid (below_then HB3.out hb9)
    clear hb9
    go_wp2
    go_ret
    exact ⟨rfl, HB9.out⟩
end Go.Proofs.YtfjeljehodbbmaaDoor
