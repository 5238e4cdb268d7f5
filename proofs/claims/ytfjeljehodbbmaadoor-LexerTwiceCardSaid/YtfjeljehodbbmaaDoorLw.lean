/- The walk of LexerTwice, with the program's contracts given. -/
import Derived.Test.YtfjeljehodbbmaaDoorAw
import Derived.Test.YtfjeljehodbbmaaDoorLf
namespace Go.Proofs.YtfjeljehodbbmaaDoor
open Go.RowKit

set_option maxHeartbeats 4000000 in
theorem twice_of (HL : LexC 14) (HT : TextC 18) (HN : NameC 20) (HW : WordC 21) (s : ByteArray) (w : World) (hs : s.size ≤ 140737488355328) (hw : Std w) :
    Calls Tryd.prog 8 #[.string s] w fun e w' => e = .returned (.bool true) ∧ Below w.heap.size w w' := by
  have HStd := Lib.hid hw
  clear hw
  have HA := Lib.hid (awake_of HL HT HN HW)
  have hLo := long_any s (.slice none 0 0) [] w hs (tls_nil w)
  cases hb : longB s [] with
  | true =>
    rw [hb] at hLo
    have HLo := Lib.hid hLo
    clear hLo hb HL HT HN HW
    go_enter Tryd.func8, Tryd.ntmps8
    go_wp2_with fail
    refine (HLo.out).mono ?_
    rintro e w' ⟨rfl, rfl⟩
    go_wp2_with fail
    refine (HA.out _ (by first | exact HStd.out)).mono ?_
    rintro e w9 ⟨rfl, hb9⟩
    have HB9 := Lib.hid (hb9)
    clear hb9
    go_wp2
    go_ret
    exact ⟨rfl, HB9.out⟩
  | false =>
    rw [hb] at hLo
    have HLo := Lib.hid hLo
    have h3 := long_no hb
    have hL1 := fun w => HL s w hs
    cases hm : (lexM (bl s)).2 with
    | some r =>
      obtain ⟨hc, hn, hp, ht⟩ := bad_facts (by omega) hm
      obtain ⟨_, _, k1, k2, k3, k4, k5⟩ := fault_facts hm
      rw [hc, hn, hp, ht] at hL1
      unfold faultV at hL1
      generalize s.extract (s.size - r) (s.size - r + 1) = nm at *
      generalize (placeL ((bl s).take (s.size - r))).1 = x at *
      generalize (placeL ((bl s).take (s.size - r))).2 = y at *
      have HL1 := Lib.hid hL1
      have d1 : decide ((1 : Int) ≤ (x : Int)) = true := by rw [decide_eq_true_eq]; omega
      have d2 : decide ((1 : Int) ≤ (y : Int)) = true := by rw [decide_eq_true_eq]; omega
      have d1' : decide (1 ≤ x) = true := by rw [decide_eq_true_eq]; omega
      have d2' : decide (1 ≤ y) = true := by rw [decide_eq_true_eq]; omega
      clear hL1 hLo hb HL HT HN HW hc hn hp ht hm k2 k3 k4 k5
      go_enter Tryd.func8, Tryd.ntmps8
      go_wp2_with fail
      refine (HLo.out).mono ?_
      rintro e w' ⟨rfl, rfl⟩
      go_wp2_with fail
      refine (HL1.out _ (by first | exact HStd.out.later HB9.out | exact HStd.out)).mono ?_
      rintro e w1 ⟨v1, rfl, t1, hb1⟩
      have hal := below_alloc w1 (.cells #[.int .i64 ((10 : Nat) : Int), .string nm, .int .i64 (x : Nat), .int .i64 (y : Nat)] 27)
      have hal2 := below_alloc w1 (.cells #[.int .i64 10, .string nm, .int .i64 (x : Nat), .int .i64 (y : Nat)] 27)
      obtain ⟨A, c1, rfl, _⟩ := t1
      have HB1 := Lib.hid (below_then hb1 hal2)
      clear hal hal2 hb1
      rw [List.length_nil]
      go_wp2_with fail
      refine (HA.out _ (by first | exact HStd.out.later HB1.out | exact HStd.out.later HB9.out | exact HStd.out)).mono ?_
      rintro e w9 ⟨rfl, hb9⟩
      have HB9 := Lib.hid (below_then HB1.out hb9)
      clear hb9
      go_wp2
      go_ret
      exact ⟨rfl, HB9.out⟩
    | none =>
      obtain ⟨hc, hn, hp, _⟩ := good_facts (s := s) (by omega) hm
      obtain ⟨e1, e2⟩ := txt_lex (s := s) (by omega) hm
      obtain ⟨z1, z2, z3, z4⟩ := twice_facts h3 hm
      obtain ⟨hc2, hn2, hp2, _⟩ := good_facts z1 z2
      obtain ⟨e3, e4⟩ := txt_lex z1 z2
      rw [z3] at e3
      rw [hc, hn, hp] at hL1
      unfold faultV at hL1
      have hL2 := fun w => HL (sb (joinL (toksL (bl s)))) w (by omega)
      rw [hc2, hn2, hp2] at hL2
      unfold faultV at hL2
      have hT1 := fun v w h => HT v (lexT s) w h (small_lexT s)
      rw [e1, e2] at hT1
      have hT2 := fun v w h => HT v (lexT (sb (joinL (toksL (bl s))))) w h (small_lexT _)
      rw [e3, e4] at hT2
      have hAl := fun u v w h h' => alike_any u v (lexT s) (lexT (sb (joinL (toksL (bl s))))) w h h'
      rw [z4] at hAl
      generalize lexT (sb (joinL (toksL (bl s)))) = m at *
      generalize sb (joinL (toksL (bl s))) = t at *
      generalize lexT s = l at *
      have HL1 := Lib.hid hL1
      have HL2 := Lib.hid hL2
      have HT1 := Lib.hid hT1
      have HT2 := Lib.hid hT2
      have HAl := Lib.hid hAl
      clear hL1 hL2 hT1 hT2 hAl hLo hb HL HT HN HW hc hn hp hm z1 z2 z3 z4 hc2 hn2 hp2 e1 e2 e3 e4
      go_enter Tryd.func8, Tryd.ntmps8
      go_wp2_with fail
      refine (HLo.out).mono ?_
      rintro e w' ⟨rfl, rfl⟩
      go_wp2_with fail
      refine (HL1.out _ (by first | exact HStd.out.later HB1.out | exact HStd.out.later HB9.out | exact HStd.out)).mono ?_
      rintro e w1 ⟨v1, rfl, t1, hb1⟩
      have hal := below_alloc w1 (.cells #[.int .i64 0, .string ⟨#[]⟩, .int .i64 0, .int .i64 0] 27)
      have HX1 := Lib.hid (t1.later hal)
      have HB1 := Lib.hid (below_then hb1 hal)
      clear hal hb1 t1
      go_wp2_with fail
      refine (HT1.out _ _ HX1.out (by first | exact HStd.out.later HB1.out | exact HStd.out.later HB9.out | exact HStd.out)).mono ?_
      rintro e w2 ⟨rfl, hb2⟩
      have HX2 := Lib.hid (HX1.out.later hb2)
      have HB2 := Lib.hid (below_then HB1.out hb2)
      clear hb2 HX1 HB1
      go_wp2_with fail
      refine (HL2.out _ (by first | exact HStd.out.later HB2.out | exact HStd.out.later HB1.out | exact HStd.out.later HB9.out | exact HStd.out)).mono ?_
      rintro e w3 ⟨v3, rfl, t3, hb3⟩
      have hal := below_alloc w3 (.cells #[.int .i64 0, .string ⟨#[]⟩, .int .i64 0, .int .i64 0] 27)
      have hb3a := below_then hb3 hal
      have HX3 := Lib.hid (HX2.out.later hb3a)
      have HY3 := Lib.hid (t3.later hal)
      have HB3 := Lib.hid (below_then HB2.out hb3a)
      have HF3 := Lib.hid (Flt.new w3 0 ⟨#[]⟩ 0 0)
      clear hal hb3 hb3a t3 HX2 HB2
      go_wp2_with fail
      refine (HT2.out _ _ HY3.out (by first | exact HStd.out.later HB3.out | exact HStd.out.later HB2.out | exact HStd.out.later HB1.out | exact HStd.out.later HB9.out | exact HStd.out)).mono ?_
      rintro e w4 ⟨rfl, hb4⟩
      have HX4 := Lib.hid (HX3.out.later hb4)
      have HY4 := Lib.hid (HY3.out.later hb4)
      have HB4 := Lib.hid (below_then HB3.out hb4)
      obtain ⟨f0, f1, f2, f3⟩ := HF3.out.later hb4
      clear hb4 HX3 HY3 HB3 HF3
      go_wp2_with fail
      refine (HAl.out _ _ _ HX4.out HY4.out).mono ?_
      rintro e w5 ⟨rfl, hb5⟩
      have HB5 := Lib.hid (below_then HB4.out hb5)
      clear hb5 HX4 HY4 HB4
      go_wp2_with fail
      refine (HA.out _ (by first | exact HStd.out.later HB5.out | exact HStd.out.later HB9.out | exact HStd.out.later HB4.out | exact HStd.out.later HB3.out | exact HStd.out.later HB2.out | exact HStd.out.later HB1.out | exact HStd.out)).mono ?_
      rintro e w9 ⟨rfl, hb9⟩
      have HB9 := Lib.hid (below_then HB5.out hb9)
      clear hb9
      go_wp2
      go_ret
      exact ⟨rfl, HB9.out⟩
end Go.Proofs.YtfjeljehodbbmaaDoor
