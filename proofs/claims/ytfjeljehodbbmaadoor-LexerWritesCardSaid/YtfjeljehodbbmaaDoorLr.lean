/- The walk of LexerWrites, with the program's contracts given. -/
import Derived.Test.YtfjeljehodbbmaaDoorAw
import Derived.Test.YtfjeljehodbbmaaDoorTo
namespace Go.Proofs.YtfjeljehodbbmaaDoor
open Go.RowKit

theorem long_no2 {l : List TokA} (h : longB ⟨#[]⟩ l = false) : l.length ≤ 200 := by
  unfold longB at h
  simp at h
  omega
set_option maxHeartbeats 4000000 in
theorem writes_of (HL : LexC 14) (HT : TextC 18) (HN : NameC 20) (HW : WordC 21) (v : Value) (l : List TokA) (w : World) (h : Tls w v l) (hnk : NumOk l) (hw : Std w) :
    Calls Tryd.prog 5 #[v] w fun e w' => e = .returned (.bool true) ∧ Below w.heap.size w w' := by
  have HStd := Lib.hid hw
  clear hw
  have HA := Lib.hid (awake_of HL HT HN HW)
  have hLo := long_any ⟨#[]⟩ v l w (by decide) h
  have HV := Lib.hid h
  obtain ⟨A, c, rfl, hq, hn, hc⟩ := h
  clear hc
  cases hb : longB ⟨#[]⟩ l with
  | true =>
    rw [hb] at hLo
    have HLo := Lib.hid hLo
    clear hLo hb HL HT HN HW HV
    go_enter Tryd.func5, Tryd.ntmps5
    go_wp2_with fail
    refine (HLo.out).mono ?_
    rintro e w' ⟨rfl, rfl⟩
    go_wp2_with fail
    refine (HA.out _ (by first | exact HStd.out)).mono ?_
    rintro e w9 ⟨rfl, hb9⟩
    have HB9 := Lib.hid (hb9)
    clear hb9
    go_wp2
    go_ret
    exact ⟨rfl, HB9.out⟩
  | false =>
    rw [hb] at hLo
    have HLo := Lib.hid hLo
    have h2 := long_no2 hb
    have HC := Lib.hid (tcopied_any _ l w HV.out (by omega))
    have hT1 := fun u w h => HT u l w h (small_long hnk hb)
    have hT2 := fun u w h => refText_any u l w h
    generalize txtS l = t at *
    generalize txtE l = k at *
    have HT1 := Lib.hid hT1
    have HT2 := Lib.hid hT2
    clear hT1 hT2 hLo hb HL HT HN HW
    go_enter Tryd.func5, Tryd.ntmps5
    go_wp2_with fail
    refine (HLo.out).mono ?_
    rintro e w' ⟨rfl, rfl⟩
    go_wp2_with fail
    refine (HC.out).mono ?_
    rintro e w1 ⟨u, rfl, hown, hb1⟩
    have HM1 := Lib.hid hown.tls
    have HV1 := Lib.hid (HV.out.later hb1)
    have HB1 := Lib.hid hb1
    clear hb1 hown
    go_wp2_with fail
    refine (HT1.out _ _ HM1.out (by first | exact HStd.out.later HB1.out | exact HStd.out.later HB9.out | exact HStd.out)).mono ?_
    rintro e w2 ⟨rfl, hb2⟩
    have HM2 := Lib.hid (HM1.out.later hb2)
    have HV2 := Lib.hid (HV1.out.later hb2)
    have HB2 := Lib.hid (below_then HB1.out hb2)
    clear hb2 HM1 HV1 HB1
    go_wp2_with fail
    refine (HT2.out _ _ HV2.out).mono ?_
    rintro e w3 ⟨rfl, hb3⟩
    have HM3 := Lib.hid (HM2.out.later hb3)
    have HV3 := Lib.hid (HV2.out.later hb3)
    have HB3 := Lib.hid (below_then HB2.out hb3)
    clear hb3 HM2 HV2 HB2
    go_wp2_with fail
    refine (tsame_at _ _ l _ HV3.out HM3.out).mono ?_
    rintro e w4 ⟨rfl, hb4⟩
    have HB4 := Lib.hid (below_then HB3.out hb4)
    clear hb4 HM3 HV3 HB3
    go_wp2_with fail
    refine (HA.out _ (by first | exact HStd.out.later HB4.out | exact HStd.out.later HB9.out | exact HStd.out.later HB3.out | exact HStd.out.later HB2.out | exact HStd.out.later HB1.out | exact HStd.out)).mono ?_
    rintro e w9 ⟨rfl, hb9⟩
    have HB9 := Lib.hid (below_then HB4.out hb9)
    clear hb9
    go_wp2
    go_ret
    exact ⟨rfl, HB9.out⟩
end Go.Proofs.YtfjeljehodbbmaaDoor
