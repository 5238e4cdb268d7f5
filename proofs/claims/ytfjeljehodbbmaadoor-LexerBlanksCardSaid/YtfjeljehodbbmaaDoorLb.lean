/- The walk of LexerBack, with the program's contracts given. -/
import Derived.Test.YtfjeljehodbbmaaDoorLr
import Derived.Test.YtfjeljehodbbmaaDoorLf
namespace Go.Proofs.YtfjeljehodbbmaaDoor
open Go.RowKit

theorem wsum_le : ∀ ts : List Tok, (∀ t ∈ ts, posL t = true) → wsum ts ≤ 67 * ts.length
  | [], _ => Nat.zero_le _
  | t :: ts, h => by
    have h1 := wri_len (h t (List.mem_cons_self ..))
    have h2 := wsum_le ts fun t ht => h t (List.mem_cons_of_mem _ ht)
    rw [wsum, List.length_cons]
    omega
/-- What is written of possible tokens, read again. -/
theorem back_facts {l : List TokA} (h : l.length ≤ 200) (hp : allP l = true) : (txtS l).size ≤ 20000 ∧ txtE l = 0 ∧ (lexM (bl (txtS l))).2 = none ∧ alikeB l (lexT (txtS l)) = true := by
  obtain ⟨e1, e2⟩ := txt_yes (l := l) (by omega) hp
  have hq : ∀ t ∈ l.map tokOf, posL t = true := by
    intro t ht
    obtain ⟨a, ha, rfl⟩ := List.mem_map.1 ht
    unfold allP at hp
    exact poss_posL (List.all_eq_true.1 hp a ha)
  obtain ⟨j1, j2⟩ := lex_join hq
  have hz : (txtS l).size ≤ 20000 := by
    rw [e1, sb_size]
    have h1 := join_len (l.map tokOf)
    have h2 := wsum_le _ hq
    rw [List.length_map] at h1 h2
    omega
  have hn : (lexM (bl (txtS l))).2 = none := by rw [e1, bl_sb]; exact j2
  refine ⟨hz, e2, hn, ?_⟩
  unfold alikeB
  apply decide_eq_true
  rw [(good_facts hz hn).2.2.2, keys_mst, e1, bl_sb]
  rw [show (lexM (joinL (l.map tokOf))).1.map (·.1) = l.map tokOf from j1, List.map_map]
  apply List.map_congr_left
  intro a ha
  have hpa : possA a = true := by unfold allP at hp; exact List.all_eq_true.1 hp a ha
  unfold possA at hpa
  rw [Bool.and_eq_true, Bool.and_eq_true, decide_eq_true_eq, decide_eq_true_eq] at hpa
  show a.key = keyT (tokOf a)
  unfold TokA.key keyT tokOf
  rw [Int.toNat_of_nonneg hpa.1, Int.toNat_of_nonneg hpa.2.1]
set_option maxHeartbeats 4000000 in
theorem back_of (HL : LexC 14) (HT : TextC 18) (HN : NameC 20) (HW : WordC 21) (v : Value) (l : List TokA) (w : World) (h : Tls w v l) (hnk : NumOk l) (hw : Std w) :
    Calls Tryd.prog 7 #[v] w fun e w' => e = .returned (.bool true) ∧ Below w.heap.size w w' := by
  have HStd := Lib.hid hw
  clear hw
  have HA := Lib.hid (awake_of HL HT HN HW)
  have hLo := long_any ⟨#[]⟩ v l w (by decide) h
  have HV := Lib.hid h
  obtain ⟨A, c, rfl, hq, hn, hc⟩ := h
  cases hb : longB ⟨#[]⟩ l with
  | true =>
    clear hc
    rw [hb] at hLo
    have HLo := Lib.hid hLo
    clear hLo hb HL HT HN HW HV
    go_enter Tryd.func7, Tryd.ntmps7
    go_wp2_with fail
    refine (HLo.out).mono ?_
    rintro e w' ⟨rfl, rfl⟩
    go_wp2_with fail
    refine (HA.out _ (by first | exact HStd.out)).mono ?_
    rintro e w9 ⟨rfl, hb9⟩
    have HB9 := Lib.hid (hb9)
    clear hb9
    go_wp2
    go_ret
    exact ⟨rfl, HB9.out⟩
  | false =>
    rw [hb] at hLo
    have HLo := Lib.hid hLo
    have h2 := long_no2 hb
    have HC := Lib.hid (fun w v (h : Tls w v l) => tcopied_any v l w h (by omega))
    have HT1 := Lib.hid (fun u w h => HT u l w h (small_long hnk hb))
    have HL1 := Lib.hid (fun w => HL (txtS l) w)
    clear hLo hb HL HT HN HW
    go_enter Tryd.func7, Tryd.ntmps7
    go_wp2_with fail
    refine (HLo.out).mono ?_
    rintro e w' ⟨rfl, rfl⟩
    go_wp2_with fail
    go_loopw [16] (fun i wr => ∃ k : Nat, k ≤ l.length ∧ i = .int .i64 k ∧ Hid (allP (l.take k) = true) ∧ Below w.heap.size w wr) (fun i _ => l.length - (intOf i).toNat)
    case atStart => exact ⟨0, Nat.zero_le _, rfl, by show _ = _; rw [List.take_zero]; rfl, Below.refl _ _⟩
    case round =>
      obtain ⟨k, hk, rfl, hp, hb⟩ := hrel
      by_cases hlt : k < l.length
      · rcases hc with rfl | ⟨B, off, rfl, hc⟩
        · exact absurd hlt (by simp)
        obtain ⟨p0, p1, p2, p3, p4⟩ := hc k hlt
        have hlb := block_lt_of_cell p0
        have g0 := (hb.cell hlb).trans p0
        have g1 := (hb.cell (p := ⟨B, off + k * 5 + 1, none⟩) hlb).trans p1
        have g2 := (hb.cell (p := ⟨B, off + k * 5 + 2, none⟩) hlb).trans p2
        have g3 := (hb.cell (p := ⟨B, off + k * 5 + 3, none⟩) hlb).trans p3
        have g4 := (hb.cell (p := ⟨B, off + k * 5 + 4, none⟩) hlb).trans p4
        have HP := Lib.hid (possible_any l[k])
        have HB := Lib.hid hb
        have hki : (k : Int) < (l.length : Int) := by omega
        have hk0 : (0 : Int) ≤ (k : Int) := by omega
        have hblk : B < wr.heap.size := block_lt_of_cell g0
        obtain ⟨b, hbb⟩ : ∃ b, possA l[k] = b := ⟨_, rfl⟩
        rw [hbb] at HP
        have HNo : Hid (b = false → allP l = false) := fun e => allP_no hlt (hbb.trans e)
        have HMo : Hid (b = true → allP (l.take (k + 1)) = true) := fun e => allP_more hlt hp.out (hbb.trans e)
        generalize l[k].op = o0 at *
        generalize l[k].text = o1 at *
        generalize l[k].n = o2 at *
        generalize l[k].line = o3 at *
        generalize l[k].col = o4 at *
        clear hc p0 p1 p2 p3 p4 hlb hb hbb hp
        cases b with
        | false =>
          have HR := Lib.hid (txt_no (l := l) (fun h => by rw [HNo.out rfl] at h; cases h.2))
          have hT2 := HT1.out
          rw [HR.out.1, HR.out.2] at hT2
          have HT2 := Lib.hid hT2
          clear HNo HMo hT2 HR HL1 HT1
          go_wp2_with fail
          refine (HP.out _).mono ?_
          rintro e w1 ⟨rfl, hb1⟩
          have hba := below_then (below_alloc wr (.cells #[.int .i64 o0, .string o1, .int .i64 o2, .int .i64 o3, .int .i64 o4] 40)) hb1
          have HB1 := Lib.hid (below_then HB.out hba)
          clear hba hb1
          go_wp2_with fail
          refine (HC.out _ _ (HV.out.later HB1.out)).mono ?_
          rintro e w2 ⟨u, rfl, hown, hb2⟩
          have HU := Lib.hid hown.tls
          have HB2 := Lib.hid (below_then HB1.out hb2)
          clear hb2 hown HB1
          go_wp2_with fail
          refine (HT2.out _ _ HU.out (by first | exact HStd.out.later HB2.out | exact HStd.out.later HB1.out | exact HStd.out.later HB.out | exact HStd.out.later HB9.out | exact HStd.out)).mono ?_
          rintro e w3 ⟨rfl, hb3⟩
          have HB3 := Lib.hid (below_then HB2.out hb3)
          clear hb3 HB2 HU
          go_wp2_with fail
          refine (HA.out _ (by first | exact HStd.out.later HB3.out | exact HStd.out.later HB9.out | exact HStd.out.later HB2.out | exact HStd.out.later HB1.out | exact HStd.out.later HB.out | exact HStd.out)).mono ?_
          rintro e w9 ⟨rfl, hb9⟩
          have HB9 := Lib.hid (below_then HB3.out hb9)
          clear hb9
          go_wp2
          go_ret
          exact ⟨rfl, HB9.out⟩
        | true =>
          have HMx := Lib.hid (HMo.out rfl)
          clear HNo HMo
          go_wp2_with fail
          refine (HP.out _).mono ?_
          rintro e w1 ⟨rfl, hb1⟩
          have hba := below_then (below_alloc wr (.cells #[.int .i64 o0, .string o1, .int .i64 o2, .int .i64 o3, .int .i64 o4] 40)) hb1
          have HB1 := Lib.hid (below_then HB.out hba)
          clear hba hb1
          go_wp2
          go_roundw
          case rel => exact ⟨k + 1, by omega, by go_num, HMx, HB1.out⟩
          case measure => simp [intOf]; omega
      · have hp2 := hp.out
        rw [List.take_of_length_le (by omega)] at hp2
        obtain ⟨z1, z2, z3, z4⟩ := back_facts h2 hp2
        obtain ⟨hc1, hn1, hp1, _⟩ := good_facts z1 z3
        have hL2 := fun w => HL1.out w (by omega)
        rw [hc1, hn1, hp1] at hL2
        unfold faultV at hL2
        have hT2 := HT1.out
        rw [z2] at hT2
        have hAl := fun u v w h h' => alike_any u v l (lexT (txtS l)) w h h'
        rw [z4] at hAl
        generalize lexT (txtS l) = m at *
        generalize txtS l = t at *
        have HT2 := Lib.hid hT2
        have HL2 := Lib.hid hL2
        have HAl := Lib.hid hAl
        have HB := Lib.hid hb
        clear hT2 hL2 hAl hb HT1 HL1 hc hp hp2 z1 z2 z3 z4 hc1 hn1 hp1
        go_wp2_with fail
        refine (HC.out _ _ (HV.out.later HB.out)).mono ?_
        rintro e w2 ⟨u, rfl, hown, hb2⟩
        have HU := Lib.hid hown.tls
        have HV2 := Lib.hid ((HV.out.later HB.out).later hb2)
        have HB2 := Lib.hid (below_then HB.out hb2)
        clear hb2 hown
        go_wp2_with fail
        refine (HT2.out _ _ HU.out (by first | exact HStd.out.later HB2.out | exact HStd.out.later HB3.out | exact HStd.out.later HB1.out | exact HStd.out.later HB.out | exact HStd.out.later HB9.out | exact HStd.out)).mono ?_
        rintro e w3 ⟨rfl, hb3⟩
        have HV3 := Lib.hid (HV2.out.later hb3)
        have HB3 := Lib.hid (below_then HB2.out hb3)
        clear hb3 HB2 HU HV2
        go_wp2_with fail
        refine (HL2.out _ (by first | exact HStd.out.later HB3.out | exact HStd.out.later HB2.out | exact HStd.out.later HB1.out | exact HStd.out.later HB.out | exact HStd.out.later HB9.out | exact HStd.out)).mono ?_
        rintro e w4 ⟨v4, rfl, t4, hb4⟩
        have hal := below_alloc w4 (.cells #[.int .i64 0, .string ⟨#[]⟩, .int .i64 0, .int .i64 0] 27)
        have hb4a := below_then hb4 hal
        have HV4 := Lib.hid (HV3.out.later hb4a)
        have HY4 := Lib.hid (t4.later hal)
        have HB4 := Lib.hid (below_then HB3.out hb4a)
        obtain ⟨f0, f1, f2, f3⟩ := Flt.new w4 0 ⟨#[]⟩ 0 0
        clear hal hb4 hb4a t4 HV3 HB3
        go_wp2_with fail
        refine (HAl.out _ _ _ HV4.out HY4.out).mono ?_
        rintro e w5 ⟨rfl, hb5⟩
        have HB5 := Lib.hid (below_then HB4.out hb5)
        clear hb5 HV4 HY4 HB4
        go_wp2_with fail
        refine (HA.out _ (by first | exact HStd.out.later HB5.out | exact HStd.out.later HB9.out | exact HStd.out.later HB4.out | exact HStd.out.later HB3.out | exact HStd.out.later HB2.out | exact HStd.out.later HB1.out | exact HStd.out.later HB.out | exact HStd.out)).mono ?_
        rintro e w9 ⟨rfl, hb9⟩
        have HB9 := Lib.hid (below_then HB5.out hb9)
        clear hb9
        go_wp2
        go_ret
        exact ⟨rfl, HB9.out⟩
end Go.Proofs.YtfjeljehodbbmaaDoor
