/- The walk of LexerPlaces, with the program's contracts given. -/
import Derived.Test.YtfjeljehodbbmaaDoorLq
import Derived.Test.YtfjeljehodbbmaaDoorRi
import Derived.Test.YtfjeljehodbbmaaDoorAw
namespace Go.Proofs.YtfjeljehodbbmaaDoor
open Go.RowKit

set_option maxRecDepth 100000 in
set_option maxHeartbeats 4000000 in
theorem places_of (HL : LexC 14) (HT : TextC 18) (HN : NameC 20) (HW : WordC 21) (s : ByteArray) (w : World) (hs : s.size ≤ 140737488355328) (hw : Std w) :
    Calls Tryd.prog 10 #[.string s] w fun e w' => e = .returned (.bool true) ∧ Below w.heap.size w w' := by
  have HStd := Lib.hid hw
  clear hw
  have HA := Lib.hid (awake_of HL HT HN HW)
  have hLo := long_any s (.slice none 0 0) [] w hs (tls_nil w)
  cases hb : longB s [] with
  | true =>
    rw [hb] at hLo
    have HLo := Lib.hid hLo
    clear hLo hb HL HT HN HW
    go_enter Tryd.func10, Tryd.ntmps10
    go_wp2_with fail
    refine (HLo.out).mono ?_
    rintro e w' ⟨rfl, rfl⟩
    go_wp2_with fail
    refine (HA.out _ (by first | exact HStd.out)).mono ?_
    rintro e w9 ⟨rfl, hb9⟩
    have HB9 := Lib.hid (hb9)
    clear hb9
    go_wp2
    go_ret
    exact ⟨rfl, HB9.out⟩
  | false =>
    rw [hb] at hLo
    have HLo := Lib.hid hLo
    have h3 := long_no hb
    have hL1 := fun w => HL s w hs
    cases hm : (lexM (bl s)).2 with
    | some r =>
      obtain ⟨hc, hn, hp, ht⟩ := bad_facts (by omega) hm
      rw [hc, hn, hp, ht] at hL1
      unfold faultV at hL1
      generalize s.extract (s.size - r) (s.size - r + 1) = nm at *
      generalize (placeL ((bl s).take (s.size - r))).1 = x at *
      generalize (placeL ((bl s).take (s.size - r))).2 = y at *
      have HL1 := Lib.hid hL1
      clear hL1 hLo hb HL HT HN HW hc hn hp ht hm
      go_enter Tryd.func10, Tryd.ntmps10
      go_wp2_with fail
      refine (HLo.out).mono ?_
      rintro e w' ⟨rfl, rfl⟩
      go_wp2_with fail
      refine (HL1.out _ (by first | exact HStd.out.later HB9.out | exact HStd.out)).mono ?_
      rintro e w1 ⟨v1, rfl, t1, hb1⟩
      have hal := below_alloc w1 (.cells #[.int .i64 ((10 : Nat) : Int), .string nm, .int .i64 (x : Nat), .int .i64 (y : Nat)] 27)
      have HB1 := Lib.hid (below_then hb1 hal)
      clear hal hb1
      go_wp2_with fail
      refine (HA.out _ (by first | exact HStd.out.later HB1.out | exact HStd.out.later HB9.out | exact HStd.out)).mono ?_
      rintro e w9 ⟨rfl, hb9⟩
      have HB9 := Lib.hid (below_then HB1.out hb9)
      clear hb9
      go_wp2
      go_ret
      exact ⟨rfl, HB9.out⟩
    | none =>
      obtain ⟨hc, hn, hp, ht⟩ := good_facts (s := s) (by omega) hm
      rw [hc, hn, hp] at hL1
      unfold faultV at hL1
      have HL1 := Lib.hid hL1
      have HTl := Lib.hid ht
      clear hL1 hLo hb HL HT HN HW hc hn hp ht hm
      go_enter Tryd.func10, Tryd.ntmps10
      go_wp2_with fail
      refine (HLo.out).mono ?_
      rintro e w' ⟨rfl, rfl⟩
      go_wp2_with fail
      refine (HL1.out _ (by first | exact HStd.out.later HB1.out | exact HStd.out.later HB9.out | exact HStd.out)).mono ?_
      rintro e w1 ⟨v1, rfl, t1, hb1⟩
      have hal := below_alloc w1 (.cells #[.int .i64 0, .string ⟨#[]⟩, .int .i64 0, .int .i64 0] 27)
      have HBW := Lib.hid (below_then hb1 hal)
      have HTW := Lib.hid (t1.later hal)
      have HO1 := Lib.hid (OwnI.one (w1.alloc (.cells #[.int .i64 0, .string ⟨#[]⟩, .int .i64 0, .int .i64 0] 27)) 0)
      rw [World.size_alloc] at HO1
      have HBS := Lib.hid (below_alloc (w1.alloc (.cells #[.int .i64 0, .string ⟨#[]⟩, .int .i64 0, .int .i64 0] 27)) (.cells #[.int .i64 0] 3))
      clear hal hb1 t1
      go_wp2_with fail
      go_loopw [5, 27] (fun v i wr => ∃ k : Nat, k ≤ s.size ∧ i = .int .i64 k ∧ OwnI wr (w1.heap.size + 1) v (startsL ((bl s).take k)) ∧ Hid (Below (w1.alloc (.cells #[.int .i64 0, .string ⟨#[]⟩, .int .i64 0, .int .i64 0] 27)).heap.size (w1.alloc (.cells #[.int .i64 0, .string ⟨#[]⟩, .int .i64 0, .int .i64 0] 27)) wr)) (fun _ i _ => s.size - (intOf i).toNat)
      case atStart => exact ⟨0, Nat.zero_le _, rfl, by rw [List.take_zero]; exact HO1.out, HBS⟩
      case round =>
        obtain ⟨k, hk, rfl, hown, HB⟩ := hrel
        have HO := Lib.hid hown
        clear hown HO1 HBS
        by_cases hlt : k < s.size
        · have hki : (k : Int) < (s.size : Int) := by omega
          have hp := starts_snoc ((bl s).take k) (s[k]'hlt)
          have ht : (bl s).take (k + 1) = (bl s).take k ++ [s[k]'hlt] := by rw [List.take_succ_eq_append_getElem (by rw [bl_len]; exact hlt), bl_get s k hlt]
          rw [← ht, List.length_take, bl_len, Nat.min_eq_left (by omega)] at hp
          have hsl : (startsL ((bl s).take k)).length + 1 ≤ 100000000 := by
            have h1 := (place_at ((bl s).take k)).1
            have h2 := (place_le ((bl s).take k)).1
            rw [List.length_take, bl_len] at h2
            omega
          clear ht HTl HTW HL1 HLo
          by_cases h : s[k]'hlt = 10
          · have t : (((s[k]'hlt).toNat : Int) == 10) = true := u8_eq (n := 10) (by omega) h
            rw [if_pos h] at hp
            have HR := Lib.hid hp
            obtain ⟨j, hj⟩ : ∃ j, j = k + 1 := ⟨_, rfl⟩
            have hkj : (k : Int) + 1 = (j : Int) := by omega
            rw [← hj] at HR
            have hjs : j ≤ s.size := by omega
            have HJ := Lib.hid hj
            clear hp h hj
            go_wp2_with (at_builtin; refine wpList_append_int rfl _ _ rfl (w1.heap.size + 1) _ (startsL ((bl s).take k)) wr.heap.size j rfl rfl (HO.out.kept (below_alloc _ _)) (by rw [World.cell?_alloc_at _ _ _ _ rfl]; rfl) hsl ?_; intro v' w' hown hb)
            go_roundw
            case rel => exact ⟨j, hjs, rfl, by rw [HR.out]; exact hown, (HB.out.alloc HB.out.size _).trans (hb _ (by rw [World.size_alloc]; omega))⟩
            case measure => have := HJ.out; simp [intOf]; omega
          · have t : (((s[k]'hlt).toNat : Int) == 10) = false := u8_ne (n := 10) (by omega) h
            rw [if_neg h] at hp
            rw [← hp] at HO
            clear hp h
            go_wp2
            go_roundw
            case rel => exact ⟨k + 1, by omega, by go_num, HO.out, HB⟩
            case measure => simp [intOf]; omega
        · have hks : k = s.size := by omega
          subst hks
          rw [List.take_of_length_le (by rw [bl_len]; omega)] at HO
          have hne : startsL (bl s) ≠ [] := by unfold startsL; simp
          obtain ⟨g, cg, rfl, hgb, hcells⟩ := HO.out.cells hne
          have HC := Lib.hid hcells
          have HV := Lib.hid (HTW.out.later HB.out)
          have hsl : (startsL (bl s)).length ≤ 3001 := by
            have h1 := (place_at (bl s)).1
            have h2 := (place_le (bl s)).1
            rw [bl_len] at h2
            omega
          have HBx := Lib.hid (below_then HBW.out HB.out)
          clear HTW hcells HO HL1 HLo hne
          obtain ⟨A, c, rfl, hq, hn, hc⟩ := HV.out
          go_wp2_with fail
          go_loopw [7, 42] (fun v i wt => ∃ (k : Nat) (e : Int), k ≤ (lexT s).length ∧ i = .int .i64 k ∧ v = .int .i64 e ∧ -1 ≤ e ∧ e ≤ 3000 ∧ Hid (∀ h : k < (lexM (bl s)).1.length, e < (atN s ((lexM (bl s)).1[k]'h) : Int)) ∧ Hid (Below wr.heap.size wr wt)) (fun _ i _ => (lexT s).length - (intOf i).toNat)
          case atStart => exact ⟨0, -1, Nat.zero_le _, rfl, rfl, by omega, by omega, fun h => by show (-1 : Int) < _; omega, Below.refl _ _⟩
          case round =>
            obtain ⟨k, e, hk, rfl, rfl, he1, he2, HE, HBt⟩ := hrel
            have hll : (lexT s).length = (lexM (bl s)).1.length := by rw [HTl.out, List.length_map]
            by_cases hlt : k < (lexT s).length
            · have hlt' : k < (lexM (bl s)).1.length := by omega
              have hget : (lexT s)[k] = mstA s ((lexM (bl s)).1[k]'hlt') := by
                simp only [HTl.out, List.getElem_map]
              rcases hc with h0 | ⟨B, off, rfl, hc⟩
              · rw [h0] at hlt; exact absurd hlt (by simp)
              obtain ⟨p0, p1, p2, p3, p4⟩ := hc k hlt
              rw [hget] at p0 p1 p2 p3 p4
              have hlb := block_lt_of_cell p0
              have g0 := (HBt.out.cell hlb).trans p0
              have g1 := (HBt.out.cell (p := ⟨B, off + k * 5 + 1, none⟩) hlb).trans p1
              have g2 := (HBt.out.cell (p := ⟨B, off + k * 5 + 2, none⟩) hlb).trans p2
              have g3 := (HBt.out.cell (p := ⟨B, off + k * 5 + 3, none⟩) hlb).trans p3
              have g4 := (HBt.out.cell (p := ⟨B, off + k * 5 + 4, none⟩) hlb).trans p4
              obtain ⟨m1, m2, m3, m4, m5, m6, m7, m8, m9, m10⟩ := at_facts (List.getElem_mem hlt')
              have hE := HE.out hlt'
              have hnext : ∀ h : k + 1 < (lexM (bl s)).1.length, (atN s ((lexM (bl s)).1[k]'hlt') : Int) < (atN s ((lexM (bl s)).1[k + 1]'h) : Int) := fun h => by have := at_rise h; omega
              have hki : (k : Int) < ((lexT s).length : Int) := by omega
              have hk0 : (0 : Int) ≤ (k : Int) := by omega
              have hpa := poss_mst (s := s) m3
              have HWr := Lib.hid (written_any (mstA s ((lexM (bl s)).1[k]'hlt')) hpa)
              have htk := tokOf_mst s ((lexM (bl s)).1[k]'hlt')
              rw [htk] at HWr
              have hcell := HC.out ((placeL ((bl s).take (atN s ((lexM (bl s)).1[k]'hlt')))).1 - 1) (by omega)
              rw [List.getD_eq_getElem?_getD, List.getElem?_eq_getElem (by omega), Option.getD_some] at m10
              unfold mstA at g0 g1 g2 g3 g4 HWr
              simp only at g0 g1 g2 g3 g4 HWr
              have g5 := (HBt.out.cell (block_lt_of_cell hcell)).trans hcell
              unfold atN at m1 m2 m4 m5 m6 m7 m8 m9 m10 hE hnext g5
              clear p0 p1 p2 p3 p4 hlb hc hcell htk hpa m3 hget HE
              have HBB := Lib.hid HBt.out
              have HBw := Lib.hid (HBx.out.trans (HBt.out.mono HBx.out.size))
              generalize (startsL (bl s))[(placeL ((bl s).take (s.size - ((lexM (bl s)).1[k]'hlt').2))).1 - 1]'(by omega) = q at g5 m10
              generalize (lexM (bl s)).1[k]'hlt' = a at *
              generalize s.size - a.2 = P at *
              generalize (placeL ((bl s).take P)).1 = x at *
              generalize (placeL ((bl s).take P)).2 = y at *
              obtain ⟨r, hr⟩ : ∃ r, r = x - 1 := ⟨_, rfl⟩
              rw [← hr] at g5
              have hxr : (x : Int) - 1 = (r : Int) := by omega
              obtain ⟨u, hu⟩ : ∃ u, u = q + y := ⟨_, rfl⟩
              have hqu : (q : Int) + (y : Int) = (u : Int) := by omega
              have huP : (u : Int) - 1 = (P : Int) := by omega
              have hqb : q ≤ 3001 := by omega
              have hub : u ≤ 3001 := by omega
              have hrl : (r : Int) < ((startsL (bl s)).length : Int) := by omega
              have d1 : decide ((x : Int) < 1) = false := by rw [decide_eq_false_iff_not]; omega
              have d2 : decide (((startsL (bl s)).length : Int) < (x : Int)) = false := by rw [decide_eq_false_iff_not]; omega
              have d3 : decide ((y : Int) < 1) = false := by rw [decide_eq_false_iff_not]; omega
              have d4 : decide ((s.size : Int) < (y : Int)) = false := by rw [decide_eq_false_iff_not]; omega
              have d5 : decide ((P : Int) ≤ e) = false := by rw [decide_eq_false_iff_not]; omega
              have d6 : decide ((s.size : Int) ≤ (P : Int)) = false := by rw [decide_eq_false_iff_not]; omega
              have d2' : decide ((startsL (bl s)).length < x) = false := by rw [decide_eq_false_iff_not]; omega
              have d4' : decide (s.size < y) = false := by rw [decide_eq_false_iff_not]; omega
              have d6' : decide (s.size ≤ P) = false := by rw [decide_eq_false_iff_not]; omega
              have HNx := Lib.hid hnext
              have hW : (sb (wriL a.1)).size = (wriL a.1).length := sb_size _
              clear HC HV
              generalize hSt : (startsL (bl s)).length = sl at *
              generalize hLl : (lexT s).length = ll at *
              clear hr hu m10 hnext hSt hLl hE hll hlt'
              generalize wriL a.1 = W at *
              generalize a.1.op = o at *
              generalize sb a.1.text = tx at *
              generalize a.1.n = nn at *
              go_wp2_with fail
              have hbb := below_alloc wr (.cells #[.int .i64 (o : Nat), .string tx, .int .i64 (nn : Nat), .int .i64 (x : Nat), .int .i64 (y : Nat)] 40)
              have z5 := (hbb.cell (block_lt_of_cell g5)).trans g5
              have z0 : (wr.alloc (.cells #[.int .i64 (o : Nat), .string tx, .int .i64 (nn : Nat), .int .i64 (x : Nat), .int .i64 (y : Nat)] 40)).cell? ⟨wr.heap.size, 0, none⟩ = some (.int .i64 (o : Nat)) := by rw [World.cell?_alloc_at _ _ _ _ rfl]; rfl
              have z1 : (wr.alloc (.cells #[.int .i64 (o : Nat), .string tx, .int .i64 (nn : Nat), .int .i64 (x : Nat), .int .i64 (y : Nat)] 40)).cell? ⟨wr.heap.size, 1, none⟩ = some (.string tx) := by rw [World.cell?_alloc_at _ _ _ _ rfl]; rfl
              have z2 : (wr.alloc (.cells #[.int .i64 (o : Nat), .string tx, .int .i64 (nn : Nat), .int .i64 (x : Nat), .int .i64 (y : Nat)] 40)).cell? ⟨wr.heap.size, 2, none⟩ = some (.int .i64 (nn : Nat)) := by rw [World.cell?_alloc_at _ _ _ _ rfl]; rfl
              have z3 : (wr.alloc (.cells #[.int .i64 (o : Nat), .string tx, .int .i64 (nn : Nat), .int .i64 (x : Nat), .int .i64 (y : Nat)] 40)).cell? ⟨wr.heap.size, 3, none⟩ = some (.int .i64 (x : Nat)) := by rw [World.cell?_alloc_at _ _ _ _ rfl]; rfl
              have z4 : (wr.alloc (.cells #[.int .i64 (o : Nat), .string tx, .int .i64 (nn : Nat), .int .i64 (x : Nat), .int .i64 (y : Nat)] 40)).cell? ⟨wr.heap.size, 4, none⟩ = some (.int .i64 (y : Nat)) := by rw [World.cell?_alloc_at _ _ _ _ rfl]; rfl
              have HBa := Lib.hid (HBB.out.trans (hbb.mono HBB.out.size))
              have HBv := Lib.hid (HBw.out.trans (hbb.mono HBw.out.size))
              clear hbb g0 g1 g2 g3 g4 g5 HBB HBw
              generalize hwa : wr.alloc (.cells #[.int .i64 (o : Nat), .string tx, .int .i64 (nn : Nat), .int .i64 (x : Nat), .int .i64 (y : Nat)] 40) = wa at *
              clear hwa
              generalize wr.heap.size = bt at *
              go_region
              go_wp2_with fail
              refine (HWr.out _).mono ?_
              rintro e' w2 ⟨rfl, hb2⟩
              have hdw := below_then (below_drewN (Below.refl wa.heap.size wa) 1) hb2
              have y0 := (hdw.cell (block_lt_of_cell z0)).trans z0
              have HBa2 := Lib.hid (below_then HBa.out hdw)
              have HBv2 := Lib.hid (below_then HBv.out hdw)
              clear z0 z1 z2 z3 z4 z5 hb2 hdw HBa HBv HWr
              have HRel : Hid (∀ h : k + 1 < (lexM (bl s)).1.length, (P : Int) < (atN s ((lexM (bl s)).1[k + 1]'h) : Int)) := HNx
              clear HNx hxr hqu huP hqb hub hrl d1 d2 d3 d4 d2' d4' m6 m7 m8 m9
              by_cases ho : o = 3
              · subst ho
                have hz := m5 rfl m1
                unfold digB digN at hz
                rw [decide_eq_true_eq] at hz
                have c1 : decide (((s[P]'m1).toNat : Int) < 48) = false := by rw [decide_eq_false_iff_not]; omega
                have c2 : decide ((57 : Int) < ((s[P]'m1).toNat : Int)) = false := by rw [decide_eq_false_iff_not]; omega
                have c1' : decide ((s[P]'m1).toNat < 48) = false := by rw [decide_eq_false_iff_not]; omega
                have c2' : decide (57 < (s[P]'m1).toNat) = false := by rw [decide_eq_false_iff_not]; omega
                have hPi : (P : Int) < (s.size : Int) := by omega
                clear m4 m5 hz hW m2
                go_wp2_with fail
                go_roundw
                case rel => exact ⟨k + 1, (P : Int), by omega, by go_num, rfl, by omega, by omega, HRel, HBa2⟩
                case measure => simp [intOf]; omega
              · have o1 : ((o : Int) != 3) = true := by rw [bne_iff_ne]; omega
                have o2 : ((o : Int) == 3) = false := by rw [beq_eq_false_iff_ne]; omega
                have o1' : (o != 3) = true := by rw [bne_iff_ne]; omega
                have o2' : (o == 3) = false := by rw [beq_eq_false_iff_ne]; omega
                have hex := m4 ho
                obtain ⟨v, hv⟩ : ∃ v, v = P + W.length := ⟨_, rfl⟩
                rw [← hv] at hex
                generalize sb W = S at *
                have hPv : (P : Int) + (S.size : Int) = (v : Int) := by omega
                have hSz : S.size ≤ 3000 := by omega
                have hvz : (v : Int) ≤ (s.size : Int) := by omega
                have c1 : decide ((s.size : Int) < (v : Int)) = false := by rw [decide_eq_false_iff_not]; omega
                have c1' : decide (s.size < v) = false := by rw [decide_eq_false_iff_not]; omega
                have hPv0 : (P : Int) ≤ (v : Int) := by omega
                have hPv1 : P ≤ v := by omega
                have hvs : v ≤ s.size := by omega
                clear m4 m5 hv hW m2 ho
                go_wp2_with fail
                go_roundw
                case rel => exact ⟨k + 1, (P : Int), by omega, by go_num, rfl, by omega, by omega, HRel, HBa2⟩
                case measure => simp [intOf]; omega
            · have hkl : k = (lexT s).length := by omega
              have HBw := Lib.hid (HBx.out.trans (HBt.out.mono HBx.out.size))
              clear hc HE HV HC hll
              go_wp2_with fail
              refine (HA.out _ (by first | exact HStd.out.later HBw.out | exact HStd.out.later HB9.out | exact HStd.out.later HBv2.out | exact HStd.out.later HBa2.out | exact HStd.out.later HBv.out | exact HStd.out.later HBa.out | exact HStd.out.later HBB.out | exact HStd.out.later HBx.out | exact HStd.out.later HBS.out | exact HStd.out.later HBW.out | exact HStd.out.later HB1.out | exact HStd.out)).mono ?_
              rintro e w9 ⟨rfl, hb9⟩
              have HB9 := Lib.hid (below_then HBw.out hb9)
              clear hb9
              go_wp2
              go_ret
              exact ⟨rfl, HB9.out⟩
end Go.Proofs.YtfjeljehodbbmaaDoor
