/- The walk of LexerStops, with the program's contracts given. -/
import Derived.Test.YtfjeljehodbbmaaDoorLf
import Derived.Test.YtfjeljehodbbmaaDoorAw
namespace Go.Proofs.YtfjeljehodbbmaaDoor
open Go.RowKit

theorem place_ne {l : List UInt8} {i d : Nat} (hi : i < d) (hd : d ≤ l.length) (h1 : (placeL (l.take i)).1 = (placeL (l.take d)).1) : (placeL (l.take i)).2 ≠ (placeL (l.take d)).2 := by
  intro h2
  have := place_inj (s := l) (List.take_append_drop i l).symm (List.take_append_drop d l).symm (Prod.ext h1 h2)
  rw [List.length_take, List.length_take] at this
  omega
theorem stops_facts {s more : ByteArray} {r : Nat} (_h : s.size + more.size ≤ 3000) (hr : (lexM (bl s)).2 = some r) :
    (lexM (bl (s.extract 0 (s.size - r)))).2 = none ∧ (lexM (bl (s ++ (⟨#[10]⟩ : ByteArray) ++ more))).2 = some (r + (more.size + 1)) := by
  obtain ⟨h1, h2, _⟩ := fault_facts hr
  constructor
  · rw [bl_extract, List.drop_zero]
    have hd : ((bl s).drop (s.size - r)).length = r := by rw [List.length_drop, bl_len]; omega
    refine lex_cut _ (v := (bl s).drop (s.size - r)) ?_ _ (Nat.lt_succ_self _) ?_
    · intro e
      rw [e] at hd
      simp at hd
      omega
    · rw [Nat.sub_zero, List.take_append_drop, hd]
      exact hr
  · have := lex_stays _ (bl more) _ (Nat.lt_succ_self _) r hr
    rw [List.length_cons, bl_len] at this
    rw [bl_append, bl_append, List.append_assoc]
    exact this
theorem stays_facts {s more : ByteArray} {r : Nat} (h : s.size + more.size ≤ 3000) (hr : (lexM (bl s)).2 = some r) :
    lexC (s ++ (⟨#[10]⟩ : ByteArray) ++ more) = 10 ∧ lexN (s ++ (⟨#[10]⟩ : ByteArray) ++ more) = s.extract (s.size - r) (s.size - r + 1) ∧ lexP (s ++ (⟨#[10]⟩ : ByteArray) ++ more) = placeL ((bl s).take (s.size - r)) ∧ lexT (s ++ (⟨#[10]⟩ : ByteArray) ++ more) = [] := by
  obtain ⟨h1, h2, _⟩ := fault_facts hr
  have hz : (s ++ (⟨#[10]⟩ : ByteArray) ++ more).size = s.size + 1 + more.size := by
    rw [ByteArray.size_append, ByteArray.size_append]
    rfl
  obtain ⟨hc, hn, hp, ht⟩ := bad_facts (s := s ++ (⟨#[10]⟩ : ByteArray) ++ more) (by omega) (stops_facts h hr).2
  have e : (s ++ (⟨#[10]⟩ : ByteArray) ++ more).size - (r + (more.size + 1)) = s.size - r := by omega
  rw [e] at hn hp
  have hb : bl (s ++ (⟨#[10]⟩ : ByteArray) ++ more) = bl s ++ (bl (⟨#[10]⟩ : ByteArray) ++ bl more) := by rw [bl_append, bl_append, List.append_assoc]
  refine ⟨hc, ?_, ?_, ht⟩
  · rw [hn]
    apply bl_inj
    rw [bl_extract, bl_extract, hb, List.drop_append_of_le_length (by rw [bl_len]; omega), List.take_append_of_le_length (by rw [List.length_drop, bl_len]; omega)]
  · rw [hp, hb, List.take_append_of_le_length (by rw [bl_len]; omega)]
set_option maxHeartbeats 4000000 in
theorem stops_of (HL : LexC 14) (HT : TextC 18) (HN : NameC 20) (HW : WordC 21) (s more : ByteArray) (w : World) (hs : s.size ≤ 140737488355328) (hm : more.size ≤ 140737488355328) (hw : Std w) :
    Calls Tryd.prog 11 #[.string s, .string more] w fun e w' => e = .returned (.bool true) ∧ Below w.heap.size w w' := by
  have HStd := Lib.hid hw
  clear hw
  have HA := Lib.hid (awake_of HL HT HN HW)
  have hLo := long_wide (s ++ more) (.slice none 0 0) [] w (by rw [ByteArray.size_append]; omega) (tls_nil w)
  cases hb : longB (s ++ more) [] with
  | true =>
    rw [hb] at hLo
    have HLo := Lib.hid hLo
    clear hLo hb HL HT HN HW
    go_enter Tryd.func11, Tryd.ntmps11
    go_wp2_with fail
    refine (HLo.out).mono ?_
    rintro e w' ⟨rfl, rfl⟩
    go_wp2_with fail
    refine (HA.out _ (by first | exact HStd.out)).mono ?_
    rintro e w9 ⟨rfl, hb9⟩
    have HB9 := Lib.hid (hb9)
    clear hb9
    go_wp2
    go_ret
    exact ⟨rfl, HB9.out⟩
  | false =>
    rw [hb] at hLo
    have HLo := Lib.hid hLo
    have h3 := long_no hb
    rw [ByteArray.size_append] at h3
    have hL1 := fun w => HL s w hs
    cases hm' : (lexM (bl s)).2 with
    | none =>
      obtain ⟨hc, hn, hp, _⟩ := good_facts (s := s) (by omega) hm'
      rw [hc, hn, hp] at hL1
      unfold faultV at hL1
      have HL1 := Lib.hid hL1
      clear hL1 hLo hb HL HT HN HW hc hn hp hm'
      go_enter Tryd.func11, Tryd.ntmps11
      go_wp2_with fail
      refine (HLo.out).mono ?_
      rintro e w' ⟨rfl, rfl⟩
      go_wp2_with fail
      refine (HL1.out _ (by first | exact HStd.out.later HB9.out | exact HStd.out)).mono ?_
      rintro e w1 ⟨v1, rfl, t1, hb1⟩
      have hal := below_alloc w1 (.cells #[.int .i64 0, .string ⟨#[]⟩, .int .i64 0, .int .i64 0] 27)
      have HB1 := Lib.hid (below_then hb1 hal)
      clear hal hb1
      go_wp2_with fail
      refine (HA.out _ (by first | exact HStd.out.later HB1.out | exact HStd.out.later HB9.out | exact HStd.out)).mono ?_
      rintro e w9 ⟨rfl, hb9⟩
      have HB9 := Lib.hid (below_then HB1.out hb9)
      clear hb9
      go_wp2
      go_ret
      exact ⟨rfl, HB9.out⟩
    | some r =>
      obtain ⟨hc, hn, hp, ht⟩ := bad_facts (by omega) hm'
      obtain ⟨k0, k1, k2, k3, k4, k5, k6⟩ := fault_facts hm'
      obtain ⟨z1, z2⟩ := stops_facts (more := more) (by omega) hm'
      rw [hc, hn, hp, ht] at hL1
      unfold faultV at hL1
      obtain ⟨y1, y2, y3, _⟩ := stays_facts (more := more) (by omega) hm'
      obtain ⟨d, hd⟩ : ∃ d, d = s.size - r := ⟨_, rfl⟩
      have hds : d < s.size := by omega
      rw [← hd] at hL1 z1 k2 k3 k4 k5 k6 y2 y3
      have hzx : (s.extract 0 d).size ≤ 20000 := by
        rw [← bl_len, bl_extract, List.length_take, List.length_drop, bl_len]; omega
      obtain ⟨x1, x2, x3, _⟩ := good_facts hzx z1
      have hL2 := fun w => HL (s.extract 0 d) w (by omega)
      rw [x1, x2, x3] at hL2
      unfold faultV at hL2
      have hL3 := fun w => HL (s ++ (⟨#[10]⟩ : ByteArray) ++ more) w (by rw [ByteArray.size_append, ByteArray.size_append]; have : (⟨#[10]⟩ : ByteArray).size = 1 := rfl; omega)
      rw [y1, y2, y3] at hL3
      unfold faultV at hL3
      have hPl := fun i (hi : i < d) => place_ne (l := bl s) hi (by rw [bl_len]; omega)
      obtain ⟨⟨x, y⟩, hpe⟩ : ∃ p, placeL ((bl s).take d) = p := ⟨_, rfl⟩
      rw [hpe] at hL1 hL3 hPl k5 k6
      simp only at hL1 hL3 hPl k5 k6
      have HPE := Lib.hid hpe
      have HPl := Lib.hid hPl
      have HL1 := Lib.hid hL1
      have HL2 := Lib.hid hL2
      have HL3 := Lib.hid hL3
      have hmz : more.size ≤ 3000 := by omega
      have hsz : s.size ≤ 3000 := by omega
      generalize hnm : s.extract d (d + 1) = nm at *
      clear hL1 hL2 hL3 hPl hpe hLo hb HL HT HN HW hc hn hp ht x1 x2 x3 y1 y2 y3 hd hm' k0 k1 k2 k3 k4 z1 z2 h3 hzx
      go_enter Tryd.func11, Tryd.ntmps11
      go_wp2_with fail
      refine (HLo.out).mono ?_
      rintro e w' ⟨rfl, rfl⟩
      go_wp2_with fail
      refine (HL1.out _ (by first | exact HStd.out.later HB1.out | exact HStd.out.later HB9.out | exact HStd.out)).mono ?_
      rintro e w1 ⟨v1, rfl, t1, hb1⟩
      clear t1
      have hal := below_alloc w1 (.cells #[.int .i64 ((10 : Nat) : Int), .string nm, .int .i64 (x : Nat), .int .i64 (y : Nat)] 27)
      have HF1 := Lib.hid (Flt.new w1 10 nm x y)
      have HB1 := Lib.hid (below_then hb1 hal)
      obtain ⟨f0, f1, f2, f3⟩ := HF1.out
      clear hal hb1
      go_wp2_with fail
      go_loop [8, 9, 31] (fun a b v => ∃ k x' y' : Nat, k ≤ d ∧ v = .int .i64 k ∧ a = .int .i64 x' ∧ b = .int .i64 y' ∧ x' ≤ k + 1 ∧ y' ≤ k + 1 ∧ Hid (placeL ((bl s).take k) = (x', y'))) (fun _ _ v => d - (intOf v).toNat)
      case atStart => exact ⟨0, 1, 1, Nat.zero_le _, rfl, rfl, rfl, by omega, by omega, rfl⟩
      case round =>
        obtain ⟨k, x', y', hk, rfl, rfl, rfl, hx, hy, hr⟩ := hrel
        have hks : k < s.size := by omega
        have hki : (k : Int) < (s.size : Int) := by omega
        by_cases hlt : k < d
        · have hp := place_snoc ((bl s).take k) (s[k]'hks)
          have ht : (bl s).take (k + 1) = (bl s).take k ++ [s[k]'hks] := by rw [List.take_succ_eq_append_getElem (by rw [bl_len]; exact hks), bl_get s k hks]
          rw [← ht, hr.out] at hp
          have hne := HPl.out k hlt
          rw [hr.out] at hne
          simp only at hne
          clear ht
          have hcase : (((x' : Int) == (x : Int)) = true ∧ ((y' : Int) == (y : Int)) = false ∧ (x' == x) = true ∧ (y' == y) = false) ∨ (((x' : Int) == (x : Int)) = false ∧ (x' == x) = false) := by
            by_cases e : x' = x
            · have e2 := hne e
              exact .inl ⟨by rw [beq_iff_eq]; omega, by rw [beq_eq_false_iff_ne]; omega, by rw [beq_iff_eq]; omega, by rw [beq_eq_false_iff_ne]; omega⟩
            · exact .inr ⟨by rw [beq_eq_false_iff_ne]; omega, by rw [beq_eq_false_iff_ne]; omega⟩
          clear hne HPl HL2 HL3 HPE
          by_cases h : s[k]'hks = 10
          · have t : (((s[k]'hks).toNat : Int) == 10) = true := u8_eq (n := 10) (by omega) h
            rw [if_pos h] at hp
            have HR := Lib.hid hp
            clear hp hr h
            rcases hcase with ⟨t1, t2, t3, t4⟩ | ⟨t1, t2⟩
            all_goals
              go_wp2
              go_round
              case rel => exact ⟨k + 1, x' + 1, 1, by omega, by go_num, by go_num, rfl, by omega, by omega, HR⟩
              case measure => simp [intOf]; omega
          · have t : (((s[k]'hks).toNat : Int) == 10) = false := u8_ne (n := 10) (by omega) h
            rw [if_neg h] at hp
            have HR := Lib.hid hp
            clear hp hr h
            rcases hcase with ⟨t1, t2, t3, t4⟩ | ⟨t1, t2⟩
            all_goals
              go_wp2
              go_round
              case rel => exact ⟨k + 1, x', y' + 1, by omega, by go_num, rfl, by go_num, by omega, by omega, HR⟩
              case measure => simp [intOf]; omega
        · have hkd : k = d := by omega
          subst hkd
          have hxy := hr.out
          rw [HPE.out] at hxy
          injection hxy with hx1 hy1
          subst hx1
          subst hy1
          clear hr HPE HPl HLo
          go_wp2_with fail
          have d2 : decide ((k : Int) < 0) = false := by rw [decide_eq_false_iff_not]; omega
          have hk1 : (k : Int) + 1 ≤ (s.size : Int) := by omega
          go_region
          have HFd := Lib.hid (HF1.out.later (below_drewN (Below.refl _ _) 1))
          have HBd := Lib.hid (below_drewN HB1.out 1)
          clear f0 f1 f2 f3 HF1 HB1
          go_wp2_with fail
          refine (HL2.out _ (by first | exact HStd.out.later HBd.out | exact HStd.out.later HB1.out | exact HStd.out.later HB9.out | exact HStd.out)).mono ?_
          rintro e w2 ⟨v2, rfl, t2, hb2⟩
          clear t2
          have hal := below_alloc w2 (.cells #[.int .i64 0, .string ⟨#[]⟩, .int .i64 0, .int .i64 0] 27)
          have hb2a := below_then hb2 hal
          have HF2 := Lib.hid (HFd.out.later hb2a)
          have HG2 := Lib.hid (Flt.new w2 0 ⟨#[]⟩ 0 0)
          have HB2 := Lib.hid (below_then HBd.out hb2a)
          clear hal hb2a hb2 HFd HBd
          go_wp2_with fail
          refine (HL3.out _ (by first | exact HStd.out.later HB2.out | exact HStd.out.later HBd.out | exact HStd.out.later HB1.out | exact HStd.out.later HB9.out | exact HStd.out)).mono ?_
          rintro e w3 ⟨v3, rfl, t3, hb3⟩
          clear t3
          have hal := below_alloc w3 (.cells #[.int .i64 10, .string nm, .int .i64 (x : Nat), .int .i64 (y : Nat)] 27)
          have hb3a := below_then hb3 hal
          obtain ⟨f0, f1, f2, f3⟩ := HF2.out.later hb3a
          obtain ⟨g0, g1, g2, g3⟩ := HG2.out.later hb3a
          have HN3 : Flt (w3.alloc (.cells #[.int .i64 10, .string nm, .int .i64 (x : Nat), .int .i64 (y : Nat)] 27)) w3.heap.size 10 nm x y := Flt.new w3 10 nm x y
          obtain ⟨h0, h1, h2, h3⟩ := HN3
          have HB3 := Lib.hid (below_then HB2.out hb3a)
          clear hal hb3a hb3 HF2 HG2 HB2
          go_wp2_with fail
          refine (HA.out _ (by first | exact HStd.out.later HB3.out | exact HStd.out.later HB9.out | exact HStd.out.later HB2.out | exact HStd.out.later HBd.out | exact HStd.out.later HB1.out | exact HStd.out)).mono ?_
          rintro e w9 ⟨rfl, hb9⟩
          have HB9 := Lib.hid (below_then HB3.out hb9)
          clear hb9
          go_wp2
          go_ret
          exact ⟨rfl, HB9.out⟩
end Go.Proofs.YtfjeljehodbbmaaDoor
