/- The contract of the reference's number. -/
import Derived.Test.YtdiagnhdigakpaaGreatDoorKh
import Derived.Test.YtdiagnhdigakpaaGreatDoorKb
namespace Go.Proofs.YtdiagnhdigakpaaGreatDoor
open Go.RowKit

/-- Of an int that is written so this is the number, if there is one. -/
def NumOf (l : List UInt8) (n : Int) : Prop := ∀ m : Int, -2147483648 ≤ m → m ≤ 2147483647 → itoL m = l → n = m
/-- The sign, and the rest of the bytes. -/
def SgnOf (l d : List UInt8) (g : Int) : Prop := (g = 1 ∧ l = d ∧ l.head? ≠ some 45) ∨ (g = -1 ∧ l = 45 :: d)
theorem num_end {l d : List UInt8} {g : Int} (h : SgnOf l d g) : NumOf l (g * (valL d : Int)) := by
  intro m _ _ he
  rcases ito_cases m with ⟨a, rfl, ha⟩ | ⟨a, _, rfl, ha⟩
  · rcases h with ⟨rfl, rfl, _⟩ | ⟨_, rfl⟩
    · rw [← he, ha, (dec_facts a).2.2]; omega
    · have : (45 : UInt8) ∈ decL a := by rw [← ha, he]; simp
      exact absurd (dec_byte this).1 (by decide)
  · rcases h with ⟨_, _, h⟩ | ⟨rfl, rfl⟩
    · exact absurd (by rw [← he, ha]; rfl) h
    · have : decL a = d := (List.cons.inj (ha.symm.trans he)).2
      rw [← this, (dec_facts a).2.2]; omega
theorem num_bad {l d : List UInt8} {g : Int} (h : SgnOf l d g) (hd : d.all digB = false ∨ 11 < d.length) (z : Int) : NumOf l z := by
  intro m h1 h2 he
  exfalso
  have key : ∀ a : Nat, a ≤ 2147483648 → decL a = d → False := by
    intro a ha e
    rcases hd with hd | hd
    · rw [← e, (dec_facts a).2.1] at hd; cases hd
    · have := dec_len (k := 10) (n := a) (by omega) (by omega)
      rw [e] at this; omega
  rcases ito_cases m with ⟨a, rfl, ha⟩ | ⟨a, _, rfl, ha⟩
  · rcases h with ⟨_, rfl, _⟩ | ⟨_, rfl⟩
    · exact key a (by omega) (ha.symm.trans he)
    · have : (45 : UInt8) ∈ decL a := by rw [← ha, he]; simp
      exact absurd (dec_byte this).1 (by decide)
  · rcases h with ⟨_, _, h⟩ | ⟨_, rfl⟩
    · exact absurd (by rw [← he, ha]; rfl) h
    · exact key a (by omega) (List.cons.inj (ha.symm.trans he)).2
theorem num_small {l : List UInt8} (h : l.all digB = true) (hl : l.length ≤ 11) : valL l ≤ 99999999999 := by
  have h1 := val_lt h
  have h2 : 10 ^ l.length ≤ 10 ^ 11 := Nat.pow_le_pow_right (by omega) hl
  omega
theorem num_dig {l : List UInt8} {k : Nat} (h : k < l.length) (ha : (l.take k).all digB = true) (hc : digB l[k] = true) : (l.take (k + 1)).all digB = true := by
  rw [List.take_succ_eq_append_getElem h, List.all_append, ha, List.all_cons, hc]
  rfl
theorem num_odd {l : List UInt8} {k : Nat} (h : k < l.length) (hc : digB l[k] = false) : l.all digB = false := by
  cases ha : l.all digB with
  | false => rfl
  | true => rw [List.all_eq_true.1 ha _ (List.getElem_mem h)] at hc; cases hc
theorem u8_odd (x : Nat) (h : x < 256) : ∃ y : Nat, y ≤ 255 ∧ IntKind.u8.wrap ((x : Int) - 48) = (y : Int) ∧ (48 ≤ x → y = x - 48) := by
  by_cases h1 : 48 ≤ x
  · exact ⟨x - 48, by omega, u8_digit h1 h, fun _ => rfl⟩
  · exact ⟨x + 208, by omega, by rw [IntKind.wrap_u8]; omega, fun h2 => absurd h2 h1⟩
set_option maxHeartbeats 4000000 in
theorem rnum_none (s : ByteArray) (h0 : s.size = 0) (w : World) :
    Calls Tryz.prog 88 #[.string s] w fun e w' => ∃ n : Int, e = .returned (.int .i64 n) ∧ NumOf (bl s) n ∧ Below w.heap.size w w' := by
  have hs : s = ⟨#[]⟩ := by rw [← sb_bl s]; have : bl s = [] := List.eq_nil_of_length_eq_zero (by rw [bl_len]; exact h0); rw [this]; rfl
  have HE : Hid (NumOf (bl s) 0) := by
    have : bl s = [] := List.eq_nil_of_length_eq_zero (by rw [bl_len]; exact h0)
    have h1 := num_end (l := bl s) (d := bl s) (g := 1) (.inl ⟨rfl, rfl, by rw [this]; simp⟩)
    rw [this] at h1
    rw [this]
    exact h1
  have HB := Lib.hid (Below.refl w.heap.size w)
  have dk : decide ((0 : Int) < (s.size : Int)) = false := by rw [decide_eq_false_iff_not]; omega
  have dk2 : decide ((s.size : Int) > 0) = false := by rw [decide_eq_false_iff_not]; omega
  clear hs
  go_enter Tryz.func88, Tryz.ntmps88
  go_wp2_with fail
  go_loopw [5, 20] (fun a i wr => a = .int .i64 0 ∧ i = .int .i64 0 ∧ Hid (Below w.heap.size w wr)) (fun _ i _ => 0)
  case atStart => exact ⟨rfl, rfl, HB⟩
  case round =>
    obtain ⟨rfl, rfl, NB⟩ := hrel
    go_wp2
    go_ret
    exact ⟨_, rfl, HE.out, NB.out⟩
set_option maxHeartbeats 8000000 in
theorem rnum_plain (s : ByteArray) (hs : s.size ≤ 140737488355328) (h0 : 0 < s.size) (h45 : s[0].toNat ≠ 45) (w : World) :
    Calls Tryz.prog 88 #[.string s] w fun e w' => ∃ n : Int, e = .returned (.int .i64 n) ∧ NumOf (bl s) n ∧ Below w.heap.size w w' := by
  have HS : Hid (SgnOf (bl s) (bl s) 1) := .inl ⟨rfl, rfl, by
    have h2 := bl_get s 0 h0
    rw [List.head?_eq_getElem?, List.getElem?_eq_getElem (by rw [bl_len]; exact h0), h2]
    intro h
    have := Option.some.inj h
    exact h45 (by rw [this]; rfl)⟩
  have HB := Lib.hid (Below.refl w.heap.size w)
  have dk1 : decide ((0 : Int) < (s.size : Int)) = true := by rw [decide_eq_true_eq]; omega
  have dk2 : decide ((s.size : Int) > 0) = true := by rw [decide_eq_true_eq]; omega
  have dk3 : ((s[0].toNat : Int) == 45) = false := by rw [beq_eq_false_iff_ne]; omega
  clear h45
  go_enter Tryz.func88, Tryz.ntmps88
  go_wp2_with fail
  clear dk1 dk2 dk3
  obtain ⟨d, hd⟩ : ∃ d, d = s := ⟨_, rfl⟩
  subst hd
  go_loopw [5, 20] (fun a i wr => ∃ (k n : Nat), k ≤ d.size ∧ k ≤ 11 ∧ i = .int .i64 k ∧ a = .int .i64 n ∧ n ≤ 99999999999 ∧ Hid (n = valL ((bl d).take k)) ∧ Hid (((bl d).take k).all digB = true) ∧ Hid (Below w.heap.size w wr)) (fun _ i _ => d.size - (intOf i).toNat)
  case atStart => exact ⟨0, 0, Nat.zero_le _, by omega, rfl, rfl, by omega, by show _ = _; rw [List.take_zero]; rfl, by show _ = _; rw [List.take_zero]; rfl, HB⟩
  case round =>
    obtain ⟨k, n, hk, hk11, rfl, rfl, hn, HV, HA, NB⟩ := hrel
    clear HB
    by_cases hlt : k < d.size
    · have hl : k < (bl d).length := by rw [bl_len]; exact hlt
      have hb : (bl d)[k]'hl = d[k]'hlt := bl_get d k hlt
      have HO : Hid (digB (d[k]'hlt) = false → (bl d).all digB = false) := fun h => num_odd hl (by rw [hb]; exact h)
      have HG : Hid (digB (d[k]'hlt) = true → k + 1 ≤ 11 → (((bl d).take (k + 1)).all digB = true ∧ valL ((bl d).take (k + 1)) = 10 * n + ((d[k]'hlt).toNat - 48) ∧ valL ((bl d).take (k + 1)) ≤ 99999999999)) := fun h h9 => by
        have g1 := num_dig hl HA.out (by rw [hb]; exact h)
        exact ⟨g1, by rw [val_take hl, ← HV.out, hb], num_small g1 (by rw [List.length_take]; omega)⟩
      have hd9 : digB (d[k]'hlt) = decide (48 ≤ (d[k]'hlt).toNat ∧ (d[k]'hlt).toNat ≤ 57) := rfl
      rw [hd9] at HO HG
      have hc : (d[k]'hlt).toNat < 256 := (d[k]'hlt).toNat_lt
      obtain ⟨c, hcc⟩ : ∃ c, (d[k]'hlt).toNat = c := ⟨_, rfl⟩
      rw [hcc] at HO HG hc
      obtain ⟨y, hy, hw, hy2⟩ := u8_odd c hc
      rw [← hcc] at hw
      obtain ⟨m, hm⟩ : ∃ m, m = 10 * n := ⟨_, rfl⟩
      have h10 : (10 : Int) * (n : Int) = (m : Int) := by omega
      obtain ⟨q, hq⟩ : ∃ q, q = m + y := ⟨_, rfl⟩
      have hsum : (m : Int) + (y : Int) = (q : Int) := by omega
      have hm9 : m ≤ 999999999990 := by omega
      have hq9 : q ≤ 1000000000245 := by omega
      have dk : decide ((k : Int) < (d.size : Int)) = true := by rw [decide_eq_true_eq]; omega
      have HQ : Hid (48 ≤ c → q = 10 * n + (c - 48)) := fun h => by have := hy2 h; omega
      clear hb hd9 hm hq hy2
      by_cases h1 : c < 48
      · have d1 : decide (((d[k]'hlt).toNat : Int) < 48) = true := by rw [decide_eq_true_eq]; omega
        have H1 := Lib.hid h1
        clear h1 hcc
        go_wp2
        go_ret
        have h1 := H1.out
        exact ⟨_, rfl, num_bad HS.out (.inl (HO.out (by rw [decide_eq_false_iff_not]; omega))) _, NB.out⟩
      · have d1 : decide (((d[k]'hlt).toNat : Int) < 48) = false := by rw [decide_eq_false_iff_not]; omega
        by_cases h2 : 57 < c
        · have d2 : decide (((d[k]'hlt).toNat : Int) > 57) = true := by rw [decide_eq_true_eq]; omega
          have d3 : decide ((57 : Int) < ((d[k]'hlt).toNat : Int)) = true := by rw [decide_eq_true_eq]; omega
          have H1 := Lib.hid h2
          clear h1 h2 hcc
          go_wp2
          go_ret
          have h1 := H1.out
          exact ⟨_, rfl, num_bad HS.out (.inl (HO.out (by rw [decide_eq_false_iff_not]; omega))) _, NB.out⟩
        · have d2 : decide (((d[k]'hlt).toNat : Int) > 57) = false := by rw [decide_eq_false_iff_not]; omega
          have d3 : decide ((57 : Int) < ((d[k]'hlt).toNat : Int)) = false := by rw [decide_eq_false_iff_not]; omega
          by_cases h3 : 10 < k
          · have d4 : decide ((k : Int) > 10) = true := by rw [decide_eq_true_eq]; omega
            have d5 : decide ((10 : Int) < (k : Int)) = true := by rw [decide_eq_true_eq]; omega
            have H3 := Lib.hid (show 11 < (bl d).length by omega)
            clear h1 h2 h3 hcc hl
            go_wp2
            go_ret
            exact ⟨_, rfl, num_bad HS.out (.inr H3.out) _, NB.out⟩
          · have d4 : decide ((k : Int) > 10) = false := by rw [decide_eq_false_iff_not]; omega
            have d5 : decide ((10 : Int) < (k : Int)) = false := by rw [decide_eq_false_iff_not]; omega
            obtain ⟨g1, g2, g3⟩ := HG.out (by rw [decide_eq_true_eq]; omega) (by omega)
            rw [← HQ.out (by omega)] at g2
            rw [g2] at g3
            have G1 := Lib.hid g1
            have G2 := Lib.hid g2.symm
            have hk1 : k + 1 ≤ 11 := by omega
            clear g1 g2 h1 h2 h3 hcc hl hm9 hq9
            go_wp2
            go_roundw
            case rel => exact ⟨k + 1, q, by omega, hk1, by go_num, rfl, g3, G2, G1, NB⟩
            case measure => simp [intOf]; omega
    · have HE : Hid (n = valL (bl d)) := by have := HV.out; rwa [List.take_of_length_le (by rw [bl_len]; omega)] at this
      have dk : decide ((k : Int) < (d.size : Int)) = false := by rw [decide_eq_false_iff_not]; omega
      have hn0 : (n : Int) ≤ 99999999999 := by omega
      go_wp2
      go_ret
      exact ⟨_, rfl, by have := num_end HS.out; rw [← HE.out] at this; simpa using this, NB.out⟩
set_option maxHeartbeats 8000000 in
theorem rnum_neg (s : ByteArray) (hs : s.size ≤ 140737488355328) (h0 : 0 < s.size) (h45 : s[0].toNat = 45) (w : World) :
    Calls Tryz.prog 88 #[.string s] w fun e w' => ∃ n : Int, e = .returned (.int .i64 n) ∧ NumOf (bl s) n ∧ Below w.heap.size w w' := by
  have HS : Hid (SgnOf (bl s) (bl (s.extract 1 s.size)) (-1)) := .inr ⟨rfl, by
    have h2 := bl_get s 0 h0
    have hl : 0 < (bl s).length := by rw [bl_len]; exact h0
    rw [bl_extract, List.take_of_length_le (by rw [List.length_drop, bl_len]; omega)]
    have h3 := List.drop_eq_getElem_cons hl
    rw [List.drop_zero] at h3
    rw [h3, h2]
    congr 1
    exact UInt8.toNat_inj.1 h45⟩
  have HB := Lib.hid ((Below.refl w.heap.size w).drew)
  have dk1 : decide ((0 : Int) < (s.size : Int)) = true := by rw [decide_eq_true_eq]; omega
  have dk2 : decide ((s.size : Int) > 0) = true := by rw [decide_eq_true_eq]; omega
  have dk3 : ((s[0].toNat : Int) == 45) = true := by rw [beq_iff_eq]; omega
  have hs1 : (1 : Int) ≤ (s.size : Int) := by omega
  have hds : (s.extract 1 s.size).size ≤ 140737488355328 := by rw [ByteArray.size_extract]; omega
  clear h45
  go_enter Tryz.func88, Tryz.ntmps88
  go_wp2_with fail
  go_region
  go_wp2_with fail
  clear dk1 dk2 dk3
  have hz9 : s.size - 1 = (s.extract 1 s.size).size := by rw [ByteArray.size_extract]; omega
  rw [hz9]
  clear hz9
  generalize s.extract 1 s.size = d at *
  go_loopw [5, 20] (fun a i wr => ∃ (k n : Nat), k ≤ d.size ∧ k ≤ 11 ∧ i = .int .i64 k ∧ a = .int .i64 n ∧ n ≤ 99999999999 ∧ Hid (n = valL ((bl d).take k)) ∧ Hid (((bl d).take k).all digB = true) ∧ Hid (Below w.heap.size w wr)) (fun _ i _ => d.size - (intOf i).toNat)
  case atStart => exact ⟨0, 0, Nat.zero_le _, by omega, rfl, rfl, by omega, by show _ = _; rw [List.take_zero]; rfl, by show _ = _; rw [List.take_zero]; rfl, HB⟩
  case round =>
    obtain ⟨k, n, hk, hk11, rfl, rfl, hn, HV, HA, NB⟩ := hrel
    clear HB
    by_cases hlt : k < d.size
    · have hl : k < (bl d).length := by rw [bl_len]; exact hlt
      have hb : (bl d)[k]'hl = d[k]'hlt := bl_get d k hlt
      have HO : Hid (digB (d[k]'hlt) = false → (bl d).all digB = false) := fun h => num_odd hl (by rw [hb]; exact h)
      have HG : Hid (digB (d[k]'hlt) = true → k + 1 ≤ 11 → (((bl d).take (k + 1)).all digB = true ∧ valL ((bl d).take (k + 1)) = 10 * n + ((d[k]'hlt).toNat - 48) ∧ valL ((bl d).take (k + 1)) ≤ 99999999999)) := fun h h9 => by
        have g1 := num_dig hl HA.out (by rw [hb]; exact h)
        exact ⟨g1, by rw [val_take hl, ← HV.out, hb], num_small g1 (by rw [List.length_take]; omega)⟩
      have hd9 : digB (d[k]'hlt) = decide (48 ≤ (d[k]'hlt).toNat ∧ (d[k]'hlt).toNat ≤ 57) := rfl
      rw [hd9] at HO HG
      have hc : (d[k]'hlt).toNat < 256 := (d[k]'hlt).toNat_lt
      obtain ⟨c, hcc⟩ : ∃ c, (d[k]'hlt).toNat = c := ⟨_, rfl⟩
      rw [hcc] at HO HG hc
      obtain ⟨y, hy, hw, hy2⟩ := u8_odd c hc
      rw [← hcc] at hw
      obtain ⟨m, hm⟩ : ∃ m, m = 10 * n := ⟨_, rfl⟩
      have h10 : (10 : Int) * (n : Int) = (m : Int) := by omega
      obtain ⟨q, hq⟩ : ∃ q, q = m + y := ⟨_, rfl⟩
      have hsum : (m : Int) + (y : Int) = (q : Int) := by omega
      have hm9 : m ≤ 999999999990 := by omega
      have hq9 : q ≤ 1000000000245 := by omega
      have dk : decide ((k : Int) < (d.size : Int)) = true := by rw [decide_eq_true_eq]; omega
      have HQ : Hid (48 ≤ c → q = 10 * n + (c - 48)) := fun h => by have := hy2 h; omega
      clear hb hd9 hm hq hy2
      by_cases h1 : c < 48
      · have d1 : decide (((d[k]'hlt).toNat : Int) < 48) = true := by rw [decide_eq_true_eq]; omega
        have H1 := Lib.hid h1
        clear h1 hcc
        go_wp2
        go_ret
        have h1 := H1.out
        exact ⟨_, rfl, num_bad HS.out (.inl (HO.out (by rw [decide_eq_false_iff_not]; omega))) _, NB.out⟩
      · have d1 : decide (((d[k]'hlt).toNat : Int) < 48) = false := by rw [decide_eq_false_iff_not]; omega
        by_cases h2 : 57 < c
        · have d2 : decide (((d[k]'hlt).toNat : Int) > 57) = true := by rw [decide_eq_true_eq]; omega
          have d3 : decide ((57 : Int) < ((d[k]'hlt).toNat : Int)) = true := by rw [decide_eq_true_eq]; omega
          have H1 := Lib.hid h2
          clear h1 h2 hcc
          go_wp2
          go_ret
          have h1 := H1.out
          exact ⟨_, rfl, num_bad HS.out (.inl (HO.out (by rw [decide_eq_false_iff_not]; omega))) _, NB.out⟩
        · have d2 : decide (((d[k]'hlt).toNat : Int) > 57) = false := by rw [decide_eq_false_iff_not]; omega
          have d3 : decide ((57 : Int) < ((d[k]'hlt).toNat : Int)) = false := by rw [decide_eq_false_iff_not]; omega
          by_cases h3 : 10 < k
          · have d4 : decide ((k : Int) > 10) = true := by rw [decide_eq_true_eq]; omega
            have d5 : decide ((10 : Int) < (k : Int)) = true := by rw [decide_eq_true_eq]; omega
            have H3 := Lib.hid (show 11 < (bl d).length by omega)
            clear h1 h2 h3 hcc hl
            go_wp2
            go_ret
            exact ⟨_, rfl, num_bad HS.out (.inr H3.out) _, NB.out⟩
          · have d4 : decide ((k : Int) > 10) = false := by rw [decide_eq_false_iff_not]; omega
            have d5 : decide ((10 : Int) < (k : Int)) = false := by rw [decide_eq_false_iff_not]; omega
            obtain ⟨g1, g2, g3⟩ := HG.out (by rw [decide_eq_true_eq]; omega) (by omega)
            rw [← HQ.out (by omega)] at g2
            rw [g2] at g3
            have G1 := Lib.hid g1
            have G2 := Lib.hid g2.symm
            have hk1 : k + 1 ≤ 11 := by omega
            clear g1 g2 h1 h2 h3 hcc hl hm9 hq9
            go_wp2
            go_roundw
            case rel => exact ⟨k + 1, q, by omega, hk1, by go_num, rfl, g3, G2, G1, NB⟩
            case measure => simp [intOf]; omega
    · have HE : Hid (n = valL (bl d)) := by have := HV.out; rwa [List.take_of_length_le (by rw [bl_len]; omega)] at this
      have dk : decide ((k : Int) < (d.size : Int)) = false := by rw [decide_eq_false_iff_not]; omega
      have hn0 : (n : Int) ≤ 99999999999 := by omega
      go_wp2
      go_ret
      exact ⟨_, rfl, by have := num_end HS.out; rw [← HE.out] at this; simpa using this, NB.out⟩
theorem rnum_any (s : ByteArray) (hs : s.size ≤ 140737488355328) (w : World) :
    Calls Tryz.prog 88 #[.string s] w fun e w' => ∃ n : Int, e = .returned (.int .i64 n) ∧ NumOf (bl s) n ∧ Below w.heap.size w w' := by
  by_cases h0 : 0 < s.size
  · by_cases h45 : s[0].toNat = 45
    · exact rnum_neg s hs h0 h45 w
    · exact rnum_plain s hs h0 h45 w
  · exact rnum_none s (by omega) w
end Go.Proofs.YtdiagnhdigakpaaGreatDoor
