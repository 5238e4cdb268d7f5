/- The contract of the reference's token: signs. -/
import Derived.Test.YtfjeljehodbbmaaDoorTw
import Derived.Handy
namespace Go.Proofs.YtfjeljehodbbmaaDoor
open Go.RowKit

/-- A token's value, with a position. -/
def tokV (t : Tok) (line col : Nat) : Value := .agg #[.int .i64 (t.op : Nat), .string (sb t.text), .int .i64 (t.n : Nat), .int .i64 (line : Nat), .int .i64 (col : Nat)]
/-- What token returns of what begins a list. -/
def tokT (o : Option (Tok × Nat)) : Tok := match o with | some (t, _) => t | none => ⟨0, [], 0⟩
def tokC (o : Option (Tok × Nat)) : Nat := match o with | some (_, n) => n | none => 0
theorem find_at {l : List (List UInt8)} {p : List UInt8 → Bool} {k : Nat} (h : k < l.length) (hp : p l[k] = true) (hk : ∀ y ∈ l.take k, p y = false) : l.find? p = some l[k] := by
  have e : l = l.take k ++ (l[k] :: l.drop (k + 1)) := by rw [List.getElem_cons_drop, List.take_append_drop]
  have : (l.take k ++ (l[k] :: l.drop (k + 1))).find? p = some l[k] := by
    rw [List.find?_append, List.find?_eq_none.2 (fun y hy => by rw [hk y hy]; decide), List.find?_cons, hp]
    rfl
  rwa [← e] at this
theorem find_no {l : List (List UInt8)} {p : List UInt8 → Bool} {k : Nat} (h : ¬ k < l.length) (hk : ∀ y ∈ l.take k, p y = false) : l.find? p = none := by
  rw [List.take_of_length_le (by omega)] at hk
  exact List.find?_eq_none.2 (fun y hy => by rw [hk y hy]; decide)
set_option maxRecDepth 100000 in
set_option maxHeartbeats 4000000 in
theorem token_sign (s : ByteArray) (i : Nat) (w : World) (hs : s.size ≤ 140737488355328) (h0 : i < s.size) (o : Option (Tok × Nat)) (ho : Hid (o = (signsL.find? fun x => x.isPrefixOf ((bl s).drop i)).map fun x => (⟨7, x, 0⟩, x.length))) (HL : Hid (∀ w, Calls Tryd.prog 36 #[.int .u8 (((s[i]'h0).toNat : Nat) : Int)] w fun e w' => e = .returned (.bool false) ∧ w = w')) (HD : Hid (∀ w, Calls Tryd.prog 68 #[.int .u8 (((s[i]'h0).toNat : Nat) : Int)] w fun e w' => e = .returned (.bool false) ∧ w = w')) (hx98 : (((s[i]'h0).toNat : Int) == 98) = false) (hx39 : (((s[i]'h0).toNat : Int) == 39) = false) (hx34 : (((s[i]'h0).toNat : Int) == 34) = false) :
    Calls Tryd.prog 54 #[.string s, .int .i64 i] w fun e w' => e = .returned (.tuple #[tokV (tokT o) 0 0, .int .i64 (tokC o : Nat)]) ∧ Below w.heap.size w w' := by
  have hl18 : signsL.length = 18 := rfl
  have HLS := Lib.hid (show ∀ y ∈ signsL, y.length ≤ 2 by decide)
  go_enter Tryd.func54, Tryd.ntmps54
  go_wp2_with fail
  refine (HL.out _).mono ?_
  rintro e w' ⟨rfl, rfl⟩
  go_wp2_with fail
  refine (HD.out _).mono ?_
  rintro e w' ⟨rfl, rfl⟩
  go_wp2_with fail
  refine (signs_any _).mono ?_
  rintro e w1 ⟨v, rfl, hsl, hb1⟩
  obtain ⟨q0, q1, q2, q3, q4, qf, hB1⟩ := res_cells w w1 hb1
  have HB1 := Lib.hid hB1
  clear hb1 hB1
  obtain ⟨B, c, rfl, hq, hn, hc⟩ := hsl
  have HC := Lib.hid hc
  clear hc
  rw [hl18] at hq ⊢
  go_wp2_with fail
  go_loop [19] (fun v => ∃ k : Nat, k ≤ 18 ∧ v = .int .i64 k ∧ Hid (∀ y ∈ signsL.take k, y.isPrefixOf ((bl s).drop i) = false)) (fun v => 18 - (intOf v).toNat)
  case atStart => exact ⟨0, by omega, rfl, fun y hy => by rw [List.take_zero] at hy; cases hy⟩
  case round =>
    obtain ⟨k, hk, rfl, hr⟩ := hrel
    by_cases hlt : k < 18
    · have hlt' : k < signsL.length := by rw [hl18]; exact hlt
      have g := HC.out k hlt'
      obtain ⟨y, hy⟩ : ∃ y, y = signsL[k] := ⟨_, rfl⟩
      have hy2 : y.length ≤ 2 := by rw [hy]; exact HLS.out _ (List.getElem_mem hlt')
      rw [← hy] at g
      have hsz : (sb y).size = y.length := sb_size y
      obtain ⟨m, hm⟩ : ∃ m, m = y.length := ⟨_, rfl⟩
      rw [← hm] at hsz hy2
      obtain ⟨b, hb⟩ : ∃ b, b = i + m := ⟨_, rfl⟩
      have hib : (i : Int) + (m : Int) = (b : Int) := by omega
      by_cases hp : y.isPrefixOf ((bl s).drop i) = true
      · obtain ⟨z, hz⟩ := List.isPrefixOf_iff_prefix.1 hp
        have hle : b ≤ s.size := by
          have := congrArg List.length hz
          rw [List.length_append, List.length_drop, bl_len] at this
          omega
        have hO : o = some (⟨7, y, 0⟩, m) := by
          rw [ho.out, find_at hlt' (by rw [← hy]; exact hp) hr.out, ← hy, hm]; rfl
        have hE : bl (s.extract i b) = y := by
          rw [bl_extract, ← hz, List.take_left' (by omega)]
        have t1 : ((s.extract i b).toList == (sb y).toList) = true := by rw [bl_toList, bl_toList, hE, bl_sb]; simp
        have HO := Lib.hid hO
        have HT : Hid (tokV ⟨7, y, 0⟩ 0 0 = .agg #[.int .i64 7, .string (sb y), .int .i64 0, .int .i64 0, .int .i64 0]) := rfl
        generalize sb y = x at *
        have d1 : decide ((b : Int) ≤ (s.size : Int)) = true := by rw [decide_eq_true_eq]; omega
        have d1' : decide (b ≤ s.size) = true := by rw [decide_eq_true_eq]; omega
        have hab : i ≤ b := by omega
        clear hO hE hz hp hr hb hm hy
        have r := res_store q0 q1 q2 q3 q4 (.int .i64 7) (.string (x)) (.int .i64 0) (.int .i64 0) (.int .i64 0)
        obtain ⟨r0, r1, r2, r3, r4, hbs⟩ := r
        have HB := Lib.hid (HB1.out.trans hbs)
        clear hbs
        go_wp2
        (try simp only [Exit.inBlock, Exit.then])
        refine bodyPost_ret (by simp [results, Tryd.results54, go_sem, r0, r1, r2, r3, r4]; try rfl) rfl ?_
        exact ⟨by rw [HO.out]; show _ = Ending.returned (.tuple #[tokV ⟨7, y, 0⟩ 0 0, _]); rw [HT.out]; rfl, HB.out⟩
      · have hp' : y.isPrefixOf ((bl s).drop i) = false := by
          cases h : y.isPrefixOf ((bl s).drop i) with
          | true => exact absurd h hp
          | false => rfl
        have HR : Hid (∀ y ∈ signsL.take (k + 1), y.isPrefixOf ((bl s).drop i) = false) := by
          intro a ha
          rw [List.take_succ_eq_append_getElem hlt', List.mem_append] at ha
          rcases ha with ha | ha
          · exact hr.out a ha
          · rw [List.mem_singleton.1 ha, ← hy]; exact hp'
        by_cases hle : b ≤ s.size
        · have t1 : ((s.extract i b).toList == (sb y).toList) = false := by
            rw [bl_toList, bl_toList, bl_sb, beq_eq_false_iff_ne, bl_extract]
            intro e
            apply hp
            apply List.isPrefixOf_iff_prefix.2
            rw [← e]
            exact List.take_prefix _ _
          generalize sb y = x at *
          have d1 : decide ((b : Int) ≤ (s.size : Int)) = true := by rw [decide_eq_true_eq]; omega
          have d1' : decide (b ≤ s.size) = true := by rw [decide_eq_true_eq]; omega
          have hab : i ≤ b := by omega
          clear hp hp' hr hb hm hy
          go_wp2
          go_round
          case rel => exact ⟨k + 1, by omega, by go_num, HR⟩
          case measure => simp [intOf]; omega
        · have hbb : b ≤ 281474976710656 := by omega
          generalize sb y = x at *
          have d1 : decide ((b : Int) ≤ (s.size : Int)) = false := by rw [decide_eq_false_iff_not]; omega
          have d1' : decide (b ≤ s.size) = false := by rw [decide_eq_false_iff_not]; omega
          clear hp hp' hr hb hm hy hle
          go_wp2
          go_round
          case rel => exact ⟨k + 1, by omega, by go_num, HR⟩
          case measure => simp [intOf]; omega
    · have hO : o = none := by rw [ho.out, find_no (by rw [hl18]; exact hlt) hr.out]; rfl
      have HO := Lib.hid hO
      have HT : Hid (tokV ⟨0, [], 0⟩ 0 0 = .agg #[.int .i64 0, .string ⟨#[]⟩, .int .i64 0, .int .i64 0, .int .i64 0]) := rfl
      clear hO hr
      have r := res_store q0 q1 q2 q3 q4 (.int .i64 0) (.string (⟨#[]⟩)) (.int .i64 0) (.int .i64 0) (.int .i64 0)
      obtain ⟨r0, r1, r2, r3, r4, hbs⟩ := r
      have HB := Lib.hid (HB1.out.trans hbs)
      clear hbs
      go_wp2
      (try simp only [Exit.inBlock, Exit.then])
      refine bodyPost_ret (by simp [results, Tryd.results54, go_sem, r0, r1, r2, r3, r4]; try rfl) rfl ?_
      exact ⟨by rw [HO.out]; show _ = Ending.returned (.tuple #[tokV ⟨0, [], 0⟩ 0 0, _]); rw [HT.out]; rfl, HB.out⟩
end Go.Proofs.YtfjeljehodbbmaaDoor
