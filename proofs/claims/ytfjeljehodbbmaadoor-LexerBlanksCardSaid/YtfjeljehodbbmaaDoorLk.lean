/- The walk of LexerBlanks, with the program's contracts given. -/
import Derived.Test.YtfjeljehodbbmaaDoorLb
namespace Go.Proofs.YtfjeljehodbbmaaDoor
open Go.RowKit

def gapA (m : Nat) : List UInt8 := gapsL.getD m []
theorem gap_in {m : Nat} : gapA m ∈ gapsL := by
  unfold gapA
  by_cases h : m < 7
  · obtain rfl | rfl | rfl | rfl | rfl | rfl | rfl : m = 0 ∨ m = 1 ∨ m = 2 ∨ m = 3 ∨ m = 4 ∨ m = 5 ∨ m = 6 := by omega
    all_goals decide
  · rw [List.getD, List.getElem?_eq_none (show gapsL.length ≤ m from Nat.le_of_not_lt h)]; decide
theorem gap_len (m : Nat) : (gapA m).length ≤ 21 := by
  have : ∀ g ∈ gapsL, g.length ≤ 21 := by decide
  exact this _ gap_in
def preL : List (List UInt8 × Tok) → List UInt8
  | [] => []
  | (g, t) :: r => 32 :: (g ++ (wriL t ++ preL r))
theorem pre_end (r : List (List UInt8 × Tok)) : preL r ++ endL = spreadL r := by
  induction r with
  | nil => rfl
  | cons p r ih =>
    obtain ⟨g, t⟩ := p
    rw [preL, spreadL, ← ih]
    simp
theorem pre_snoc (r : List (List UInt8 × Tok)) (g : List UInt8) (t : Tok) : preL (r ++ [(g, t)]) = preL r ++ (32 :: (g ++ wriL t)) := by
  induction r with
  | nil => simp [preL]
  | cons p r ih =>
    obtain ⟨g', t'⟩ := p
    rw [List.cons_append, preL, ih, preL]
    simp
/-- What is gone through of the tokens is written as x. -/
def Pre (l : List TokA) (k : Nat) (x : ByteArray) : Prop := ∃ r : List (List UInt8 × Tok), r.map (·.2) = (l.take k).map tokOf ∧ (∀ p ∈ r, p.1 ∈ gapsL ∧ posL p.2 = true) ∧ x = sb (preL r)
theorem Pre.nil (l : List TokA) : Pre l 0 ⟨#[]⟩ := ⟨[], by rw [List.take_zero]; rfl, by simp, rfl⟩
theorem Pre.more {l : List TokA} {k : Nat} {x : ByteArray} (h : Pre l k x) (hk : k < l.length) (hp : possA l[k] = true) {g : List UInt8} (hg : g ∈ gapsL) : Pre l (k + 1) (x ++ (⟨#[32]⟩ : ByteArray) ++ sb g ++ sb (wriL (tokOf l[k]))) := by
  obtain ⟨r, h1, h2, rfl⟩ := h
  refine ⟨r ++ [(g, tokOf l[k])], ?_, ?_, ?_⟩
  · rw [List.map_append, h1, List.take_succ_eq_append_getElem hk, List.map_append]; rfl
  · intro p hp'
    rcases List.mem_append.1 hp' with h | h
    · exact h2 p h
    · rw [List.mem_singleton.1 h]; exact ⟨hg, poss_posL hp⟩
  · rw [pre_snoc, show (⟨#[32]⟩ : ByteArray) = sb [32] from rfl, sb_add, sb_add, sb_add]
    simp
theorem blanks_facts {l : List TokA} {x : ByteArray} (hk : Pre l l.length x) (hp : allP l = true) (hx : (x ++ sb endL).size ≤ 20000) : (lexM (bl (x ++ sb endL))).2 = none ∧ alikeB l (lexT (x ++ sb endL)) = true := by
  obtain ⟨r, h1, h2, rfl⟩ := hk
  rw [List.take_of_length_le (Nat.le_refl _)] at h1
  obtain ⟨j1, j2⟩ := lex_spread h2
  have e : bl (sb (preL r) ++ sb endL) = spreadL r := by rw [sb_add, bl_sb, pre_end]
  have hn : (lexM (bl (sb (preL r) ++ sb endL))).2 = none := by rw [e]; exact j2
  refine ⟨hn, ?_⟩
  unfold alikeB
  apply decide_eq_true
  rw [(good_facts hx hn).2.2.2, keys_mst, e]
  rw [show (lexM (spreadL r)).1.map (·.1) = r.map (·.2) from j1, h1, List.map_map]
  apply List.map_congr_left
  intro a ha
  have hpa : possA a = true := by unfold allP at hp; exact List.all_eq_true.1 hp a ha
  unfold possA at hpa
  rw [Bool.and_eq_true, Bool.and_eq_true, decide_eq_true_eq, decide_eq_true_eq] at hpa
  show a.key = keyT (tokOf a)
  unfold TokA.key keyT tokOf
  rw [Int.toNat_of_nonneg hpa.1, Int.toNat_of_nonneg hpa.2.1]
set_option maxHeartbeats 4000000 in
theorem blanks_of (HL : LexC 14) (HT : TextC 18) (HN : NameC 20) (HW : WordC 21) (v u : Value) (l : List TokA) (gs : List Nat) (w : World) (h : Tls w v l) (hg : Bls w u gs) (hw : Std w) :
    Calls Tryd.prog 9 #[v, u] w fun e w' => e = .returned (.bool true) ∧ Below w.heap.size w w' := by
  have HStd := Lib.hid hw
  clear hw
  have HA := Lib.hid (awake_of HL HT HN HW)
  have hLo := long_any ⟨#[]⟩ v l w (by decide) h
  have HV := Lib.hid h
  obtain ⟨A, c, rfl, hq, hn, hc⟩ := h
  obtain ⟨A', c', rfl, hn', hz', hc'⟩ := hg
  cases hb : longB ⟨#[]⟩ l with
  | true =>
    clear hc
    rw [hb] at hLo
    have HLo := Lib.hid hLo
    clear hLo hb HL HT HN HW HV
    go_enter Tryd.func9, Tryd.ntmps9
    go_wp2_with fail
    refine (HLo.out).mono ?_
    rintro e w' ⟨rfl, rfl⟩
    go_wp2_with fail
    refine (HA.out _ (by first | exact HStd.out)).mono ?_
    rintro e w9 ⟨rfl, hb9⟩
    have HB9 := Lib.hid (hb9)
    clear hb9
    go_wp2
    go_ret
    exact ⟨rfl, HB9.out⟩
  | false =>
    rw [hb] at hLo
    have HLo := Lib.hid hLo
    have h2 := long_no2 hb
    have HL1 := Lib.hid HL
    clear hLo hb HL HT HN HW
    go_enter Tryd.func9, Tryd.ntmps9
    go_wp2_with fail
    refine (HLo.out).mono ?_
    rintro e w' ⟨rfl, rfl⟩
    go_wp2_with fail
    go_loopw [5, 15] (fun b i wr => ∃ (k : Nat) (x : ByteArray), k ≤ l.length ∧ i = .int .i64 k ∧ b = .string x ∧ x.size ≤ 90 * k ∧ Hid (Pre l k x) ∧ Hid (allP (l.take k) = true) ∧ Below w.heap.size w wr) (fun _ i _ => l.length - (intOf i).toNat)
    case atStart => exact ⟨0, _, Nat.zero_le _, rfl, rfl, by decide, Pre.nil l, by show _ = _; rw [List.take_zero]; rfl, Below.refl _ _⟩
    case round =>
      obtain ⟨k, x, hk, rfl, rfl, hx, hr, hp, hb⟩ := hrel
      by_cases hlt : k < l.length
      · rcases hc with rfl | ⟨B, off, rfl, hc⟩
        · exact absurd hlt (by simp)
        obtain ⟨p0, p1, p2, p3, p4⟩ := hc k hlt
        have hlb := block_lt_of_cell p0
        have g0 := (hb.cell hlb).trans p0
        have g1 := (hb.cell (p := ⟨B, off + k * 5 + 1, none⟩) hlb).trans p1
        have g2 := (hb.cell (p := ⟨B, off + k * 5 + 2, none⟩) hlb).trans p2
        have g3 := (hb.cell (p := ⟨B, off + k * 5 + 3, none⟩) hlb).trans p3
        have g4 := (hb.cell (p := ⟨B, off + k * 5 + 4, none⟩) hlb).trans p4
        have HP := Lib.hid (possible_any l[k])
        have HB := Lib.hid hb
        have hki : (k : Int) < (l.length : Int) := by omega
        have hk0 : (0 : Int) ≤ (k : Int) := by omega
        have hblk : B < wr.heap.size := block_lt_of_cell g0
        obtain ⟨b, hbb⟩ : ∃ b, possA l[k] = b := ⟨_, rfl⟩
        rw [hbb] at HP
        have HWl : Hid (b = true → (wriL (tokOf l[k])).length ≤ 67) := fun e => wri_len (poss_posL (hbb.trans e))
        have HWb : Hid (b = true → ∀ w, Calls Tryd.prog 26 #[.agg #[.int .i64 l[k].op, .string l[k].text, .int .i64 l[k].n, .int .i64 l[k].line, .int .i64 l[k].col]] w fun e w' => e = .returned (.string (sb (wriL (tokOf l[k])))) ∧ Below w.heap.size w w') := fun e => written_any l[k] (hbb.trans e)
        have HMo : Hid (b = true → allP (l.take (k + 1)) = true) := fun e => allP_more hlt hp.out (hbb.trans e)
        have HPr : Hid (b = true → ∀ g, g ∈ gapsL → Pre l (k + 1) (x ++ (⟨#[32]⟩ : ByteArray) ++ sb g ++ sb (wriL (tokOf l[k])))) := fun e g hg => hr.out.more hlt (hbb.trans e) hg
        generalize tokOf l[k] = t at *
        generalize l[k].op = o0 at *
        generalize l[k].text = o1 at *
        generalize l[k].n = o2 at *
        generalize l[k].line = o3 at *
        generalize l[k].col = o4 at *
        clear hc p0 p1 p2 p3 p4 hlb hb hbb hp hr HL1
        cases b with
        | false =>
          clear HWl HWb HMo HPr
          go_wp2_with fail
          refine (HP.out _).mono ?_
          rintro e w1 ⟨rfl, hb1⟩
          have hba := below_then (below_alloc wr (.cells #[.int .i64 o0, .string o1, .int .i64 o2, .int .i64 o3, .int .i64 o4] 40)) hb1
          have HB1 := Lib.hid (below_then HB.out hba)
          clear hba hb1
          go_wp2_with fail
          refine (HA.out _ (by first | exact HStd.out.later HB1.out | exact HStd.out.later HB9.out | exact HStd.out.later HB.out | exact HStd.out)).mono ?_
          rintro e w9 ⟨rfl, hb9⟩
          have HB9 := Lib.hid (below_then HB1.out hb9)
          clear hb9
          go_wp2
          go_ret
          exact ⟨rfl, HB9.out⟩
        | true =>
          have hw67 := HWl.out rfl
          have HMx := Lib.hid (HMo.out rfl)
          have HWx := Lib.hid (HWb.out rfl)
          have HPx := Lib.hid (HPr.out rfl)
          clear HWl HMo HWb HPr
          have hsw : (sb (wriL t)).size ≤ 67 := by rw [sb_size]; exact hw67
          generalize hy : sb (wriL t) = y at *
          clear hy hw67
          by_cases hgs : k < gs.length
          · have d3 : decide ((k : Int) < (gs.length : Int)) = true := by rw [decide_eq_true_eq]; omega
            have d3' : decide (k < gs.length) = true := by rw [decide_eq_true_eq]; omega
            rcases hc' with rfl | ⟨B', off', rfl, hc'⟩
            · exact absurd hgs (by simp)
            have p5 := hc' k hgs
            have hz := hz' _ (List.getElem_mem hgs)
            have hlb' := block_lt_of_cell p5
            have q5 := (HB.out.cell (by exact hlb')).trans p5
            have hkg : (k : Int) < (gs.length : Int) := by omega
            generalize gs[k] = z at *
            obtain ⟨m, hm⟩ : ∃ m, m = z % 7 := ⟨_, rfl⟩
            have hmi : (z : Int) % 7 = (m : Int) := by omega
            have hm6 : m < 7 := by omega
            clear hc' p5 hz' hm
            have hPm := HPx.out _ (gap_in (m := m))
            have HSz : Hid ((x ++ (⟨#[32]⟩ : ByteArray) ++ sb (gapA m) ++ y).size ≤ 90 * (k + 1)) := by
              show _ ≤ _
              rw [ByteArray.size_append, ByteArray.size_append, ByteArray.size_append, sb_size]
              have : (⟨#[32]⟩ : ByteArray).size = 1 := rfl
              have := gap_len m
              omega
            go_wp2_with fail
            refine (HP.out _).mono ?_
            rintro e w1 ⟨rfl, hb1⟩
            have hl1 : wr.heap.size < (wr.alloc (.cells #[.int .i64 o0, .string o1, .int .i64 o2, .int .i64 o3, .int .i64 o4] 40)).heap.size := by rw [World.size_alloc]; omega
            have q0 : w1.cell? ⟨wr.heap.size, 0, none⟩ = some (.int .i64 o0) := (hb1.cell (by exact hl1)).trans (by rw [World.cell?_alloc_at _ _ _ _ rfl]; rfl)
            have q1 : w1.cell? ⟨wr.heap.size, 1, none⟩ = some (.string o1) := (hb1.cell (by exact hl1)).trans (by rw [World.cell?_alloc_at _ _ _ _ rfl]; rfl)
            have q2 : w1.cell? ⟨wr.heap.size, 2, none⟩ = some (.int .i64 o2) := (hb1.cell (by exact hl1)).trans (by rw [World.cell?_alloc_at _ _ _ _ rfl]; rfl)
            have q3 : w1.cell? ⟨wr.heap.size, 3, none⟩ = some (.int .i64 o3) := (hb1.cell (by exact hl1)).trans (by rw [World.cell?_alloc_at _ _ _ _ rfl]; rfl)
            have q4 : w1.cell? ⟨wr.heap.size, 4, none⟩ = some (.int .i64 o4) := (hb1.cell (by exact hl1)).trans (by rw [World.cell?_alloc_at _ _ _ _ rfl]; rfl)
            have hba := below_then (below_alloc wr (.cells #[.int .i64 o0, .string o1, .int .i64 o2, .int .i64 o3, .int .i64 o4] 40)) hb1
            have q6 := (hba.cell (block_lt_of_cell q5)).trans q5
            have HB1 := Lib.hid (below_then HB.out hba)
            have hbt : wr.heap.size < w1.heap.size := block_lt_of_cell q0
            have hbg : B' < w1.heap.size := block_lt_of_cell q6
            clear hb1 hl1 hba g0 g1 g2 g3 g4 q5 hlb'
            obtain rfl | rfl | rfl | rfl | rfl | rfl | rfl : m = 0 ∨ m = 1 ∨ m = 2 ∨ m = 3 ∨ m = 4 ∨ m = 5 ∨ m = 6 := by omega
            all_goals
              have HPm := Lib.hid hPm
              clear hPm
              go_wp2_with fail
              refine (HWx.out _).mono ?_
              rintro e w2 ⟨rfl, hb2⟩
              have HB2 := Lib.hid (below_then HB1.out (below_then (below_alloc w1 _) hb2))
              clear hb2 q0 q1 q2 q3 q4 q6 hbt hbg
              go_wp2
              go_roundw
              case rel => exact ⟨k + 1, _, by omega, by go_num, rfl, HSz.out, HPm, HMx, HB2.out⟩
              case measure => simp [intOf]; omega
          · have d3 : decide ((k : Int) < (gs.length : Int)) = false := by rw [decide_eq_false_iff_not]; omega
            have d3' : decide (k < gs.length) = false := by rw [decide_eq_false_iff_not]; omega
            have hPm := HPx.out [] (by decide)
            rw [show x ++ (⟨#[32]⟩ : ByteArray) ++ sb [] = x ++ (⟨#[32]⟩ : ByteArray) from bl_inj (by rw [bl_append, bl_sb, List.append_nil])] at hPm
            have HPm := Lib.hid hPm
            have HSz : Hid ((x ++ (⟨#[32]⟩ : ByteArray) ++ y).size ≤ 90 * (k + 1)) := by
              show _ ≤ _
              rw [ByteArray.size_append, ByteArray.size_append]
              have : (⟨#[32]⟩ : ByteArray).size = 1 := rfl
              omega
            clear hPm hc' hz'
            go_wp2_with fail
            refine (HP.out _).mono ?_
            rintro e w1 ⟨rfl, hb1⟩
            have hl1 : wr.heap.size < (wr.alloc (.cells #[.int .i64 o0, .string o1, .int .i64 o2, .int .i64 o3, .int .i64 o4] 40)).heap.size := by rw [World.size_alloc]; omega
            have q0 : w1.cell? ⟨wr.heap.size, 0, none⟩ = some (.int .i64 o0) := (hb1.cell (by exact hl1)).trans (by rw [World.cell?_alloc_at _ _ _ _ rfl]; rfl)
            have q1 : w1.cell? ⟨wr.heap.size, 1, none⟩ = some (.string o1) := (hb1.cell (by exact hl1)).trans (by rw [World.cell?_alloc_at _ _ _ _ rfl]; rfl)
            have q2 : w1.cell? ⟨wr.heap.size, 2, none⟩ = some (.int .i64 o2) := (hb1.cell (by exact hl1)).trans (by rw [World.cell?_alloc_at _ _ _ _ rfl]; rfl)
            have q3 : w1.cell? ⟨wr.heap.size, 3, none⟩ = some (.int .i64 o3) := (hb1.cell (by exact hl1)).trans (by rw [World.cell?_alloc_at _ _ _ _ rfl]; rfl)
            have q4 : w1.cell? ⟨wr.heap.size, 4, none⟩ = some (.int .i64 o4) := (hb1.cell (by exact hl1)).trans (by rw [World.cell?_alloc_at _ _ _ _ rfl]; rfl)
            have hba := below_then (below_alloc wr (.cells #[.int .i64 o0, .string o1, .int .i64 o2, .int .i64 o3, .int .i64 o4] 40)) hb1
            have HB1 := Lib.hid (below_then HB.out hba)
            clear hb1 hl1 hba g0 g1 g2 g3 g4
            go_wp2_with fail
            refine (HWx.out _).mono ?_
            rintro e w2 ⟨rfl, hb2⟩
            have HB2 := Lib.hid (below_then HB1.out hb2)
            clear hb2 q0 q1 q2 q3 q4
            go_wp2
            go_roundw
            case rel => exact ⟨k + 1, _, by omega, by go_num, rfl, HSz.out, HPm.out, HMx, HB2.out⟩
            case measure => simp [intOf]; omega
      · have hkl : k = l.length := by omega
        subst hkl
        have hp2 := hp.out
        rw [List.take_of_length_le (Nat.le_refl _)] at hp2
        have hez : (sb endL).size = 11 := rfl
        have hz3 : (x ++ sb endL).size ≤ 20000 := by rw [ByteArray.size_append]; omega
        obtain ⟨z3, z4⟩ := blanks_facts hr.out hp2 hz3
        obtain ⟨hc1, hn1, hp1, _⟩ := good_facts hz3 z3
        have hL2 := fun w => HL1.out (x ++ sb endL) w (by omega)
        rw [hc1, hn1, hp1] at hL2
        unfold faultV at hL2
        have hAl := fun u v w h h' => alike_any u v l (lexT (x ++ sb endL)) w h h'
        rw [z4] at hAl
        generalize lexT (x ++ sb endL) = m at *
        have HL2 := Lib.hid hL2
        have HAl := Lib.hid hAl
        have HB := Lib.hid hb
        clear hL2 hAl hb HL1 hc hp hp2 z3 z4 hc1 hn1 hp1 hr hc' hz3 hez
        go_wp2_with fail
        refine (HL2.out _ (by first | exact HStd.out.later HB.out | exact HStd.out.later HB2.out | exact HStd.out.later HB1.out | exact HStd.out.later HB9.out | exact HStd.out)).mono ?_
        rintro e w4 ⟨v4, rfl, t4, hb4⟩
        have hal := below_alloc w4 (.cells #[.int .i64 0, .string ⟨#[]⟩, .int .i64 0, .int .i64 0] 27)
        have hb4a := below_then hb4 hal
        have HV4 := Lib.hid ((HV.out.later HB.out).later hb4a)
        have HY4 := Lib.hid (t4.later hal)
        have HB4 := Lib.hid (below_then HB.out hb4a)
        obtain ⟨f0, f1, f2, f3⟩ := Flt.new w4 0 ⟨#[]⟩ 0 0
        clear hal hb4 hb4a t4
        go_wp2_with fail
        refine (HAl.out _ _ _ HV4.out HY4.out).mono ?_
        rintro e w5 ⟨rfl, hb5⟩
        have HB5 := Lib.hid (below_then HB4.out hb5)
        clear hb5 HV4 HY4 HB4
        go_wp2_with fail
        refine (HA.out _ (by first | exact HStd.out.later HB5.out | exact HStd.out.later HB9.out | exact HStd.out.later HB4.out | exact HStd.out.later HB2.out | exact HStd.out.later HB1.out | exact HStd.out.later HB.out | exact HStd.out)).mono ?_
        rintro e w9 ⟨rfl, hb9⟩
        have HB9 := Lib.hid (below_then HB5.out hb9)
        clear hb9
        go_wp2
        go_ret
        exact ⟨rfl, HB9.out⟩
end Go.Proofs.YtfjeljehodbbmaaDoor
