/- The contract of the reference's Text. -/
import Derived.Test.YtfjeljehodbbmaaDoorDc
import Derived.Test.YtfjeljehodbbmaaDoorLx4
namespace Go.Proofs.YtfjeljehodbbmaaDoor
open Go.RowKit

theorem tail_snoc (ts : List Tok) (t : Tok) : tailL (ts ++ [t]) = tailL ts ++ (32 :: wriL t) := by
  induction ts with
  | nil => simp [tailL]
  | cons a ts ih => rw [List.cons_append, tailL, tailL, ih]; simp
theorem join_snoc {ts : List Tok} (h : ts ≠ []) (t : Tok) : joinL (ts ++ [t]) = joinL ts ++ [32] ++ wriL t := by
  cases ts with
  | nil => exact absurd rfl h
  | cons a ts => rw [List.cons_append, joinL, joinL, tail_snoc]; simp
theorem join_one (t : Tok) : joinL ([] ++ [t]) = joinL [] ++ wriL t := by simp [joinL, tailL]
theorem word_len : ∀ w, w ∈ wordsL → w.length ≤ 9 := by decide
theorem sign_len : ∀ w, w ∈ signsL → w.length ≤ 2 := by decide
theorem wri_len {t : Tok} (h : posL t = true) : (wriL t).length ≤ 67 := by
  obtain ⟨op, text, n⟩ := t
  unfold posL at h
  simp only at h
  unfold wriL
  simp only
  split at h
  · rename_i e
    subst e
    rw [Bool.and_eq_true] at h
    have hn := h.2
    unfold isNameL at hn
    rw [Bool.and_eq_true, decide_eq_true_eq] at hn
    rw [if_neg (by decide), if_neg (by decide), if_neg (by decide), if_neg (by decide)]
    omega
  · split at h
    · rename_i _ e
      subst e
      rw [Bool.and_eq_true] at h
      rw [if_neg (by decide), if_neg (by decide), if_neg (by decide), if_neg (by decide)]
      have := word_len text (by have := h.2; unfold isWordL at this; simpa using this)
      omega
    · split at h
      · rename_i _ _ e
        subst e
        rw [Bool.and_eq_true, decide_eq_true_eq, decide_eq_true_eq] at h
        rw [if_pos rfl]
        have := dec_len (k := 10) (n := n) (by omega) (by have := h.2; unfold maxI at this; omega)
        omega
      · split at h
        · rename_i _ _ _ e
          subst e
          rw [Bool.and_eq_true, Bool.and_eq_true, decide_eq_true_eq, decide_eq_true_eq] at h
          rw [if_neg (by decide), if_pos rfl]
          simp only [List.length_append, List.length_cons, List.length_nil]
          omega
        · split at h
          · rename_i _ _ _ _ e
            subst e
            rw [Bool.and_eq_true, Bool.and_eq_true, Bool.and_eq_true, decide_eq_true_eq, decide_eq_true_eq, decide_eq_true_eq] at h
            rw [if_neg (by decide), if_neg (by decide), if_pos rfl]
            simp only [List.length_append, List.length_cons, List.length_nil]
            omega
          · split at h
            · rename_i _ _ _ _ _ e
              subst e
              rw [Bool.and_eq_true, Bool.and_eq_true, decide_eq_true_eq, decide_eq_true_eq] at h
              rw [if_neg (by decide), if_neg (by decide), if_neg (by decide), if_pos rfl]
              simp only [List.length_append, List.length_cons, List.length_nil]
              omega
            · split at h
              · rename_i _ _ _ _ _ _ e
                subst e
                rw [Bool.and_eq_true] at h
                rw [if_neg (by decide), if_neg (by decide), if_neg (by decide), if_neg (by decide)]
                have := sign_len text (by simpa using h.2)
                omega
              · cases h
/-- What Text returns. -/
def allP (l : List TokA) : Bool := l.all possA
def txtE (l : List TokA) : Nat := if l.length ≤ 20000 ∧ allP l = true then 0 else 2
def txtS (l : List TokA) : ByteArray := if l.length ≤ 20000 ∧ allP l = true then sb (joinL (l.map tokOf)) else ⟨#[]⟩
theorem txt_yes {l : List TokA} (h : l.length ≤ 20000) (hp : allP l = true) : txtS l = sb (joinL (l.map tokOf)) ∧ txtE l = 0 := by unfold txtS txtE; rw [if_pos ⟨h, hp⟩, if_pos ⟨h, hp⟩]; exact ⟨rfl, rfl⟩
theorem txt_no {l : List TokA} (h : ¬ (l.length ≤ 20000 ∧ allP l = true)) : txtS l = ⟨#[]⟩ ∧ txtE l = 2 := by unfold txtS txtE; rw [if_neg h, if_neg h]; exact ⟨rfl, rfl⟩
theorem ret_si {a b : ByteArray} {k' : IntKind} {c d : Int} (h : a = b) (h' : c = d) : Ending.returned (.tuple #[.string a, .int k' c]) = .returned (.tuple #[.string b, .int k' d]) := by rw [h, h']
theorem allP_no {l : List TokA} {k : Nat} (h : k < l.length) (hp : possA l[k] = false) : allP l = false := by
  unfold allP
  rw [List.all_eq_false]
  exact ⟨l[k], List.getElem_mem h, by rw [hp]; decide⟩
theorem allP_more {l : List TokA} {k : Nat} (h : k < l.length) (hk : allP (l.take k) = true) (hp : possA l[k] = true) : allP (l.take (k + 1)) = true := by
  unfold allP at *
  rw [List.take_succ_eq_append_getElem h, List.all_append, hk, List.all_cons, hp]; rfl
theorem poss_posL {a : TokA} (h : possA a = true) : posL (tokOf a) = true := by
  unfold possA at h
  rw [Bool.and_eq_true, Bool.and_eq_true] at h
  exact h.2.2

set_option maxHeartbeats 4000000 in
theorem refText_any (v : Value) (l : List TokA) (w : World) (hv : Tls w v l) :
    Calls Tryd.prog 19 #[v] w fun e w' => e = .returned (.tuple #[.string (txtS l), .int .i64 (txtE l : Nat)]) ∧ Below w.heap.size w w' := by
  obtain ⟨A, c, rfl, hq, hn, hc⟩ := hv
  by_cases hl : l.length ≤ 20000
  · have d1 : decide ((20000 : Int) < (l.length : Int)) = false := by rw [decide_eq_false_iff_not]; omega
    have d2 : decide (20000 < l.length) = false := by rw [decide_eq_false_iff_not]; omega
    go_enter Tryd.func19, Tryd.ntmps19
    go_wp2_with fail
    go_loopw [4, 12] (fun b i wr => ∃ (k : Nat) (x : ByteArray), k ≤ l.length ∧ i = .int .i64 k ∧ b = .string x ∧ x.size ≤ 68 * k ∧ Hid (x = sb (joinL ((l.take k).map tokOf))) ∧ Hid (allP (l.take k) = true) ∧ Below w.heap.size w wr) (fun _ i _ => l.length - (intOf i).toNat)
    case atStart => exact ⟨0, _, Nat.zero_le _, rfl, rfl, by decide, by show _ = _; rw [List.take_zero]; rfl, by show _ = _; rw [List.take_zero]; rfl, Below.refl _ _⟩
    case round =>
      obtain ⟨k, x, hk, rfl, rfl, hx, hr, hp, hb⟩ := hrel
      by_cases hlt : k < l.length
      · rcases hc with rfl | ⟨B, off, rfl, hc⟩
        · exact absurd hlt (by simp)
        obtain ⟨p0, p1, p2, p3, p4⟩ := hc k hlt
        have hlb := block_lt_of_cell p0
        have g0 := (hb.cell hlb).trans p0
        have g1 := (hb.cell (p := ⟨B, off + k * 5 + 1, none⟩) hlb).trans p1
        have g2 := (hb.cell (p := ⟨B, off + k * 5 + 2, none⟩) hlb).trans p2
        have g3 := (hb.cell (p := ⟨B, off + k * 5 + 3, none⟩) hlb).trans p3
        have g4 := (hb.cell (p := ⟨B, off + k * 5 + 4, none⟩) hlb).trans p4
        have HP := Lib.hid (possible_any l[k])
        have HW := Lib.hid (written_any l[k])
        have HB := Lib.hid hb
        have hki : (k : Int) < (l.length : Int) := by omega
        have hk0 : (0 : Int) ≤ (k : Int) := by omega
        have hblk : B < wr.heap.size := block_lt_of_cell g0
        obtain ⟨b, hbb⟩ : ∃ b, possA l[k] = b := ⟨_, rfl⟩
        rw [hbb] at HP
        have htake : (l.take (k + 1)).map tokOf = (l.take k).map tokOf ++ [tokOf l[k]] := by rw [List.take_succ_eq_append_getElem hlt, List.map_append]; rfl
        have HTk := Lib.hid htake
        have HBb := Lib.hid hbb
        have HWl : Hid (b = true → (wriL (tokOf l[k])).length ≤ 67) := fun e => wri_len (poss_posL (hbb.trans e))
        have HWb : Hid (b = true → ∀ w, Calls Tryd.prog 26 #[.agg #[.int .i64 l[k].op, .string l[k].text, .int .i64 l[k].n, .int .i64 l[k].line, .int .i64 l[k].col]] w fun e w' => e = .returned (.string (sb (wriL (tokOf l[k])))) ∧ Below w.heap.size w w') := fun e => written_any l[k] (hbb.trans e)
        have HNo : Hid (b = false → allP l = false) := fun e => allP_no hlt (hbb.trans e)
        have HMo : Hid (b = true → allP (l.take (k + 1)) = true) := fun e => allP_more hlt hp.out (hbb.trans e)
        generalize tokOf l[k] = t at *
        generalize l[k].op = o0 at *
        generalize l[k].text = o1 at *
        generalize l[k].n = o2 at *
        generalize l[k].line = o3 at *
        generalize l[k].col = o4 at *
        clear hc p0 p1 p2 p3 p4 hlb hb hbb htake HW hp
        cases b with
        | false =>
          have HNx := Lib.hid (HNo.out rfl)
          clear HNo HMo HWb HWl
          go_wp2_with fail
          refine (HP.out _).mono ?_
          rintro e w1 ⟨rfl, hb1⟩
          have HB1 := Lib.hid ((HB.out.alloc HB.out.size _).trans (hb1.mono (Nat.le_trans HB.out.size (below_alloc _ _).size)))
          clear hb1
          have HR := Lib.hid (txt_no (l := l) (fun h => by rw [HNx.out] at h; cases h.2))
          go_wp2
          go_ret2
          exact ⟨ret_si HR.out.1.symm (by rw [HR.out.2]; rfl), HB1.out⟩
        | true =>
          have hw67 := HWl.out rfl
          have HMx := Lib.hid (HMo.out rfl)
          have HWx := Lib.hid (HWb.out rfl)
          clear HWl HMo HWb HNo
          have hsw : (sb (wriL t)).size ≤ 67 := by rw [sb_size]; exact hw67
          by_cases hz : k = 0
          · have d3 : decide ((0 : Int) < (k : Int)) = false := by rw [decide_eq_false_iff_not]; omega
            have d3' : decide (0 < k) = false := by rw [decide_eq_false_iff_not]; omega
            have HX : Hid (x ++ sb (wriL t) = sb (joinL ((l.take (k + 1)).map tokOf))) := by
              show _ = _
              rw [hr.out, HTk.out, hz, List.take_zero, List.map_nil, join_one]
              exact sb_add _ _
            have HSz : Hid ((x ++ sb (wriL t)).size ≤ 68 * (k + 1)) := by
              show _ ≤ _
              rw [ByteArray.size_append]; omega
            clear hz HTk hw67
            go_wp2_with fail
            refine (HP.out _).mono ?_
            rintro e w1 ⟨rfl, hb1⟩
            have hl1 : wr.heap.size < (wr.alloc (.cells #[.int .i64 o0, .string o1, .int .i64 o2, .int .i64 o3, .int .i64 o4] 40)).heap.size := by rw [World.size_alloc]; omega
            have q0 : w1.cell? ⟨wr.heap.size, 0, none⟩ = some (.int .i64 o0) := (hb1.cell (by exact hl1)).trans (by rw [World.cell?_alloc_at _ _ _ _ rfl]; rfl)
            have q1 : w1.cell? ⟨wr.heap.size, 1, none⟩ = some (.string o1) := (hb1.cell (by exact hl1)).trans (by rw [World.cell?_alloc_at _ _ _ _ rfl]; rfl)
            have q2 : w1.cell? ⟨wr.heap.size, 2, none⟩ = some (.int .i64 o2) := (hb1.cell (by exact hl1)).trans (by rw [World.cell?_alloc_at _ _ _ _ rfl]; rfl)
            have q3 : w1.cell? ⟨wr.heap.size, 3, none⟩ = some (.int .i64 o3) := (hb1.cell (by exact hl1)).trans (by rw [World.cell?_alloc_at _ _ _ _ rfl]; rfl)
            have q4 : w1.cell? ⟨wr.heap.size, 4, none⟩ = some (.int .i64 o4) := (hb1.cell (by exact hl1)).trans (by rw [World.cell?_alloc_at _ _ _ _ rfl]; rfl)
            have HB1 := Lib.hid ((HB.out.alloc HB.out.size _).trans (hb1.mono (Nat.le_trans HB.out.size (below_alloc _ _).size)))
            have HBs := Lib.hid (Nat.le_trans (Nat.le_trans HB.out.size (Nat.le_of_lt hl1)) hb1.size)
            clear hb1 hl1
            go_wp2_with fail
            refine (HWx.out _).mono ?_
            rintro e w2 ⟨rfl, hb2⟩
            have HB2 := Lib.hid (HB1.out.trans (hb2.mono HBs.out))
            clear hb2
            generalize hy : sb (wriL t) = y at *
            go_wp2
            go_roundw
            case rel => exact ⟨k + 1, x ++ y, by omega, by go_num, rfl, HSz.out, HX, HMx, HB2.out⟩
            case measure => simp [intOf]; omega
          · have d3 : decide ((0 : Int) < (k : Int)) = true := by rw [decide_eq_true_eq]; omega
            have d3' : decide (0 < k) = true := by rw [decide_eq_true_eq]; omega
            have HX : Hid (x ++ (⟨#[32]⟩ : ByteArray) ++ sb (wriL t) = sb (joinL ((l.take (k + 1)).map tokOf))) := by
              show _ = _
              have hne : (l.take k).map tokOf ≠ [] := by
                intro e
                have := congrArg List.length e
                rw [List.length_map, List.length_take, List.length_nil] at this
                omega
              rw [hr.out, HTk.out, join_snoc hne, ← sb_add, ← sb_add]
              rfl
            have HSz : Hid ((x ++ (⟨#[32]⟩ : ByteArray) ++ sb (wriL t)).size ≤ 68 * (k + 1)) := by
              show _ ≤ _
              rw [ByteArray.size_append, ByteArray.size_append]
              have : (⟨#[32]⟩ : ByteArray).size = 1 := rfl
              omega
            clear hz HTk hw67
            go_wp2_with fail
            refine (HP.out _).mono ?_
            rintro e w1 ⟨rfl, hb1⟩
            have hl1 : wr.heap.size < (wr.alloc (.cells #[.int .i64 o0, .string o1, .int .i64 o2, .int .i64 o3, .int .i64 o4] 40)).heap.size := by rw [World.size_alloc]; omega
            have q0 : w1.cell? ⟨wr.heap.size, 0, none⟩ = some (.int .i64 o0) := (hb1.cell (by exact hl1)).trans (by rw [World.cell?_alloc_at _ _ _ _ rfl]; rfl)
            have q1 : w1.cell? ⟨wr.heap.size, 1, none⟩ = some (.string o1) := (hb1.cell (by exact hl1)).trans (by rw [World.cell?_alloc_at _ _ _ _ rfl]; rfl)
            have q2 : w1.cell? ⟨wr.heap.size, 2, none⟩ = some (.int .i64 o2) := (hb1.cell (by exact hl1)).trans (by rw [World.cell?_alloc_at _ _ _ _ rfl]; rfl)
            have q3 : w1.cell? ⟨wr.heap.size, 3, none⟩ = some (.int .i64 o3) := (hb1.cell (by exact hl1)).trans (by rw [World.cell?_alloc_at _ _ _ _ rfl]; rfl)
            have q4 : w1.cell? ⟨wr.heap.size, 4, none⟩ = some (.int .i64 o4) := (hb1.cell (by exact hl1)).trans (by rw [World.cell?_alloc_at _ _ _ _ rfl]; rfl)
            have HB1 := Lib.hid ((HB.out.alloc HB.out.size _).trans (hb1.mono (Nat.le_trans HB.out.size (below_alloc _ _).size)))
            have HBs := Lib.hid (Nat.le_trans (Nat.le_trans HB.out.size (Nat.le_of_lt hl1)) hb1.size)
            clear hb1 hl1
            go_wp2_with fail
            refine (HWx.out _).mono ?_
            rintro e w2 ⟨rfl, hb2⟩
            have HB2 := Lib.hid (HB1.out.trans (hb2.mono HBs.out))
            clear hb2
            generalize hy : sb (wriL t) = y at *
            go_wp2
            go_roundw
            case rel => exact ⟨k + 1, x ++ (⟨#[32]⟩ : ByteArray) ++ y, by omega, by go_num, rfl, HSz.out, HX, HMx, HB2.out⟩
            case measure => simp [intOf]; omega
      · have HR := Lib.hid (txt_yes (l := l) hl (by have := hp.out; rwa [List.take_of_length_le (by omega)] at this))
        have HX : Hid (x = sb (joinL (l.map tokOf))) := by
          show _ = _
          rw [hr.out, List.take_of_length_le (by omega)]
        clear hc hr hp
        go_wp2
        go_ret2
        exact ⟨ret_si (by rw [HR.out.1, HX.out]) (by rw [HR.out.2]; rfl), hb⟩
  · have d1 : decide ((20000 : Int) < (l.length : Int)) = true := by rw [decide_eq_true_eq]; omega
    have d2 : decide (20000 < l.length) = true := by rw [decide_eq_true_eq]; omega
    have HR := Lib.hid (txt_no (l := l) (fun h => hl h.1))
    clear hc hl
    go_enter Tryd.func19, Tryd.ntmps19
    go_wp2
    go_ret2
    exact ⟨ret_si HR.out.1.symm (by rw [HR.out.2]; rfl), Below.refl _ _⟩
end Go.Proofs.YtfjeljehodbbmaaDoor
