/- Slices of tokens; the contracts of the reference's Alike and Same. -/
import Derived.Test.YtfjeljehodbbmaaDoorSt
namespace Go.Proofs.YtfjeljehodbbmaaDoor
open Go.RowKit

/-- A token of any numbers. -/
structure TokA where
  op : Int
  text : ByteArray
  n : Int
  line : Int
  col : Int
def TokA.key (a : TokA) : Int × List UInt8 × Int := (a.op, bl a.text, a.n)
def alikeB (l m : List TokA) : Bool := decide (l.map TokA.key = m.map TokA.key)
/-- v is a slice that reads as these tokens. -/
def Tls (w : World) (v : Value) (l : List TokA) : Prop :=
  ∃ (A : Option Addr) (c : Nat), v = .slice A l.length c ∧ l.length ≤ c ∧ l.length ≤ 140737488355328 ∧
    (l = [] ∨ ∃ b off, A = some ⟨b, off, none⟩ ∧ ∀ (k : Nat) (h : k < l.length), w.cell? ⟨b, off + k * 5, none⟩ = some (.int .i64 l[k].op) ∧ w.cell? ⟨b, off + k * 5 + 1, none⟩ = some (.string l[k].text) ∧ w.cell? ⟨b, off + k * 5 + 2, none⟩ = some (.int .i64 l[k].n)
      ∧ w.cell? ⟨b, off + k * 5 + 3, none⟩ = some (.int .i64 l[k].line) ∧ w.cell? ⟨b, off + k * 5 + 4, none⟩ = some (.int .i64 l[k].col))
theorem Tls.later {w w' : World} {v : Value} {l : List TokA} (h : Tls w v l) (hb : Below w.heap.size w w') : Tls w' v l := by
  obtain ⟨A, c, e, h1, h2, hc⟩ := h
  refine ⟨A, c, e, h1, h2, ?_⟩
  rcases hc with hc | ⟨b, off, e', hc⟩
  · exact .inl hc
  · refine .inr ⟨b, off, e', fun k hk => ?_⟩
    obtain ⟨c0, c1, c2, c3, c4⟩ := hc k hk
    have hl := block_lt_of_cell c0
    exact ⟨(hb.cell hl).trans c0, (hb.cell (p := ⟨b, off + k * 5 + 1, none⟩) hl).trans c1, (hb.cell (p := ⟨b, off + k * 5 + 2, none⟩) hl).trans c2, (hb.cell (p := ⟨b, off + k * 5 + 3, none⟩) hl).trans c3, (hb.cell (p := ⟨b, off + k * 5 + 4, none⟩) hl).trans c4⟩
theorem alike_len {l m : List TokA} (h : l.length ≠ m.length) : alikeB l m = false := by
  unfold alikeB
  rw [decide_eq_false_iff_not]
  intro e
  have := congrArg List.length e
  rw [List.length_map, List.length_map] at this
  exact h this
theorem alike_no {l m : List TokA} {k : Nat} (h : k < l.length) (h' : k < m.length) (hne : l[k].key ≠ m[k].key) : alikeB l m = false := by
  unfold alikeB
  rw [decide_eq_false_iff_not]
  intro e
  have h1 : (l.map TokA.key)[k]'(by rw [List.length_map]; exact h) = (m.map TokA.key)[k]'(by rw [List.length_map]; exact h') := by simp only [e]
  rw [List.getElem_map, List.getElem_map] at h1
  exact hne h1
theorem alike_more {l m : List TokA} {k : Nat} (h : k < l.length) (h' : k < m.length) (hk : (l.take k).map TokA.key = (m.take k).map TokA.key) (he : l[k].key = m[k].key) : (l.take (k + 1)).map TokA.key = (m.take (k + 1)).map TokA.key := by
  rw [List.take_succ_eq_append_getElem h, List.take_succ_eq_append_getElem h', List.map_append, List.map_append, hk, List.map_cons, List.map_cons, he]
theorem alike_end {l m : List TokA} {k : Nat} (hl : l.length = m.length) (h : ¬ k < l.length) (hk : (l.take k).map TokA.key = (m.take k).map TokA.key) : alikeB l m = true := by
  rw [List.take_of_length_le (by omega), List.take_of_length_le (by omega)] at hk
  exact decide_eq_true hk

set_option maxRecDepth 100000 in
set_option maxHeartbeats 4000000 in
theorem alike_any (u v : Value) (l m : List TokA) (w : World) (hu : Tls w u l) (hv : Tls w v m) :
    Calls Tryd.prog 25 #[u, v] w fun e w' => e = .returned (.bool (alikeB l m)) ∧ Below w.heap.size w w' := by
  obtain ⟨A, c, rfl, hq, hn, hc⟩ := hu
  obtain ⟨A', c', rfl, hq', hn', hc'⟩ := hv
  by_cases hl : l.length = m.length
  · have HL := Lib.hid hl
    have ht : ((l.length : Int) != (m.length : Int)) = false := by rw [hl]; simp
    have ht' : ((l.length : Int) == (m.length : Int)) = true := by rw [hl]; simp
    clear hl
    go_enter Tryd.func25, Tryd.ntmps25
    go_wp2_with fail
    go_loopw [13] (fun i wr => ∃ k : Nat, k ≤ l.length ∧ i = .int .i64 k ∧ Hid ((l.take k).map TokA.key = (m.take k).map TokA.key) ∧ Below w.heap.size w wr) (fun i _ => l.length - (intOf i).toNat)
    case atStart => exact ⟨0, Nat.zero_le _, rfl, rfl, Below.refl _ _⟩
    case round =>
      obtain ⟨k, hk, rfl, hr, hb⟩ := hrel
      by_cases hlt : k < l.length
      · have hlt' : k < m.length := by have := HL.out; omega
        rcases hc with rfl | ⟨b, off, rfl, hc⟩
        · exact absurd hlt (by simp)
        rcases hc' with rfl | ⟨b', off', rfl, hc'⟩
        · exact absurd hlt' (by simp)
        obtain ⟨p0, p1, p2, _, _⟩ := hc k hlt
        obtain ⟨q0, q1, q2, _, _⟩ := hc' k hlt'
        have hlb := block_lt_of_cell p0
        have hlb' := block_lt_of_cell q0
        have g0 := (hb.cell hlb).trans p0
        have g1 := (hb.cell (p := ⟨b, off + k * 5 + 1, none⟩) hlb).trans p1
        have g2 := (hb.cell (p := ⟨b, off + k * 5 + 2, none⟩) hlb).trans p2
        have f0 := (hb.cell hlb').trans q0
        have f1 := (hb.cell (p := ⟨b', off' + k * 5 + 1, none⟩) hlb').trans q1
        have f2 := (hb.cell (p := ⟨b', off' + k * 5 + 2, none⟩) hlb').trans q2
        have HB := Lib.hid hb
        clear hc hc' p0 p1 p2 q0 q1 q2 hlb hlb' hb ht ht'
        have hki : (k : Int) < (l.length : Int) := by omega
        have hki' : (k : Int) < (m.length : Int) := by omega
        have hk0 : (0 : Int) ≤ (k : Int) := by omega
        by_cases e0 : l[k].op = m[k].op
        · have t0 : (l[k].op != m[k].op) = false := by rw [bne_eq_false_iff_eq]; exact e0
          have t0' : (l[k].op == m[k].op) = true := by rw [beq_iff_eq]; exact e0
          by_cases e1 : bl l[k].text = bl m[k].text
          · have t1 : (l[k].text.toList == m[k].text.toList) = true := by rw [bl_toList, bl_toList, e1]; simp
            have t1' : (l[k].text.toList != m[k].text.toList) = false := by rw [bne, t1]; rfl
            by_cases e2 : l[k].n = m[k].n
            · have t2 : (l[k].n != m[k].n) = false := by rw [bne_eq_false_iff_eq]; exact e2
              have t2' : (l[k].n == m[k].n) = true := by rw [beq_iff_eq]; exact e2
              have HR := Lib.hid (alike_more hlt hlt' hr.out (by unfold TokA.key; rw [e0, e1, e2]))
              generalize l[k].op = x0 at *
              generalize m[k].op = y0 at *
              generalize l[k].text = x1 at *
              generalize m[k].text = y1 at *
              generalize l[k].n = x2 at *
              generalize m[k].n = y2 at *
              clear e0 e1 e2 hr
              go_wp2
              go_quiet (fail)
              go_wp2
              go_roundw
              case rel => exact ⟨k + 1, by omega, by go_num, HR, below_drewN HB.out _⟩
              case measure => simp [intOf]; omega
            · have t2 : (l[k].n != m[k].n) = true := by rw [bne_iff_ne]; exact e2
              have t2' : (l[k].n == m[k].n) = false := by rw [beq_eq_false_iff_ne]; exact e2
              have HR := Lib.hid (alike_no hlt hlt' (fun e => e2 (by have := congrArg (fun x => x.2.2) e; exact this)))
              generalize l[k].op = x0 at *
              generalize m[k].op = y0 at *
              generalize l[k].text = x1 at *
              generalize m[k].text = y1 at *
              generalize l[k].n = x2 at *
              generalize m[k].n = y2 at *
              clear e0 e1 e2 hr
              go_wp2
              go_quiet (fail)
              go_wp2
              go_ret
              exact ⟨ret_bool HR.out.symm, below_drewN HB.out _⟩
          · have t1 : (l[k].text.toList == m[k].text.toList) = false := by rw [bl_toList, bl_toList, beq_eq_false_iff_ne]; exact e1
            have t1' : (l[k].text.toList != m[k].text.toList) = true := by rw [bne, t1]; rfl
            have HR := Lib.hid (alike_no hlt hlt' (fun e => e1 (by have := congrArg (fun x => x.2.1) e; exact this)))
            generalize l[k].op = x0 at *
            generalize m[k].op = y0 at *
            generalize l[k].text = x1 at *
            generalize m[k].text = y1 at *
            generalize l[k].n = x2 at *
            generalize m[k].n = y2 at *
            clear e0 e1 hr
            go_wp2
            go_quiet (fail)
            go_wp2
            go_ret
            exact ⟨ret_bool HR.out.symm, below_drewN HB.out _⟩
        · have t0 : (l[k].op != m[k].op) = true := by rw [bne_iff_ne]; exact e0
          have t0' : (l[k].op == m[k].op) = false := by rw [beq_eq_false_iff_ne]; exact e0
          have HR := Lib.hid (alike_no hlt hlt' (fun e => e0 (by have := congrArg (fun x => x.1) e; exact this)))
          generalize l[k].op = x0 at *
          generalize m[k].op = y0 at *
          generalize l[k].text = x1 at *
          generalize m[k].text = y1 at *
          generalize l[k].n = x2 at *
          generalize m[k].n = y2 at *
          clear e0 hr
          go_wp2
          go_quiet (fail)
          go_wp2
          go_ret
          exact ⟨ret_bool HR.out.symm, below_drewN HB.out _⟩
      · have HR := Lib.hid (alike_end HL.out hlt hr.out)
        clear hc hc' ht ht'
        go_wp2
        go_ret
        exact ⟨ret_bool HR.out.symm, hb⟩
  · have HR := Lib.hid (alike_len hl)
    have ht : ((l.length : Int) != (m.length : Int)) = true := by rw [bne_iff_ne]; omega
    have ht' : ((l.length : Int) == (m.length : Int)) = false := by rw [beq_eq_false_iff_ne]; omega
    clear hl hc hc'
    go_enter Tryd.func25, Tryd.ntmps25
    go_wp2
    go_ret
    exact ⟨ret_bool HR.out.symm, Below.refl _ _⟩
theorem alike_self (l : List TokA) : alikeB l l = true := decide_eq_true rfl
set_option maxRecDepth 100000 in
set_option maxHeartbeats 4000000 in
theorem tsame_at (u v : Value) (l : List TokA) (w : World) (hu : Tls w u l) (hv : Tls w v l) :
    Calls Tryd.prog 16 #[u, v] w fun e w' => e = .returned (.bool true) ∧ Below w.heap.size w w' := by
  have HU := Lib.hid hu
  have HV := Lib.hid hv
  obtain ⟨A, c, rfl, hq, hn, hc⟩ := hu
  obtain ⟨A', c', rfl, hq', hn', hc'⟩ := hv
  go_enter Tryd.func16, Tryd.ntmps16
  go_wp2_with fail
  go_loopw [8] (fun i wr => ∃ k : Nat, k ≤ l.length ∧ i = .int .i64 k ∧ Below w.heap.size w wr) (fun i _ => l.length - (intOf i).toNat)
  case atStart => exact ⟨0, Nat.zero_le _, rfl, Below.refl _ _⟩
  case round =>
    obtain ⟨k, hk, rfl, hb⟩ := hrel
    by_cases hlt : k < l.length
    · rcases hc with rfl | ⟨b, off, rfl, hc⟩
      · exact absurd hlt (by simp)
      rcases hc' with rfl | ⟨b', off', rfl, hc'⟩
      · exact absurd hlt (by simp)
      obtain ⟨p0, _, _, p3, p4⟩ := hc k hlt
      obtain ⟨q0, _, _, q3, q4⟩ := hc' k hlt
      have hlb := block_lt_of_cell p0
      have hlb' := block_lt_of_cell q0
      have g3 := (hb.cell (p := ⟨b, off + k * 5 + 3, none⟩) hlb).trans p3
      have g4 := (hb.cell (p := ⟨b, off + k * 5 + 4, none⟩) hlb).trans p4
      have f3 := (hb.cell (p := ⟨b', off' + k * 5 + 3, none⟩) hlb').trans q3
      have f4 := (hb.cell (p := ⟨b', off' + k * 5 + 4, none⟩) hlb').trans q4
      have HB := Lib.hid hb
      have hki : (k : Int) < (l.length : Int) := by omega
      have hk0 : (0 : Int) ≤ (k : Int) := by omega
      have d1 : decide ((k : Int) < (l.length : Int)) = true := by rw [decide_eq_true_eq]; omega
      have d2 : decide (k < l.length) = true := by rw [decide_eq_true_eq]; omega
      generalize l[k].line = x at g3 f3
      generalize l[k].col = y at g4 f4
      have t1 : (x != x) = false := by simp
      have t2 : (y != y) = false := by simp
      clear hc hc' p0 q0 p3 p4 q3 q4 hlb hlb' hb
      go_wp2
      go_quiet (fail)
      go_wp2
      go_roundw
      case rel => exact ⟨k + 1, by omega, by go_num, below_drewN HB.out _⟩
      case measure => simp [intOf]; omega
    · have HB := Lib.hid hb
      have HA := Lib.hid (alike_any _ _ l l wr (HU.out.later hb) (HV.out.later hb))
      rw [alike_self] at HA
      clear hc hc' hb
      go_wp2_with fail
      refine (HA.out).mono ?_
      rintro e w2 ⟨rfl, hb2⟩
      have HB2 := Lib.hid (below_then HB.out hb2)
      clear hb2
      go_wp2
      go_ret
      exact ⟨rfl, HB2.out⟩
set_option maxHeartbeats 2000000 in
/-- What long says. -/
def longN (s : ByteArray) (l : List TokA) (k : Nat) : Nat := s.size + ((l.take k).map fun a => min a.text.size 5000).sum
theorem longN_succ {s : ByteArray} {l : List TokA} {k : Nat} (h : k < l.length) : longN s l (k + 1) = longN s l k + min l[k].text.size 5000 := by
  unfold longN
  rw [List.take_succ_eq_append_getElem h, List.map_append, List.sum_append]
  simp; omega
def longB (s : ByteArray) (l : List TokA) : Bool := decide (3000 < longN s l (min l.length 200)) || decide (200 < l.length)
end Go.Proofs.YtfjeljehodbbmaaDoor
