/- The contracts of the reference's Decimal and Written. -/
import Derived.Test.YtfjeljehodbbmaaDoorPo
import Derived.Laws.IdiomStrings
namespace Go.Proofs.YtfjeljehodbbmaaDoor
open Go.RowKit

def decP (k : Nat) : List UInt8 := if k = 0 then [] else decL k
theorem decP_step (k : Nat) : decL k = decP (k / 10) ++ [UInt8.ofNat (48 + k % 10)] := by
  unfold decP
  by_cases h : k < 10
  · rw [dec_small h, if_pos (by omega), Nat.mod_eq_of_lt h]; rfl
  · rw [dec_big h, if_neg (by omega)]
theorem conv_one (w : World) (c : Nat) (hc : c < 256) : (convert 32 9 (.slice (some ⟨w.heap.size, 0, none⟩) 1 1)).run Tryd.prog (w.alloc (.cells #[.int .u8 (c : Int)] 5)) = .ok (.string (sb [UInt8.ofNat c])) (w.alloc (.cells #[.int .u8 (c : Int)] 5)) := by
  refine run_convert_bytes_back (P := Tryd.prog) _ 32 9 5 ⟨w.heap.size, 0, none⟩ 1 [UInt8.ofNat c] Tryd.underlying32 Tryd.underlying5 Tryd.underlying9 ?_
  intro j hj
  have h0 : j = 0 := by simpa using hj
  subst h0
  have e : (⟨w.heap.size, 0, none⟩ : Addr).add 0 = ⟨w.heap.size, 0, none⟩ := rfl
  rw [e, World.cell?_alloc_at _ _ _ _ rfl]
  simp [Nat.mod_eq_of_lt hc]
theorem sb_add (a b : List UInt8) : sb a ++ sb b = sb (a ++ b) := bl_inj (by rw [bl_append, bl_sb, bl_sb, bl_sb])
set_option maxHeartbeats 1000000 in
theorem decimal_any (n : Nat) (hn : n ≤ 2147483647) (w : World) :
    Calls Tryd.prog 42 #[.int .i64 n] w fun e w' => e = .returned (.string (sb (decL n))) ∧ Below w.heap.size w w' := by
  obtain ⟨d, hd⟩ : ∃ d, d = n % 10 := ⟨_, rfl⟩
  have hm : (n : Int) % 10 = (d : Int) := by omega
  obtain ⟨c, hc⟩ : ∃ c, c = 48 + d := ⟨_, rfl⟩
  have hs : (48 : Int) + (d : Int) = (c : Int) := by omega
  obtain ⟨q, hq⟩ : ∃ q, q = n / 10 := ⟨_, rfl⟩
  have hqt : (n : Int) / 10 = (q : Int) := by omega
  have hc57 : c ≤ 57 := by omega
  have hd9 : d ≤ 9 := by omega
  have hqb : q ≤ 2147483647 := by omega
  have hcv := conv_one w c (by omega)
  have HS : Hid (decL n = decP q ++ [UInt8.ofNat c]) := by show _ = _; rw [decP_step, hq, hc, hd]
  clear hd hc hq
  go_enter Tryd.func42, Tryd.ntmps42
  go_wp2_with fail
  go_loopw [0, 3] (fun a b wr => ∃ (k : Nat) (l : List UInt8), k ≤ 2147483647 ∧ a = .int .i64 k ∧ b = .string (sb l) ∧ Hid (decL n = decP k ++ l) ∧ Below w.heap.size w wr) (fun a _ _ => (intOf a).toNat)
  case atStart => exact ⟨q, _, hqb, rfl, rfl, HS, below_alloc _ _⟩
  case round =>
    obtain ⟨k, l, hk, rfl, rfl, hr, hb⟩ := hrel
    have HB := Lib.hid hb
    clear hb hcv HS
    by_cases h0 : 0 < k
    · have d1 : decide ((0 : Int) < (k : Int)) = true := by rw [decide_eq_true_eq]; omega
      obtain ⟨d', hd⟩ : ∃ d, d = k % 10 := ⟨_, rfl⟩
      have hm' : (k : Int) % 10 = (d' : Int) := by omega
      obtain ⟨c', hc⟩ : ∃ c, c = 48 + d' := ⟨_, rfl⟩
      have hs' : (48 : Int) + (d' : Int) = (c' : Int) := by omega
      obtain ⟨q', hq⟩ : ∃ q, q = k / 10 := ⟨_, rfl⟩
      have hqt' : (k : Int) / 10 = (q' : Int) := by omega
      have hc57' : c' ≤ 57 := by omega
      have hd9' : d' ≤ 9 := by omega
      have hqb' : q' ≤ 2147483647 := by omega
      have hlt : q' < k := by omega
      have hcv' := conv_one wr c' (by omega)
      have hadd := sb_add [UInt8.ofNat c'] l
      have HS : Hid (decL n = decP q' ++ ([UInt8.ofNat c'] ++ l)) := by
        show _ = _
        rw [hr.out, show decP k = decL k by unfold decP; rw [if_neg (by omega)], decP_step k, ← hq, ← hd, ← hc, List.append_assoc]
      clear hd hc hq hm hs hqt hr
      have hxs : (sb [UInt8.ofNat c']).size = 1 := sb_size _
      have hys : (sb l).size ≤ 10 := by
        have h1 := congrArg List.length HS.out
        rw [List.length_append, List.length_append, List.length_singleton] at h1
        have h2 := dec_len (k := 10) (n := n) (by omega) (by omega)
        rw [sb_size]
        omega
      generalize hx : sb [UInt8.ofNat c'] = x at hcv' hadd hxs
      generalize hy : sb l = y at hadd hys ⊢
      clear hx hy
      go_wp2
      go_roundw
      case rel => exact ⟨q', [UInt8.ofNat c'] ++ l, hqb', rfl, rfl, HS, HB.out.alloc HB.out.size _⟩
      case measure => simp [intOf]; omega
    · have d1 : decide ((0 : Int) < (k : Int)) = false := by rw [decide_eq_false_iff_not]; omega
      have HR : Hid (decL n = l) := by
        have := hr.out
        rw [show decP k = [] by unfold decP; rw [if_pos (by omega)], List.nil_append] at this
        exact this
      clear hr
      go_wp2
      go_ret
      exact ⟨by rw [HR.out]; rfl, HB.out⟩
set_option maxHeartbeats 1000000 in
theorem wri_int (x : ByteArray) (n l c : Int) (w : World) (m : Nat) (hm : n = (m : Int)) (h : m ≤ 2147483647) :
    Calls Tryd.prog 26 #[.agg #[.int .i64 3, .string x, .int .i64 n, .int .i64 l, .int .i64 c]] w fun e w' => e = .returned (.string (sb (decL m))) ∧ Below w.heap.size w w' := by
  have HB0 := Lib.hid (below_alloc w (.cells #[.int .i64 3, .string x, .int .i64 n, .int .i64 l, .int .i64 c] 40))
  subst hm
  go_enter Tryd.func26, Tryd.ntmps26
  go_wp2_with fail
  refine (decimal_any m h _).mono ?_
  rintro e w1 ⟨rfl, hb1⟩
  have HB1 := Lib.hid (below_then HB0.out hb1)
  clear hb1
  go_wp2
  go_ret
  exact ⟨rfl, HB1.out⟩
set_option maxHeartbeats 1000000 in
theorem wri_bit (x : ByteArray) (n l c : Int) (w : World) (hx : x.size ≤ 64) :
    Calls Tryd.prog 26 #[.agg #[.int .i64 4, .string x, .int .i64 n, .int .i64 l, .int .i64 c]] w fun e w' => e = .returned (.string ((⟨#[39]⟩ : ByteArray) ++ x ++ (⟨#[39]⟩ : ByteArray))) ∧ Below w.heap.size w w' := by
  have HB0 := Lib.hid (below_alloc w (.cells #[.int .i64 4, .string x, .int .i64 n, .int .i64 l, .int .i64 c] 40))
  go_enter Tryd.func26, Tryd.ntmps26
  go_wp2
  go_ret
  exact ⟨rfl, HB0.out⟩
set_option maxHeartbeats 1000000 in
theorem wri_vec (x : ByteArray) (n l c : Int) (w : World) (hx : x.size ≤ 64) :
    Calls Tryd.prog 26 #[.agg #[.int .i64 5, .string x, .int .i64 n, .int .i64 l, .int .i64 c]] w fun e w' => e = .returned (.string ((⟨#[98, 34]⟩ : ByteArray) ++ x ++ (⟨#[34]⟩ : ByteArray))) ∧ Below w.heap.size w w' := by
  have HB0 := Lib.hid (below_alloc w (.cells #[.int .i64 5, .string x, .int .i64 n, .int .i64 l, .int .i64 c] 40))
  go_enter Tryd.func26, Tryd.ntmps26
  go_wp2
  go_ret
  exact ⟨rfl, HB0.out⟩
set_option maxHeartbeats 1000000 in
theorem wri_text (x : ByteArray) (n l c : Int) (w : World) (hx : x.size ≤ 64) :
    Calls Tryd.prog 26 #[.agg #[.int .i64 6, .string x, .int .i64 n, .int .i64 l, .int .i64 c]] w fun e w' => e = .returned (.string ((⟨#[34]⟩ : ByteArray) ++ x ++ (⟨#[34]⟩ : ByteArray))) ∧ Below w.heap.size w w' := by
  have HB0 := Lib.hid (below_alloc w (.cells #[.int .i64 6, .string x, .int .i64 n, .int .i64 l, .int .i64 c] 40))
  go_enter Tryd.func26, Tryd.ntmps26
  go_wp2
  go_ret
  exact ⟨rfl, HB0.out⟩
set_option maxHeartbeats 1000000 in
theorem wri_other (x : ByteArray) (n l c : Int) (w : World) (o : Int) (h3 : (o == 3) = false) (h4 : (o == 4) = false) (h5 : (o == 5) = false) (h6 : (o == 6) = false) :
    Calls Tryd.prog 26 #[.agg #[.int .i64 o, .string x, .int .i64 n, .int .i64 l, .int .i64 c]] w fun e w' => e = .returned (.string (x)) ∧ Below w.heap.size w w' := by
  have HB0 := Lib.hid (below_alloc w (.cells #[.int .i64 o, .string x, .int .i64 n, .int .i64 l, .int .i64 c] 40))
  go_enter Tryd.func26, Tryd.ntmps26
  go_wp2
  go_ret
  exact ⟨rfl, HB0.out⟩
theorem viaS {P : Program} {f : FuncId} {args : Array Value} {w : World} {b b2 : ByteArray} (h : Calls P f args w fun e w' => e = .returned (.string b) ∧ Below w.heap.size w w') (he : b = b2) : Calls P f args w fun e w' => e = .returned (.string b2) ∧ Below w.heap.size w w' := by subst he; exact h
theorem written_any (a : TokA) (ha : possA a = true) (w : World) :
    Calls Tryd.prog 26 #[.agg #[.int .i64 a.op, .string a.text, .int .i64 a.n, .int .i64 a.line, .int .i64 a.col]] w fun e w' => e = .returned (.string (sb (wriL (tokOf a)))) ∧ Below w.heap.size w w' := by
  obtain ⟨o, x, n, l, c⟩ := a
  simp only
  unfold possA at ha
  rw [Bool.and_eq_true, Bool.and_eq_true, decide_eq_true_eq, decide_eq_true_eq] at ha
  obtain ⟨h0, hn0, hp⟩ := ha
  simp only at h0 hn0
  obtain ⟨k, rfl⟩ : ∃ k : Nat, o = k := ⟨o.toNat, by omega⟩
  have hx : bl x = (tokOf ⟨(k : Int), x, n, l, c⟩).text := rfl
  have hop : (tokOf ⟨(k : Int), x, n, l, c⟩).op = k := by unfold tokOf; simp
  unfold posL at hp
  rw [hop] at hp
  unfold wriL
  rw [hop]
  by_cases h3 : k = 3
  · subst h3
    rw [if_neg (by decide), if_neg (by decide), if_pos rfl, Bool.and_eq_true, decide_eq_true_eq, decide_eq_true_eq] at hp
    rw [if_pos rfl]
    exact wri_int x n l c w n.toNat (by omega) hp.2
  by_cases h4 : k = 4
  · subst h4
    rw [if_neg (by decide), if_neg (by decide), if_neg (by decide), if_pos rfl, Bool.and_eq_true, Bool.and_eq_true, decide_eq_true_eq, decide_eq_true_eq, ← hx, bl_len] at hp
    rw [if_neg (by decide), if_pos rfl, ← hx]
    exact viaS (wri_bit x n l c w (by omega)) (bl_inj (by rw [bl_append, bl_append, bl_sb]; rfl))
  by_cases h5 : k = 5
  · subst h5
    rw [if_neg (by decide), if_neg (by decide), if_neg (by decide), if_neg (by decide), if_pos rfl, Bool.and_eq_true, Bool.and_eq_true, Bool.and_eq_true, decide_eq_true_eq, decide_eq_true_eq, decide_eq_true_eq, ← hx, bl_len] at hp
    rw [if_neg (by decide), if_neg (by decide), if_pos rfl, ← hx]
    exact viaS (wri_vec x n l c w (by omega)) (bl_inj (by rw [bl_append, bl_append, bl_sb]; rfl))
  by_cases h6 : k = 6
  · subst h6
    rw [if_neg (by decide), if_neg (by decide), if_neg (by decide), if_neg (by decide), if_neg (by decide), if_pos rfl, Bool.and_eq_true, Bool.and_eq_true, decide_eq_true_eq, decide_eq_true_eq, ← hx, bl_len] at hp
    rw [if_neg (by decide), if_neg (by decide), if_neg (by decide), if_pos rfl, ← hx]
    exact viaS (wri_text x n l c w (by omega)) (bl_inj (by rw [bl_append, bl_append, bl_sb]; rfl))
  · rw [if_neg h3, if_neg h4, if_neg h5, if_neg h6, ← hx]
    have ne : ∀ m : Nat, ¬ k = m → ((k : Int) == (m : Int)) = false := fun m h => by rw [beq_eq_false_iff_ne]; omega
    exact viaS (wri_other x n l c w k (ne 3 h3) (ne 4 h4) (ne 5 h5) (ne 6 h6)) (sb_bl x).symm
end Go.Proofs.YtfjeljehodbbmaaDoor
