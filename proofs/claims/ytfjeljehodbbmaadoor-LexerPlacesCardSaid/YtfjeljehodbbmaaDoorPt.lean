/- The contracts of the program's written and isPossible. -/
import Derived.Test.YtfjeljehodbbmaaDoorPg
import Derived.Test.YtfjeljehodbbmaaDoorTx
namespace Go.Proofs.YtfjeljehodbbmaaDoor
open Go.RowKit

/-- How any token is written. -/
def wrA (a : TokA) : List UInt8 :=
  if a.op = 3 then itoL a.n else if a.op = 4 then [39] ++ bl a.text ++ [39] else if a.op = 5 then [98, 34] ++ bl a.text ++ [34] else if a.op = 6 then [34] ++ bl a.text ++ [34] else bl a.text
/-- A token whose number is an int, and whose text is not too long to be written. -/
def Small (a : TokA) : Prop := a.text.size ≤ 30000 ∧ -9223372036854775808 ≤ a.n ∧ a.n ≤ 9223372036854775807
set_option maxHeartbeats 1000000 in
theorem wrt_int (x : ByteArray) (n l c : Int) (w : World) (h0 : -9223372036854775808 ≤ n) (h1 : n ≤ 9223372036854775807) (hw : ∀ u, Below w.heap.size w u → Std u) :
    Calls Tryd.prog 32 #[.agg #[.int .i64 3, .string x, .int .i64 n, .int .i64 l, .int .i64 c]] w fun e w' => e = .returned (.string (sb (itoL n))) ∧ Below w.heap.size w w' := by
  have HB0 := Lib.hid (below_alloc w (.cells #[.int .i64 3, .string x, .int .i64 n, .int .i64 l, .int .i64 c] 40))
  have HI := Lib.hid (itoa_any n h0 h1 _ (hw _ HB0.out))
  clear hw
  go_enter Tryd.func32, Tryd.ntmps32
  go_wp2_with fail
  refine HI.out.mono ?_
  rintro e w1 ⟨rfl, hb1⟩
  have HB1 := Lib.hid (below_then HB0.out hb1)
  clear hb1
  go_wp2
  go_ret
  exact ⟨rfl, HB1.out⟩
set_option maxHeartbeats 1000000 in
theorem wrt_bit (x : ByteArray) (n l c : Int) (w : World) (hx : x.size ≤ 30000) :
    Calls Tryd.prog 32 #[.agg #[.int .i64 4, .string x, .int .i64 n, .int .i64 l, .int .i64 c]] w fun e w' => e = .returned (.string ((⟨#[39]⟩ : ByteArray) ++ x ++ (⟨#[39]⟩ : ByteArray))) ∧ Below w.heap.size w w' := by
  have HB0 := Lib.hid (below_alloc w (.cells #[.int .i64 4, .string x, .int .i64 n, .int .i64 l, .int .i64 c] 40))
  go_enter Tryd.func32, Tryd.ntmps32
  go_wp2
  go_ret
  exact ⟨rfl, HB0.out⟩
set_option maxHeartbeats 1000000 in
theorem wrt_vec (x : ByteArray) (n l c : Int) (w : World) (hx : x.size ≤ 30000) :
    Calls Tryd.prog 32 #[.agg #[.int .i64 5, .string x, .int .i64 n, .int .i64 l, .int .i64 c]] w fun e w' => e = .returned (.string ((⟨#[98, 34]⟩ : ByteArray) ++ x ++ (⟨#[34]⟩ : ByteArray))) ∧ Below w.heap.size w w' := by
  have HB0 := Lib.hid (below_alloc w (.cells #[.int .i64 5, .string x, .int .i64 n, .int .i64 l, .int .i64 c] 40))
  go_enter Tryd.func32, Tryd.ntmps32
  go_wp2
  go_ret
  exact ⟨rfl, HB0.out⟩
set_option maxHeartbeats 1000000 in
theorem wrt_text (x : ByteArray) (n l c : Int) (w : World) (hx : x.size ≤ 30000) :
    Calls Tryd.prog 32 #[.agg #[.int .i64 6, .string x, .int .i64 n, .int .i64 l, .int .i64 c]] w fun e w' => e = .returned (.string ((⟨#[34]⟩ : ByteArray) ++ x ++ (⟨#[34]⟩ : ByteArray))) ∧ Below w.heap.size w w' := by
  have HB0 := Lib.hid (below_alloc w (.cells #[.int .i64 6, .string x, .int .i64 n, .int .i64 l, .int .i64 c] 40))
  go_enter Tryd.func32, Tryd.ntmps32
  go_wp2
  go_ret
  exact ⟨rfl, HB0.out⟩
set_option maxHeartbeats 1000000 in
theorem wrt_other (x : ByteArray) (n l c : Int) (w : World) (o : Int) (h3 : (o == 3) = false) (h4 : (o == 4) = false) (h5 : (o == 5) = false) (h6 : (o == 6) = false) :
    Calls Tryd.prog 32 #[.agg #[.int .i64 o, .string x, .int .i64 n, .int .i64 l, .int .i64 c]] w fun e w' => e = .returned (.string x) ∧ Below w.heap.size w w' := by
  have HB0 := Lib.hid (below_alloc w (.cells #[.int .i64 o, .string x, .int .i64 n, .int .i64 l, .int .i64 c] 40))
  go_enter Tryd.func32, Tryd.ntmps32
  go_wp2
  go_ret
  exact ⟨rfl, HB0.out⟩
theorem written_all (a : TokA) (ha : Small a) (w : World) (hw : ∀ u, Below w.heap.size w u → Std u) :
    Calls Tryd.prog 32 #[.agg #[.int .i64 a.op, .string a.text, .int .i64 a.n, .int .i64 a.line, .int .i64 a.col]] w fun e w' => e = .returned (.string (sb (wrA a))) ∧ Below w.heap.size w w' := by
  obtain ⟨o, x, n, l, c⟩ := a
  obtain ⟨h1, h2, h3⟩ := ha
  simp only at h1 h2 h3 ⊢
  unfold wrA
  simp only
  by_cases o3 : o = 3
  · subst o3
    rw [if_pos rfl]
    exact wrt_int x n l c w h2 h3 hw
  by_cases o4 : o = 4
  · subst o4
    rw [if_neg (by decide), if_pos rfl]
    exact viaS (wrt_bit x n l c w h1) (bl_inj (by rw [bl_append, bl_append, bl_sb]; rfl))
  by_cases o5 : o = 5
  · subst o5
    rw [if_neg (by decide), if_neg (by decide), if_pos rfl]
    exact viaS (wrt_vec x n l c w h1) (bl_inj (by rw [bl_append, bl_append, bl_sb]; rfl))
  by_cases o6 : o = 6
  · subst o6
    rw [if_neg (by decide), if_neg (by decide), if_neg (by decide), if_pos rfl]
    exact viaS (wrt_text x n l c w h1) (bl_inj (by rw [bl_append, bl_append, bl_sb]; rfl))
  · rw [if_neg o3, if_neg o4, if_neg o5, if_neg o6]
    have ne : ∀ k : Int, ¬ o = k → (o == k) = false := fun k h => by rw [beq_eq_false_iff_ne]; exact h
    exact viaS (wrt_other x n l c w o (ne 3 o3) (ne 4 o4) (ne 5 o5) (ne 6 o6)) (sb_bl x).symm
theorem wrA_wri {a : TokA} (h0 : 0 ≤ a.op) (hn : 0 ≤ a.n) : wrA a = wriL (tokOf a) := by
  obtain ⟨o, x, n, l, c⟩ := a
  simp only at h0 hn
  obtain ⟨k, rfl⟩ : ∃ k : Nat, o = k := ⟨o.toNat, by omega⟩
  obtain ⟨m, rfl⟩ : ∃ m : Nat, n = m := ⟨n.toNat, by omega⟩
  unfold wrA wriL tokOf
  simp only [Int.toNat_natCast, ito_nat]
  by_cases h3 : k = 3
  · rw [if_pos (by omega), if_pos h3]
  rw [if_neg (by omega), if_neg h3]
  by_cases h4 : k = 4
  · rw [if_pos (by omega), if_pos h4]
  rw [if_neg (by omega), if_neg h4]
  by_cases h5 : k = 5
  · rw [if_pos (by omega), if_pos h5]
  rw [if_neg (by omega), if_neg h5]
  by_cases h6 : k = 6
  · rw [if_pos (by omega), if_pos h6]
  rw [if_neg (by omega), if_neg h6]
/-- A token can be read just if what is written for it is read as it, to its end. -/
theorem poss_none {a : TokA} (h : tokL (wrA a) = none) : possA a = false := by
  cases hp : possA a with
  | false => rfl
  | true =>
    have hq := hp
    unfold possA at hq
    rw [Bool.and_eq_true, Bool.and_eq_true, decide_eq_true_eq, decide_eq_true_eq] at hq
    have := tok_wri hq.2.2 (z := []) (.inl rfl)
    rw [List.append_nil, ← wrA_wri hq.1 hq.2.1, h] at this
    cases this
theorem poss_some {a : TokA} {tk : Tok} {m : Nat} (h : tokL (wrA a) = some (tk, m)) : possA a = (decide (m = (wrA a).length) && (decide ((tk.op : Int) = a.op) && (decide (tk.text = bl a.text) && decide ((tk.n : Int) = a.n)))) := by
  cases hp : possA a with
  | true =>
    have hq := hp
    unfold possA at hq
    rw [Bool.and_eq_true, Bool.and_eq_true, decide_eq_true_eq, decide_eq_true_eq] at hq
    have ht := tok_wri hq.2.2 (z := []) (.inl rfl)
    rw [List.append_nil, ← wrA_wri hq.1 hq.2.1, h] at ht
    injection ht with ht
    injection ht with e1 e2
    subst e1 e2
    have f1 : ((tokOf a).op : Int) = a.op := by unfold tokOf; simp only; omega
    have f2 : (tokOf a).text = bl a.text := rfl
    have f3 : ((tokOf a).n : Int) = a.n := by unfold tokOf; simp only; omega
    rw [decide_eq_true rfl, decide_eq_true f1, decide_eq_true f2, decide_eq_true f3]
    rfl
  | false =>
    symm
    rw [Bool.eq_false_iff]
    intro hc
    rw [Bool.and_eq_true, Bool.and_eq_true, Bool.and_eq_true, decide_eq_true_eq, decide_eq_true_eq, decide_eq_true_eq, decide_eq_true_eq] at hc
    obtain ⟨_, f1, f2, f3⟩ := hc
    have hpos := (tok_facts h).1
    have e : tokOf a = tk := by
      obtain ⟨o, x, n⟩ := tk
      unfold tokOf
      simp only at f1 f2 f3
      rw [← f1, ← f2, ← f3]
      simp
    unfold possA at hp
    rw [e, hpos, decide_eq_true (by omega), decide_eq_true (by omega)] at hp
    cases hp
theorem wrA_len {a : TokA} (ha : Small a) : (wrA a).length ≤ 40000 := by
  obtain ⟨h1, h2, h3⟩ := ha
  have hl := bl_len a.text
  have hi : (itoL a.n).length ≤ 20 := by
    unfold itoL Lib.itoa
    split
    · rw [List.length_cons, dec_same]
      have := dec_len (k := 19) (n := a.n.natAbs) (by decide) (by omega)
      omega
    · rw [dec_same]
      have := dec_len (k := 19) (n := a.n.toNat) (by decide) (by omega)
      omega
  unfold wrA
  split
  · omega
  · split
    · simp; omega
    · split
      · simp; omega
      · split
        · simp; omega
        · omega
end Go.Proofs.YtfjeljehodbbmaaDoor
