/- The contract of the reference's Possible. -/
import Derived.Test.YtfjeljehodbbmaaDoorPs
import Derived.Test.YtfjeljehodbbmaaDoorQu
namespace Go.Proofs.YtfjeljehodbbmaaDoor
open Go.RowKit

/-- A token that can be read, as one without its position. -/
def tokOf (a : TokA) : Tok := ⟨a.op.toNat, bl a.text, a.n.toNat⟩
def possA (a : TokA) : Bool := decide (0 ≤ a.op) && (decide (0 ≤ a.n) && posL (tokOf a))
theorem viaB {P : Program} {f : FuncId} {args : Array Value} {w : World} {b b2 : Bool} (h : Calls P f args w fun e w' => e = .returned (.bool b) ∧ Below w.heap.size w w') (he : b = b2) : Calls P f args w fun e w' => e = .returned (.bool b2) ∧ Below w.heap.size w w' := by subst he; exact h
theorem run_all (k : Nat) (l : List UInt8) : decide (runN k l = l.length) = l.all (kB k) := by
  cases h : l.all (kB k) with
  | true =>
    apply decide_eq_true
    have := (tw_stop (p := kB k) (x := l) (z := []) h (by intro c hc; cases hc)).1
    rw [List.append_nil] at this
    unfold runN
    exact congrArg List.length this
  | false =>
    apply decide_eq_false
    intro hl
    have hs := tw_split (kB k) l
    have ht := tw_all (kB k) l
    have : l.dropWhile (kB k) = [] := by
      have h2 := congrArg List.length hs
      have e : (l.takeWhile (kB k)).length = runN k l := rfl
      rw [List.length_append, e, hl] at h2
      exact List.eq_nil_of_length_eq_zero (by omega)
    rw [this, List.append_nil] at hs
    rw [← hs, h] at ht
    cases ht
theorem possible_any (a : TokA) (w : World) :
    Calls Tryd.prog 24 #[.agg #[.int .i64 a.op, .string a.text, .int .i64 a.n, .int .i64 a.line, .int .i64 a.col]] w fun e w' => e = .returned (.bool (possA a)) ∧ Below w.heap.size w w' := by
  obtain ⟨o, x, n, l, c⟩ := a
  simp only
  unfold possA tokOf
  simp only
  have n0 : ∀ {p : Bool}, ¬ n = 0 → (decide (0 ≤ n) && (decide (n.toNat = 0) && p)) = false := by
    intro p hn
    by_cases h : 0 ≤ n
    · rw [decide_eq_true h, decide_eq_false (by omega)]; rfl
    · rw [decide_eq_false h]; rfl
  have n1 : ∀ {p : Bool}, n = 0 → (decide (0 ≤ n) && (decide (n.toNat = 0) && p)) = p := by
    intro p hn
    rw [decide_eq_true (by omega), decide_eq_true (by omega)]; simp
  by_cases o1 : o = 1
  · subst o1
    have e : ∀ b, (decide ((0 : Int) ≤ 1) && (decide (0 ≤ n) && posL ⟨(1 : Int).toNat, b, n.toNat⟩)) = (decide (0 ≤ n) && (decide (n.toNat = 0) && isNameL b)) := fun _ => rfl
    rw [e]
    by_cases hn : n = 0
    · exact viaB (poss_yes1 x n l c w hn _ (refIsName_any x)) (n1 hn).symm
    · exact viaB (poss_no1 x n l c w hn) (n0 hn).symm
  by_cases o2 : o = 2
  · subst o2
    have e : ∀ b, (decide ((0 : Int) ≤ 2) && (decide (0 ≤ n) && posL ⟨(2 : Int).toNat, b, n.toNat⟩)) = (decide (0 ≤ n) && (decide (n.toNat = 0) && isWordL b)) := fun _ => rfl
    rw [e]
    by_cases hn : n = 0
    · exact viaB (poss_yes2 x n l c w hn _ (refIsWord_any x)) (n1 hn).symm
    · exact viaB (poss_no2 x n l c w hn) (n0 hn).symm
  by_cases o3 : o = 3
  · subst o3
    have e : ∀ b, (decide ((0 : Int) ≤ 3) && (decide (0 ≤ n) && posL ⟨(3 : Int).toNat, b, n.toNat⟩)) = (decide (0 ≤ n) && (decide (b = []) && decide (n.toNat ≤ maxI))) := fun _ => rfl
    rw [e]
    by_cases hx : bl x = []
    · by_cases h0 : 0 ≤ n
      · by_cases hm : n ≤ 2147483647
        · exact viaB (poss_yes3 x n l c w hx h0 hm) (by rw [decide_eq_true h0, decide_eq_true hx, decide_eq_true (show n.toNat ≤ maxI by unfold maxI; omega)]; rfl)
        · exact viaB (poss_big3 x n l c w hx h0 hm) (by rw [decide_eq_false (show ¬ n.toNat ≤ maxI by unfold maxI; omega)]; simp)
      · exact viaB (poss_neg3 x n l c w hx (by omega)) (by rw [decide_eq_false h0]; rfl)
    · exact viaB (poss_no3 x n l c w hx) (by rw [decide_eq_false hx]; simp)
  by_cases o4 : o = 4
  · subst o4
    have e : ∀ b, (decide ((0 : Int) ≤ 4) && (decide (0 ≤ n) && posL ⟨(4 : Int).toNat, b, n.toNat⟩)) = (decide (0 ≤ n) && (decide (n.toNat = 0) && (decide (b.length = 1) && b.all bitB))) := fun _ => rfl
    rw [e, bl_len]
    by_cases hn : n = 0
    · rw [n1 hn]
      by_cases hl : x.size = 1
      · have h0 : 0 < x.size := by omega
        have hb := fun w => bit_at (x[0]'h0).toNat w
        refine viaB (poss_yes4 x n l c w hn hl h0 _ hb) ?_
        have hg := bl_get x 0 h0
        have hln := bl_len x
        rw [decide_eq_true hl, Bool.true_and]
        cases hbl : bl x with
        | nil => rw [hbl, List.length_nil] at hln; omega
        | cons y z =>
          rw [hbl, List.length_cons] at hln
          have hz : z = [] := List.eq_nil_of_length_eq_zero (by omega)
          simp only [hbl, List.getElem_cons_zero] at hg
          rw [hz, List.all_cons, hg, List.all_nil, Bool.and_true]
          rfl
      · exact viaB (poss_len4 x n l c w hn hl) (by rw [decide_eq_false hl]; rfl)
    · exact viaB (poss_no4 x n l c w hn) (n0 hn).symm
  by_cases o5 : o = 5
  · subst o5
    have e : ∀ b, (decide ((0 : Int) ≤ 5) && (decide (0 ≤ n) && posL ⟨(5 : Int).toNat, b, n.toNat⟩)) = (decide (0 ≤ n) && (decide (n.toNat = 0) && (decide (1 ≤ b.length) && (decide (b.length ≤ 64) && b.all bitB)))) := fun _ => rfl
    rw [e, bl_len]
    by_cases hn : n = 0
    · rw [n1 hn]
      by_cases h1 : 1 ≤ x.size
      · rw [decide_eq_true h1, Bool.true_and]
        by_cases h2 : x.size ≤ 64
        · rw [decide_eq_true h2, Bool.true_and]
          have hR := fun w => run_any x 0 2 (by omega) (Nat.zero_le _) (by omega) w
          rw [List.drop_zero] at hR
          have ha := run_all 2 (bl x)
          rw [bl_len] at ha
          by_cases hr : runN 2 (bl x) = x.size
          · rw [decide_eq_true hr] at ha
            exact viaB (poss_yes5 x n l c w hn h1 h2 _ hR hr) ha
          · rw [decide_eq_false hr] at ha
            exact viaB (poss_bad5 x n l c w hn h1 h2 _ hR hr) ha
        · exact viaB (poss_many5 x n l c w hn h1 h2) (by rw [decide_eq_false h2]; rfl)
      · exact viaB (poss_few5 x n l c w hn h1) (by rw [decide_eq_false h1]; rfl)
    · exact viaB (poss_no5 x n l c w hn) (n0 hn).symm
  by_cases o6 : o = 6
  · subst o6
    have e : ∀ b, (decide ((0 : Int) ≤ 6) && (decide (0 ≤ n) && posL ⟨(6 : Int).toNat, b, n.toNat⟩)) = (decide (0 ≤ n) && (decide (n.toNat = 0) && (decide (b.length ≤ 60) && b.all plnB))) := fun _ => rfl
    rw [e, bl_len]
    by_cases hn : n = 0
    · rw [n1 hn]
      by_cases h2 : x.size ≤ 60
      · rw [decide_eq_true h2, Bool.true_and]
        have hR := fun w => run_any x 0 3 (by omega) (Nat.zero_le _) (by omega) w
        rw [List.drop_zero] at hR
        have ha := run_all 3 (bl x)
        rw [bl_len] at ha
        by_cases hr : runN 3 (bl x) = x.size
        · rw [decide_eq_true hr] at ha
          exact viaB (poss_yes6 x n l c w hn h2 _ hR hr) ha
        · rw [decide_eq_false hr] at ha
          exact viaB (poss_bad6 x n l c w hn h2 _ hR hr) ha
      · exact viaB (poss_many6 x n l c w hn h2) (by rw [decide_eq_false h2]; rfl)
    · exact viaB (poss_no6 x n l c w hn) (n0 hn).symm
  by_cases o7 : o = 7
  · subst o7
    have e : ∀ b, (decide ((0 : Int) ≤ 7) && (decide (0 ≤ n) && posL ⟨(7 : Int).toNat, b, n.toNat⟩)) = (decide (0 ≤ n) && (decide (n.toNat = 0) && memL signsL b)) := fun _ => rfl
    rw [e]
    by_cases hn : n = 0
    · exact viaB (poss_yes7 x n l c w hn) (n1 hn).symm
    · exact viaB (poss_no7 x n l c w hn) (n0 hn).symm
  · have ne : ∀ k : Int, ¬ o = k → (o == k) = false := fun k h => by rw [beq_eq_false_iff_ne]; exact h
    refine viaB (poss_other x n l c w o (ne 1 o1) (ne 2 o2) (ne 3 o3) (ne 4 o4) (ne 5 o5) (ne 6 o6) (ne 7 o7)) ?_
    by_cases h0 : 0 ≤ o
    · have hp : posL ⟨o.toNat, bl x, n.toNat⟩ = false := by
        unfold posL
        simp only
        rw [if_neg (by omega), if_neg (by omega), if_neg (by omega), if_neg (by omega), if_neg (by omega), if_neg (by omega), if_neg (by omega)]
      rw [hp]; simp
    · rw [decide_eq_false h0]; rfl
end Go.Proofs.YtfjeljehodbbmaaDoor
