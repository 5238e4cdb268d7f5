/- The contract of the program's first. -/
import Derived.Test.YtfjeljehodbbmaaDoorPf
import Derived.Shelf.Abstract
namespace Go.Proofs.YtfjeljehodbbmaaDoor
open Go.RowKit

theorem pre_eq (c : UInt8) (r : List UInt8) : (bl ⟨#[98, 34]⟩).isPrefixOf (c :: r) = decide (c = 98 ∧ r.head? = some 34) := by
  show List.isPrefixOf [98, 34] (c :: r) = _
  cases r with
  | nil => simp [List.isPrefixOf]
  | cons d z =>
    by_cases h1 : c = 98
    · subst h1
      by_cases h2 : d = 34
      · subst h2; simp [List.isPrefixOf]
      · simp [List.isPrefixOf, h2, Ne.symm h2]
    · simp [List.isPrefixOf, h1, Ne.symm h1]
/-- What a content between quotes is said to be. -/
theorem prt_pln {l : List UInt8} (h : ¬ 34 ∈ l) : l.all prtB = l.all plnB := by
  have h' : ∀ c ∈ l, prtB c = plnB c := by
    intro c hc
    unfold prtB plnB plnN
    apply decide_eq_decide.2
    have : c.toNat ≠ 34 := by
      intro e
      have : c = 34 := UInt8.toNat_inj.1 e
      rw [this] at hc
      exact h hc
    constructor
    · rintro ⟨a, b⟩; exact ⟨a, b, this⟩
    · rintro ⟨a, b, _⟩; exact ⟨a, b⟩
  induction l with
  | nil => rfl
  | cons c r ih =>
    rw [List.all_cons, List.all_cons, h' c (by simp), ih (fun hr => h (List.mem_cons_of_mem _ hr)) (fun x hx => h' x (List.mem_cons_of_mem _ hx))]
theorem call_eq {P : Program} {f : FuncId} {args : Array Value} {w : World} {v v' : Value} (h : Calls P f args w fun e w' => e = .returned v ∧ Below w.heap.size w w') (he : v = v') : Calls P f args w fun e w' => e = .returned v' ∧ Below w.heap.size w w' := by subst he; exact h
theorem same_call {P : Program} {f : FuncId} {args : Array Value} {w : World} {b b' : Bool} (h : Calls P f args w fun e w' => e = .returned (.bool b) ∧ w = w') (he : b = b') : Calls P f args w fun e w' => e = .returned (.bool b') ∧ w = w' := by subst he; exact h
/-- The whole of what first returns. -/
def fV (r : Option (Tok × Nat)) : Value := .tuple #[tkV (fO r) (sb (fT r)) (fN r), .int .i64 (fL r : Nat)]
theorem bef_len (c : UInt8) (l : List UInt8) : (befL c l).length ≤ l.length := tw_len _ _
theorem bef_in {c : UInt8} {l : List UInt8} (h : c ∈ l) : (befL c l).length + 1 ≤ l.length := by
  obtain ⟨z, hz⟩ := bef_split h
  have := congrArg List.length hz
  rw [List.length_append, List.length_cons] at this
  omega
theorem eV : ∀ args w, (callFunc 46 args).run Tryd.prog w = .ok (.enter 46 args) w := enters_of Tryd.func46 (by kernel_rfl) rfl
theorem eS : ∀ args w, (callFunc 47 args).run Tryd.prog w = .ok (.enter 47 args) w := enters_of Tryd.func47 (by kernel_rfl) rfl
theorem eB : ∀ args w, (callFunc 48 args).run Tryd.prog w = .ok (.enter 48 args) w := enters_of Tryd.func48 (by kernel_rfl) rfl
theorem first_any (s : ByteArray) (hs : s.size ≤ 140737488355328) (w : World) (hw : ∀ u, Below w.heap.size w u → Std u) :
    Calls Tryd.prog 28 #[.string s] w fun e w' => e = .returned (fV (tokL (bl s))) ∧ Below w.heap.size w w' := by
  by_cases h0 : 0 < s.size
  · obtain ⟨r, hr⟩ := hd_byte h0
    have hl := bl_len s
    have HP := fun w => prefix_any s ⟨#[98, 34]⟩ w
    rw [hr, pre_eq] at HP
    have hc0 : (s[0]'h0).toNat < 256 := (s[0]'h0).toNat_lt
    by_cases hv : s[0]'h0 = 98 ∧ r.head? = some 34
    · rw [decide_eq_true hv] at HP
      have ht : tokL (bl s) = (quoL bitB 1 64 r.tail).map fun q => (⟨5, q, 0⟩, q.length + 3) := by rw [hr, tokL, if_pos hv]
      have hd : (bl s).drop 2 = r.tail := by rw [hr]; simp
      have hb : (⟨#[98, 34]⟩ : ByteArray).size ≤ s.size := by
        show 2 ≤ s.size
        rw [← hl, hr]
        cases r with
        | nil => exact absurd hv.2 (by simp)
        | cons a z => simp
      have hdl : r.tail.length + 2 = s.size := by
        rw [← hd, List.length_drop, hl]
        have : (⟨#[98, 34]⟩ : ByteArray).size = 2 := rfl
        omega
      rw [quo_bef (by decide)] at ht
      rw [ht]
      by_cases hin : 34 ∈ r.tail
      · have hV := fun w => isVector_any (sb (befL 34 r.tail)) (by rw [sb_size]; have := bef_len 34 r.tail; omega) w
        rw [bl_sb, sb_size] at hV
        by_cases hg : (befL 34 r.tail).all bitB = true ∧ 1 ≤ (befL 34 r.tail).length ∧ (befL 34 r.tail).length ≤ 64
        · rw [if_pos ⟨hin, hg⟩]
          have := bef_in hin
          exact first_vec s w h0 hs 5 _ 0 _ HP fun u _ => quoted_good s _ _ 34 5 _ r.tail rfl hs hb hd hin eV (fun w => same_call (hV w) (by rw [decide_eq_true hg.2, hg.1]; rfl)) ((befL 34 r.tail).length + 3) (by show 2 + _ + 1 = _; omega) (by omega) u
        · rw [if_neg fun h => hg h.2]
          refine first_vec s w h0 hs 0 _ 0 0 HP fun u _ => quoted_bad s _ _ 34 5 _ r.tail rfl hs hb hd hin eV (fun w => same_call (hV w) ?_) u
          cases ha : (befL 34 r.tail).all bitB with
          | false => rw [Bool.and_false]
          | true => rw [decide_eq_false fun h => hg ⟨ha, h⟩]; rfl
      · rw [if_neg fun h => hin h.1]
        exact first_vec s w h0 hs 0 _ 0 0 HP fun u _ => quoted_open s _ _ 34 5 _ r.tail rfl hs hb hd hin u
    · rw [decide_eq_false hv] at HP
      have e1 : ((s[0]'h0).toNat = 34) ↔ s[0]'h0 = 34 := ⟨fun h => UInt8.toNat_inj.1 h, fun h => by rw [h]; rfl⟩
      have e2 : ((s[0]'h0).toNat = 39) ↔ s[0]'h0 = 39 := ⟨fun h => UInt8.toNat_inj.1 h, fun h => by rw [h]; rfl⟩
      have hd : (bl s).drop 1 = r := by rw [hr]; simp
      have hdl : r.length + 1 = s.size := by rw [← hl, hr]; simp
      by_cases h34 : s[0]'h0 = 34
      · have t1 : (((s[0]'h0).toNat : Int) == 34) = true := by rw [beq_iff_eq]; have := e1.2 h34; omega
        have ht : tokL (bl s) = (quoL plnB 0 60 r).map fun q => (⟨6, q, 0⟩, q.length + 2) := by
          rw [hr, tokL, if_neg hv, if_neg (by rw [h34]; decide), if_neg (by rw [h34]; decide), if_neg (by rw [h34]; decide), if_pos h34]
        rw [quo_bef (by decide)] at ht
        rw [ht]
        have hb : (⟨#[34]⟩ : ByteArray).size ≤ s.size := by show 1 ≤ s.size; omega
        by_cases hin : 34 ∈ r
        · have hV := fun w => isString_any (sb (befL 34 r)) (by rw [sb_size]; have := bef_len 34 r; omega) w
          rw [bl_sb, sb_size, prt_pln (bef_not r)] at hV
          by_cases hg : (befL 34 r).all plnB = true ∧ 0 ≤ (befL 34 r).length ∧ (befL 34 r).length ≤ 60
          · rw [if_pos ⟨hin, hg⟩]
            have := bef_in hin
            exact first_text s w h0 hs 6 _ 0 _ HP t1 fun u _ => quoted_good s _ _ 34 6 _ r rfl hs hb hd hin eS (fun w => same_call (hV w) (by rw [decide_eq_true hg.2.2, hg.1]; rfl)) ((befL 34 r).length + 2) (by show 1 + _ + 1 = _; omega) (by omega) u
          · rw [if_neg fun h => hg h.2]
            refine first_text s w h0 hs 0 _ 0 0 HP t1 fun u _ => quoted_bad s _ _ 34 6 _ r rfl hs hb hd hin eS (fun w => same_call (hV w) ?_) u
            cases ha : (befL 34 r).all plnB with
            | false => rfl
            | true => rw [decide_eq_false fun h => hg ⟨ha, Nat.zero_le _, h⟩]; rfl
        · rw [if_neg fun h => hin h.1]
          exact first_text s w h0 hs 0 _ 0 0 HP t1 fun u _ => quoted_open s _ _ 34 6 _ r rfl hs hb hd hin u
      have t1 : (((s[0]'h0).toNat : Int) == 34) = false := by rw [beq_eq_false_iff_ne]; intro h; exact h34 (e1.1 (by omega))
      by_cases h39 : s[0]'h0 = 39
      · have t2 : (((s[0]'h0).toNat : Int) == 39) = true := by rw [beq_iff_eq]; have := e2.2 h39; omega
        have ht : tokL (bl s) = bitTok r := by
          rw [hr, tokL, if_neg hv, if_neg (by rw [h39]; decide), if_neg (by rw [h39]; decide), if_pos h39]
        rw [bit_cut] at ht
        rw [ht]
        have hb : (⟨#[39]⟩ : ByteArray).size ≤ s.size := by show 1 ≤ s.size; omega
        by_cases hin : 39 ∈ r
        · have hV := fun w => isBit_any (sb (befL 39 r)) (by rw [sb_size]; have := bef_len 39 r; omega) w
          rw [bl_sb, sb_size] at hV
          by_cases hg : (befL 39 r).length = 1 ∧ (befL 39 r).all bitB = true
          · have := bef_in hin
            have hV' := hV
            rw [decide_eq_true hg.1, hg.2] at hV'
            rw [if_pos ⟨hin, hg⟩]
            exact first_bit s w h0 hs 4 _ 0 _ HP t1 t2 fun u _ => quoted_good s _ _ 39 4 _ r rfl hs hb hd hin eB hV' 3 (by show 1 + _ + 1 = _; omega) (by omega) u
          · rw [if_neg fun h => hg h.2]
            refine first_bit s w h0 hs 0 _ 0 0 HP t1 t2 fun u _ => quoted_bad s _ _ 39 4 _ r rfl hs hb hd hin eB (fun w => same_call (hV w) ?_) u
            cases ha : (befL 39 r).all bitB with
            | false => rw [Bool.and_false]
            | true => rw [decide_eq_false fun h => hg ⟨h, ha⟩]; rfl
        · rw [if_neg fun h => hin h.1]
          exact first_bit s w h0 hs 0 _ 0 0 HP t1 t2 fun u _ => quoted_open s _ _ 39 4 _ r rfl hs hb hd hin u
      have t2 : (((s[0]'h0).toNat : Int) == 39) = false := by rw [beq_eq_false_iff_ne]; intro h; exact h39 (e2.1 (by omega))
      have hL := fun w => isLetter_at (s[0]'h0).toNat w
      have hD := fun w => isDigit_at (s[0]'h0).toNat w
      have hWl := fun w => wordLength_any s hs w
      have hk : wlN (bl s) ≤ s.size := by rw [← hl]; exact tw_len _ _
      have hx : bl (s.extract 0 (wlN (bl s))) = (bl s).takeWhile innB := by
        rw [bl_extract, List.drop_zero, Nat.sub_zero]; exact tw_take _ _
      have hxs : (s.extract 0 (wlN (bl s))).size = ((bl s).takeWhile innB).length := by rw [← bl_len, hx]
      have hxl : (s.extract 0 (wlN (bl s))).size ≤ 140737488355328 := by rw [hxs]; have := tw_len innB (bl s); omega
      cases hlet : letB (s[0]'h0) with
      | true =>
        rw [show letN (s[0]'h0).toNat = true from hlet] at hL
        have ht : tokL (bl s) = (if isWordL ((bl s).takeWhile innB) then some (⟨2, (bl s).takeWhile innB, 0⟩, ((bl s).takeWhile innB).length) else if ((bl s).takeWhile innB).length ≤ 40 then some (⟨1, (bl s).takeWhile innB, 0⟩, ((bl s).takeWhile innB).length) else none) := by
          rw [hr, tokL, if_neg hv, if_pos hlet]
        have hh : hdLet ((bl s).takeWhile innB) = true := by rw [hr, tw_cons (inn_let hlet)]; exact hlet
        have ha := tw_all innB (bl s)
        have hW := fun o x n hr u => word_any (s.extract 0 (wlN (bl s))) hxl o x n hr u
        rw [hx, hxs] at hW
        have hy : sb ((bl s).takeWhile innB) = s.extract 0 (wlN (bl s)) := by rw [← hx, sb_bl]
        rw [ht]
        generalize (bl s).takeWhile innB = q at *
        cases hw : isWordL q with
        | true =>
          rw [if_pos rfl]
          exact first_word s w h0 hs 2 _ 0 _ HP t1 t2 hL _ hk hWl _ rfl fun u _ => hW 2 (sb q) q.length (.inl ⟨hw, rfl, hy, rfl⟩) u
        | false =>
          rw [if_neg (by decide)]
          by_cases h40 : q.length ≤ 40
          · rw [if_pos h40]
            exact first_word s w h0 hs 1 _ 0 _ HP t1 t2 hL _ hk hWl _ rfl fun u _ => hW 1 (sb q) q.length (.inr (.inl ⟨hw, by unfold isNameL; rw [decide_eq_true h40, hh, ha, hw]; rfl, rfl, hy, rfl⟩)) u
          · rw [if_neg h40]
            exact first_word s w h0 hs 0 _ 0 _ HP t1 t2 hL _ hk hWl _ rfl fun u _ => hW 0 (sb []) 0 (.inr (.inr ⟨hw, by unfold isNameL; rw [decide_eq_false h40]; rfl, rfl, rfl, rfl⟩)) u
      | false =>
      rw [show letN (s[0]'h0).toNat = false from hlet] at hL
      cases hdig : digB (s[0]'h0) with
      | true =>
        rw [show digN (s[0]'h0).toNat = true from hdig] at hD
        have ht : tokL (bl s) = (if valL ((bl s).takeWhile digB) ≤ maxI ∧ ((bl s).takeWhile innB).length = ((bl s).takeWhile digB).length then some (⟨3, [], valL ((bl s).takeWhile digB)⟩, ((bl s).takeWhile digB).length) else none) := by
          rw [hr, tokL, if_neg hv, if_neg (by rw [hlet]; decide), if_pos hdig]
        have hnum := num_run (r := r) hdig
        rw [← hr] at hnum
        have hq : ∃ q, (bl s).takeWhile innB = s[0]'h0 :: q := ⟨r.takeWhile innB, by rw [hr, tw_cons (inn_dig hdig)]⟩
        obtain ⟨q, hq⟩ := hq
        rw [ht]
        by_cases hg : valL ((bl s).takeWhile digB) ≤ maxI ∧ ((bl s).takeWhile innB).length = ((bl s).takeWhile digB).length
        · rw [if_pos hg]
          have hg2 := hnum.1 hg
          have heq : (bl s).takeWhile innB = (bl s).takeWhile digB := by rw [← tw_take innB, ← tw_take digB, hg.2]
          have hat : Lib.atoiAll (bl (s.extract 0 (wlN (bl s)))) = .ok (valL ((bl s).takeWhile digB) : Int) := by
            rw [hx, ← heq, hq]
            rw [hq] at hg2
            exact atoi_val hg2.1 hg2.2
          have hM : maxI = 2147483647 := rfl
          refine first_num s w h0 hs 3 _ _ _ HP t1 t2 hL hD _ hk hWl _ rfl fun u _ => call_eq (number_yes _ hxl _ (by rw [← hM]; exact hg.1) hat u) ?_
          rw [hxs, heq]
          rfl
        · rw [if_neg hg]
          refine first_num s w h0 hs 0 _ 0 0 HP t1 t2 hL hD _ hk hWl _ rfl fun u hu => ?_
          cases hat : Lib.atoiAll (bl (s.extract 0 (wlN (bl s))))
          case ok v =>
            have hat' := hat
            rw [hx, hq] at hat'
            obtain ⟨ha, hv'⟩ := atoi_ok hdig hat'
            rw [← hq] at ha hv'
            have hbig : ¬ valL ((bl s).takeWhile innB) ≤ maxI := fun h => hg (hnum.2 ⟨ha, h⟩)
            have hM : maxI = 2147483647 := rfl
            exact number_big _ hxl v (by rw [hM] at hbig; omega) hat u
          all_goals exact number_no _ hxl (fun v h => by rw [hat] at h; cases h) u fun u' hu' => hw u' (below_then hu hu')
      | false =>
      rw [show digN (s[0]'h0).toNat = false from hdig] at hD
      have ht : tokL (bl s) = if sgnL (bl s) = 0 then none else some (⟨7, (bl s).take (sgnL (bl s)), 0⟩, ((bl s).take (sgnL (bl s))).length) := by
        rw [hr, tokL, if_neg hv, if_neg (by rw [hlet]; decide), if_neg (by rw [hdig]; decide), if_neg h39, if_neg h34, sgn_find]
        by_cases hz : sgnL (s[0]'h0 :: r) = 0
        · rw [if_pos hz, if_pos hz]; rfl
        · rw [if_neg hz, if_neg hz]; rfl
      have hS := fun w => signLength_any s h0 hs w
      have hsl : sgnL (bl s) ≤ s.size := by
        unfold sgnL
        split
        · rename_i h
          have h2 : ∀ x ∈ twoL, x.length = 2 := by decide
          have := h2 _ (List.contains_iff_mem.1 h)
          rw [List.length_take] at this
          omega
        · split <;> omega
      rw [ht]
      by_cases hz : sgnL (bl s) = 0
      · rw [hz] at hS
        rw [if_pos hz]
        exact first_no s w h0 hs 0 _ 0 0 HP t1 t2 hL hD hS rfl rfl rfl rfl
      · rw [if_neg hz]
        have hlen : ((bl s).take (sgnL (bl s))).length = sgnL (bl s) := by rw [List.length_take]; omega
        refine call_eq (first_sign s w h0 hs 7 (sb ((bl s).take (sgnL (bl s)))) 0 (sgnL (bl s)) HP t1 t2 hL hD hS (by omega) hsl ?_ rfl rfl) ?_
        · apply bl_inj
          rw [bl_extract, bl_sb, List.drop_zero, Nat.sub_zero]
        · unfold fV
          simp only [fO, fT, fN, fL, hlen]
  · have e : s = ⟨#[]⟩ := bl_inj (List.eq_nil_of_length_eq_zero (by rw [bl_len]; omega))
    subst e
    exact first_empty w
end Go.Proofs.YtfjeljehodbbmaaDoor
