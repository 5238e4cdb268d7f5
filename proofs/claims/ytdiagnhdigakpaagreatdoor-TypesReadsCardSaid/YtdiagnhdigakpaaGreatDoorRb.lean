/- The contracts of the reference's Parse of bits, as a row of the call's own, and of pieces. -/
import Derived.Test.YtdiagnhdigakpaaGreatDoorUr
import Derived.Test.YtdiagnhdigakpaaGreatDoorKd
import Derived.Test.YtdiagnhdigakpaaGreatDoorKh
namespace Go.Proofs.YtdiagnhdigakpaaGreatDoor.Lg
open Go.RowKit

/-- The letters' bits from behind, after k rounds. -/
theorem rev_take {l : List UInt8} {k : Nat} (h : k < l.length) : ((l.reverse.map lc).take (k + 1)) = (l.reverse.map lc).take k ++ [lc (l[l.length - 1 - k]'(by omega))] := by
  rw [List.take_succ_eq_append_getElem (by simpa using h)]
  simp
set_option maxHeartbeats 1000000 in
theorem refParse_own (s : ByteArray) (w : World) :
    Calls Tryz.prog 87 #[.string s] w fun e w' => ∃ u, e = .returned (.tuple #[u, .int .i64 (parE s.data.toList : Nat)]) ∧ Own w' w.heap.size u (parV s.data.toList) ∧ Below w.heap.size w w' := by
  have hl := byte_list s
  by_cases h1 : 1 ≤ s.size
  · by_cases h2 : s.size ≤ 64
    · have HF := Lib.hid (parB_fits (l := s.data.toList) (by omega) (by omega))
      have HL := Lib.hid hl
      clear hl
      go_enter Tryz.func87, Tryz.ntmps87
      go_wp2_with fail
      go_loopw [4, 18] (fun v i wr => ∃ k : Nat, k ≤ s.size ∧ i = .int .i64 k ∧ Hid (lcB (s.data.toList.reverse.take k) = true) ∧ Own wr w.heap.size v ((s.data.toList.reverse.map lc).take k) ∧ Below w.heap.size w wr) (fun _ i _ => s.size - (intOf i).toNat)
      case atStart => exact ⟨0, Nat.zero_le _, rfl, rfl, Own.nil w (Nat.le_refl _), Below.refl _ _⟩
      case round =>
        obtain ⟨k, hk, rfl, hr, hown, hb⟩ := hrel
        have HO := Lib.hid hown
        have HB := Lib.hid hb
        clear hown hb
        by_cases hlt : k < s.size
        · have hlt' : s.size - 1 - k < s.data.toList.length := by rw [HL.out]; omega
          have hX := byte_get s (s.size - 1 - k) (by omega) hlt'
          have hX' : s.data.toList.reverse[k]'(by simp; omega) = s[s.size - 1 - k] := by rw [← hX]; simp
          have hz4 := lc_le s[s.size - 1 - k]
          by_cases h3 : lc s[s.size - 1 - k] ≤ 3
          · have HR := Lib.hid (lcB_take (l := s.data.toList.reverse) (k := k) (by simp; omega) hr.out (by rw [hX']; exact h3))
            have hT0 : (s.data.toList.reverse.map lc).take (k + 1) = (s.data.toList.reverse.map lc).take k ++ [lc s[s.size - 1 - k]] := by
              rw [List.take_succ_eq_append_getElem (by simp; omega), List.getElem_map, hX']
            have HT := Lib.hid hT0
            clear hT0
            have hc := fun w => of_any s[s.size - 1 - k] w
            rw [if_pos h3, decide_eq_true h3] at hc
            have hlen : ((s.data.toList.reverse.map lc).take k).length ≤ 64 := by simp; omega
            generalize lc s[s.size - 1 - k] = z at hc HT h3 hz4
            have HI := Lib.hid hc
            have HLen := Lib.hid hlen
            clear hc hX hX' hr hlen
            go_wp2_with (first | (go_at_call 125; refine (HI.out _).mono ?_; rintro e w' ⟨rfl, rfl⟩) | (at_builtin; refine wpList_append_sl rfl _ _ rfl w.heap.size _ _ _ [z] rfl rfl (HO.out.alloc _) (Sl.one _ _ (by omega)) (by have := HLen.out; rw [List.length_singleton]; omega) ?_; intro v' w2 hown2 hb2))
            have HO2 := Lib.hid hown2
            have HB2 := Lib.hid hb2
            clear hown2 hb2
            go_wp2
            go_roundw
            case rel => exact ⟨k + 1, by omega, by go_num, HR, by rw [HT.out]; exact HO2.out, (HB.out.alloc HO.out.2.2.2 _).trans (HB2.out _ (Nat.le_refl _))⟩
            case measure => simp [intOf]; omega
          · have HR : Hid (parB s.data.toList = false) := by
              have := lcB_no hlt' (by rw [hX]; exact h3)
              exact (HF.out).trans this
            have hc := fun w => of_any s[s.size - 1 - k] w
            rw [if_neg h3, decide_eq_false h3] at hc
            have HI := Lib.hid hc
            clear hc hX hX' hr h3 hz4
            go_wp2_with (go_at_call 125; refine (HI.out _).mono ?_; rintro e w' ⟨rfl, rfl⟩)
            go_ret2
            exact ⟨_, ret_vi (by rw [(par_no HR.out).2]; rfl), by rw [(par_no HR.out).1]; exact Own.nil _ HB.out.size, HB.out⟩
        · have HR : Hid (parB s.data.toList = true) := by
            refine (HF.out).trans ?_
            have := lcB_end (l := s.data.toList.reverse) (k := k) (by simp; omega) hr.out
            unfold lcB at this ⊢
            rwa [List.all_reverse] at this
          have HE : Hid ((s.data.toList.reverse.map lc).take k = (s.data.toList.map lc).reverse) := by
            rw [List.take_of_length_le (by simp; omega), List.map_reverse]; exact rfl
          clear hr
          go_wp2
          go_ret2
          exact ⟨_, ret_vi (by rw [(par_yes HR.out).2]; rfl), by rw [(par_yes HR.out).1, ← HE.out]; exact HO.out, HB.out⟩
    · have HR := Lib.hid (par_no (parB_long (l := s.data.toList) (by omega)))
      clear hl
      go_enter Tryz.func87, Tryz.ntmps87
      go_wp2
      go_ret2
      exact ⟨_, ret_vi (by rw [HR.out.2]; rfl), by rw [HR.out.1]; exact Own.nil _ (Nat.le_refl _), Below.refl _ _⟩
  · have HR := Lib.hid (par_no (parB_none (l := s.data.toList) (by omega)))
    clear hl
    go_enter Tryz.func87, Tryz.ntmps87
    go_wp2
    go_ret2
    exact ⟨_, ret_vi (by rw [HR.out.2]; rfl), by rw [HR.out.1]; exact Own.nil _ (Nat.le_refl _), Below.refl _ _⟩
end Go.Proofs.YtdiagnhdigakpaaGreatDoor.Lg
namespace Go.Proofs.YtdiagnhdigakpaaGreatDoor
open Go.RowKit

theorem splitC_com (l : List UInt8) : splitC (l ++ [44]) = splitC l ++ [[]] := by
  induction l with
  | nil => rfl
  | cons d r ih =>
    rw [List.cons_append, splitC, splitC, ih]
    split
    · rfl
    · cases hs : splitC r with
      | nil => exact absurd hs (splitC_none r)
      | cons p q => rfl
theorem splitC_let {c : UInt8} (hc : c ≠ 44) : ∀ (l : List UInt8) (j : Nat) (hj : j + 1 = (splitC l).length), splitC (l ++ [c]) = (splitC l).set j ((splitC l)[j]'(by omega) ++ [c])
  | [], j, hj => by
    have : j = 0 := by simpa [splitC] using hj
    subst this
    simp [splitC, hc]
  | d :: r, j, hj => by
    rw [List.cons_append]
    by_cases hd : d = 44
    · have e1 : splitC (d :: (r ++ [c])) = [] :: splitC (r ++ [c]) := by rw [splitC, if_pos hd]
      have e2 : splitC (d :: r) = [] :: splitC r := by rw [splitC, if_pos hd]
      have hn := List.length_pos_iff.2 (splitC_none r)
      obtain ⟨i, rfl⟩ : ∃ i, j = i + 1 := ⟨j - 1, by rw [e2, List.length_cons] at hj; omega⟩
      have hi : i + 1 = (splitC r).length := by rw [e2, List.length_cons] at hj; omega
      simp only [e1, e2, splitC_let hc r i hi, List.set_cons_succ, List.getElem_cons_succ]
    · cases hs : splitC r with
      | nil => exact absurd hs (splitC_none r)
      | cons p q =>
        have e2 : splitC (d :: r) = (d :: p) :: q := by rw [splitC, if_neg hd, hs]
        have hi : j + 1 = (splitC r).length := by rw [e2] at hj; rw [hs]; simpa using hj
        have ih := splitC_let hc r j hi
        simp only [hs] at ih
        cases j with
        | zero =>
          have e1 : splitC (d :: (r ++ [c])) = (d :: (p ++ [c])) :: q := by rw [splitC, if_neg hd, ih]; rfl
          simp only [e1, e2]
          rfl
        | succ i =>
          have e1 : splitC (d :: (r ++ [c])) = (d :: p) :: q.set i ((p :: q)[i + 1]'(by rw [hs] at hi; omega) ++ [c]) := by rw [splitC, if_neg hd, ih]; rfl
          simp only [e1, e2]
          rfl
theorem splitC_le : ∀ (l p : List UInt8), p ∈ splitC l → p.length ≤ l.length
  | [], p, h => by
    have : p = [] := by simpa [splitC] using h
    rw [this]
    exact Nat.le_refl _
  | d :: r, p, h => by
    rw [splitC] at h
    split at h
    · rcases List.mem_cons.1 h with rfl | h
      · simp
      · have := splitC_le r p h
        rw [List.length_cons]
        omega
    · cases hs : splitC r with
      | nil => exact absurd hs (splitC_none r)
      | cons a q =>
        rw [hs] at h
        rcases List.mem_cons.1 h with rfl | h
        · have := splitC_le r a (by rw [hs]; simp)
          rw [List.length_cons, List.length_cons]
          omega
        · have := splitC_le r p (by rw [hs]; simp [h])
          rw [List.length_cons]
          omega
theorem splitC_len : ∀ l : List UInt8, (splitC l).length ≤ l.length + 1
  | [] => by simp [splitC]
  | d :: r => by
    have ih := splitC_len r
    rw [splitC]
    split
    · rw [List.length_cons, List.length_cons]
      omega
    · cases hs : splitC r with
      | nil => simp
      | cons p q =>
        rw [hs] at ih
        simp only [List.length_cons] at ih ⊢
        omega
theorem wpList_append_strs {ops : Array Oper} {rest : List Oper} {o : Oper} {a : Act} {Q : Exit → Act → World → Prop} {w : World} (hgd : o.guard = none) (s x : Operand)
    (ho : o.op = .call { callee := .builtin .append, args := #[s, x], argTypes := #[23, 23] })
    (base : Nat) (v u : Value) (xs ys : List ByteArray) (hs : a.eval s = v) (hx : a.eval x = u) (hown : OwnN w base v xs) (hu : StrS w u ys) (hl : xs.length + ys.length ≤ 100000)
    (h : ∀ v' w', OwnN w' base v' (xs ++ ys) → Below base w w' → wpList Tryz.prog ops Q rest (a.put o.dst v') w') : wpList Tryz.prog ops Q (o :: rest) a w :=
  wpList_plain hgd fun K hK => by
    obtain ⟨v', w', hrun, h2, h3, _⟩ := run_append_strs w base o.type v u xs ys hown hu hl
    unfold Oper.wp execOp
    simp only [ho, resolve, invoke, builtin, Sem.run_bind, Sem.run_pure, Result.andThen_ok, List.map_toArray, List.map_cons, List.map_nil, hs, hx, hrun]
    exact hK _ _ (h v' w' h2 ((Below.refl _ _).grown h3 hown.2.2 fun k hk => (hown.1.lt k hk).1))
theorem strS_one (w : World) (x : ByteArray) : StrS (w.alloc (.cells #[.string x] 9)) (.slice (some ⟨w.heap.size, 0, none⟩) 1 1) [x] :=
  ⟨_, 1, rfl, by simp, by simp, .inr ⟨w.heap.size, 0, rfl, fun k hk => by
    have : k = 0 := by simp at hk; omega
    subst this
    exact (Blk.new w _ _).cell 0⟩⟩
theorem OwnN.one (w : World) (x : ByteArray) : OwnN (w.alloc (.cells #[.string x] 9)) w.heap.size (.slice (some ⟨w.heap.size, 0, none⟩) 1 1) [x] :=
by
  refine ⟨⟨by simp [strCells], .inr ⟨w.heap.size, 1, #[.string x], rfl, Nat.le_refl _, heap_alloc_new w _, Nat.le_refl _, by decide, rfl, by simp [strCells]⟩⟩, by simp, ?_⟩
  rw [World.size_alloc]
  omega
theorem OwnN.at {w : World} {base n : Nat} {v : Value} {xs : List ByteArray} (h : OwnN w base v xs) (hn : xs.length = n) (j : Nat) (hj : j < n) :
    ∃ g c, v = .slice (some ⟨g, 0, none⟩) n c ∧ base ≤ g ∧ w.cell? ⟨g, j, none⟩ = some (.string (xs[j]'(by omega))) ∧ w.frozen? ⟨g, j, none⟩ = false ∧ ∀ y, OwnN (w.setCell ⟨g, j, none⟩ (.string y)) base v (xs.set j y) := by
  obtain ⟨ho, h1, h2⟩ := h
  have ho2 := ho.2
  rcases ho2 with ⟨_, e⟩ | ⟨g, cap, cur, rfl, hb, _⟩
  · omega
  · refine ⟨g, cap, by rw [hn], hb, ?_, ho.frozenAt j, fun y => ⟨?_, by simpa using h1, by simpa [World.setCell] using h2⟩⟩
    · rw [ho.cellAt j (by omega)]
      unfold strCells
      rw [List.getElem?_map, List.getElem?_eq_getElem (by omega)]
      rfl
    · have := (ho.stored j (.string y)).1
      rw [List.length_set, show strCells (xs.set j y) = (strCells xs).set j (.string y) by simp [strCells]]
      exact this
set_option maxRecDepth 100000 in
set_option maxHeartbeats 8000000 in
theorem pieces_any (s : ByteArray) (hs : s.size ≤ 20000) (w : World) :
    Calls Tryz.prog 89 #[.string s] w fun e w' => ∃ v ps, e = .returned v ∧ OwnN w' w.heap.size v ps ∧ ps.map bl = splitC (bl s) ∧ Below w.heap.size w w' := by
  have HO1 := Lib.hid (OwnN.one w ⟨#[]⟩)
  have HB1 := Lib.hid (below_alloc w (.cells #[.string ⟨#[]⟩] 9))
  go_enter Tryz.func89, Tryz.ntmps89
  go_wp2_with fail
  go_loopw [3, 8] (fun v i wr => ∃ (k : Nat) (ps : List ByteArray), k ≤ s.size ∧ i = .int .i64 k ∧ ps.length ≤ k + 1 ∧ Hid (OwnN wr w.heap.size v ps) ∧ Hid (ps.map bl = splitC ((bl s).take k)) ∧ Hid (Below w.heap.size w wr)) (fun _ i _ => s.size - (intOf i).toNat)
  case atStart => exact ⟨0, [⟨#[]⟩], Nat.zero_le _, rfl, by simp, HO1, (by show _ = _; rw [List.take_zero]; rfl), HB1⟩
  case round =>
    obtain ⟨k, ps, hk, rfl, hpk, HO, HP, NB⟩ := hrel
    clear HO1 HB1
    by_cases hlt : k < s.size
    · have hl : k < (bl s).length := by rw [bl_len]; exact hlt
      have hb : (bl s)[k]'hl = s[k]'hlt := bl_get s k hlt
      have htk : (bl s).take (k + 1) = (bl s).take k ++ [s[k]'hlt] := by rw [List.take_succ_eq_append_getElem hl, hb]
      have hki : (k : Int) < (s.size : Int) := by omega
      have hk0 : (0 : Int) ≤ (k : Int) := by omega
      have dk : decide ((k : Int) < (s.size : Int)) = true := by rw [decide_eq_true_eq]; omega
      by_cases h44 : s[k]'hlt = 44
      · have d1 : (((s[k]'hlt).toNat : Int) == 44) = true := by rw [beq_iff_eq, h44]; rfl
        have HP2 : Hid ((ps ++ [(⟨#[]⟩ : ByteArray)]).map bl = splitC ((bl s).take (k + 1))) := by
          show _ = _
          rw [htk, h44, splitC_com, List.map_append, HP.out]
          rfl
        have hp1 : (ps ++ [(⟨#[]⟩ : ByteArray)]).length ≤ k + 1 + 1 := by rw [List.length_append, List.length_singleton]; omega
        clear hb htk h44 hl
        go_wp2_with (at_builtin; refine wpList_append_strs rfl _ _ rfl w.heap.size _ _ ps [⟨#[]⟩] rfl rfl (HO.out.kept (below_alloc _ _)) (strS_one _ _) (by rw [List.length_singleton]; omega) ?_; intro v' w2 hown2 hb2)
        have HO2 := Lib.hid hown2
        have HB2 := Lib.hid hb2
        clear hown2 hb2
        go_wp2
        go_roundw
        case rel => exact ⟨k + 1, _, by omega, by go_num, hp1, HO2, HP2, (NB.out.alloc NB.out.size _).trans HB2.out⟩
        case measure => simp [intOf]; omega
      · have d1 : (((s[k]'hlt).toNat : Int) == 44) = false := by
          rw [beq_eq_false_iff_ne]
          intro h
          exact h44 (UInt8.toNat_inj.1 (by have : (s[k]'hlt).toNat = 44 := by omega
                                           rw [this]; rfl))
        have hpl : ps.length = (splitC ((bl s).take k)).length := by rw [← HP.out, List.length_map]
        have hp0 : 0 < (splitC ((bl s).take k)).length := List.length_pos_iff.2 (splitC_none _)
        obtain ⟨j, hj⟩ : ∃ j, j + 1 = ps.length := ⟨ps.length - 1, by omega⟩
        obtain ⟨n, hn⟩ : ∃ n, ps.length = n := ⟨_, rfl⟩
        obtain ⟨g, c, rfl, hg, gc, gf, gs⟩ := HO.out.at hn j (by omega)
        have hex : bl (s.extract k (k + 1)) = [s[k]'hlt] := by
          rw [bl_extract, List.drop_eq_getElem_cons hl, hb, show k + 1 - k = 1 by omega]
          rfl
        have HP2 : Hid ((ps.set j (ps[j]'(by omega) ++ s.extract k (k + 1))).map bl = splitC ((bl s).take (k + 1))) := by
          show _ = _
          rw [htk, splitC_let h44 _ j (by omega), List.map_set, HP.out, bl_append, hex]
          congr 2
          have := List.getElem_of_eq HP.out (i := j) (by rw [List.length_map]; omega)
          rw [List.getElem_map] at this
          exact this
        have hz : (ps[j]'(by omega)).size ≤ 20000 := by
          have hm : bl (ps[j]'(by omega)) ∈ splitC ((bl s).take k) := by rw [← HP.out]; exact List.mem_map.2 ⟨_, List.getElem_mem _, rfl⟩
          have := splitC_le _ _ hm
          rw [bl_len, List.length_take] at this
          omega
        have hz2 : (s.extract k (k + 1)).size = 1 := by rw [← bl_len, hex]; rfl
        have hp1 : (ps.set j (ps[j]'(by omega) ++ s.extract k (k + 1))).length ≤ k + 1 + 1 := by rw [List.length_set]; omega
        obtain ⟨k1, hk1⟩ : ∃ k1, k1 = k + 1 := ⟨_, rfl⟩
        have hks : (k : Int) + 1 = (k1 : Int) := by omega
        have hk1s : (k1 : Int) ≤ (s.size : Int) := by omega
        have hkk : (k : Int) ≤ (k1 : Int) := by omega
        have hns : (n : Int) - 1 = (j : Int) := by omega
        have hjn : (j : Int) < (n : Int) := by omega
        have hj0 : (0 : Int) ≤ (j : Int) := by omega
        have HS := Lib.hid (gs (ps[j]'(by omega) ++ s.extract k (k + 1)))
        have HK1 := Lib.hid hk1
        have hn9 : n ≤ 100000 := by omega
        rw [← hk1] at hz2 HS HP2 hp1
        obtain ⟨x, hx⟩ : ∃ x, x = ps[j]'(by omega) := ⟨_, rfl⟩
        rw [← hx] at HS HP2 hp1
        rw [← hx] at hz gc
        have HS2 := Lib.hid (HS.out.kept (Below.refl _ _).drew)
        have NB2 := Lib.hid ((NB.out.setCell (p := ⟨g, j, none⟩) hg (.string (x ++ s.extract k k1))).drew)
        clear hb htk h44 hl hpl hp0 hex hk1 hx hj hn gs
        go_wp2_with fail
        go_region
        go_wp2
        go_roundw
        case rel => exact ⟨k1, _, by omega, by go_num, hp1, HS2, HP2, NB2⟩
        case measure => simp [intOf]; omega
    · have HE : Hid (ps.map bl = splitC (bl s)) := by have := HP.out; rwa [List.take_of_length_le (by rw [bl_len]; omega)] at this
      have dk : decide ((k : Int) < (s.size : Int)) = false := by rw [decide_eq_false_iff_not]; omega
      go_wp2
      go_ret
      exact ⟨_, ps, rfl, HO.out, HE.out, NB.out⟩
end Go.Proofs.YtdiagnhdigakpaaGreatDoor
