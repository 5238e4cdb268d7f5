/- The contract of the reference's token. -/
import Derived.Test.YtfjeljehodbbmaaDoorTs
namespace Go.Proofs.YtfjeljehodbbmaaDoor
open Go.RowKit

theorem quo_some {k least most : Nat} {d q : List UInt8} (h : quoL (kB k) least most d = some q) : quoI k least most d = (q.length : Int) ∧ d.take q.length = q ∧ q.length + 1 ≤ d.length := by
  refine ⟨by unfold quoI; rw [h], ?_, ?_⟩
  · obtain ⟨_, _, _, z, hz⟩ := quo_facts h
    rw [hz]; exact List.take_left' rfl
  · obtain ⟨_, _, _, z, hz⟩ := quo_facts h
    rw [hz, List.length_append, List.length_cons]; omega
theorem quo_none {k least most : Nat} {d : List UInt8} (h : quoL (kB k) least most d = none) : quoI k least most d = -1 := by unfold quoI; rw [h]
theorem tokV_mk (op : Nat) (x : ByteArray) (n : Nat) : tokV ⟨op, bl x, n⟩ 0 0 = .agg #[.int .i64 (op : Nat), .string x, .int .i64 (n : Nat), .int .i64 0, .int .i64 0] := by unfold tokV; rw [sb_bl]; rfl
theorem tokV_int (n : Nat) : tokV ⟨3, [], n⟩ 0 0 = .agg #[.int .i64 3, .string ⟨#[]⟩, .int .i64 (n : Nat), .int .i64 0, .int .i64 0] := rfl
theorem tokV_zero : tokV ⟨0, [], 0⟩ 0 0 = .agg #[.int .i64 0, .string ⟨#[]⟩, .int .i64 0, .int .i64 0, .int .i64 0] := rfl
theorem ends {o : Option (Tok × Nat)} {t : Tok} {n : Nat} {v : Value} (ho : o = some (t, n)) (hv : v = tokV t 0 0) : Ending.returned (.tuple #[v, .int .i64 (n : Nat)]) = .returned (.tuple #[tokV (tokT o) 0 0, .int .i64 (tokC o : Nat)]) := by subst ho; subst hv; rfl
theorem ends_no {o : Option (Tok × Nat)} {v : Value} (ho : o = none) (hv : v = tokV ⟨0, [], 0⟩ 0 0) : Ending.returned (.tuple #[v, .int .i64 0]) = .returned (.tuple #[tokV (tokT o) 0 0, .int .i64 (tokC o : Nat)]) := by subst ho; subst hv; rfl
theorem drop_at {s : ByteArray} {i : Nat} (h : i < s.size) : (bl s).drop i = s[i] :: (bl s).drop (i + 1) := by
  rw [List.drop_eq_getElem_cons (by rw [bl_len]; exact h), bl_get s i h]
theorem u8_eq {c : UInt8} {n : Nat} (hn : n < 256) (h : c = UInt8.ofNat n) : ((c.toNat : Int) == (n : Int)) = true := by rw [beq_iff_eq, (u8_lit hn).1 h]
theorem u8_ne {c : UInt8} {n : Nat} (hn : n < 256) (h : ¬ c = UInt8.ofNat n) : ((c.toNat : Int) == (n : Int)) = false := by
  rw [beq_eq_false_iff_ne]
  intro e
  exact h ((u8_lit hn).2 (by omega))
/-- The result of a branch. -/
theorem via {P : Program} {f : FuncId} {args : Array Value} {w : World} {e1 e2 : Ending} (h : Calls P f args w fun e w' => e = e1 ∧ Below w.heap.size w w') (he : e1 = e2) : Calls P f args w fun e w' => e = e2 ∧ Below w.heap.size w w' := by subst he; exact h
set_option maxHeartbeats 1000000 in
theorem token_any (s : ByteArray) (i : Nat) (hs : s.size ≤ 140737488355328) (h0 : i < s.size) (w : World) :
    Calls Tryd.prog 54 #[.string s, .int .i64 i] w fun e w' => e = .returned (.tuple #[tokV (tokT (tokL ((bl s).drop i))) 0 0, .int .i64 (tokC (tokL ((bl s).drop i)) : Nat)]) ∧ Below w.heap.size w w' := by
  obtain ⟨c, hc⟩ : ∃ c, c = s[i]'h0 := ⟨_, rfl⟩
  obtain ⟨d, hd⟩ : ∃ d, d = (bl s).drop (i + 1) := ⟨_, rfl⟩
  have hl : (bl s).drop i = c :: d := by rw [hc, hd]; exact drop_at h0
  have hdl : d.length + (i + 1) = s.size := by rw [hd, List.length_drop, bl_len]; omega
  have hhd : d.head? = if h : i + 1 < s.size then some (s[i + 1]'h) else none := by rw [hd]; exact head_drop
  have hL : ∀ b, letB c = b → Hid (∀ w, Calls Tryd.prog 36 #[.int .u8 (((s[i]'h0).toNat : Nat) : Int)] w fun e w' => e = .returned (.bool b) ∧ w = w') := by
    intro b hb w
    have := letter_at (s[i]'h0).toNat w
    rwa [show letN (s[i]'h0).toNat = b by rw [← hb, hc]; rfl] at this
  have hD : ∀ b, digB c = b → Hid (∀ w, Calls Tryd.prog 68 #[.int .u8 (((s[i]'h0).toNat : Nat) : Int)] w fun e w' => e = .returned (.bool b) ∧ w = w') := by
    intro b hb w
    have := digit_at (s[i]'h0).toNat w
    rwa [show digN (s[i]'h0).toNat = b by rw [← hb, hc]; rfl] at this
  by_cases hv : c = 98 ∧ d.head? = some 34
  · have hj : i + 1 < s.size := by
      rw [hhd] at hv
      by_cases h : i + 1 < s.size
      · exact h
      · rw [dif_neg h] at hv; cases hv.2
    have hy : s[i + 1]'hj = 34 := by
      have := hv.2
      rw [hhd, dif_pos hj] at this
      injection this
    have hx : ((s[i]'h0).toNat : Int) = 98 := by rw [← hc, hv.1]; rfl
    have hy34 : (((s[i + 1]'hj).toNat : Nat) : Int) = 34 := by rw [hy]; rfl
    have hQ := fun w => quoted_any s (i + 1) 2 1 64 hs hj (by rw [hy]; rfl) (by omega) (by omega) (by omega) w
    have ht : tokL ((bl s).drop i) = (quoL bitB 1 64 d.tail).map fun q => (⟨5, q, 0⟩, q.length + 3) := by rw [hl, tokL, if_pos hv]
    have htl : d.tail = (bl s).drop (i + 1 + 1) := by rw [hd, List.tail_drop]
    rw [htl] at ht
    have ek : quoL (kB 2) 1 64 ((bl s).drop (i + 1 + 1)) = quoL bitB 1 64 ((bl s).drop (i + 1 + 1)) := rfl
    cases hq : quoL bitB 1 64 ((bl s).drop (i + 1 + 1)) with
    | some q =>
      rw [hq] at ht ek
      obtain ⟨q1, q2, q3⟩ := quo_some ek
      obtain ⟨_, _, q64, _⟩ := quo_facts hq
      rw [q1] at hQ
      rw [List.length_drop, bl_len] at q3
      refine via (token_vec s i w hs h0 (i + 1) (by omega) hj hx hy34 (i + 2) (i + 2 + q.length) q.length (q.length + 3) (by omega) (by omega) (by omega) (by omega) (by omega) q64 hQ) (ends ht ?_)
      have e : bl (s.extract (i + 2) (i + 2 + q.length)) = q := by rw [bl_extract, Nat.add_sub_cancel_left]; exact q2
      have := tokV_mk 5 (s.extract (i + 2) (i + 2 + q.length)) 0
      rw [e] at this
      exact this.symm
    | none =>
      rw [hq] at ht ek
      rw [quo_none ek] at hQ
      exact via (token_novec s i w hs h0 (i + 1) (by omega) hj hx hy34 hQ) (ends_no ht tokV_zero.symm)
  · by_cases hlt : letB c = true
    · -- a word
      have hR := fun w => run_any s i 1 hs (by omega) (by omega) w
      have hrl := run_le 1 ((bl s).drop i)
      rw [List.length_drop, bl_len] at hrl
      obtain ⟨r, hr⟩ : ∃ r, r = runN 1 ((bl s).drop i) := ⟨_, rfl⟩
      have hw : ((bl s).drop i).takeWhile innB = bl (s.extract i (i + r)) := by
        rw [bl_extract, Nat.add_sub_cancel_left, hr]
        exact (tw_take innB ((bl s).drop i)).symm
      have hsz : (s.extract i (i + r)).size = r := by rw [← bl_len, ← hw, hr]; rfl
      rw [← hr] at hR hrl
      have hW := refIsWord_any (s.extract i (i + r))
      have hM := refIsName_any (s.extract i (i + r))
      have ht : tokL ((bl s).drop i) = if isWordL (bl (s.extract i (i + r))) = true then some (⟨2, bl (s.extract i (i + r)), 0⟩, r) else if (bl (s.extract i (i + r))).length ≤ 40 then some (⟨1, bl (s.extract i (i + r)), 0⟩, r) else none := by
        have hln : (bl (s.extract i (i + r))).length = r := by rw [bl_len]; exact hsz
        rw [← hw] at hln ⊢
        rw [hl] at hln ⊢
        rw [tokL, if_neg hv, if_pos hlt, hln]
      have hN : isWordL (bl (s.extract i (i + r))) = false → isNameL (bl (s.extract i (i + r))) = decide ((bl (s.extract i (i + r))).length ≤ 40) := by
        intro hn
        have hh : hdLet (bl (s.extract i (i + r))) = true := by
          rw [← hw, hl, tw_cons (inn_let hlt)]; exact hlt
        have ha : (bl (s.extract i (i + r))).all innB = true := by rw [← hw]; exact tw_all _ _
        unfold isNameL
        rw [hn, hh, ha]; simp
      -- the way to the word
      have key : ∀ res cnt, (∀ (hx : (((s[i]'h0).toNat : Int) == 98) = false), Calls Tryd.prog 54 #[.string s, .int .i64 i] w fun e w' => e = .returned (.tuple #[res, .int .i64 cnt]) ∧ Below w.heap.size w w') →
          (∀ (hj : ¬ i + 1 < s.size) (hx : (((s[i]'h0).toNat : Int) == 98) = true), Calls Tryd.prog 54 #[.string s, .int .i64 i] w fun e w' => e = .returned (.tuple #[res, .int .i64 cnt]) ∧ Below w.heap.size w w') →
          (∀ (hj : i + 1 < s.size) (hx : (((s[i]'h0).toNat : Int) == 98) = true) (hy : ((((s[i + 1]'hj).toNat : Nat) : Int) == 34) = false), Calls Tryd.prog 54 #[.string s, .int .i64 i] w fun e w' => e = .returned (.tuple #[res, .int .i64 cnt]) ∧ Below w.heap.size w w') →
          Calls Tryd.prog 54 #[.string s, .int .i64 i] w fun e w' => e = .returned (.tuple #[res, .int .i64 cnt]) ∧ Below w.heap.size w w' := by
        intro res cnt ha hb hcc
        by_cases h98 : c = 98
        · have hx := u8_eq (n := 98) (by omega) (c := s[i]'h0) (by rw [← hc]; exact h98)
          by_cases hj : i + 1 < s.size
          · refine hcc hj hx (u8_ne (n := 34) (by omega) ?_)
            intro e
            exact hv ⟨h98, by rw [hhd, dif_pos hj, e]; rfl⟩
          · exact hb hj hx
        · exact ha (u8_ne (n := 98) (by omega) (c := s[i]'h0) (by rw [← hc]; exact h98))
      have e2 := tokV_mk 2 (s.extract i (i + r)) 0
      have e1 := tokV_mk 1 (s.extract i (i + r)) 0
      cases hiw : isWordL (bl (s.extract i (i + r))) with
      | true =>
        rw [hiw] at hW ht
        rw [if_pos rfl] at ht
        refine via (key _ _ (fun hx => token_word_a s i w hs h0 hx (i + r) r (by omega) (by omega) (by omega) hsz hR (hL true hlt) hW) (fun hj hx => token_word_b s i w hs h0 (i + 1) (by omega) hj (by omega) hx (i + r) r (by omega) (by omega) (by omega) hsz hR (hL true hlt) hW)
          (fun hj hx hy => token_word_c s i w hs h0 (i + 1) (by omega) hj hx hy (i + r) r (by omega) (by omega) (by omega) hsz hR (hL true hlt) hW)) (ends ht e2.symm)
      | false =>
        rw [hiw] at hW ht
        rw [if_neg Bool.false_ne_true] at ht
        rw [hN hiw] at hM
        by_cases h40 : (bl (s.extract i (i + r))).length ≤ 40
        · rw [decide_eq_true h40] at hM
          rw [if_pos h40] at ht
          refine via (key _ _ (fun hx => token_name_a s i w hs h0 hx (i + r) r (by omega) (by omega) (by omega) hsz hR (hL true hlt) hW hM) (fun hj hx => token_name_b s i w hs h0 (i + 1) (by omega) hj (by omega) hx (i + r) r (by omega) (by omega) (by omega) hsz hR (hL true hlt) hW hM)
            (fun hj hx hy => token_name_c s i w hs h0 (i + 1) (by omega) hj hx hy (i + r) r (by omega) (by omega) (by omega) hsz hR (hL true hlt) hW hM)) (ends ht e1.symm)
        · rw [decide_eq_false h40] at hM
          rw [if_neg h40] at ht
          refine via (key _ _ (fun hx => token_long_a s i w hs h0 hx (i + r) r (by omega) (by omega) (by omega) hsz hR (hL true hlt) hW hM) (fun hj hx => token_long_b s i w hs h0 (i + 1) (by omega) hj (by omega) hx (i + r) r (by omega) (by omega) (by omega) hsz hR (hL true hlt) hW hM)
            (fun hj hx hy => token_long_c s i w hs h0 (i + 1) (by omega) hj hx hy (i + r) r (by omega) (by omega) (by omega) hsz hR (hL true hlt) hW hM)) (ends_no ht tokV_zero.symm)
    · have hlf : letB c = false := by simpa using hlt
      have h98 : ¬ c = 98 := by rintro rfl; exact hlt (by decide)
      have hx98 := u8_ne (n := 98) (by omega) (c := s[i]'h0) (by rw [← hc]; exact h98)
      by_cases hdg : digB c = true
      · -- an int
        have hR := fun w => run_any s i 0 hs (by omega) (by omega) w
        have hR1 := fun w => run_any s i 1 hs (by omega) (by omega) w
        have hrl := run_le 0 ((bl s).drop i)
        rw [List.length_drop, bl_len] at hrl
        obtain ⟨r, hr⟩ : ∃ r, r = runN 0 ((bl s).drop i) := ⟨_, rfl⟩
        obtain ⟨r1, hr1⟩ : ∃ r1, r1 = runN 1 ((bl s).drop i) := ⟨_, rfl⟩
        have hw : ((bl s).drop i).takeWhile digB = bl (s.extract i (i + r)) := by
          rw [bl_extract, Nat.add_sub_cancel_left, hr]
          exact (tw_take digB ((bl s).drop i)).symm
        have hsz : (s.extract i (i + r)).size = r := by rw [← bl_len, ← hw, hr]; rfl
        have hln : (((bl s).drop i).takeWhile digB).length = r := hr.symm
        have hl1 : (((bl s).drop i).takeWhile innB).length = r1 := hr1.symm
        rw [← hr] at hR hrl
        rw [← hr1] at hR1
        have ha : (bl (s.extract i (i + r))).all digB = true := by rw [← hw]; exact tw_all _ _
        have hNm := number_any (s.extract i (i + r)) (by omega) ha
        have ht : tokL ((bl s).drop i) = if valL (bl (s.extract i (i + r))) ≤ maxI ∧ r1 = r then some (⟨3, [], valL (bl (s.extract i (i + r)))⟩, r) else none := by
          rw [← hw]
          rw [hl] at hln hl1 ⊢
          rw [tokL, if_neg hv, if_neg hlt, if_pos hdg, hln, hl1]
        by_cases hval : valL (bl (s.extract i (i + r))) ≤ maxI
        · rw [show numI (bl (s.extract i (i + r))) = ((valL (bl (s.extract i (i + r))) : Nat) : Int) by unfold numI; rw [if_pos hval]] at hNm
          by_cases hrr : r1 = r
          · rw [if_pos ⟨hval, hrr⟩] at ht
            exact via (token_int s i w hs h0 (hL false hlf) (hD true hdg) hx98 (i + r) r (by omega) (by omega) (by omega) hsz hR (valL (bl (s.extract i (i + r)))) hNm r1 hR1 hrr) (ends ht (tokV_int _).symm)
          · rw [if_neg (fun h => hrr h.2)] at ht
            exact via (token_int2 s i w hs h0 (hL false hlf) (hD true hdg) hx98 (i + r) r (by omega) (by omega) (by omega) hsz hR (valL (bl (s.extract i (i + r)))) hNm r1 hR1 hrr) (ends_no ht tokV_zero.symm)
        · rw [show numI (bl (s.extract i (i + r))) = -1 by unfold numI; rw [if_neg hval]] at hNm
          rw [if_neg (fun h => hval h.1)] at ht
          exact via (token_int1 s i w hs h0 (hL false hlf) (hD true hdg) hx98 (i + r) r (by omega) (by omega) (by omega) hsz hR hNm) (ends_no ht tokV_zero.symm)
      · have hdf : digB c = false := by simpa using hdg
        by_cases h39 : c = 39
        · have hx39 := u8_eq (n := 39) (by omega) (c := s[i]'h0) (by rw [← hc]; exact h39)
          have ht : tokL ((bl s).drop i) = bitTok d := by rw [hl, tokL, if_neg hv, if_neg hlt, if_neg hdg, if_pos h39]
          by_cases hb : i + 2 < s.size
          · have h1 : i + 1 < s.size := Nat.lt_trans (Nat.lt_succ_self _) hb
            have hd2 : d = s[i + 1]'h1 :: s[i + 2]'hb :: (bl s).drop (i + 3) := hd.trans (by rw [drop_at h1, drop_at (show i + 1 + 1 < s.size from hb)])
            rw [hd2, bitTok] at ht
            have hB := fun w => bit_at (s[i + 1]'h1).toNat w
            cases hbt : bitB (s[i + 1]'h1) with
            | true =>
              rw [hbt] at ht
              rw [show bitN (s[i + 1]'h1).toNat = true from hbt] at hB
              by_cases hz : s[i + 2]'hb = 39
              · rw [if_pos ⟨rfl, hz⟩] at ht
                refine via (token_bit s i w hs h0 (hL false hlf) (hD false hdf) hx98 hx39 (i + 1) (i + 2) (by omega) (by omega) (by omega) hb hB (u8_eq (n := 39) (by omega) hz)) (ends ht ?_)
                have e : bl (s.extract (i + 1) (i + 2)) = [s[i + 1]'h1] := by rw [bl_extract, show i + 2 - (i + 1) = 1 by omega, drop_at (by omega)]; rfl
                have := tokV_mk 4 (s.extract (i + 1) (i + 2)) 0
                rw [e] at this
                exact this.symm
              · rw [if_neg (fun h => hz h.2)] at ht
                exact via (token_bit3 s i w hs h0 (hL false hlf) (hD false hdf) hx98 hx39 (i + 1) (i + 2) (by omega) (by omega) (by omega) hb hB (u8_ne (n := 39) (by omega) hz)) (ends_no ht tokV_zero.symm)
            | false =>
              rw [hbt] at ht
              rw [show bitN (s[i + 1]'h1).toNat = false from hbt] at hB
              rw [if_neg (fun h => Bool.false_ne_true h.1)] at ht
              exact via (token_bit2 s i w hs h0 (hL false hlf) (hD false hdf) hx98 hx39 (i + 1) (i + 2) (by omega) (by omega) (by omega) hb hB) (ends_no ht tokV_zero.symm)
          · have htn : bitTok d = none := by
              match d, hdl with
              | [], _ => rfl
              | [_], _ => rfl
              | _ :: _ :: z, hdl => simp only [List.length_cons] at hdl; omega
            rw [htn] at ht
            exact via (token_bit1 s i w hs h0 (hL false hlf) (hD false hdf) hx98 hx39 (i + 1) (i + 2) (by omega) (by omega) (by omega) hb) (ends_no ht tokV_zero.symm)
        · have hx39 := u8_ne (n := 39) (by omega) (c := s[i]'h0) (by rw [← hc]; exact h39)
          by_cases h34 : c = 34
          · have hx34 := u8_eq (n := 34) (by omega) (c := s[i]'h0) (by rw [← hc]; exact h34)
            have ht : tokL ((bl s).drop i) = (quoL plnB 0 60 d).map fun q => (⟨6, q, 0⟩, q.length + 2) := by rw [hl, tokL, if_neg hv, if_neg hlt, if_neg hdg, if_neg h39, if_pos h34]
            have hQ := fun w => quoted_any s i 3 0 60 hs h0 (by rw [← hc, h34]; rfl) (by omega) (by omega) (by omega) w
            rw [← hd] at hQ
            have ek : quoL (kB 3) 0 60 d = quoL plnB 0 60 d := rfl
            cases hq : quoL plnB 0 60 d with
            | some q =>
              rw [hq] at ht ek
              obtain ⟨q1, q2, q3⟩ := quo_some ek
              obtain ⟨_, _, q64, _⟩ := quo_facts hq
              rw [q1] at hQ
              refine via (token_text s i w hs h0 (hL false hlf) (hD false hdf) hx98 hx39 hx34 (i + 1) (i + 1 + q.length) q.length (q.length + 2) (by omega) (by omega) (by omega) (by omega) (by omega) (by omega) hQ) (ends ht ?_)
              have e : bl (s.extract (i + 1) (i + 1 + q.length)) = q := by rw [bl_extract, Nat.add_sub_cancel_left, ← hd]; exact q2
              have := tokV_mk 6 (s.extract (i + 1) (i + 1 + q.length)) 0
              rw [e] at this
              exact this.symm
            | none =>
              rw [hq] at ht ek
              rw [quo_none ek] at hQ
              exact via (token_notext s i w hs h0 (hL false hlf) (hD false hdf) hx98 hx39 hx34 hQ) (ends_no ht tokV_zero.symm)
          · have hx34 := u8_ne (n := 34) (by omega) (c := s[i]'h0) (by rw [← hc]; exact h34)
            refine token_sign s i w hs h0 _ ?_ (hL false hlf) (hD false hdf) hx98 hx39 hx34
            show _ = _
            rw [hl, tokL, if_neg hv, if_neg hlt, if_neg hdg, if_neg h39, if_neg h34]
end Go.Proofs.YtfjeljehodbbmaaDoor
