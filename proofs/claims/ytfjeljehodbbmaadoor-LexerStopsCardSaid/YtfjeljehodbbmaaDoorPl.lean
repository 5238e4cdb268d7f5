/- The contract of the program's Lex. -/
import Derived.Test.YtfjeljehodbbmaaDoorPr
import Derived.Test.YtfjeljehodbbmaaDoorLe
namespace Go.Proofs.YtfjeljehodbbmaaDoor
open Go.RowKit

set_option maxHeartbeats 2000000 in
theorem lex_long (s : ByteArray) (hs : ¬ s.size ≤ 20000) (hs2 : s.size ≤ 140737488355328) (w : World) :
    Calls Tryd.prog 14 #[.string s] w fun e w' => e = .returned (.tuple #[.slice none 0 0, faultV 3 ⟨#[]⟩ 0 0]) ∧ Below w.heap.size w w' := by
  have d1 : decide ((20000 : Int) < (s.size : Int)) = true := by rw [decide_eq_true_eq]; omega
  have d2 : decide (20000 < s.size) = true := by rw [decide_eq_true_eq]; omega
  clear hs
  go_enter Tryd.func14, Tryd.ntmps14
  go_wp2
  go_returns
  exact ⟨rfl, below_alloc _ _⟩
/-- The tokens of a string that is not too long. -/
def shortT (s : ByteArray) : List TokA := if fltC s = 0 then (lexM (bl s)).1.map (mstA s) else []
theorem OwnT.but {w w' : World} {base R : Nat} {v : Value} {l : List TokA} (h : OwnT w base v l) (hb : But R w w') (hR : R < base) : OwnT w' base v l := by
  obtain ⟨ho, hn, hB⟩ := h
  refine ⟨?_, hn, Nat.le_trans hB hb.size⟩
  rcases ho.2 with ⟨e, _⟩ | ⟨g, cap, cur, e, _⟩
  · exact ho.kept hb (.inl (by rw [e]; rfl))
  · refine ho.kept hb (.inr ?_)
    intro he
    have := (ho.lt R he).1
    omega
theorem OwnT.far {w : World} {base F : Nat} {v : Value} {l : List TokA} (h : OwnT w base v l) (hF : F < base) : v.ownBlock ≠ some F := fun e => by
  have := (h.1.lt _ e).1
  omega
theorem below_but {B R : Nat} {a w w' : World} (h : Below B a w) (hb : But R w w') (hR : B ≤ R) (hw : B ≤ w.heap.size) : Below B a w' :=
  h.grown hb hw (fun k hk => by injection hk with hk; omega)
/-- The fault's box, ahead of all. -/
def FBox (w : World) : World := w.alloc (.cells #[.int .i64 0, .string ⟨#[]⟩, .int .i64 0, .int .i64 0] 27)
theorem fbox_size (w : World) : (FBox w).heap.size = w.heap.size + 1 := by unfold FBox; rw [World.size_alloc]
theorem rd_new (w : World) (s : ByteArray) : RdAt ((FBox w).alloc (.cells #[.string s, .int .i64 1, .int .i64 1] 48)) (w.heap.size + 1) s 0 := by
  have hc : ∀ k, ((FBox w).alloc (.cells #[.string s, .int .i64 1, .int .i64 1] 48)).cell? ⟨w.heap.size + 1, k, none⟩ = (#[.string s, .int .i64 1, .int .i64 1] : Array Value)[k]? := by
    intro k
    rw [World.cell?_alloc_at _ _ _ _ (by rw [fbox_size])]
  refine ⟨Nat.zero_le _, ?_, ?_, ?_, ?_⟩
  · rw [hc]
    have : s.extract 0 s.size = s := by apply bl_inj; rw [ext_drop]; rfl
    rw [this]; rfl
  · rw [hc]; rfl
  · rw [hc]; rfl
  · intro k
    rw [World.frozen?_alloc_at _ _ _ _ (by rw [fbox_size])]
theorem rd_later {w w' : World} {B l c : Nat} {x : ByteArray} (h : Rd w B x l c) (hb : Below w.heap.size w w') : Rd w' B x l c := by
  obtain ⟨h0, h1, h2, h3⟩ := h
  have hl := block_lt_of_cell h0
  exact ⟨(hb.cell (by exact hl)).trans h0, (hb.cell (by exact hl)).trans h1, (hb.cell (by exact hl)).trans h2, fun k => (hb.frozen (by exact hl)).trans (h3 k)⟩
theorem RdAt.upto {w w' : World} {B D : Nat} {s : ByteArray} {i : Nat} (h : RdAt w B s i) (hb : Below D w w') (hD : B < D) : RdAt w' B s i := by
  obtain ⟨hi, h0, h1, h2, h3⟩ := h
  exact ⟨hi, (hb.cell (by exact hD)).trans h0, (hb.cell (by exact hD)).trans h1, (hb.cell (by exact hD)).trans h2, fun k => (hb.frozen (by exact hD)).trans (h3 k)⟩
theorem first_at (s : ByteArray) (j : Nat) (hs : s.size ≤ 20000) (w : World) (hw : ∀ u, Below w.heap.size w u → Std u) :
    Calls Tryd.prog 28 #[.string (s.extract j s.size)] w fun e w' => e = .returned (fV (tokL ((bl s).drop j))) ∧ Below w.heap.size w w' := by
  have := first_any (s.extract j s.size) (by rw [ByteArray.size_extract]; omega) w hw
  rwa [ext_drop] at this
set_option maxRecDepth 100000 in
set_option maxHeartbeats 4000000 in
theorem lex_short (s : ByteArray) (hs : s.size ≤ 20000) (w : World) (hw : ∀ u, Below w.heap.size w u → Std u) :
    Calls Tryd.prog 14 #[.string s] w fun e w' => ∃ v, e = .returned (.tuple #[v, faultV (fltC s) (fltN s) (fltP s).1 (fltP s).2]) ∧ Tls w' v (shortT s) ∧ Below w.heap.size w w' := by
  have d1 : decide ((20000 : Int) < (s.size : Int)) = false := by rw [decide_eq_false_iff_not]; omega
  have d2 : decide (20000 < s.size) = false := by rw [decide_eq_false_iff_not]; omega
  obtain ⟨j0, hj0⟩ : ∃ j, j = nextN s 0 := ⟨_, rfl⟩
  have HS0 := Lib.hid (skipGaps_any (w.heap.size + 1) s 0 hs _ (rd_new w s))
  obtain ⟨n1, n2⟩ := next_drop s 0
  rw [← hj0] at n1 n2 HS0
  rw [List.drop_zero] at n1
  have HL0 : Hid (skipL ((bl s).drop j0) = (bl s).drop j0 ∧ lexM (bl s) = ([] ++ (lexM ((bl s).drop j0)).1, (lexM ((bl s).drop j0)).2)) := by
    refine ⟨by rw [n1, skip_idem], ?_⟩
    rw [n1, lex_skip]; rfl
  have HWs := Lib.hid hw
  clear hj0 n1 hw
  go_enter Tryd.func14, Tryd.ntmps14
  go_wp2_with fail
  refine (HS0.out).mono ?_
  rintro e w1 ⟨rfl, hR1, hB1⟩
  have HR1 := Lib.hid hR1
  have hbl : Below (FBox w).heap.size (FBox w) w1 := below_but (below_alloc (FBox w) (.cells #[.string s, .int .i64 1, .int .i64 1] 48)) hB1 (by rw [fbox_size]; omega) (by rw [World.size_alloc, fbox_size]; omega)
  have hsz : w.heap.size + 2 ≤ w1.heap.size := by have := hB1.size; rw [World.size_alloc, fbox_size] at this; omega
  have HBl := Lib.hid hbl
  have HSz := Lib.hid hsz
  clear hR1 hB1 hbl hsz HS0
  go_wp2_with fail
  go_loopw [4] (fun v wr => ∃ (j : Nat) (pre : List (Tok × Nat)), j ≤ s.size ∧ pre.length ≤ j ∧ Hid (RdAt wr (w.heap.size + 1) s j) ∧ Hid (OwnT wr (w.heap.size + 2) v (pre.map (mstA s))) ∧ Hid (Below (FBox w).heap.size (FBox w) wr) ∧ Hid (w.heap.size + 2 ≤ wr.heap.size) ∧ Hid (skipL ((bl s).drop j) = (bl s).drop j ∧ lexM (bl s) = (pre ++ (lexM ((bl s).drop j)).1, (lexM ((bl s).drop j)).2))) (fun _ wr => restSz wr (w.heap.size + 1))
  case atStart => exact ⟨j0, [], n2, Nat.zero_le _, HR1, OwnT.nil _ HSz.out, HBl, HSz, HL0⟩
  case round =>
    obtain ⟨j, pre, hj, hpl, HR, HO, HB, HZ, hr⟩ := hrel
    have hrd := HR.out.rest
    have HStd : Hid (∀ u, Below wr.heap.size wr u → Std u) := fun u hu => HWs.out u (((below_alloc w _).trans (HB.out.mono (below_alloc w _).size)).trans (hu.mono (by have := HZ.out; omega)))
    clear HL0 HR1 HBl HSz HWs
    by_cases hlt : j < s.size
    · have t0 : (s.extract j s.size).toList.isEmpty = false := by
        rw [bl_toList, ext_drop, drop_at hlt]; rfl
      have t0' : ((s.extract j s.size).toList != []) = true := by
        rw [bl_toList, ext_drop, drop_at hlt]; rfl
      have hT := first_at s j hs
      obtain ⟨y, z, hyz⟩ : ∃ y z, placeL ((bl s).take j) = (y, z) := ⟨_, _, rfl⟩
      have hpb := place_le ((bl s).take j)
      rw [hyz, List.length_take, bl_len] at hpb
      have hy : y ≤ 20001 := by have := hpb.1; simp only at this; omega
      have hz : z ≤ 20001 := by have := hpb.2; simp only at this; omega
      have hRx := HR.out.2
      rw [hyz] at hRx
      simp only at hRx
      obtain ⟨x, hx⟩ : ∃ x, s.extract j s.size = x := ⟨_, rfl⟩
      have hxs : 1 ≤ x.size := by rw [← hx, ByteArray.size_extract]; omega
      have hxs2 : x.size ≤ 20000 := by rw [← hx, ByteArray.size_extract]; omega
      have HN : Hid (x.extract 0 1 = s.extract j (j + 1)) := by
        show _ = _
        apply bl_inj
        rw [bl_extract, bl_extract, ← hx, ext_drop, List.drop_zero, Nat.sub_zero, show j + 1 - j = 1 by omega]
      rw [hx] at hrd hT t0 t0' hRx
      have HRx := Lib.hid hRx
      have HX := Lib.hid hx
      have HYZ := Lib.hid hyz
      clear hRx hx hyz hpb
      cases ht : tokL ((bl s).drop j) with
      | none =>
        rw [ht] at hT
        have HT : Hid (∀ u, (∀ u', Below u.heap.size u u' → Std u') → Calls Tryd.prog 28 #[.string x] u fun e w' => e = .returned (.tuple #[.agg #[.int .i64 0, .string ⟨#[]⟩, .int .i64 0, .int .i64 0, .int .i64 0], .int .i64 0]) ∧ Below u.heap.size u w') := hT
        have HE : Hid (lexM (bl s) = (pre, some (s.size - j))) := by
          show _ = _
          obtain ⟨r1, r2⟩ := hr.out
          have hne : skipL ((bl s).drop j) ≠ [] := by rw [r1, drop_at hlt]; simp
          rw [r2, lex_none hne (by rw [r1]; exact ht), r1, List.length_drop, bl_len, List.append_nil]
        clear hT ht hr
        go_wp2_with fail
        refine (HT.out _ HStd.out).mono ?_
        rintro e w2 ⟨rfl, hb2⟩
        have hbx : Below (FBox w).heap.size (FBox w) (w2.alloc (.cells #[.int .i64 0, .string ⟨#[]⟩, .int .i64 0, .int .i64 0, .int .i64 0] 40)) := (HB.out.trans (hb2.mono (by rw [fbox_size]; have := HZ.out; omega))).alloc (by rw [fbox_size]; have := HZ.out; have := hb2.size; omega) _
        obtain ⟨g0, g1, g2, g3⟩ := rd_later (rd_later HRx.out hb2) (below_alloc w2 (.cells #[.int .i64 0, .string ⟨#[]⟩, .int .i64 0, .int .i64 0, .int .i64 0] 40))
        obtain ⟨q0, q1, q2, q3, qf, hBw⟩ := flt_cells hbx
        obtain ⟨r0, r1, r2, r3, hbs, hcs⟩ := flt_store q0 q1 q2 q3 (.int .i64 10) (.string (x.extract 0 1)) (.int .i64 (y : Nat)) (.int .i64 (z : Nat))
        have HBf := Lib.hid (hBw.trans hbs)
        clear hbs hcs hBw hb2 hbx
        go_wp2_with fail
        go_region
        go_wp2
        (try simp only [Exit.inBlock, Exit.then])
        refine bodyPost_ret (by simp [results, Tryd.results14, go_sem, r0, r1, r2, r3]; try rfl) rfl ?_
        refine ⟨_, by rw [show fltC s = 10 by unfold fltC; rw [HE.out], show fltN s = x.extract 0 1 by unfold fltN; rw [HE.out, HN.out]; simp only; rw [show s.size - (s.size - j) = j by omega], show fltP s = (y, z) by unfold fltP; rw [HE.out]; simp only; rw [show s.size - (s.size - j) = j by omega, HYZ.out]]; rfl, ?_, below_drewN HBf.out 1⟩
        rw [show shortT s = [] by unfold shortT; rw [if_neg (by unfold fltC; rw [HE.out]; exact fun h => by cases h)]]
        exact tls_nil _
      | some p =>
        obtain ⟨tk, n⟩ := p
        rw [ht] at hT
        have HT : Hid (∀ u, (∀ u', Below u.heap.size u u' → Std u') → Calls Tryd.prog 28 #[.string x] u fun e w' => e = .returned (.tuple #[.agg #[.int .i64 (tk.op : Nat), .string (sb tk.text), .int .i64 (tk.n : Nat), .int .i64 0, .int .i64 0], .int .i64 (n : Nat)]) ∧ Below u.heap.size u w') := hT
        obtain ⟨_, f1, f2, _⟩ := tok_facts ht
        rw [List.length_drop, bl_len] at f2
        obtain ⟨j2, hj2⟩ : ∃ j2, j2 = j + n := ⟨_, rfl⟩
        have hj2s : j2 ≤ s.size := by omega
        have HSk := Lib.hid (skip_any (w.heap.size + 1) s j n hs (by omega))
        rw [← hj2] at HSk
        have HSg := Lib.hid (skipGaps_any (w.heap.size + 1) s j2 hs)
        obtain ⟨m1, m2⟩ := next_drop s j2
        have hmono : j2 ≤ nextN s j2 := by
          have h1 := skip_len false ((bl s).drop j2)
          rw [List.length_drop, bl_len] at h1
          have : (skipL ((bl s).drop j2)).length ≤ s.size - j2 := h1
          unfold nextN
          omega
        generalize nextN s j2 = j3 at *
        have hA : mstA s (tk, s.size - j) = ⟨tk.op, sb tk.text, tk.n, y, z⟩ := by
          unfold mstA
          simp only
          rw [show s.size - (s.size - j) = j by omega, HYZ.out]
        have HK : Hid (skipL ((bl s).drop j3) = (bl s).drop j3 ∧ lexM (bl s) = ((pre ++ [(tk, s.size - j)]) ++ (lexM ((bl s).drop j3)).1, (lexM ((bl s).drop j3)).2)) := by
          refine ⟨by rw [m1, skip_idem], ?_⟩
          obtain ⟨r1, r2⟩ := hr.out
          have e := lex_some (l := (bl s).drop j) (t := tk) (n := n) (by rw [r1]; exact ht)
          rw [r1, List.drop_drop, List.length_drop, bl_len] at e
          rw [r2, e, m1, lex_skip, hj2, List.append_assoc]
          rfl
        have HA := Lib.hid hA
        have hn0 : ((n : Int) == 0) = false := by rw [beq_eq_false_iff_ne]; omega
        have HM : Hid (s.size - j3 < s.size - j) := by show _ < _; omega
        have hpl2 : pre.length + 1 ≤ j3 := by omega
        clear ht f2 m1 hA hj2 hr hT hmono HN
        go_wp2_with fail
        refine (HT.out _ HStd.out).mono ?_
        rintro e w2 ⟨rfl, hb2⟩
        have HB2 := Lib.hid hb2
        have HG2 := Lib.hid (rd_later HRx.out hb2)
        have g1 := fun o => (rd_later HG2.out (below_alloc w2 o)).2.1
        have g2 := fun o => (rd_later HG2.out (below_alloc w2 o)).2.2.1
        clear hb2
        go_wp2_with fail
        go_region
        go_wp2_with (at_builtin; refine wpList_append_tok rfl _ _ rfl (w.heap.size + 2) _ _ (pre.map (mstA s)) [⟨tk.op, sb tk.text, tk.n, y, z⟩] rfl rfl ((((HO.out.kept HB2.out).alloc _).alloc _).kept (below_drewN (Below.refl _ _) 1)) ((Tls.one (by simp [World.size_alloc])).later (below_drewN (Below.refl _ _) 1)) (by rw [List.length_map, List.length_singleton]; omega) ?_; intro v2 w3 hown2 hb3; have HO2 := Lib.hid hown2; have HB3 := Lib.hid hb3; clear hown2 hb3)
        have hz2 : w.heap.size + 2 ≤ w2.heap.size := Nat.le_trans HZ.out HB2.out.size
        have hbA : Below (w.heap.size + 1) (FBox w) w2 := by rw [← fbox_size]; exact HB.out.trans (HB2.out.mono (by rw [fbox_size]; have := HZ.out; omega))
        have hbB : Below (w.heap.size + 1) (FBox w) (((w2.alloc (.cells #[.int .i64 tk.op, .string (sb tk.text), .int .i64 tk.n, .int .i64 y, .int .i64 z] 40)).alloc (.cells #[.int .i64 tk.op, .string (sb tk.text), .int .i64 tk.n, .int .i64 y, .int .i64 z] 40)).drew) := below_drewN ((hbA.alloc (by omega) _).alloc (by rw [World.size_alloc]; omega) _) 1
        have hbC : Below (w.heap.size + 1) (FBox w) w3 := hbB.trans (HB3.out _ (by omega))
        have hsz3 : w2.heap.size + 2 ≤ w3.heap.size := by
          have h1 := (HB3.out 0 (Nat.zero_le _)).size
          have h2 : (((w2.alloc (.cells #[.int .i64 tk.op, .string (sb tk.text), .int .i64 tk.n, .int .i64 y, .int .i64 z] 40)).alloc (.cells #[.int .i64 tk.op, .string (sb tk.text), .int .i64 tk.n, .int .i64 y, .int .i64 z] 40)).drew).heap.size = w2.heap.size + 2 := by
            show ((w2.alloc (.cells #[.int .i64 tk.op, .string (sb tk.text), .int .i64 tk.n, .int .i64 y, .int .i64 z] 40)).alloc (.cells #[.int .i64 tk.op, .string (sb tk.text), .int .i64 tk.n, .int .i64 y, .int .i64 z] 40)).heap.size = _
            rw [World.size_alloc, World.size_alloc]
          rw [h2] at h1
          exact h1
        have hR3 : RdAt w3 (w.heap.size + 1) s j := ((HR.out.later HB2.out).later (below_then (below_then (below_alloc _ _) (below_alloc _ _)) (below_drewN (Below.refl _ _) 1))).upto (HB3.out (w.heap.size + 2) (Nat.le_refl _)) (by omega)
        have HR3 := Lib.hid hR3
        have HBC := Lib.hid hbC
        have HSZ3 : Hid (w.heap.size + 2 ≤ w3.heap.size) := by show _ ≤ _; omega
        clear hz2 hbA hbB hbC hsz3 hR3 g1 g2
        refine (HSk.out _ HR3.out).mono ?_
        rintro e w4 ⟨rfl, hR4, hB4⟩
        have HR4 := Lib.hid hR4
        have HB4 := Lib.hid hB4
        clear hR4 hB4
        go_wp2_with fail
        refine (HSg.out _ HR4.out).mono ?_
        rintro e w5 ⟨rfl, hR5, hB5⟩
        have HR5 := Lib.hid hR5
        have HO5 := Lib.hid ((HO2.out.but HB4.out (by omega)).but hB5 (by omega))
        have hbD : Below (w.heap.size + 1) (FBox w) w5 := below_but (below_but HBC.out HB4.out (Nat.le_refl _) (by have := HSZ3.out; omega)) hB5 (Nat.le_refl _) (by have := HSZ3.out; have := HB4.out.size; omega)
        rw [← fbox_size] at hbD
        have HBD := Lib.hid hbD
        have HZ5 : Hid (w.heap.size + 2 ≤ w5.heap.size) := by show _ ≤ _; have := HSZ3.out; have := HB4.out.size; have := hB5.size; omega
        have hown3 := HO5.out
        rw [show pre.map (mstA s) ++ [⟨tk.op, sb tk.text, tk.n, y, z⟩] = (pre ++ [(tk, s.size - j)]).map (mstA s) by rw [List.map_append, List.map_cons, HA.out, List.map_nil]] at hown3
        have HO6 := Lib.hid hown3
        clear hR5 hB5 hbD hown3 HO5
        go_wp2
        go_roundw
        case rel => exact ⟨j3, pre ++ [(tk, s.size - j)], m2, by rw [List.length_append, List.length_singleton]; exact hpl2, HR5, HO6, HBD, HZ5, HK⟩
        case measure =>
          rw [rest_sz HR5.out, rest_sz HR.out]
          exact HM.out
    · have hjs : j = s.size := by omega
      have t0 : (s.extract j s.size).toList.isEmpty = true := by
        rw [bl_toList, ext_drop, List.drop_of_length_le (by rw [bl_len]; omega)]; rfl
      have t0' : ((s.extract j s.size).toList != []) = false := by
        rw [bl_toList, ext_drop, List.drop_of_length_le (by rw [bl_len]; omega)]; rfl
      have HE : Hid (lexM (bl s) = (pre, none)) := by
        show _ = _
        rw [hr.out.2, List.drop_of_length_le (by rw [bl_len]; omega)]
        rw [show lexM [] = ([], none) from rfl, List.append_nil]
      obtain ⟨q0, q1, q2, q3, qf, hBw⟩ := flt_cells HB.out
      obtain ⟨r0, r1, r2, r3, hbs, hcs⟩ := flt_store q0 q1 q2 q3 (.int .i64 0) (.string ⟨#[]⟩) (.int .i64 0) (.int .i64 0)
      have HBf := Lib.hid (hBw.trans hbs)
      have HT := Lib.hid (HO.out.tls.same (HO.out.far (by omega)) hcs)
      clear hbs hcs hr hBw hjs
      go_wp2
      (try simp only [Exit.inBlock, Exit.then])
      refine bodyPost_ret (by simp [results, Tryd.results14, go_sem, r0, r1, r2, r3]; try rfl) rfl ?_
      refine ⟨_, by rw [show fltC s = 0 by unfold fltC; rw [HE.out], show fltN s = ⟨#[]⟩ by unfold fltN; rw [HE.out], show fltP s = (0, 0) by unfold fltP; rw [HE.out]]; rfl, ?_, HBf.out⟩
      rw [show shortT s = pre.map (mstA s) by unfold shortT; rw [if_pos (by unfold fltC; rw [HE.out]), HE.out]]
      exact HT.out
/-- The contract of the program's Lex, where the library's variables are as they are laid. -/
theorem lex_any (s : ByteArray) (hs : s.size ≤ 140737488355328) (w : World) (hw : Std w) :
    Calls Tryd.prog 14 #[.string s] w fun e w' => ∃ v, e = .returned (.tuple #[v, faultV (lexC s) (lexN s) (lexP s).1 (lexP s).2]) ∧ Tls w' v (lexT s) ∧ Below w.heap.size w w' := by
  unfold lexT lexC lexN lexP
  by_cases h : s.size ≤ 20000
  · rw [if_pos h, if_pos h, if_pos h]
    exact lex_short s h w fun u hu => hw.later hu
  · rw [if_neg h, if_neg h, if_neg h, if_neg (by decide)]
    exact (lex_long s h hs w).mono fun e w' ⟨he, hb⟩ => ⟨_, he, tls_nil _, hb⟩
end Go.Proofs.YtfjeljehodbbmaaDoor
