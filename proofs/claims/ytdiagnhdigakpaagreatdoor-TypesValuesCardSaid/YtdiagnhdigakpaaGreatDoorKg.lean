/- The contract of the program's clone. -/
import Derived.Test.YtdiagnhdigakpaaGreatDoorKf
import Derived.WalkSmall
import Derived.Laws.CopyOwn
namespace Go.Proofs.YtdiagnhdigakpaaGreatDoor
open Go.RowKit

/-- What a copy is: the same value in blocks of the call's own. -/
def CopyOf (w : World) (v : Va) (e : Ending) (w' : World) : Prop :=
  ∃ vb vl, e = .returned (.agg #[.int .i64 v.kind, .int .i64 v.n, vb, vl]) ∧ Lg.Own w' w.heap.size vb v.bits ∧ OwnV (fun b => w.heap.size ≤ b) w' w.heap.size vl v.list ∧ Below w.heap.size w w'
theorem own_setLow {w : World} {base : Nat} {v : Value} {zs : List Nat} (h : Lg.Own w base v zs) {a : Addr} (ha : a.block < base) (u : Value) : Lg.Own (w.setCell a u) base v zs := by
  obtain ⟨h1, h2, h3, h4⟩ := h
  exact ⟨ownsRow_setCell_below h1 ha u, h2, h3, by simpa [World.setCell] using h4⟩
/-- Three new blocks. -/
theorem boxes3 (w : World) (t1 t2 t3 : TypeId) (a b c : Array Value) : Blk (((w.alloc (.cells a t1)).alloc (.cells b t2)).alloc (.cells c t3)) w.heap.size t1 a ∧ Blk (((w.alloc (.cells a t1)).alloc (.cells b t2)).alloc (.cells c t3)) (w.heap.size + 1) t2 b ∧ Blk (((w.alloc (.cells a t1)).alloc (.cells b t2)).alloc (.cells c t3)) (w.heap.size + 1 + 1) t3 c ∧
    Below w.heap.size w (((w.alloc (.cells a t1)).alloc (.cells b t2)).alloc (.cells c t3)) ∧ w.heap.size + 3 ≤ (((w.alloc (.cells a t1)).alloc (.cells b t2)).alloc (.cells c t3)).heap.size := by
  have s1 : (w.alloc (.cells a t1)).heap.size = w.heap.size + 1 := World.size_alloc _ _
  have s2 : ((w.alloc (.cells a t1)).alloc (.cells b t2)).heap.size = w.heap.size + 1 + 1 := by rw [World.size_alloc, s1]
  have k2 := Blk.new ((w.alloc (.cells a t1)).alloc (.cells b t2)) t3 c
  have k1 := (Blk.new (w.alloc (.cells a t1)) t2 b).later (below_alloc _ (.cells c t3))
  have k0 := ((Blk.new w t1 a).later (below_alloc _ (.cells b t2))).later (below_alloc _ (.cells c t3))
  rw [s1] at k1
  rw [s2] at k2
  exact ⟨k0, k1, k2, ((below_alloc _ _).alloc (by rw [s1]; omega) _).alloc (by rw [s2]; omega) _, by rw [World.size_alloc, s2]; omega⟩
theorem new_cells (w : World) (t : TypeId) (a0 a1 a2 a3 : Value) : ∀ j, j < 4 → (w.alloc (.cells #[a0, a1, a2, a3] t)).cell? ⟨w.heap.size, 0 + j, none⟩ = [a0, a1, a2, a3][j]? := by
  intro j hj
  rw [Nat.zero_add, (Blk.new w t #[a0, a1, a2, a3]).cell j]
  simp
theorem OwnV.shape {S : Nat → Prop} {w : World} {base : Nat} {v : Value} {ls : List Va} (h : OwnV S w base v ls) : ∃ A c, v = .slice A ls.length c := by
  obtain ⟨A, c, e, _⟩ := h.vas (S' := fun _ => True) (fun _ _ _ => trivial) (fun _ _ _ => trivial)
  exact ⟨A, c, e⟩
theorem OwnV.lt {S : Nat → Prop} {w : World} {base : Nat} {v : Value} {ls : List Va} (h : OwnV S w base v ls) : ∀ g, v.ownBlock = some g → base ≤ g ∧ g < w.heap.size := by
  obtain ⟨⟨css, ho, _⟩, _⟩ := h
  exact ho.lt
/-- A copy that the call has just made, as a value to append to a row. -/
theorem fresh_part {S S2 : Nat → Prop} {wr wa w3 : World} {G : Nat} {vl vb3 vl3 : Value} {l : List Va} {x : Va} (hown : OwnV S2 wr G vl l) (hab : Below wr.heap.size wr wa) (ho3 : Lg.Own w3 wa.heap.size vb3 x.bits) (hv3 : OwnV (fun b => wa.heap.size ≤ b) w3 wa.heap.size vl3 x.list) (hS : ∀ b, wr.heap.size ≤ b → S b) :
    VaP (fun b => S b ∧ vl.ownBlock ≠ some b) w3 x [.int .i64 x.kind, .int .i64 x.n, vb3, vl3] := by
  have hs := hab.size
  have key : ∀ b, wa.heap.size ≤ b → b < w3.heap.size → S b ∧ vl.ownBlock ≠ some b := fun b hb _ => ⟨hS b (by omega), fun e => by have := (hown.lt b e).2; omega⟩
  obtain ⟨k, n, bs, ls⟩ := x
  exact vaP_iff.2 ⟨vb3, vl3, rfl, own_bitP ho3 key, hv3.vas key key⟩
theorem OwnV.weak {S S' : Nat → Prop} {w : World} {base base' : Nat} {v : Value} {ls : List Va} (h : OwnV S w base v ls) (hB : base' ≤ base) (hS : ∀ b, S b → S' b) : OwnV S' w base' v ls := by
  obtain ⟨⟨css, ho, h1, h2, h3⟩, hn, hw⟩ := h
  refine ⟨⟨css, ?_, h1, h2, fun k hk hk' => (h3 k hk hk').mono fun b hb _ => ⟨hS b hb.1, hb.2⟩⟩, hn, by omega⟩
  obtain ⟨g1, g2⟩ := ho
  refine ⟨g1, ?_⟩
  rcases g2 with g2 | ⟨g, cap, cur, e1, e2, e3⟩
  · exact .inl g2
  · exact .inr ⟨g, cap, cur, e1, by omega, e3⟩
theorem own_weak {w : World} {base base' : Nat} {v : Value} {zs : List Nat} (h : Lg.Own w base v zs) (hB : base' ≤ base) : Lg.Own w base' v zs := by
  obtain ⟨ho, h2, h3, h4⟩ := h
  refine ⟨?_, h2, h3, by omega⟩
  obtain ⟨g1, g2⟩ := ho
  refine ⟨g1, ?_⟩
  rcases g2 with g2 | ⟨g, cap, cur, e1, e2, e3⟩
  · exact .inl g2
  · exact .inr ⟨g, cap, cur, e1, by omega, e3⟩
theorem own_turn {w w' : World} {base : Nat} {v : Value} {zs : List Nat} (h : Lg.Own w base v zs) (hs : w.heap.size ≤ w'.heap.size) (hk : ∀ g, v.ownBlock = some g → w'.heap[g]? = w.heap[g]?) : Lg.Own w' base v zs := by
  obtain ⟨ho, h2, h3, h4⟩ := h
  refine ⟨?_, h2, h3, by omega⟩
  obtain ⟨g1, g2⟩ := ho
  refine ⟨g1, ?_⟩
  rcases g2 with g2 | ⟨g, cap, cur, e1, e2, e3, e4⟩
  · exact .inl g2
  · exact .inr ⟨g, cap, cur, e1, e2, by rw [hk g (by rw [e1]; rfl)]; exact e3, e4⟩
set_option maxRecDepth 100000 in
set_option maxHeartbeats 8000000 in
theorem clone_at (kk nn : Int) (A D : Option Addr) (p q b' o' : Nat) (bs : List Nat) (ls : List Va) (w : World)
    (hb : Lg.Sl w (.slice A bs.length p) bs) (hbl : bs.length ≤ 10000) (hx : ls.length ≤ 10000)
    (HD : Hid (ls.length = 0 ∨ D = some ⟨b', o', none⟩)) (HV : Hid (VaAt w ls b' o' ∨ ls.length = 0))
    (HS : Hid (∀ (k : Nat) (h : k < ls.length) (u : World) (cs : List Value), Below w.heap.size w u → VaC u ls[k] cs → Calls Tryz.prog 91 #[.agg cs.toArray] u (CopyOf u ls[k]))) :
    Calls Tryz.prog 91 #[.agg #[.int .i64 kk, .int .i64 nn, .slice A bs.length p, .slice D ls.length q]] w (CopyOf w (.mk kk nn bs ls)) := by
  have HB := Lib.hid hb
  clear hb
  have H3 := Lib.hid (boxes3 w 38 38 38 #[.int .i64 kk, .int .i64 nn, .slice A bs.length p, .slice D ls.length q] #[.int .i64 0, .int .i64 0, .slice none 0 0, .slice none 0 0] #[.int .i64 kk, .int .i64 nn, .slice none 0 0, .slice none 0 0])
  go_enter Tryz.func91, Tryz.ntmps91
  go_wp2_with (at_builtin; refine Lg.wpList_append_sl rfl _ _ rfl (w.heap.size + 3) _ _ [] bs rfl rfl (Lg.Own.nil _ H3.out.2.2.2.2) (HB.out.later H3.out.2.2.2.1) (by simp; omega) ?_; intro v1 w1 hown1 hb1; obtain ⟨A1, q1, hv1, -⟩ := hown1.sl; subst hv1; have HO1 := Lib.hid hown1; have HB1 := Lib.hid (hb1 _ (Nat.le_refl _)); clear hown1 hb1; have K2 := Lib.hid (H3.out.2.2.1.keep HB1.out (by omega)); have K1 := Lib.hid (H3.out.2.1.keep HB1.out (by omega)); have K0 := Lib.hid (H3.out.1.keep HB1.out (by omega)); obtain ⟨a0, a1, a2, a3⟩ := four K2.out; have af := K2.out.free 2; obtain ⟨c0, c1, c2, c3⟩ := four K0.out)
  clear a0 a1 a2 a3 af c0 c1 c2 c3
  have hg1 : ∀ g, (Value.slice A1 bs.length q1).ownBlock = some g → g < w1.heap.size := fun g hg => (HO1.out.1.lt g hg).2
  have HG1 := Lib.hid hg1
  obtain ⟨G, hG⟩ : ∃ G, G = w1.heap.size := ⟨_, rfl⟩
  rw [← hG] at HG1
  have hG3 : w.heap.size + 3 ≤ G := by have := HB1.out.size; have := H3.out.2.2.2.2; omega
  have HG := Lib.hid hG
  have HBw := Lib.hid (show Below w.heap.size w w1 from H3.out.2.2.2.1.trans (HB1.out.mono (by omega)))
  clear hg1 hG HB1
  go_loopw [20] (fun i wr => ∃ (k : Nat) (vl : Value), k ≤ ls.length ∧ i = .int .i64 k ∧ Hid (Blk wr (w.heap.size + 1 + 1) 38 #[.int .i64 kk, .int .i64 nn, .slice A1 bs.length q1, vl]) ∧ Hid (Blk wr (w.heap.size + 1) 38 #[.int .i64 0, .int .i64 0, .slice none 0 0, .slice none 0 0]) ∧ Hid (Blk wr w.heap.size 38 #[.int .i64 kk, .int .i64 nn, .slice A bs.length p, .slice D ls.length q]) ∧ Hid (Lg.Own wr (w.heap.size + 3) (.slice A1 bs.length q1) bs) ∧ Hid (OwnV (fun b => w.heap.size + 3 ≤ b) wr G vl (ls.take k)) ∧ Hid (Below w.heap.size w wr)) (fun i _ => ls.length - (intOf i).toNat)
  case atStart =>
    refine ⟨0, .slice none 0 0, Nat.zero_le _, rfl, ?_, ?_, ?_, ?_, ?_, ?_⟩
    · exact K2.out.set 2 _
    · exact K1.out.other (by simp) _
    · exact K0.out.other (show w.heap.size + 1 + 1 ≠ w.heap.size by omega) _
    · exact own_setLow HO1.out (by simp) _
    · exact OwnV.nil _ (by rw [HG.out]; simp [World.setCell])
    · exact HBw.out.setCell (by simp; omega) _
  case round =>
    obtain ⟨k, vl, hk, rfl, R2, R1, R0, RO, RV, RB⟩ := hrel
    by_cases hlt : k < ls.length
    · have hD : D = some ⟨b', o', none⟩ := HD.out.resolve_left (by omega)
      subst hD
      obtain ⟨kk2, nn2, A2, m2, c2, A3, m3, c3, hva, g0, g1, g2, g3⟩ := row_at ls o' (HV.out.resolve_right (by omega)) k hlt
      replace g0 := cell_stays RB.out g0
      replace g1 := cell_stays RB.out g1
      replace g2 := cell_stays RB.out g2
      replace g3 := cell_stays RB.out g3
      have hba := below_alloc wr (.cells #[.int .i64 kk2, .int .i64 nn2, .slice A2 m2 c2, .slice A3 m3 c3] 38)
      have hbb := Lib.hid (below_drewN hba 1)
      obtain ⟨e0, e1, e2, e3⟩ := four (R2.out.later hba)
      have HX := Lib.hid (HS.out k hlt _ _ (below_drewN (below_then RB.out hba) 1) (VaC.later (below_drewN (below_then RB.out hba) 1) _ _ hva))
      have d1 : decide ((k : Int) < (ls.length : Int)) = true := by rw [decide_eq_true_eq]; omega
      have d2 : decide (k < ls.length) = true := by rw [decide_eq_true_eq]; omega
      have hki : (k : Int) < (ls.length : Int) := by omega
      have hk0 : (0 : Int) ≤ (k : Int) := by omega
      have hTk := Lib.hid (List.take_succ_eq_append_getElem hlt)
      have HL := Lib.hid (show (ls.take k).length < 100000 by rw [List.length_take]; omega)
      have HGl := Lib.hid (show w.heap.size + 1 + 1 < G by omega)
      have HS3 := Lib.hid (show ∀ b, wr.heap.size ≤ b → w.heap.size + 3 ≤ b from fun b hb => by have := RV.out.2.2; omega)
      have HL5 := Lib.hid (show (ls.take k ++ [ls[k]]).length = k + 1 by rw [List.length_append, List.length_take, List.length_singleton]; omega)
      generalize ls[k] = x at HX hTk HL5
      clear hva hba
      go_wp2_with fail
      go_region_law (first | (refine step_append_va rfl _ _ rfl G vl (ls.take k) x _ _ _ _ rfl rfl (RV.out.kept HB4.out) HP4.out (new_cells _ _ _ _ _ _) HL.out ?_; intro v5 w5 hown5 hb5 hg5 ho5; obtain ⟨A5, q5, hv5⟩ := hown5.shape; rw [HL5.out] at hv5; subst hv5; have R5 := Lib.hid ((R2.out.later HB4.out).keep (hb5 _ (Nat.le_refl _)) HGl.out); obtain ⟨s0, s1, s2, s3⟩ := four R5.out; have sf := R5.out.free 3; have HV5 := Lib.hid hown5; have HB5 := Lib.hid (hb5 _ (Nat.le_refl _)); clear hown5 hb5 hg5 ho5) | (go_simp; go_at_call 91; refine (HX.out).mono ?_; rintro e w3 ⟨vb3, vl3, rfl, ho3, hv3, hb3⟩; have HP4 := Lib.hid (VaP.later (fresh_part (S := fun b => w.heap.size + 3 ≤ b) RV.out hbb.out ho3 hv3 HS3.out) (below_alloc w3 (.cells #[.int .i64 x.kind, .int .i64 x.n, vb3, vl3] 38))); have HB4 := Lib.hid (below_then (below_then hbb.out hb3) (below_alloc w3 (.cells #[.int .i64 x.kind, .int .i64 x.n, vb3, vl3] 38))); obtain ⟨t0, t1, t2, t3⟩ := four (R2.out.later (below_then hbb.out hb3)); obtain ⟨z0, z1, z2, z3⟩ := four (R2.out.later HB4.out); clear ho3 hv3 hb3))
      all_goals
        go_wp2
        go_roundw
        case rel =>
          refine ⟨k + 1, _, by omega, by go_num, R5.out.set 3 _, ((R1.out.later HB4.out).keep HB5.out (by omega)).other (show w.heap.size + 1 + 1 ≠ w.heap.size + 1 by omega) _, ((R0.out.later HB4.out).keep HB5.out (by omega)).other (show w.heap.size + 1 + 1 ≠ w.heap.size by omega) _, own_setLow (own_turn (RO.out.kept HB4.out) HB5.out.size (fun g hg => HB5.out.block g (HG1.out g hg))) (show w.heap.size + 1 + 1 < w.heap.size + 3 by omega) _, ?_, ((RB.out.trans (HB4.out.mono RB.out.size)).trans (HB5.out.mono (by omega))).setCell (show w.heap.size ≤ w.heap.size + 1 + 1 by omega) _⟩
          rw [hTk.out]
          exact HV5.out.setLow (a := ⟨w.heap.size + 1 + 1, 3, none⟩) (show w.heap.size + 1 + 1 < G by omega) (fun b hb => show b ≠ w.heap.size + 1 + 1 by omega) _
        case measure => simp [intOf]; omega
    · obtain rfl : k = ls.length := by omega
      have hlk := RV.out
      rw [List.take_length] at hlk
      obtain ⟨A6, q6, hv6⟩ := hlk.shape
      subst hv6
      have HV6 := Lib.hid hlk
      obtain ⟨e0, e1, e2, e3⟩ := four R2.out
      obtain ⟨c0, c1, c2, c3⟩ := four R1.out
      have f0 := R1.out.free 0
      have f1 := R1.out.free 1
      have f2 := R1.out.free 2
      have f3 := R1.out.free 3
      clear hlk
      go_wp2
      refine bodyPost_ret (by simp [results, Tryz.results91, go_sem, c0, c1, c2, c3]; try rfl) rfl ?_
      have hs1 : w.heap.size + 1 < w.heap.size + 3 := by omega
      have hs2 : ∀ b, w.heap.size + 3 ≤ b → b ≠ w.heap.size + 1 := fun b hb => by omega
      have hs3 : w.heap.size + 1 < G := by omega
      have hs4 : w.heap.size ≤ w.heap.size + 1 := by omega
      refine ⟨_, _, rfl, own_weak (own_setLow (a := ⟨_, _, none⟩) (own_setLow (a := ⟨_, _, none⟩) (own_setLow (a := ⟨_, _, none⟩) (own_setLow (a := ⟨_, _, none⟩) RO.out hs1 _) hs1 _) hs1 _) hs1 _) (by omega), OwnV.weak (OwnV.setLow (a := ⟨_, _, none⟩) (OwnV.setLow (a := ⟨_, _, none⟩) (OwnV.setLow (a := ⟨_, _, none⟩) (OwnV.setLow (a := ⟨_, _, none⟩) HV6.out hs3 hs2 _) hs3 hs2 _) hs3 hs2 _) hs3 hs2 _) (by omega) (fun b hb => by omega), (((RB.out.setCell (p := ⟨_, _, none⟩) hs4 _).setCell (p := ⟨_, _, none⟩) hs4 _).setCell (p := ⟨_, _, none⟩) hs4 _).setCell (p := ⟨_, _, none⟩) hs4 _⟩
end Go.Proofs.YtdiagnhdigakpaaGreatDoor
/- The contracts of the reference's Alike and All. -/
namespace Go.Proofs.YtdiagnhdigakpaaGreatDoor
open Go.RowKit

theorem ups_more {l m : List Va} {k : Nat} (h : l.take k = m.take k) (hk : k < l.length) (hk' : k < m.length) (he : l[k] = m[k]) : l.take (k + 1) = m.take (k + 1) := by
  rw [List.take_succ_eq_append_getElem hk, List.take_succ_eq_append_getElem hk', h, he]
theorem alike_no_at {a b : Int} {c d : Int} {bs bs' : List Nat} {l m : List Va} {k : Nat} (hk : k < l.length) (hk' : k < m.length) (he : alikeV l[k] m[k] = false) : alikeV (.mk a c bs l) (.mk b d bs' m) = false := by
  rw [Bool.eq_false_iff]
  intro h
  have e := (alikeV_eq _ _).1 h
  have hl : l = m := (Va.mk.inj e).2.2.2
  subst hl
  rw [alikeV_refl] at he
  cases he
theorem alike_ne {v w : Va} (h : v ≠ w) : alikeV v w = false := by
  rw [Bool.eq_false_iff]
  exact fun e => h ((alikeV_eq _ _).1 e)
/-- The cells of two boxes of values. -/
theorem boxvv_cells {w wr : World} {a0 a1 a2 a3 b0 b1 b2 b3 : Value} (hb : Below ((w.alloc (.cells #[a0, a1, a2, a3] 38)).alloc (.cells #[b0, b1, b2, b3] 38)).heap.size ((w.alloc (.cells #[a0, a1, a2, a3] 38)).alloc (.cells #[b0, b1, b2, b3] 38)) wr) :
    Blk wr w.heap.size 38 #[a0, a1, a2, a3] ∧ Blk wr (w.heap.size + 1) 38 #[b0, b1, b2, b3] := by
  have h2 := boxes2 w 38 38 #[a0, a1, a2, a3] #[b0, b1, b2, b3]
  exact ⟨h2.1.later hb, h2.2.1.later hb⟩
set_option maxRecDepth 100000 in
set_option maxHeartbeats 8000000 in
theorem ralike_no (k n k' n' : Int) (C D C' D' : Option Addr) (x y p q x' y' p' q' : Nat) (r : Bool) (w : World)
    (hn : (k != k') = true ∨ ((k != k') = false ∧ (n != n') = true) ∨ ((k != k') = false ∧ (n != n') = false ∧ r = false) ∨ ((k != k') = false ∧ (n != n') = false ∧ r = true ∧ ((y : Int) != (y' : Int)) = true))
    (HI : Hid (∀ u, Below w.heap.size w u → Calls Tryz.prog 38 #[.slice C x p, .slice C' x' p'] u fun e w' => e = .returned (.bool r) ∧ Below u.heap.size u w')) :
    Calls Tryz.prog 24 #[.agg #[.int .i64 k, .int .i64 n, .slice C x p, .slice D y q], .agg #[.int .i64 k', .int .i64 n', .slice C' x' p', .slice D' y' q']] w fun e w' => e = .returned (.bool false) ∧ Below w.heap.size w w' := by
  have H0 := Lib.hid (boxes2 w 38 38 #[.int .i64 k, .int .i64 n, .slice C x p, .slice D y q] #[.int .i64 k', .int .i64 n', .slice C' x' p', .slice D' y' q']).2.2.1
  rcases hn with h1 | ⟨h1, h2⟩ | ⟨h1, h2, rfl⟩ | ⟨h1, h2, rfl, h4⟩
  all_goals
    go_enter Tryz.func24, Tryz.ntmps24
    go_wp2_with fail
    first
      | (go_ret
         exact ⟨rfl, H0.out⟩)
      | (refine (HI.out _ H0.out).mono ?_
         rintro e w1 ⟨rfl, hb1⟩
         have H1 := Lib.hid (below_then H0.out hb1)
         obtain ⟨kt, kv⟩ := boxvv_cells hb1
         obtain ⟨p0, p1, p2, p3⟩ := four kt
         obtain ⟨q0, q1, q2, q3⟩ := four kv
         clear hb1 kt kv
         go_wp2
         go_ret
         exact ⟨rfl, H1.out⟩)
set_option maxRecDepth 100000 in
set_option maxHeartbeats 8000000 in
theorem ralike_yes (k n : Int) (C D C' D' : Option Addr) (bs : List Nat) (p q p' q' b o b' o' : Nat) (ls ls' : List Va) (w : World)
    (hl : ls.length = ls'.length) (hx : ls.length ≤ 9223372036854775807)
    (HI : Hid (∀ u, Below w.heap.size w u → Calls Tryz.prog 38 #[.slice C bs.length p, .slice C' bs.length p'] u fun e w' => e = .returned (.bool true) ∧ Below u.heap.size u w'))
    (HD : Hid (ls.length = 0 ∨ D = some ⟨b, o, none⟩)) (HV : Hid (VaAt w ls b o ∨ ls.length = 0)) (HD' : Hid (ls'.length = 0 ∨ D' = some ⟨b', o', none⟩)) (HV' : Hid (VaAt w ls' b' o' ∨ ls'.length = 0))
    (HS : Hid (∀ (k : Nat) (h : k < ls.length) (h' : k < ls'.length) (u : World) (cs cs' : List Value), Below w.heap.size w u → VaC u ls[k] cs → VaC u ls'[k] cs' → Calls Tryz.prog 24 #[.agg cs.toArray, .agg cs'.toArray] u fun e w' => e = .returned (.bool (alikeV ls[k] ls'[k])) ∧ Below u.heap.size u w')) :
    Calls Tryz.prog 24 #[.agg #[.int .i64 k, .int .i64 n, .slice C bs.length p, .slice D ls.length q], .agg #[.int .i64 k, .int .i64 n, .slice C' bs.length p', .slice D' ls.length q']] w fun e w' => e = .returned (.bool (alikeV (.mk k n bs ls) (.mk k n bs ls'))) ∧ Below w.heap.size w w' := by
  have H0 := Lib.hid (boxes2 w 38 38 #[.int .i64 k, .int .i64 n, .slice C bs.length p, .slice D ls.length q] #[.int .i64 k, .int .i64 n, .slice C' bs.length p', .slice D' ls.length q']).2.2.1
  have HL := Lib.hid hl
  have f1 : (k != k) = false := by simp
  have f2 : (n != n) = false := by simp
  have f3 : ((ls.length : Int) != (ls.length : Int)) = false := by simp
  clear hl
  go_enter Tryz.func24, Tryz.ntmps24
  go_wp2_with fail
  refine (HI.out _ H0.out).mono ?_
  rintro e w1 ⟨rfl, hb1⟩
  obtain ⟨kt, kv⟩ := boxvv_cells hb1
  have KT := Lib.hid kt
  have KV := Lib.hid kv
  obtain ⟨p0, p1, p2, p3⟩ := four kt
  obtain ⟨q0, q1, q2, q3⟩ := four kv
  have H1 := Lib.hid (below_then H0.out hb1)
  clear hb1 kt kv
  go_wp2_with fail
  clear p0 p1 p2 p3 q0 q1 q2 q3
  go_loopw [38] (fun i wr => ∃ j : Nat, j ≤ ls.length ∧ i = .int .i64 j ∧ Hid (ls.take j = ls'.take j) ∧ Hid (Below w1.heap.size w1 wr)) (fun i _ => ls.length - (intOf i).toNat)
  case atStart => exact ⟨0, Nat.zero_le _, rfl, rfl, Below.refl _ _⟩
  case round =>
    obtain ⟨j, hj, rfl, hr, hbr⟩ := hrel
    have HBR := Lib.hid (below_then H1.out hbr.out)
    by_cases hlt : j < ls.length
    · have hlt' : j < ls'.length := by have := HL.out; omega
      have hD : D = some ⟨b, o, none⟩ := HD.out.resolve_left (by omega)
      have hD' : D' = some ⟨b', o', none⟩ := HD'.out.resolve_left (by omega)
      subst hD hD'
      obtain ⟨p0, p1, p2, p3⟩ := four (KT.out.later hbr.out)
      obtain ⟨q0, q1, q2, q3⟩ := four (KV.out.later hbr.out)
      obtain ⟨kk, nn, A1, m1, c1, A2, m2, c2, hva, g0, g1, g2, g3⟩ := row_at ls o (HV.out.resolve_right (by omega)) j hlt
      obtain ⟨kk', nn', A1', m1', c1', A2', m2', c2', hva', g0', g1', g2', g3'⟩ := row_at ls' o' (HV'.out.resolve_right (by omega)) j hlt'
      replace g0 := cell_stays HBR.out g0
      replace g1 := cell_stays HBR.out g1
      replace g2 := cell_stays HBR.out g2
      replace g3 := cell_stays HBR.out g3
      replace g0' := cell_stays HBR.out g0'
      replace g1' := cell_stays HBR.out g1'
      replace g2' := cell_stays HBR.out g2'
      replace g3' := cell_stays HBR.out g3'
      have d1 : decide ((j : Int) < (ls.length : Int)) = true := by rw [decide_eq_true_eq]; omega
      have d2 : decide (j < ls.length) = true := by rw [decide_eq_true_eq]; omega
      have hji : (j : Int) < (ls.length : Int) := by omega
      have hj0 : (0 : Int) ≤ (j : Int) := by omega
      have HX := Lib.hid (HS.out j hlt hlt' _ _ _ (below_drewN HBR.out 1) (VaC.later (below_drewN HBR.out 1) _ _ hva) (VaC.later (below_drewN HBR.out 1) _ _ hva'))
      cases hf : alikeV ls[j] ls'[j] with
      | false =>
        have HR := Lib.hid (alike_no_at (a := k) (b := k) (c := n) (d := n) (bs := bs) (bs' := bs) hlt hlt' hf)
        rw [hf] at HX
        clear hf hr hva hva'
        go_wp2_with fail
        go_region_with (go_at_call 24; refine (HX.out).mono ?_; rintro e w3 ⟨rfl, hb3⟩; have HB3 := Lib.hid (below_then (below_drewN HBR.out 1) hb3); clear hb3)
        all_goals
          go_wp2
          go_ret
          exact ⟨by rw [HR.out]; rfl, HB3.out⟩
      | true =>
        have HR := Lib.hid (ups_more hr.out hlt hlt' ((alikeV_eq _ _).1 hf))
        rw [hf] at HX
        clear hf hr hva hva'
        go_wp2_with fail
        go_region_with (go_at_call 24; refine (HX.out).mono ?_; rintro e w3 ⟨rfl, hb3⟩; have HB3 := Lib.hid (below_then (below_drewN hbr.out 1) hb3); clear hb3)
        all_goals
          go_wp2
          go_roundw
          case rel => exact ⟨j + 1, by omega, by go_num, HR, HB3.out⟩
          case measure => simp [intOf]; omega
    · have d1 : decide ((j : Int) < (ls.length : Int)) = false := by rw [decide_eq_false_iff_not]; omega
      have d2 : decide (j < ls.length) = false := by rw [decide_eq_false_iff_not]; omega
      have he : ls = ls' := by
        have := hr.out
        rwa [List.take_of_length_le (by omega), List.take_of_length_le (by have := HL.out; omega)] at this
      have HR := Lib.hid (show alikeV (.mk k n bs ls) (.mk k n bs ls') = true by rw [he]; exact alikeV_refl _)
      clear hr he
      go_wp2
      go_ret
      exact ⟨by rw [HR.out]; rfl, HBR.out⟩
theorem va_rows {w : World} {ls : List Va} {D : Option Addr} (h : ls = [] ∨ ∃ b off, D = some ⟨b, off, none⟩ ∧ VaAt w ls b off) : ∃ b o, (ls.length = 0 ∨ D = some ⟨b, o, none⟩) ∧ (VaAt w ls b o ∨ ls.length = 0) := by
  rcases h with h | ⟨b, o, h1, h2⟩
  · exact ⟨0, 0, .inl (by rw [h]; rfl), .inr (by rw [h]; rfl)⟩
  · exact ⟨b, o, .inr h1, .inl h2⟩
theorem ralike_upto : ∀ (m : Nat) (v u : Va) (cs cs' : List Value) (w : World), SizeOf.sizeOf v < m → smV v → smV u → VaC w v cs → VaC w u cs' →
    Calls Tryz.prog 24 #[.agg cs.toArray, .agg cs'.toArray] w fun e w' => e = .returned (.bool (alikeV v u)) ∧ Below w.heap.size w w'
  | 0, _, _, _, _, _, hz, _, _, _, _ => absurd hz (Nat.not_lt_zero _)
  | m + 1, .mk k n bs ls, .mk k' n' bs' ls', cs, cs', w, hz, hs, hs', h, h' => by
    rw [smV_def] at hs hs'
    obtain ⟨C, x, p, D, y, q, rfl, hx, hy, hb, _, hy2, hL⟩ := vaC_open h
    obtain ⟨C', x', p', D', y', q', rfl, hx', hy', hb', _, _, hL'⟩ := vaC_open h'
    obtain rfl : x = bs.length := hx
    obtain rfl : y = ls.length := hy
    obtain rfl : x' = bs'.length := hx'
    obtain rfl : y' = ls'.length := hy'
    have hb : BitS w (.slice C bs.length p) bs := hb
    have hb' : BitS w (.slice C' bs'.length p') bs' := hb'
    have HI := fun (u : World) (hu : Below w.heap.size w u) => Lg.same_any _ _ bs bs' u (bitS_sl (hb.later hu) (by omega)) (bitS_sl (hb'.later hu) (by omega))
    show Calls _ _ #[.agg #[.int .i64 k, .int .i64 n, .slice C bs.length p, .slice D ls.length q], .agg #[.int .i64 k', .int .i64 n', .slice C' bs'.length p', .slice D' ls'.length q']] _ _
    by_cases hk : k = k'
    · by_cases hn : n = n'
      · by_cases hbb : bs = bs'
        · by_cases hl : ls.length = ls'.length
          · subst hk hn hbb
            obtain ⟨b, o, d1, d2⟩ := va_rows (ls := ls) hL
            obtain ⟨b', o', d1', d2'⟩ := va_rows (ls := ls') hL'
            rw [← hl]
            refine ralike_yes k n C D C' D' bs p q p' q' b o b' o' ls ls' w hl hy2 (fun u hu => by
              have := HI u hu
              rwa [show Lg.eqL bs bs = true by unfold Lg.eqL; simp] at this) d1 d2 d1' d2' (fun j hj hj' u cs cs' hu hc hc' => ralike_upto m ls[j] ls'[j] cs cs' u (size_in hz (List.getElem_mem hj)) (hs.2.2 _ (List.getElem_mem hj)) (hs'.2.2 _ (List.getElem_mem hj')) hc hc')
          · rw [alike_ne (by intro e; exact hl (by rw [(Va.mk.inj e).2.2.2]))]
            exact ralike_no k n k' n' C D C' D' _ _ p q _ _ p' q' (Lg.eqL bs bs') w (.inr (.inr (.inr ⟨by rw [hk]; simp, by rw [hn]; simp, by unfold Lg.eqL; simp [hbb], by rw [bne_iff_ne]; omega⟩))) HI
        · rw [alike_ne (by intro e; exact hbb (Va.mk.inj e).2.2.1)]
          exact ralike_no k n k' n' C D C' D' _ _ p q _ _ p' q' (Lg.eqL bs bs') w (.inr (.inr (.inl ⟨by rw [hk]; simp, by rw [hn]; simp, by unfold Lg.eqL; simp [hbb]⟩))) HI
      · rw [alike_ne (by intro e; exact hn (Va.mk.inj e).2.1)]
        exact ralike_no k n k' n' C D C' D' _ _ p q _ _ p' q' (Lg.eqL bs bs') w (.inr (.inl ⟨by rw [hk]; simp, by rw [bne_iff_ne]; exact hn⟩)) HI
    · rw [alike_ne (by intro e; exact hk (Va.mk.inj e).1)]
      exact ralike_no k n k' n' C D C' D' _ _ p q _ _ p' q' (Lg.eqL bs bs') w (.inl (by rw [bne_iff_ne]; exact hk)) HI
theorem ralike_any (v u : Va) (cs cs' : List Value) (w : World) (hs : smV v) (hs' : smV u) (h : VaC w v cs) (h' : VaC w u cs') :
    Calls Tryz.prog 24 #[.agg cs.toArray, .agg cs'.toArray] w fun e w' => e = .returned (.bool (alikeV v u)) ∧ Below w.heap.size w w' := ralike_upto _ v u cs cs' w (Nat.lt_succ_self _) hs hs' h h'
end Go.Proofs.YtdiagnhdigakpaaGreatDoor
/- The contracts of Known, of the program and of the reference. -/
namespace Go.Proofs.YtdiagnhdigakpaaGreatDoor.Lg
open Go.RowKit
theorem unk_yes (b : Nat) (w : World) (h : 1 < b) (h3 : b ≤ 3) :
    Calls Tryz.prog 178 #[.int .u8 b] w fun e w' => e = .returned (.bool true) ∧ w = w' := by
  obtain rfl | rfl : b = 2 ∨ b = 3 := by omega
  all_goals
    go_enter Tryz.func178, Tryz.ntmps178
    go_wp2
    go_ret
    exact ⟨rfl, rfl⟩
theorem unk_no (b : Nat) (w : World) (h : b ≤ 1) :
    Calls Tryz.prog 178 #[.int .u8 b] w fun e w' => e = .returned (.bool false) ∧ w = w' := by
  obtain rfl | rfl : b = 0 ∨ b = 1 := by omega
  all_goals
    go_enter Tryz.func178, Tryz.ntmps178
    go_wp2
    go_ret
    exact ⟨rfl, rfl⟩

/-- All are 0 or 1. -/
def knB (zs : List Nat) : Bool := zs.all fun z => decide (z ≤ 1)
theorem knB_take {zs : List Nat} {k : Nat} (h : k < zs.length) (hk : knB (zs.take k) = true) (hz : zs[k] ≤ 1) : knB (zs.take (k + 1)) = true := by
  unfold knB at *
  rw [List.take_succ_eq_append_getElem h, List.all_append, hk]
  simpa using hz
theorem knB_no {zs : List Nat} {k : Nat} (h : k < zs.length) (hz : 1 < zs[k]) : knB zs = false := by
  unfold knB
  rw [List.all_eq_false]
  exact ⟨zs[k], List.getElem_mem h, by simpa using hz⟩
theorem knB_end {zs : List Nat} {k : Nat} (h : ¬ k < zs.length) (hk : knB (zs.take k) = true) : knB zs = true := by rwa [List.take_of_length_le (by omega)] at hk

set_option maxHeartbeats 1000000 in
theorem indexFunc_none (v : Value) (zs : List Nat) (w : World) (h : Sl w v zs) (hk1 : knB zs = true) :
    Calls Tryz.prog 195 #[v, .func (.func 178) #[] #[]] w fun e w' => e = .returned (.int .i64 (-1)) ∧ w = w' := by
  obtain ⟨A, c, rfl, hn, hz, hq, hc⟩ := h
  have HK := Lib.hid hk1
  clear hz hk1
  go_enter Tryz.func195, Tryz.ntmps195
  go_wp2_with fail
  go_loop [8] (fun i => ∃ k : Nat, k ≤ zs.length ∧ i = .int .i64 k) (fun i => zs.length - (intOf i).toNat)
  case atStart => exact ⟨0, Nat.zero_le _, rfl⟩
  case round =>
    obtain ⟨k, hk, rfl⟩ := hrel
    by_cases hlt : k < zs.length
    · rcases hc with rfl | ⟨b, off, rfl, hc⟩
      · exact absurd hlt (by simp)
      have g := hc k hlt
      have h1 : zs[k] ≤ 1 := by
        have := HK.out
        unfold knB at this
        simpa using List.all_eq_true.1 this zs[k] (List.getElem_mem hlt)
      clear hc
      generalize zs[k] = z at g h1
      go_wp2_with (go_at_call 178; refine (unk_no _ _ (by omega)).mono ?_; rintro e w' ⟨rfl, rfl⟩)
      go_round
      case rel => exact ⟨k + 1, by omega, by go_num⟩
      case measure => simp [intOf]; omega
    · clear hc
      go_wp2
      go_ret
      exact ⟨rfl, rfl⟩

set_option maxHeartbeats 1000000 in
theorem indexFunc_some (v : Value) (zs : List Nat) (w : World) (h : Sl w v zs) (hb : bitsB zs = true) (hk0 : knB zs = false) :
    Calls Tryz.prog 195 #[v, .func (.func 178) #[] #[]] w fun e w' => ∃ k : Nat, e = .returned (.int .i64 (k : Nat)) ∧ w = w' := by
  obtain ⟨A, c, rfl, hn, hz, hq, hc⟩ := h
  have HK := Lib.hid hk0
  have HB := Lib.hid hb
  clear hz hk0 hb
  go_enter Tryz.func195, Tryz.ntmps195
  go_wp2_with fail
  go_loop [8] (fun i => ∃ k : Nat, k ≤ zs.length ∧ i = .int .i64 k ∧ Hid (knB (zs.take k) = true)) (fun i => zs.length - (intOf i).toNat)
  case atStart => exact ⟨0, Nat.zero_le _, rfl, rfl⟩
  case round =>
    obtain ⟨k, hk, rfl, hr⟩ := hrel
    by_cases hlt : k < zs.length
    · rcases hc with rfl | ⟨b, off, rfl, hc⟩
      · exact absurd hlt (by simp)
      have g := hc k hlt
      have h3 := bitsB_at HB.out hlt
      clear hc
      by_cases h1 : zs[k] ≤ 1
      · have HR := Lib.hid (knB_take hlt hr.out h1)
        generalize zs[k] = z at g h1 h3
        go_wp2_with (go_at_call 178; refine (unk_no _ _ (by omega)).mono ?_; rintro e w' ⟨rfl, rfl⟩)
        go_round
        case rel => exact ⟨k + 1, by omega, by go_num, HR⟩
        case measure => simp [intOf]; omega
      · generalize zs[k] = z at g h1 h3
        go_wp2_with (go_at_call 178; refine (unk_yes _ _ (by omega) (by omega)).mono ?_; rintro e w' ⟨rfl, rfl⟩)
        go_ret
        exact ⟨k, rfl, rfl⟩
    · exfalso
      have := knB_end hlt hr.out
      rw [HK.out] at this
      cases this

theorem contains_any (v : Value) (zs : List Nat) (w : World) (h : Sl w v zs) (hb : bitsB zs = true) :
    Calls Tryz.prog 177 #[v, .func (.func 178) #[] #[]] w fun e w' => e = .returned (.bool (!knB zs)) ∧ w = w' := by
  have HS := Lib.hid h
  have HB := Lib.hid hb
  obtain ⟨A, c, rfl, hn, _⟩ := h
  clear hb
  by_cases hk : knB zs = true
  · have HK := Lib.hid hk
    rw [hk]
    clear hk
    go_enter Tryz.func177, Tryz.ntmps177
    go_wp2_with (go_at_call 195; refine (indexFunc_none _ _ _ HS.out HK.out).mono ?_; rintro e w' ⟨rfl, rfl⟩)
    go_ret
    exact ⟨rfl, rfl⟩
  · have hk' : knB zs = false := by simpa using hk
    have HK := Lib.hid hk'
    rw [hk']
    clear hk hk'
    go_enter Tryz.func177, Tryz.ntmps177
    go_wp2_with (go_at_call 195; refine (indexFunc_some _ _ _ HS.out HB.out HK.out).mono ?_; rintro e w' ⟨k, rfl, rfl⟩)
    go_ret
    exact ⟨ret_bool (by simp), rfl⟩

theorem ret_bi {a b : Bool} {k' : IntKind} {c d : Int} (h : a = b) (h' : c = d) : Ending.returned (.tuple #[.bool a, .int k' c]) = .returned (.tuple #[.bool b, .int k' d]) := by rw [h, h']
/-- What Known returns. -/
def knV (zs : List Nat) : Bool := isV zs && knB zs
theorem txtE_yes {zs : List Nat} (h : isV zs = true) : txtE zs = 0 := by unfold txtE; rw [h]; rfl
theorem txtE_no {zs : List Nat} (h : isV zs = false) : txtE zs = 2 := by unfold txtE; rw [h]; rfl
theorem known_any (v : Value) (zs : List Nat) (w : World) (h : Sl w v zs) :
    Calls Tryz.prog 154 #[v] w fun e w' => e = .returned (.tuple #[.bool (knV zs), .int .i64 (txtE zs : Nat)]) ∧ w = w' := by
  have hI := is_any v zs w h
  have HS := Lib.hid h
  obtain ⟨A, c, rfl, hn, _⟩ := h
  by_cases hv : isV zs = true
  · rw [hv] at hI
    have HI := Lib.hid hI
    have HB := Lib.hid (isV_bits hv).1
    rw [show knV zs = knB zs by unfold knV; rw [hv]; rfl, txtE_yes hv]
    clear hI hv
    go_enter Tryz.func154, Tryz.ntmps154
    go_wp2_with (first | (go_at_call 126; refine (HI.out).mono ?_; rintro e w' ⟨rfl, rfl⟩) | (go_at_call 177; refine (contains_any _ _ _ HS.out HB.out).mono ?_; rintro e w' ⟨rfl, rfl⟩))
    go_ret2
    exact ⟨ret_bi (by simp) rfl, rfl⟩
  · have hv' : isV zs = false := by simpa using hv
    rw [hv'] at hI
    have HI := Lib.hid hI
    rw [show knV zs = false by unfold knV; rw [hv']; rfl, txtE_no hv']
    clear hI hv hv'
    go_enter Tryz.func154, Tryz.ntmps154
    go_wp2_with (go_at_call 126; refine (HI.out).mono ?_; rintro e w' ⟨rfl, rfl⟩)
    go_ret2
    exact ⟨rfl, rfl⟩

set_option maxHeartbeats 1000000 in
theorem refKnown_any (v : Value) (zs : List Nat) (w : World) (h : Sl w v zs) :
    Calls Tryz.prog 156 #[v] w fun e w' => e = .returned (.tuple #[.bool (knV zs), .int .i64 (txtE zs : Nat)]) ∧ w = w' := by
  have hI := refIs_any v zs w h
  obtain ⟨A, c, rfl, hn, hz, hq, hc⟩ := h
  clear hz
  by_cases hv : isV zs = true
  · rw [hv] at hI
    have HI := Lib.hid hI
    rw [show knV zs = knB zs by unfold knV; rw [hv]; rfl, txtE_yes hv]
    clear hI hv
    go_enter Tryz.func156, Tryz.ntmps156
    go_wp2_with (go_at_call 75; refine (HI.out).mono ?_; rintro e w' ⟨rfl, rfl⟩)
    go_loop [11] (fun i => ∃ k : Nat, k ≤ zs.length ∧ i = .int .i64 k ∧ Hid (knB (zs.take k) = true)) (fun i => zs.length - (intOf i).toNat)
    case atStart => exact ⟨0, Nat.zero_le _, rfl, rfl⟩
    case round =>
      obtain ⟨k, hk, rfl, hr⟩ := hrel
      by_cases hlt : k < zs.length
      · rcases hc with rfl | ⟨b, off, rfl, hc⟩
        · exact absurd hlt (by simp)
        have g := hc k hlt
        clear hc
        by_cases h1 : zs[k] ≤ 1
        · have HR := Lib.hid (knB_take hlt hr.out h1)
          have hd : decide ((1 : Int) < (zs[k] : Int)) = false := by rw [decide_eq_false_iff_not]; omega
          generalize zs[k] = z at g h1 hd
          go_wp2
          go_round
          case rel => exact ⟨k + 1, by omega, by go_num, HR⟩
          case measure => simp [intOf]; omega
        · have HR := Lib.hid (knB_no hlt (by omega))
          have hd : decide ((1 : Int) < (zs[k] : Int)) = true := by rw [decide_eq_true_eq]; omega
          generalize zs[k] = z at g h1 hd
          go_wp2
          go_ret2
          exact ⟨ret_bi HR.out.symm rfl, rfl⟩
      · have HR := Lib.hid (knB_end hlt hr.out)
        clear hc
        go_wp2
        go_ret2
        exact ⟨ret_bi HR.out.symm rfl, rfl⟩
  · have hv' : isV zs = false := by simpa using hv
    rw [hv'] at hI
    have HI := Lib.hid hI
    rw [show knV zs = false by unfold knV; rw [hv']; rfl, txtE_no hv']
    clear hI hv hv' hc
    go_enter Tryz.func156, Tryz.ntmps156
    go_wp2_with (go_at_call 75; refine (HI.out).mono ?_; rintro e w' ⟨rfl, rfl⟩)
    go_ret2
    exact ⟨rfl, rfl⟩
end Go.Proofs.YtdiagnhdigakpaaGreatDoor.Lg
/- The contracts of the reference's Inverse and Covers; rows that are filled from the front. -/
namespace Go.Proofs.YtdiagnhdigakpaaGreatDoor.Lg
open Go.RowKit

theorem same_w {P : Program} {f : FuncId} {args : Array Value} {w : World} {v : Value} (h : Calls P f args w fun e w' => e = .returned v ∧ w = w') : Calls P f args w fun e w' => e = .returned v ∧ w' = w :=
  h.mono fun _ _ ⟨a, b⟩ => ⟨a, b.symm⟩
theorem Own.drewN {w : World} {base : Nat} {v : Value} {zs : List Nat} (h : Own w base v zs) (n : Nat) : Own (w.drewN n) base v zs := h.kept (below_drewN (Below.refl _ _) n)
/-- A row of the call's own that is filled from the front. -/
def fillF (n : Nat) (ys : List Nat) : List Nat := ys ++ List.replicate (n - ys.length) 0
theorem fillF_len {n : Nat} {ys : List Nat} (h : ys.length ≤ n) : (fillF n ys).length = n := by unfold fillF; simp; omega
theorem fillF_set {n k : Nat} {ys : List Nat} (hk : ys.length = k) (h : k < n) (z : Nat) : (fillF n ys).set k z = fillF n (ys ++ [z]) := by
  subst hk
  unfold fillF
  rw [List.set_append_right _ _ (Nat.le_refl _), Nat.sub_self]
  obtain ⟨m, hm⟩ : ∃ m, n - ys.length = m + 1 := ⟨n - ys.length - 1, by omega⟩
  rw [hm, List.replicate_succ, List.set_cons_zero]
  simp
  omega
theorem fillF_end {n : Nat} {ys : List Nat} (h : ys.length = n) : fillF n ys = ys := by unfold fillF; rw [h, Nat.sub_self]; simp
/-- What Inverse returns. -/
def invV (zs : List Nat) : List Nat := if isV zs then zs.map notN else []
def invK (zs : List Nat) (k : Nat) : List Nat := (zs.take k).map notN
theorem invK_succ {zs : List Nat} {k : Nat} (h : k < zs.length) : invK zs (k + 1) = invK zs k ++ [notN zs[k]] := by
  unfold invK; rw [List.take_succ_eq_append_getElem h, List.map_append]; rfl
theorem invK_end {zs : List Nat} {k : Nat} (h : ¬ k < zs.length) : invK zs k = zs.map notN := by unfold invK; rw [List.take_of_length_le (by omega)]
theorem invK_len {zs : List Nat} {k : Nat} (h : k ≤ zs.length) : (invK zs k).length = k := by unfold invK; simp; omega
theorem invV_yes {zs : List Nat} (h : isV zs = true) : invV zs = zs.map notN := by unfold invV; rw [h]; rfl
theorem invV_no {zs : List Nat} (h : isV zs = false) : invV zs = [] := by unfold invV; rw [h]; rfl
/-- Two vectors of one length. -/
def two (a b : List Nat) : Bool := isV a && isV b && decide (a.length = b.length)
theorem two_yes {a b : List Nat} (h : two a b = true) : isV a = true ∧ isV b = true ∧ a.length = b.length := by
  unfold two at h; simp at h; exact ⟨h.1.1, h.1.2, h.2⟩
/-- The first k bits of b are those of a, with perhaps more known. -/
def covK (a b : List Nat) (k : Nat) : Bool := (List.range k).all fun j => decide (2 ≤ a.getD j 0 ∨ a.getD j 0 = b.getD j 0)
theorem covK_succ {a b : List Nat} {k : Nat} (h : k < a.length) (h' : k < b.length) (hk : covK a b k = true) (hz : 2 ≤ a[k] ∨ a[k] = b[k]) : covK a b (k + 1) = true := by
  unfold covK at *
  rw [List.range_succ, List.all_append, hk]
  simp [h, h']
  simpa using hz
theorem covK_no {a b : List Nat} {k : Nat} (h : k < a.length) (h' : k < b.length) (hz : ¬ (2 ≤ a[k] ∨ a[k] = b[k])) : covK a b a.length = false := by
  unfold covK
  rw [List.all_eq_false]
  refine ⟨k, List.mem_range.2 h, ?_⟩
  simp [h, h']
  omega
theorem covK_at {a b : List Nat} {k : Nat} (hk : covK a b a.length = true) (h : k < a.length) (h' : k < b.length) : 2 ≤ a[k] ∨ a[k] = b[k] := by
  unfold covK at hk
  have := List.all_eq_true.1 hk k (List.mem_range.2 h)
  simpa [h, h'] using this
theorem covK_of {a b : List Nat} (hl : a.length = b.length) (h : ∀ k (h : k < a.length) (h' : k < b.length), 2 ≤ a[k] ∨ a[k] = b[k]) : covK a b a.length = true := by
  unfold covK
  rw [List.all_eq_true]
  intro k hk
  have h1 := List.mem_range.1 hk
  have := h k h1 (by omega)
  simp [h1, show k < b.length by omega]
  simpa using this
/-- What Covers returns. -/
def covV (a b : List Nat) : Bool := two a b && covK a b a.length
def covE (a b : List Nat) : Nat := if two a b then 0 else 2
theorem cov_yes {a b : List Nat} (h : two a b = true) : covV a b = covK a b a.length ∧ covE a b = 0 := by unfold covV covE; rw [h]; exact ⟨rfl, rfl⟩
theorem cov_no {a b : List Nat} (h : two a b = false) : covV a b = false ∧ covE a b = 2 := by unfold covV covE; rw [h]; exact ⟨rfl, rfl⟩
end Go.Proofs.YtdiagnhdigakpaaGreatDoor.Lg
/- The contract of the library's Equal over bits. -/
namespace Go.Proofs.YtdiagnhdigakpaaGreatDoor.Lg
open Go.RowKit

set_option maxHeartbeats 1000000 in
theorem equal_any (v u : Value) (xs ys : List Nat) (w : World) (h : Sl w v xs) (h' : Sl w u ys) :
    Calls Tryz.prog 112 #[v, u] w fun e w' => e = .returned (.bool (eqL xs ys)) ∧ Below w.heap.size w w' := by
  obtain ⟨A, c, rfl, hn, hz, hq, hc⟩ := h
  obtain ⟨A', c', rfl, hn', hz', hq', hc'⟩ := h'
  clear hz hz'
  by_cases hl : xs.length = ys.length
  · have HL := Lib.hid hl
    have ht : ((xs.length : Int) != (ys.length : Int)) = false := by rw [hl]; simp
    clear hl
    go_enter Tryz.func112, Tryz.ntmps112
    go_wp2_with fail
    go_loopw [13] (fun i wr => ∃ k : Nat, k ≤ xs.length ∧ i = .int .i64 k ∧ Hid (xs.take k = ys.take k) ∧ Below w.heap.size w wr) (fun i _ => xs.length - (intOf i).toNat)
    case atStart => exact ⟨0, Nat.zero_le _, rfl, rfl, Below.refl _ _⟩
    case round =>
      obtain ⟨k, hk, rfl, hr, hb⟩ := hrel
      by_cases hlt : k < xs.length
      · have hlt' : k < ys.length := by have := HL.out; omega
        rcases hc with rfl | ⟨b, off, rfl, hc⟩
        · exact absurd hlt (by simp)
        rcases hc' with rfl | ⟨b', off', rfl, hc'⟩
        · exact absurd hlt' (by simp)
        have g := (hb.cell (block_lt_of_cell (hc k hlt))).trans (hc k hlt)
        have g' := (hb.cell (block_lt_of_cell (hc' k hlt'))).trans (hc' k hlt')
        clear hc hc'
        by_cases h3 : xs[k] = ys[k]
        · have HR := Lib.hid (eqL_take hlt hlt' hr.out h3)
          rw [← h3] at g'
          clear h3 ht
          generalize xs[k] = z at g g'
          have HB := Lib.hid hb
          clear hb
          go_wp2
          go_quiet (fail)
          go_wp2
          go_roundw
          case rel => exact ⟨k + 1, by omega, by go_num, HR, below_drewN HB.out _⟩
          case measure => simp [intOf]; omega
        · have HR := Lib.hid (eqL_no hlt hlt' h3)
          have hne' : ((xs[k] : Int) != (ys[k] : Int)) = true := by rw [bne_iff_ne]; omega
          generalize xs[k] = z at g hne'
          generalize ys[k] = z' at g' hne'
          clear ht h3
          have HB := Lib.hid hb
          clear hb
          go_wp2
          go_quiet (fail)
          go_wp2
          go_ret
          exact ⟨ret_bool HR.out.symm, below_drewN HB.out _⟩
      · have HR := Lib.hid (eqL_end HL.out hlt hr.out)
        clear hc hc' ht
        go_wp2
        go_ret
        exact ⟨ret_bool HR.out.symm, hb⟩
  · have HR := Lib.hid (eqL_len hl)
    have ht : ((xs.length : Int) != (ys.length : Int)) = true := by simp; omega
    clear hl hc hc'
    go_enter Tryz.func112, Tryz.ntmps112
    go_wp2
    go_ret
    exact ⟨ret_bool HR.out.symm, Below.refl _ _⟩

end Go.Proofs.YtdiagnhdigakpaaGreatDoor.Lg
/- Plain facts on vectors as numbers. No program stands here. -/
namespace Go.Proofs.YtdiagnhdigakpaaGreatDoor.Lg
open Go.RowKit

/-- The number of a vector: the bits that are 1. -/
def num : List Nat → Nat
  | [] => 0
  | z :: zs => (if z = 1 then 1 else 0) + 2 * num zs
theorem num_lt (zs : List Nat) : num zs < 2 ^ zs.length := by
  induction zs with
  | nil => simp [num]
  | cons z zs ih =>
    rw [num, List.length_cons, Nat.pow_succ]
    split <;> omega
theorem num_append (zs ys : List Nat) : num (zs ++ ys) = num zs + 2 ^ zs.length * num ys := by
  induction zs with
  | nil => simp [num]
  | cons z zs ih =>
    rw [List.cons_append, num, ih, num, List.length_cons, Nat.pow_succ, Nat.mul_add, Nat.mul_comm _ 2, Nat.mul_assoc]
    omega
theorem num_take {zs : List Nat} {k : Nat} (h : k < zs.length) : num (zs.take (k + 1)) = num (zs.take k) + (if zs[k] = 1 then 2 ^ k else 0) := by
  rw [List.take_succ_eq_append_getElem h, num_append, List.length_take, Nat.min_eq_left (by omega)]
  simp only [num, Nat.mul_zero, Nat.add_zero]
  split <;> simp
theorem num_take_lt (zs : List Nat) (k : Nat) : num (zs.take k) < 2 ^ k :=
  Nat.lt_of_lt_of_le (num_lt _) (Nat.pow_le_pow_right (by omega) (List.length_take_le _ _))
theorem num_replicate_zero (n : Nat) : num (List.replicate n 0) = 0 := by
  induction n with
  | zero => rfl
  | succ n ih => rw [List.replicate_succ, num, ih]; rfl

/-- The lowest n bits of a number. -/
def bitsL (k n : Nat) : List Nat := (List.range n).map fun i => k / 2 ^ i % 2
theorem bitsL_len (k n : Nat) : (bitsL k n).length = n := by simp [bitsL]
theorem bitsL_get {k n i : Nat} (h : i < (bitsL k n).length) : (bitsL k n)[i] = k / 2 ^ i % 2 := by simp [bitsL]
theorem bitsL_succ (k n : Nat) : bitsL k (n + 1) = bitsL k n ++ [k / 2 ^ n % 2] := by simp [bitsL, List.range_succ]
theorem bitsL_cons (k n : Nat) : bitsL k (n + 1) = k % 2 :: bitsL (k / 2) n := by
  unfold bitsL
  rw [List.range_succ_eq_map]
  simp [Nat.pow_succ, Nat.div_div_eq_div_mul, Nat.mul_comm 2]
theorem bitsL_le {k n z : Nat} (h : z ∈ bitsL k n) : z ≤ 1 := by
  unfold bitsL at h
  obtain ⟨i, _, rfl⟩ := List.mem_map.1 h
  omega
theorem bitsL_bits (k n : Nat) : bitsB (bitsL k n) = true := bitsB_of fun z hz => by have := bitsL_le hz; omega
theorem bitsL_known (k n : Nat) : knB (bitsL k n) = true := by
  unfold knB
  rw [List.all_eq_true]
  intro z hz
  simpa using bitsL_le hz
theorem num_bitsL (k n : Nat) : num (bitsL k n) = k % 2 ^ n := by
  induction n generalizing k with
  | zero => simp [bitsL, num, Nat.mod_one]
  | succ n ih =>
    rw [bitsL_cons, num, ih, Nat.pow_succ, Nat.mul_comm _ 2, Nat.mod_mul]
    split <;> omega
theorem bitsL_num {zs : List Nat} (h : knB zs = true) : bitsL (num zs) zs.length = zs := by
  induction zs with
  | nil => rfl
  | cons z zs ih =>
    unfold knB at h
    rw [List.all_cons, Bool.and_eq_true] at h
    have hz : z ≤ 1 := by simpa using h.1
    rw [List.length_cons, bitsL_cons, num]
    have e1 : ((if z = 1 then 1 else 0) + 2 * num zs) % 2 = z := by split <;> omega
    have e2 : ((if z = 1 then 1 else 0) + 2 * num zs) / 2 = num zs := by split <;> omega
    rw [e1, e2, ih h.2]
theorem bitsL_congr {a b n : Nat} (h : a % 2 ^ n = b % 2 ^ n) : bitsL a n = bitsL b n := by
  have h1 := bitsL_num (bitsL_known a n)
  have h2 := bitsL_num (bitsL_known b n)
  rw [bitsL_len, num_bitsL] at h1 h2
  rw [← h1, ← h2, h]
theorem bitsL_mod {k m n : Nat} (h : n ≤ m) : bitsL (k % 2 ^ m) n = bitsL k n :=
  bitsL_congr (Nat.mod_mod_of_dvd _ (Nat.pow_dvd_pow 2 h))
theorem num_inj {a b : List Nat} (ha : knB a = true) (hb : knB b = true) (hl : a.length = b.length) (h : num a = num b) : a = b := by
  rw [← bitsL_num ha, ← bitsL_num hb, h, hl]
end Go.Proofs.YtdiagnhdigakpaaGreatDoor.Lg
/- The contracts of sumOfOnes, bitsOf, Number. -/
namespace Go.Proofs.YtdiagnhdigakpaaGreatDoor.Lg
open Go.RowKit

theorem pow_64 {k : Nat} (h : k ≤ 64) : 2 ^ k ≤ 18446744073709551616 := Nat.pow_le_pow_right (n := 2) (by omega) h

theorem wrap_nat {a : Nat} (h : a < 18446744073709551616) : IntKind.u64.wrap (a : Int) = (a : Int) := by rw [IntKind.wrap_u64]; omega
theorem wrap64_in {n : Int} (h1 : -9223372036854775808 ≤ n) (h2 : n ≤ 9223372036854775807) : wrap64 n = n := by unfold wrap64; omega
theorem cast_pow (k : Nat) : ((2 : Int) ^ k) = ((2 ^ k : Nat) : Int) := by rw [Int.natCast_pow]; rfl
theorem or_bit {a k : Nat} (h : a < 2 ^ k) (hk : k < 64) : bits .or .u64 (a : Int) (IntKind.u64.wrap (2 ^ k)) = ((a + 2 ^ k : Nat) : Int) := by
  have h1 : 2 ^ k ≤ 2 ^ 63 := Nat.pow_le_pow_right (by omega) (by omega)
  rw [cast_pow, wrap_nat (by omega), bits_or_u64_nat _ _ (by omega) (by omega)]
  have := Nat.two_pow_add_eq_or_of_lt h 1
  rw [Nat.mul_one] at this
  rw [Nat.or_comm, ← this, Nat.add_comm]

set_option maxHeartbeats 1000000 in
theorem sumOfOnes_any (v : Value) (zs : List Nat) (w : World) (h : Sl w v zs) (h64 : zs.length ≤ 64) :
    Calls Tryz.prog 155 #[v] w fun e w' => e = .returned (.int .u64 (num zs : Nat)) ∧ w = w' := by
  obtain ⟨A, c, rfl, hn, hz, hq, hc⟩ := h
  clear hz
  go_enter Tryz.func155, Tryz.ntmps155
  go_wp2_with fail
  go_loop [3, 8] (fun s i => ∃ k : Nat, k ≤ zs.length ∧ i = .int .i64 k ∧ s = .int .u64 (num (zs.take k) : Nat)) (fun _ i => zs.length - (intOf i).toNat)
  case atStart => exact ⟨0, Nat.zero_le _, rfl, rfl⟩
  case round =>
    obtain ⟨k, hk, rfl, rfl⟩ := hrel
    by_cases hlt : k < zs.length
    · rcases hc with rfl | ⟨b, off, rfl, hc⟩
      · exact absurd hlt (by simp)
      have g := hc k hlt
      clear hc
      by_cases h1 : zs[k] = 1
      · have HR : Hid (num (zs.take (k + 1)) = num (zs.take k) + 2 ^ k) := by rw [num_take hlt, if_pos h1]; exact rfl
        have HO := Lib.hid (or_bit (num_take_lt zs k) (show k < 64 by omega))
        rw [h1] at g
        clear h1
        generalize num (zs.take k) = s at HR HO
        go_wp2
        go_round
        case rel => exact ⟨k + 1, by omega, by go_num, by rw [HR.out, HO.out]⟩
        case measure => simp [intOf]; omega
      · have HR : Hid (num (zs.take (k + 1)) = num (zs.take k)) := by rw [num_take hlt, if_neg h1]; exact rfl
        have hne := beq_nat_no h1
        generalize zs[k] = z at g hne
        clear h1
        generalize num (zs.take k) = s at HR
        go_wp2
        go_round
        case rel => exact ⟨k + 1, by omega, by go_num, by rw [HR.out]⟩
        case measure => simp [intOf]; omega
    · clear hc
      have HR : Hid (num (zs.take k) = num zs) := by rw [List.take_of_length_le (by omega)]; exact rfl
      go_wp2
      go_ret
      exact ⟨by rw [HR.out]; rfl, rfl⟩

theorem shr_bit {x k : Nat} (hx : x < 18446744073709551616) : bits .and .u64 ((x : Int) / 2 ^ k) 1 % 256 = ((x / 2 ^ k % 2 : Nat) : Int) := by
  have h1 : ((x : Int) / 2 ^ k) = ((x / 2 ^ k : Nat) : Int) := by rw [cast_pow]; rfl
  have h2 : x / 2 ^ k ≤ x := Nat.div_le_self _ _
  rw [h1]
  generalize x / 2 ^ k = q at h2
  rw [and_one_u64 _ (by omega) (by omega)]
  omega

set_option maxHeartbeats 1000000 in
theorem bitsOf_any (x n : Nat) (w : World) (hx : x < 18446744073709551616) (h64 : n ≤ 64) :
    Calls Tryz.prog 145 #[.int .u64 (x : Nat), .int .i64 (n : Nat)] w fun e w' => ∃ u, e = .returned u ∧ Own w' w.heap.size u (bitsL x n) ∧ Below w.heap.size w w' := by
  go_enter Tryz.func145, Tryz.ntmps145
  go_wp2_with (first | (refine wpList_make_bits rfl _ _ rfl n rfl rfl (by omega) ?_; intro wm hm hbm) | fail)
  have HM := Lib.hid hm
  have HBM := Lib.hid hbm
  clear hm hbm
  go_wp2_with fail
  go_loopw [10] (fun i wr => ∃ k : Nat, k ≤ n ∧ i = .int .i64 k ∧ Own wr w.heap.size (.slice (some ⟨w.heap.size, 0, none⟩) n n) (fillF n (bitsL x k)) ∧ Below w.heap.size w wr) (fun i _ => n - (intOf i).toNat)
  case atStart => exact ⟨0, Nat.zero_le _, rfl, by simpa [fillF, bitsL] using HM.out, HBM.out⟩
  case round =>
    obtain ⟨k, hk, rfl, hown, hb⟩ := hrel
    have HO := Lib.hid hown
    have Hb := Lib.hid hb
    clear hown hb
    by_cases hlt : k < n
    · have hfl := fillF_len (n := n) (ys := bitsL x k) (by rw [bitsL_len]; exact hk)
      obtain ⟨gc, gf⟩ := HO.out.cell k (by rw [hfl]; exact hlt)
      have HS := Lib.hid (HO.out.stored k (x / 2 ^ k % 2) (by omega))
      rw [fillF_set (bitsL_len x k) hlt, ← bitsL_succ, ← shr_bit hx] at HS
      generalize (fillF n (bitsL x k))[k] = y at gc
      clear hfl
      go_wp2
      go_roundw
      case rel => exact ⟨k + 1, by omega, by go_num, HS.out.1, Hb.out.trans (HS.out.2 _ (Nat.le_refl _))⟩
      case measure => simp [intOf]; omega
    · have hkn : k = n := by omega
      subst hkn
      have hO := HO.out
      rw [fillF_end (bitsL_len x k)] at hO
      have HO' := Lib.hid hO
      clear hO
      go_wp2
      go_ret
      exact ⟨_, rfl, HO'.out, Hb.out⟩
end Go.Proofs.YtdiagnhdigakpaaGreatDoor.Lg
/- The contracts of Number, Of, ToVec, ToInt, numbers, calculate, Add, Sub and Mul. -/
namespace Go.Proofs.YtdiagnhdigakpaaGreatDoor.Lg
open Go.RowKit

theorem isLength_any (n : Int) (w : World) :
    Calls Tryz.prog 144 #[.int .i64 n] w fun e w' => e = .returned (.bool (decide (1 ≤ n) && decide (n ≤ 64))) ∧ w = w' := by
  by_cases h1 : 1 ≤ n
  · by_cases h2 : n ≤ 64
    · have hd : (decide (1 ≤ n) && decide (n ≤ 64)) = true := by simp [h1, h2]
      rw [hd]
      have hd1 : decide (1 ≤ n) = true := by simpa using h1
      have hd2 : decide (n ≤ 64) = true := by simpa using h2
      clear hd
      go_enter Tryz.func144, Tryz.ntmps144
      go_wp2
      go_ret
      exact ⟨rfl, rfl⟩
    · have hd : (decide (1 ≤ n) && decide (n ≤ 64)) = false := by simp [h2]
      rw [hd]
      have hd1 : decide (1 ≤ n) = true := by simpa using h1
      have hd2 : decide (n ≤ 64) = false := by simpa using h2
      clear hd
      go_enter Tryz.func144, Tryz.ntmps144
      go_wp2
      go_ret
      exact ⟨rfl, rfl⟩
  · have hd : (decide (1 ≤ n) && decide (n ≤ 64)) = false := by simp [h1]
    rw [hd]
    have hd1 : decide (1 ≤ n) = false := by simpa using h1
    clear hd
    go_enter Tryz.func144, Tryz.ntmps144
    go_wp2
    go_ret
    exact ⟨rfl, rfl⟩

/-- The number of an int as 64 bits. -/
def toU (k : Int) : Nat := (k % 18446744073709551616).toNat
theorem toU_lt (k : Int) : toU k < 18446744073709551616 := by unfold toU; omega
theorem toU_wrap (k : Int) : IntKind.u64.wrap k = (toU k : Nat) := by rw [IntKind.wrap_u64]; unfold toU; omega
theorem toU_nat (k : Nat) (h : k < 18446744073709551616) : toU (k : Int) = k := by unfold toU; omega
/-- What Of and ToVec return. -/
def okN (n : Int) : Bool := decide (1 ≤ n) && decide (n ≤ 64)
def ofV (k n : Int) : List Nat := if okN n then bitsL (toU k) n.toNat else []
def ofE (r : Nat) (n : Int) : Nat := if okN n then 0 else r
theorem okN_nat {n : Int} (h : okN n = true) : ∃ m : Nat, n = m ∧ 1 ≤ m ∧ m ≤ 64 := by
  unfold okN at h
  simp at h
  exact ⟨n.toNat, by omega, by omega, by omega⟩

theorem length_yes {n : Int} (h : okN n = true) (w : World) : Calls Tryz.prog 144 #[.int .i64 n] w fun e w' => e = .returned (.bool true) ∧ w = w' := by
  have := isLength_any n w
  unfold okN at h
  rwa [h] at this
theorem length_no {n : Int} (h : okN n = false) (w : World) : Calls Tryz.prog 144 #[.int .i64 n] w fun e w' => e = .returned (.bool false) ∧ w = w' := by
  have := isLength_any n w
  unfold okN at h
  rwa [h] at this

theorem vof_any (k n : Int) (w : World) :
    Calls Tryz.prog 118 #[.int .i64 k, .int .i64 n] w fun e w' => ∃ u, e = .returned (.tuple #[u, .int .i64 (ofE 2 n : Nat)]) ∧ Sl w' u (ofV k n) ∧ Below w.heap.size w w' := by
  by_cases h : okN n = true
  · have hV : ofV k n = bitsL (toU k) n.toNat := by unfold ofV; rw [h]; rfl
    have hE : ofE 2 n = 0 := by unfold ofE; rw [h]; rfl
    rw [hV, hE]
    have HL := Lib.hid (length_yes h)
    obtain ⟨m, rfl, h1, h64⟩ := okN_nat h
    clear h hV hE
    rw [Int.toNat_natCast]
    have HU := Lib.hid (toU_wrap k)
    have HB := Lib.hid (bitsOf_any (toU k) m w (toU_lt k) h64)
    rw [← HU.out] at HB
    go_enter Tryz.func118, Tryz.ntmps118
    go_wp2_with (first | (go_at_call 144; refine (HL.out _).mono ?_; rintro e w' ⟨rfl, rfl⟩) | (go_at_call 145; refine (HB.out).mono ?_; rintro e w2 ⟨u, rfl, ho, hb⟩))
    go_ret2
    exact ⟨_, rfl, ho.sl, hb⟩
  · have h' : okN n = false := by simpa using h
    have hV : ofV k n = [] := by unfold ofV; rw [h']; rfl
    have hE : ofE 2 n = 2 := by unfold ofE; rw [h']; rfl
    rw [hV, hE]
    have HL := Lib.hid (length_no h')
    clear h h' hV hE
    go_enter Tryz.func118, Tryz.ntmps118
    go_wp2_with (first | (go_at_call 144; refine (HL.out _).mono ?_; rintro e w' ⟨rfl, rfl⟩))
    go_ret2
    exact ⟨_, rfl, sl_nil _, Below.refl _ _⟩
/-- What Number returns. -/
def numV (zs : List Nat) : Nat := if isV zs && knB zs then num zs else 0
def numE (zs : List Nat) : Nat := if isV zs then (if knB zs then 0 else 4) else 2
theorem num_yes {zs : List Nat} (h : isV zs = true) (hk : knB zs = true) : numV zs = num zs ∧ numE zs = 0 := by unfold numV numE; rw [h, hk]; exact ⟨rfl, rfl⟩
theorem num_unk {zs : List Nat} (h : isV zs = true) (hk : knB zs = false) : numV zs = 0 ∧ numE zs = 4 := by unfold numV numE; rw [h, hk]; exact ⟨rfl, rfl⟩
theorem num_no {zs : List Nat} (h : isV zs = false) : numV zs = 0 ∧ numE zs = 2 := by unfold numV numE; rw [h]; exact ⟨rfl, rfl⟩
theorem ret_uu {a b : Nat} {c d : Nat} (h : a = b) (h' : c = d) : Ending.returned (.tuple #[.int .u64 (a : Nat), .int .i64 (c : Nat)]) = .returned (.tuple #[.int .u64 (b : Nat), .int .i64 (d : Nat)]) := by rw [h, h']

theorem number_any (v : Value) (zs : List Nat) (w : World) (h : Sl w v zs) :
    Calls Tryz.prog 127 #[v] w fun e w' => e = .returned (.tuple #[.int .u64 (numV zs : Nat), .int .i64 (numE zs : Nat)]) ∧ w = w' := by
  have hK := known_any v zs w h
  have HS := Lib.hid h
  obtain ⟨A, c, rfl, hn, _⟩ := h
  by_cases hv : isV zs = true
  · have h64 := (isV_bits hv).2.2
    rw [txtE_yes hv] at hK
    by_cases hk : knB zs = true
    · rw [show knV zs = true by unfold knV; rw [hv, hk]; rfl] at hK
      rw [(num_yes hv hk).1, (num_yes hv hk).2]
      have HK := Lib.hid hK
      clear hK hv hk
      go_enter Tryz.func127, Tryz.ntmps127
      go_wp2_with (first | (go_at_call 154; refine (HK.out).mono ?_; rintro e w' ⟨rfl, rfl⟩) | (go_at_call 155; refine (sumOfOnes_any _ _ _ HS.out h64).mono ?_; rintro e w' ⟨rfl, rfl⟩))
      go_ret2
      exact ⟨rfl, rfl⟩
    · have hk' : knB zs = false := by simpa using hk
      rw [show knV zs = false by unfold knV; rw [hv, hk']; rfl] at hK
      rw [(num_unk hv hk').1, (num_unk hv hk').2]
      have HK := Lib.hid hK
      clear hK hv hk hk'
      go_enter Tryz.func127, Tryz.ntmps127
      go_wp2_with (first | (go_at_call 154; refine (HK.out).mono ?_; rintro e w' ⟨rfl, rfl⟩))
      go_ret2
      exact ⟨rfl, rfl⟩
  · have hv' : isV zs = false := by simpa using hv
    rw [txtE_no hv', show knV zs = false by unfold knV; rw [hv']; rfl] at hK
    rw [(num_no hv').1, (num_no hv').2]
    have HK := Lib.hid hK
    clear hK hv hv'
    go_enter Tryz.func127, Tryz.ntmps127
    go_wp2_with (first | (go_at_call 154; refine (HK.out).mono ?_; rintro e w' ⟨rfl, rfl⟩))
    go_ret2
    exact ⟨rfl, rfl⟩

/-- What ToInt returns. -/
def intV (zs : List Nat) : Nat := if isV zs && decide (zs.length ≤ 31) then num zs else 0
def intE (zs : List Nat) : Nat := if isV zs then (if zs.length ≤ 31 then 0 else 19) else 2
theorem wrap_i64 {a : Nat} (h : a < 9223372036854775808) : IntKind.i64.wrap (a : Int) = (a : Int) := by rw [IntKind.wrap_i64]; omega
theorem two_nb {a b : List Nat} (h : isV b = false) : two a b = false := by unfold two; rw [h, Bool.and_false, Bool.false_and]
theorem two_na {a b : List Nat} (h : isV a = false) : two a b = false := by unfold two; rw [h]; rfl
/-- Two vectors of one length, and both known. -/
def both (a b : List Nat) : Bool := knB a && knB b
def nbE (a b : List Nat) : Nat := if two a b then (if both a b then 0 else 4) else 2
def nbX (a b : List Nat) : Nat := if two a b && both a b then num a else 0
def nbY (a b : List Nat) : Nat := if two a b && both a b then num b else 0
theorem nb_yes {a b : List Nat} (h : two a b = true) (h' : both a b = true) : nbX a b = num a ∧ nbY a b = num b ∧ nbE a b = 0 := by unfold nbX nbY nbE; rw [h, h']; exact ⟨rfl, rfl, rfl⟩
theorem nb_unk {a b : List Nat} (h : two a b = true) (h' : both a b = false) : nbX a b = 0 ∧ nbY a b = 0 ∧ nbE a b = 4 := by unfold nbX nbY nbE; rw [h, h']; exact ⟨rfl, rfl, rfl⟩
theorem nb_no {a b : List Nat} (h : two a b = false) : nbX a b = 0 ∧ nbY a b = 0 ∧ nbE a b = 2 := by unfold nbX nbY nbE; rw [h]; exact ⟨rfl, rfl, rfl⟩

end Go.Proofs.YtdiagnhdigakpaaGreatDoor.Lg
/- The contracts of the program's equal and Equal. -/
namespace Go.Proofs.YtdiagnhdigakpaaGreatDoor
open Go.RowKit

/-- All pairs of two rows are so, and they are of one length. -/
def pairB (g : Va → Va → Bool) : List Va → List Va → Bool
  | [], [] => true
  | v :: r, u :: s => g v u && pairB g r s
  | _, _ => false
theorem pair_len {g : Va → Va → Bool} : ∀ {ls ms : List Va}, ls.length ≠ ms.length → pairB g ls ms = false
  | [], [], h => absurd rfl h
  | [], _ :: _, _ => rfl
  | _ :: _, [], _ => rfl
  | v :: r, u :: s, h => by
    rw [pairB, pair_len (fun e => h (by simp [e])), Bool.and_false]
theorem pair_no {g : Va → Va → Bool} : ∀ {ls ms : List Va} {k : Nat} (h : k < ls.length) (h' : k < ms.length), g ls[k] ms[k] = false → pairB g ls ms = false
  | [], _, _, h, _, _ => absurd h (Nat.not_lt_zero _)
  | _ :: _, [], _, _, h', _ => absurd h' (Nat.not_lt_zero _)
  | v :: r, u :: s, 0, _, _, he => by
    have he : g v u = false := he
    rw [pairB, he, Bool.false_and]
  | v :: r, u :: s, k + 1, h, h', he => by
    rw [pairB, pair_no (k := k) (by simpa using h) (by simpa using h') (by simpa using he), Bool.and_false]
theorem pair_all {g : Va → Va → Bool} : ∀ {ls ms : List Va}, ls.length = ms.length → (∀ (k : Nat) (h : k < ls.length) (h' : k < ms.length), g ls[k] ms[k] = true) → pairB g ls ms = true
  | [], [], _, _ => rfl
  | [], _ :: _, h, _ => by cases h
  | _ :: _, [], h, _ => by cases h
  | v :: r, u :: s, h, ha => by
    have h0 : g v u = true := ha 0 (by simp) (by simp)
    rw [pairB, h0, Bool.true_and]
    exact pair_all (by simpa using h) fun k hk hk' => ha (k + 1) (by simpa using hk) (by simpa using hk')
set_option maxHeartbeats 4000000 in
theorem eqfV_diff (A B : Option Addr) (n m c d : Nat) (f : Value) (w : World) (h : ((n : Int) != (m : Int)) = true) :
    Calls Tryz.prog 113 #[.slice A n c, .slice B m d, f] w fun e w' => e = .returned (.bool false) ∧ Below w.heap.size w w' := by
  go_enter Tryz.func113, Tryz.ntmps113
  go_wp2
  go_ret
  exact ⟨rfl, Below.refl _ _⟩
set_option maxRecDepth 100000 in
set_option maxHeartbeats 8000000 in
theorem eqfV_same (g : Va → Va → Bool) (D D' : Option Addr) (c d b o b' o' : Nat) (ls ls' : List Va) (w : World)
    (hl : ls.length = ls'.length) (hx : ls.length ≤ 9223372036854775807)
    (HD : Hid (ls.length = 0 ∨ D = some ⟨b, o, none⟩)) (HV : Hid (VaAt w ls b o ∨ ls.length = 0)) (HD' : Hid (ls'.length = 0 ∨ D' = some ⟨b', o', none⟩)) (HV' : Hid (VaAt w ls' b' o' ∨ ls'.length = 0))
    (HS : Hid (∀ (k : Nat) (h : k < ls.length) (h' : k < ls'.length) (u : World) (cs cs' : List Value), Below w.heap.size w u → VaC u ls[k] cs → VaC u ls'[k] cs' → Calls Tryz.prog 77 #[.agg cs.toArray, .agg cs'.toArray] u fun e w' => e = .returned (.bool (g ls[k] ls'[k])) ∧ Below u.heap.size u w')) :
    Calls Tryz.prog 113 #[.slice D ls.length c, .slice D' ls.length d, .func (.func 77) #[] #[]] w fun e w' => e = .returned (.bool (pairB g ls ls')) ∧ Below w.heap.size w w' := by
  have HL := Lib.hid hl
  have f3 : ((ls.length : Int) != (ls.length : Int)) = false := by simp
  clear hl
  go_enter Tryz.func113, Tryz.ntmps113
  go_wp2_with fail
  go_loopw [17] (fun i wr => ∃ j : Nat, j ≤ ls.length ∧ i = .int .i64 j ∧ Hid (∀ (k : Nat) (h : k < ls.length) (h' : k < ls'.length), k < j → g ls[k] ls'[k] = true) ∧ Hid (Below w.heap.size w wr)) (fun i _ => ls.length - (intOf i).toNat)
  case atStart => exact ⟨0, Nat.zero_le _, rfl, fun k _ _ h => absurd h (Nat.not_lt_zero _), Below.refl _ _⟩
  case round =>
    obtain ⟨j, hj, rfl, hr, HBR⟩ := hrel
    by_cases hlt : j < ls.length
    · have hlt' : j < ls'.length := by have := HL.out; omega
      have hD : D = some ⟨b, o, none⟩ := HD.out.resolve_left (by omega)
      have hD' : D' = some ⟨b', o', none⟩ := HD'.out.resolve_left (by omega)
      subst hD hD'
      obtain ⟨kk, nn, A1, m1, c1, A2, m2, c2, hva, g0, g1, g2, g3⟩ := row_at ls o (HV.out.resolve_right (by omega)) j hlt
      obtain ⟨kk', nn', A1', m1', c1', A2', m2', c2', hva', g0', g1', g2', g3'⟩ := row_at ls' o' (HV'.out.resolve_right (by omega)) j hlt'
      have hba := below_alloc wr (.cells #[.int .i64 kk, .int .i64 nn, .slice A1 m1 c1, .slice A2 m2 c2] 38)
      have hbb := below_then HBR.out (below_then hba (below_alloc _ (.cells #[.int .i64 kk', .int .i64 nn', .slice A1' m1' c1', .slice A2' m2' c2'] 38)))
      replace g0 := cell_stays HBR.out g0
      replace g1 := cell_stays HBR.out g1
      replace g2 := cell_stays HBR.out g2
      replace g3 := cell_stays HBR.out g3
      replace g0' := cell_stays (below_then HBR.out hba) g0'
      replace g1' := cell_stays (below_then HBR.out hba) g1'
      replace g2' := cell_stays (below_then HBR.out hba) g2'
      replace g3' := cell_stays (below_then HBR.out hba) g3'
      have d1 : decide ((j : Int) < (ls.length : Int)) = true := by rw [decide_eq_true_eq]; omega
      have d2 : decide (j < ls.length) = true := by rw [decide_eq_true_eq]; omega
      have hji : (j : Int) < (ls.length : Int) := by omega
      have hj0 : (0 : Int) ≤ (j : Int) := by omega
      have HX := Lib.hid (HS.out j hlt hlt' _ _ _ hbb (VaC.later hbb _ _ hva) (VaC.later hbb _ _ hva'))
      have HBB := Lib.hid hbb
      cases hf : g ls[j] ls'[j] with
      | false =>
        have HR := Lib.hid (pair_no hlt hlt' hf)
        rw [hf] at HX
        clear hf hr hva hva' hba hbb
        go_wp2_with fail
        refine (HX.out).mono ?_
        rintro e w3 ⟨rfl, hb3⟩
        have HB3 := Lib.hid (below_then HBB.out hb3)
        clear hb3
        go_wp2
        go_ret
        exact ⟨by rw [HR.out]; rfl, HB3.out⟩
      | true =>
        have HR : Hid (∀ (k : Nat) (h : k < ls.length) (h' : k < ls'.length), k < j + 1 → g ls[k] ls'[k] = true) := fun k h h' hk => by
          by_cases e : k < j
          · exact hr.out k h h' e
          · have : k = j := by omega
            subst this
            exact hf
        rw [hf] at HX
        clear hf hr hva hva' hba hbb
        go_wp2_with fail
        refine (HX.out).mono ?_
        rintro e w3 ⟨rfl, hb3⟩
        have HB3 := Lib.hid (below_then HBB.out hb3)
        clear hb3
        go_wp2
        go_roundw
        case rel => exact ⟨j + 1, by omega, by go_num, HR, HB3.out⟩
        case measure => simp [intOf]; omega
    · have d1 : decide ((j : Int) < (ls.length : Int)) = false := by rw [decide_eq_false_iff_not]; omega
      have d2 : decide (j < ls.length) = false := by rw [decide_eq_false_iff_not]; omega
      have HR := Lib.hid (pair_all (g := g) HL.out (fun k h h' => hr.out k h h' (by omega)))
      clear hr
      go_wp2
      go_ret
      exact ⟨by rw [HR.out]; rfl, HBR.out⟩
set_option maxRecDepth 100000 in
set_option maxHeartbeats 8000000 in
theorem equal_gen (k n k' n' : Int) (v5 v6 v5' v6' : Value) (r s : Bool) (w : World)
    (HE : Hid (∀ u, Below w.heap.size w u → Calls Tryz.prog 112 #[v5, v5'] u fun e w' => e = .returned (.bool r) ∧ Below u.heap.size u w'))
    (HF : Hid (∀ u, Below w.heap.size w u → Calls Tryz.prog 113 #[v6, v6', .func (.func 77) #[] #[]] u fun e w' => e = .returned (.bool s) ∧ Below u.heap.size u w')) :
    Calls Tryz.prog 77 #[.agg #[.int .i64 k, .int .i64 n, v5, v6], .agg #[.int .i64 k', .int .i64 n', v5', v6']] w fun e w' => e = .returned (.bool ((n == n') && (r && s))) ∧ Below w.heap.size w w' := by
  have H0 := Lib.hid (boxes2 w 38 38 #[.int .i64 k, .int .i64 n, v5, v6] #[.int .i64 k', .int .i64 n', v5', v6']).2.2.1
  cases e1 : (n == n')
  · clear HE HF
    go_enter Tryz.func77, Tryz.ntmps77
    go_wp2
    go_ret
    exact ⟨rfl, H0.out⟩
  cases r
  · clear HF
    go_enter Tryz.func77, Tryz.ntmps77
    go_wp2_with fail
    refine (HE.out _ H0.out).mono ?_
    rintro e w1 ⟨rfl, hb1⟩
    have H1 := Lib.hid (below_then H0.out hb1)
    clear hb1
    go_wp2
    go_ret
    exact ⟨rfl, H1.out⟩
  cases s
  all_goals
    go_enter Tryz.func77, Tryz.ntmps77
    go_wp2_with fail
    refine (HE.out _ H0.out).mono ?_
    rintro e w1 ⟨rfl, hb1⟩
    have H1 := Lib.hid (below_then H0.out hb1)
    obtain ⟨kt, kv⟩ := boxvv_cells hb1
    obtain ⟨p0, p1, p2, p3⟩ := four kt
    obtain ⟨q0, q1, q2, q3⟩ := four kv
    clear hb1 kt kv
    go_wp2_with fail
    refine (HF.out _ H1.out).mono ?_
    rintro e w2 ⟨rfl, hb2⟩
    have H2 := Lib.hid (below_then H1.out hb2)
    clear hb2 p0 p1 p2 p3 q0 q1 q2 q3
    go_wp2
    go_ret
    exact ⟨rfl, H2.out⟩
/-- Are two values the same, but for the kind? -/
def eqvV : Va → Va → Bool
  | .mk _ n bs ls, .mk _ n' bs' ls' => decide (n = n') && (decide (bs = bs') && alikeVs ls ls')
theorem pair_alike : ∀ ls ms : List Va, pairB alikeV ls ms = alikeVs ls ms
  | [], [] => by simp [pairB, alikeVs]
  | [], _ :: _ => by simp [pairB, alikeVs]
  | _ :: _, [] => by simp [pairB, alikeVs]
  | v :: r, u :: s => by rw [pairB, alikeVs, pair_alike r s]
theorem eqv_kind {v w : Va} (h : v.kind = w.kind) : eqvV v w = alikeV v w := by
  obtain ⟨k, n, bs, ls⟩ := v
  obtain ⟨k', n', bs', ls'⟩ := w
  have h : k = k' := h
  subst h
  rw [alikeV, eqvV]
  simp
theorem has_kind {t : Ty} {v : Va} (h : hasV t v = true) : v.kind = t.kind := by
  obtain ⟨k, l, nm, ns, es⟩ := t
  obtain ⟨k', n, bs, ls⟩ := v
  rw [hasV_eq, Bool.and_eq_true, decide_eq_true_eq] at h
  exact h.1
theorem eqlB (xs ys : List Nat) : Lg.eqL xs ys = decide (xs = ys) := rfl
theorem pequal_flat {t : Ty} {v u : Va} {cs cs' : List Value} {w : World} (hf : HasF t v) (hf' : HasF t u) (hl : v.bits.length ≤ 64) (hl' : u.bits.length ≤ 64) (h : VaC w v cs) (h' : VaC w u cs') :
    Calls Tryz.prog 77 #[.agg cs.toArray, .agg cs'.toArray] w fun e w' => e = .returned (.bool (alikeV v u)) ∧ Below w.heap.size w w' := by
  have hk : v.kind = u.kind := (has_kind (of_hasF hf)).trans (has_kind (of_hasF hf')).symm
  rw [← eqv_kind hk]
  have h1 : v.list = [] := by cases hf <;> rfl
  have h1' : u.list = [] := by cases hf' <;> rfl
  obtain ⟨C, x, p, D, y, q, rfl, hx, hy, hb, _, _, _⟩ := vaC_open h
  obtain ⟨C', x', p', D', y', q', rfl, hx', hy', hb', _, _, _⟩ := vaC_open h'
  obtain ⟨k, n, bs, ls⟩ := v
  obtain ⟨k', n', bs', ls'⟩ := u
  obtain rfl : ls = [] := h1
  obtain rfl : ls' = [] := h1'
  obtain rfl : y = 0 := hy
  obtain rfl : y' = 0 := hy'
  have hl : bs.length ≤ 64 := hl
  have hl' : bs'.length ≤ 64 := hl'
  refine (equal_gen k n k' n' _ _ _ _ (Lg.eqL bs bs') (pairB alikeV [] []) w (fun z hz => Lg.equal_any _ _ bs bs' z (bitS_sl (hb.later hz) (by omega)) (bitS_sl (hb'.later hz) (by omega))) (fun z _ => eqfV_same alikeV D D' q q' 0 0 0 0 [] [] z rfl (by simp) (.inl rfl) (.inr rfl) (.inl rfl) (.inr rfl) (fun k hk => absurd hk (Nat.not_lt_zero _)))).mono ?_
  rintro e w' ⟨rfl, hB⟩
  refine ⟨?_, hB⟩
  rw [int_beq', eqlB, pair_alike]
  rfl
theorem hasF_bits {f : List UInt8 → Bool} {t : Ty} {v : Va} (ht : Flat f t) (h : HasF t v) : v.bits.length ≤ 64 := by
  cases h with
  | bit => show 1 ≤ 64; omega
  | bool => show 0 ≤ 64; omega
  | int => show 0 ≤ 64; omega
  | vec nm ns es l bs hl hb =>
    cases ht with
    | sc k hk => omega
    | vec l h1 h2 => show bs.length ≤ 64; omega
  | en => show 0 ≤ 64; omega
theorem pequal_any {t : Ty} {v u : Va} {cs cs' : List Value} {w : World} (ht : Good isNameL t) (hv : HasG t v) (hu : HasG t u) (h : VaC w v cs) (h' : VaC w u cs') :
    Calls Tryz.prog 77 #[.agg cs.toArray, .agg cs'.toArray] w fun e w' => e = .returned (.bool (alikeV v u)) ∧ Below w.heap.size w w' := by
  cases ht with
  | flat t ht =>
    have hv' : HasF t v := by
      cases hv with
      | flat _ _ hv => exact hv
      | arr => exact absurd rfl (flat_kind ht).1
    have hu' : HasF t u := by
      cases hu with
      | flat _ _ hu => exact hu
      | arr => exact absurd rfl (flat_kind ht).1
    exact pequal_flat hv' hu' (hasF_bits ht hv') (hasF_bits ht hu') h h'
  | arr l e h1 h2 he =>
    cases hv with
    | flat _ _ hv => cases hv
    | arr _ _ _ _ ls hl hh =>
      cases hu with
      | flat _ _ hu => cases hu
      | arr _ _ _ _ ls' hl' hh' =>
        obtain ⟨C, x, p, D, y, q, rfl, hx, hy, hb, _, hy2, hL⟩ := vaC_open h
        obtain ⟨C', x', p', D', y', q', rfl, hx', hy', hb', _, _, hL'⟩ := vaC_open h'
        obtain rfl : x = 0 := hx
        obtain rfl : x' = 0 := hx'
        obtain rfl : y = ls.length := hy
        obtain rfl : y' = ls'.length := hy'
        obtain ⟨b, o, d1, d2⟩ := va_rows (ls := ls) hL
        obtain ⟨b', o', d1', d2'⟩ := va_rows (ls := ls') hL'
        have hll : ls.length = ls'.length := by omega
        refine (equal_gen 6 0 6 0 _ _ _ _ (Lg.eqL [] []) (pairB alikeV ls ls') w (fun z hz => Lg.equal_any _ _ [] [] z (bitS_sl (hb.later hz) (by simp)) (bitS_sl (hb'.later hz) (by simp))) (fun z hz => by
          rw [← hll]
          refine eqfV_same alikeV D D' q q' b o b' o' ls ls' z hll hy2 d1 ?_ d1' ?_ (fun k hk hk' z2 c1 c2 hz2 g1 g2 => pequal_flat (hh _ (List.getElem_mem hk)) (hh' _ (List.getElem_mem hk')) (hasF_bits he (hh _ (List.getElem_mem hk))) (hasF_bits he (hh' _ (List.getElem_mem hk'))) g1 g2)
          · rcases d2 with g | g
            · exact .inl (VaAt.later hz _ _ _ g)
            · exact .inr g
          · rcases d2' with g | g
            · exact .inl (VaAt.later hz _ _ _ g)
            · exact .inr g)).mono ?_
        rintro ee w' ⟨rfl, hB⟩
        refine ⟨?_, hB⟩
        rw [pair_alike, eqlB, alikeV]
        simp
end Go.Proofs.YtdiagnhdigakpaaGreatDoor
/- The contracts of the program's Equal, and of the reference's parts and Small. -/
namespace Go.Proofs.YtdiagnhdigakpaaGreatDoor
open Go.RowKit

set_option maxRecDepth 100000 in
set_option maxHeartbeats 8000000 in
theorem pEqual_gen (k l k1 n1 k2 n2 : Int) (nm : ByteArray) (t3 t4 v5 v6 u5 u6 : Value) (a b z : Bool) (w : World)
    (HA : Hid (∀ u, Below w.heap.size w u → Calls Tryz.prog 30 #[.agg #[.int .i64 k, .int .i64 l, .string nm, t3, t4], .agg #[.int .i64 k1, .int .i64 n1, v5, v6]] u fun e w' => e = .returned (.bool a) ∧ Below u.heap.size u w'))
    (HB : Hid (∀ u, Below w.heap.size w u → Calls Tryz.prog 30 #[.agg #[.int .i64 k, .int .i64 l, .string nm, t3, t4], .agg #[.int .i64 k2, .int .i64 n2, u5, u6]] u fun e w' => e = .returned (.bool b) ∧ Below u.heap.size u w'))
    (HX : Hid (a = true → b = true → ∀ u, Below w.heap.size w u → Calls Tryz.prog 77 #[.agg #[.int .i64 k1, .int .i64 n1, v5, v6], .agg #[.int .i64 k2, .int .i64 n2, u5, u6]] u fun e w' => e = .returned (.bool z) ∧ Below u.heap.size u w')) :
    Calls Tryz.prog 32 #[.agg #[.int .i64 k, .int .i64 l, .string nm, t3, t4], .agg #[.int .i64 k1, .int .i64 n1, v5, v6], .agg #[.int .i64 k2, .int .i64 n2, u5, u6]] w fun e w' => e = .returned (.tuple #[.bool (a && (b && z)), .int .i64 ((if a && b then 0 else 2 : Nat) : Int)]) ∧ Below w.heap.size w w' := by
  have H3 := Lib.hid (boxes3 w 26 38 38 #[.int .i64 k, .int .i64 l, .string nm, t3, t4] #[.int .i64 k1, .int .i64 n1, v5, v6] #[.int .i64 k2, .int .i64 n2, u5, u6])
  have H0 := Lib.hid H3.out.2.2.2.1
  cases a
  · clear HB HX
    go_enter Tryz.func32, Tryz.ntmps32
    go_wp2_with fail
    refine (HA.out _ H0.out).mono ?_
    rintro e w1 ⟨rfl, hb1⟩
    have H1 := Lib.hid (below_then H0.out hb1)
    clear hb1
    go_wp2
    go_ret2
    exact ⟨rfl, H1.out⟩
  cases b
  · clear HX
    go_enter Tryz.func32, Tryz.ntmps32
    go_wp2_with fail
    refine (HA.out _ H0.out).mono ?_
    rintro e w1 ⟨rfl, hb1⟩
    have H1 := Lib.hid (below_then H0.out hb1)
    obtain ⟨p0, p1, p2, p3, p4⟩ := fives (H3.out.1.later hb1)
    obtain ⟨q0, q1, q2, q3⟩ := four (H3.out.2.1.later hb1)
    obtain ⟨r0, r1, r2, r3⟩ := four (H3.out.2.2.1.later hb1)
    clear hb1
    go_wp2_with fail
    refine (HB.out _ H1.out).mono ?_
    rintro e w2 ⟨rfl, hb2⟩
    have H2 := Lib.hid (below_then H1.out hb2)
    clear hb2 p0 p1 p2 p3 p4 q0 q1 q2 q3 r0 r1 r2 r3
    go_wp2
    go_ret2
    exact ⟨rfl, H2.out⟩
  · have HY := Lib.hid (HX.out rfl rfl)
    clear HX
    go_enter Tryz.func32, Tryz.ntmps32
    go_wp2_with fail
    refine (HA.out _ H0.out).mono ?_
    rintro e w1 ⟨rfl, hb1⟩
    have H1 := Lib.hid (below_then H0.out hb1)
    have HC := Lib.hid hb1
    obtain ⟨p0, p1, p2, p3, p4⟩ := fives (H3.out.1.later hb1)
    obtain ⟨q0, q1, q2, q3⟩ := four (H3.out.2.1.later hb1)
    obtain ⟨r0, r1, r2, r3⟩ := four (H3.out.2.2.1.later hb1)
    clear hb1
    go_wp2_with fail
    refine (HB.out _ H1.out).mono ?_
    rintro e w2 ⟨rfl, hb2⟩
    have H2 := Lib.hid (below_then H1.out hb2)
    clear p0 p1 p2 p3 p4 q0 q1 q2 q3 r0 r1 r2 r3
    obtain ⟨q0, q1, q2, q3⟩ := four (H3.out.2.1.later (below_then HC.out hb2))
    obtain ⟨r0, r1, r2, r3⟩ := four (H3.out.2.2.1.later (below_then HC.out hb2))
    clear hb2
    go_wp2_with fail
    refine (HY.out _ H2.out).mono ?_
    rintro e w3 ⟨rfl, hb3⟩
    have HB3 := Lib.hid (below_then H2.out hb3)
    clear hb3 q0 q1 q2 q3 r0 r1 r2 r3
    go_wp2
    go_ret2
    exact ⟨rfl, HB3.out⟩
/-- What Equal returns. -/
def eqR (t : Ty) (v u : Va) : Bool := hasT t v && (hasT t u && alikeV v u)
def eqE (t : Ty) (v u : Va) : Nat := if hasT t v && hasT t u then 0 else 2
theorem hasT_good {t : Ty} {v : Va} (h : hasT t v = true) : Good isNameL t ∧ HasG t v := by
  unfold hasT at h
  rw [Bool.and_eq_true] at h
  exact ⟨valid_good h.1, hasG_of (valid_good h.1) h.2⟩
theorem pEqual_any (t : Ty) (v u : Va) (cs c1 c2 : List Value) (w : World) (ht : smT t) (h : TyC w t cs) (h1 : VaC w v c1) (h2 : VaC w u c2) :
    Calls Tryz.prog 32 #[.agg cs.toArray, .agg c1.toArray, .agg c2.toArray] w fun e w' => e = .returned (.tuple #[.bool (eqR t v u), .int .i64 (eqE t v u : Nat)]) ∧ Below w.heap.size w w' := by
  have h0 := h
  have h10 := h1
  have h20 := h2
  obtain ⟨A, n, c, B, m, d, rfl, _⟩ := tyC_open h
  obtain ⟨C, x, p, D, y, q, rfl, _⟩ := vaC_open h1
  obtain ⟨C', x', p', D', y', q', rfl, _⟩ := vaC_open h2
  exact pEqual_gen _ _ _ _ _ _ _ _ _ _ _ _ _ (hasT t v) (hasT t u) (alikeV v u) w (fun z hz => phas_any t v _ _ z ht (TyC.later hz _ _ h0) (VaC.later hz _ _ h10)) (fun z hz => phas_any t u _ _ z ht (TyC.later hz _ _ h0) (VaC.later hz _ _ h20))
    (fun ha hb z hz => pequal_any (hasT_good ha).1 (hasT_good ha).2 (hasT_good hb).2 (VaC.later hz _ _ h10) (VaC.later hz _ _ h20))
end Go.Proofs.YtdiagnhdigakpaaGreatDoor
/- The contracts of the reference's parts and Small. -/
namespace Go.Proofs.YtdiagnhdigakpaaGreatDoor
open Go.RowKit

theorem partsV_def (k n : Int) (bs : List Nat) (ls : List Va) (left : Int) : partsV (.mk k n bs ls) left = partsVs ls (left - (1 + bs.length)) := by rw [partsV]
theorem partsVs_cons (v : Va) (r : List Va) (left : Int) : partsVs (v :: r) left = if left < 0 then left else partsVs r (partsV v left) := by rw [partsVs]
theorem partsVs_nil (left : Int) : partsVs [] left = left := by rw [partsVs]
mutual
theorem parts_le : ∀ (v : Va) (left : Int), partsV v left ≤ left
  | .mk k n bs ls, left => by
    rw [partsV_def]
    have := partss_le ls (left - (1 + bs.length))
    omega
theorem partss_le : ∀ (ls : List Va) (left : Int), partsVs ls left ≤ left
  | [], left => by rw [partsVs_nil]; omega
  | v :: r, left => by
    rw [partsVs_cons]
    split
    · omega
    · have h1 := parts_le v left
      have h2 := partss_le r (partsV v left)
      omega
end
theorem parts_bits {k n : Int} {bs : List Nat} {ls : List Va} {left : Int} (h : 0 ≤ partsV (.mk k n bs ls) left) : (bs.length : Int) ≤ left := by
  rw [partsV_def] at h
  have := partss_le ls (left - (1 + bs.length))
  omega
mutual
theorem parts_sm : ∀ (v : Va) (left : Int), left ≤ 9000 → 0 ≤ partsV v left → smV v ∧ partsV v left + 1 ≤ left
  | .mk k n bs ls, left, hl, h => by
    have h1 := parts_bits h
    rw [partsV_def] at h
    have h0 := partss_le ls (left - (1 + bs.length))
    obtain ⟨h2, h3⟩ := partss_sm ls (left - (1 + bs.length)) (by omega) h
    rw [smV_def, partsV_def]
    exact ⟨⟨by omega, by omega, h2⟩, by omega⟩
theorem partss_sm : ∀ (ls : List Va) (left : Int), left ≤ 9000 → 0 ≤ partsVs ls left → (∀ v ∈ ls, smV v) ∧ partsVs ls left + ls.length ≤ left
  | [], left, _, h => by
    rw [partsVs_nil] at h ⊢
    exact ⟨by simp, by simp⟩
  | v :: r, left, hl, h => by
    rw [partsVs_cons] at h ⊢
    split at h
    · omega
    · rename_i hn
      rw [if_neg hn]
      have g1 := parts_le v left
      have g2 := partss_le r (partsV v left)
      obtain ⟨a1, a2⟩ := parts_sm v left hl (by omega)
      obtain ⟨b1, b2⟩ := partss_sm r (partsV v left) (by omega) h
      refine ⟨?_, ?_⟩
      · intro x hx
        rcases List.mem_cons.1 hx with rfl | hx
        · exact a1
        · exact b1 x hx
      · rw [List.length_cons]
        omega
end
theorem smallT_def (k l : Int) (nm : ByteArray) (ns : List ByteArray) (es : List Ty) : smallT (.mk k l nm ns es) = (decide (nm.size ≤ 300) && (decide (ns.length ≤ 40) && (decide (es.length ≤ 3) && (ns.all (fun s => decide (s.size ≤ 100)) && smallTs es)))) := by rw [smallT]
theorem smallTs_cons (t : Ty) (r : List Ty) : smallTs (t :: r) = ((decide (t.elem.length ≤ 2) && smallT t) && smallTs r) := by rw [smallTs]
theorem smallTs_all : ∀ l : List Ty, smallTs l = l.all fun t => decide (t.elem.length ≤ 2) && smallT t
  | [] => by rw [smallTs]; rfl
  | t :: r => by rw [smallTs_cons, smallTs_all r, List.all_cons]
theorem small_sm : ∀ (n : Nat) (t : Ty), SizeOf.sizeOf t < n → smallT t = true → smT t
  | 0, _, hz, _ => absurd hz (Nat.not_lt_zero _)
  | n + 1, .mk k l nm ns es, hz, h => by
    rw [smallT_def, smallTs_all] at h
    simp only [Bool.and_eq_true, decide_eq_true_eq, List.all_eq_true] at h
    obtain ⟨h1, h2, h3, h4, h5⟩ := h
    rw [smT_def]
    exact ⟨h1, h2, h3, h4, fun e he => small_sm n e (size_inT hz he) (h5 e he).2⟩
theorem small_smT {t : Ty} (h : smallT t = true) : smT t := small_sm _ t (Nat.lt_succ_self _) h
theorem small_smV {v : Va} (h : 0 ≤ partsV v 9000) : smV v := (parts_sm v 9000 (by omega) h).1
theorem wrap_left (left : Int) (n : Nat) (h0 : 0 ≤ left) (h1 : left ≤ 9000) (hn : n ≤ 9223372036854775807) : wrap64 (left - wrap64 (1 + (n : Int))) = left - (1 + n) := by
  by_cases h : n = 9223372036854775807
  · subst h
    unfold wrap64
    omega
  · unfold wrap64
    omega
/-- What parts returns: so many, and no more than there were. -/
def PartsPost (n : Int) (w : World) (e : Ending) (w' : World) : Prop := e = .returned (.int .i64 n) ∧ Below w.heap.size w w'
set_option maxRecDepth 100000 in
set_option maxHeartbeats 8000000 in
theorem parts_at (kk nn left : Int) (C D : Option Addr) (p q b' o' : Nat) (bs : List Nat) (ls : List Va) (w : World) (h0 : 0 ≤ left) (h9 : left ≤ 9000) (hbl : bs.length ≤ 9223372036854775807) (hx : ls.length ≤ 9223372036854775807)
    (HD : Hid (ls.length = 0 ∨ D = some ⟨b', o', none⟩)) (HV : Hid (VaAt w ls b' o' ∨ ls.length = 0))
    (HS : Hid (∀ (k : Nat) (h : k < ls.length) (u : World) (cs : List Value) (m : Int), 0 ≤ m → m ≤ 9000 → Below w.heap.size w u → VaC u ls[k] cs → Calls Tryz.prog 55 #[.agg cs.toArray, .int .i64 m] u (PartsPost (partsV ls[k] m) u))) :
    Calls Tryz.prog 55 #[.agg #[.int .i64 kk, .int .i64 nn, .slice C bs.length p, .slice D ls.length q], .int .i64 left] w (PartsPost (partsV (.mk kk nn bs ls) left) w) := by
  have hw := Lib.hid (wrap_left left bs.length h0 h9 hbl)
  have H0 := Lib.hid (below_alloc w (.cells #[.int .i64 kk, .int .i64 nn, .slice C bs.length p, .slice D ls.length q] 38))
  rw [partsV_def]
  have H9 := Lib.hid h9
  clear h0 h9 hbl
  go_enter Tryz.func55, Tryz.ntmps55
  go_wp2_with fail
  go_loopw [1, 16] (fun t i wr => ∃ (k : Nat) (L : Int), k ≤ ls.length ∧ i = .int .i64 k ∧ t = .int .i64 L ∧ Hid (L ≤ 9000) ∧ Hid (partsVs ls (left - (1 + bs.length)) = partsVs (ls.drop k) L) ∧ Hid (Below w.heap.size w wr)) (fun _ i _ => ls.length - (intOf i).toNat)
  case atStart => exact ⟨0, left - (1 + bs.length), Nat.zero_le _, rfl, by first | rw [← hw.out] | rfl, (show left - (1 + (bs.length : Int)) ≤ 9000 by have := H9.out; omega), by rw [List.drop_zero]; rfl, H0.out⟩
  case round =>
    obtain ⟨k, L, hk, rfl, rfl, hL, hr, hbr⟩ := hrel
    by_cases hlt : k < ls.length
    · have hD : D = some ⟨b', o', none⟩ := HD.out.resolve_left (by omega)
      subst hD
      obtain ⟨kk2, nn2, A2, m2, c2, A3, m3, c3, hva, g0, g1, g2, g3⟩ := row_at ls o' (HV.out.resolve_right (by omega)) k hlt
      replace g0 := cell_stays hbr.out g0
      replace g1 := cell_stays hbr.out g1
      replace g2 := cell_stays hbr.out g2
      replace g3 := cell_stays hbr.out g3
      have hbb := below_then hbr.out (below_alloc wr (.cells #[.int .i64 kk2, .int .i64 nn2, .slice A2 m2 c2, .slice A3 m3 c3] 38))
      have HBB := Lib.hid hbb
      have d1 : decide ((k : Int) < (ls.length : Int)) = true := by rw [decide_eq_true_eq]; omega
      have d2 : decide (k < ls.length) = true := by rw [decide_eq_true_eq]; omega
      have hki : (k : Int) < (ls.length : Int) := by omega
      have hk0 : (0 : Int) ≤ (k : Int) := by omega
      have hdr := Lib.hid (List.drop_eq_getElem_cons hlt)
      by_cases hneg : L < 0
      · have e1 : decide (L < 0) = true := decide_eq_true hneg
        have HR : Hid (partsVs ls (left - (1 + bs.length)) = L) := by
          show _ = _
          rw [hr.out, hdr.out, partsVs_cons, if_pos hneg]
        clear hneg hva hbb hr hdr
        go_wp2
        go_ret
        exact ⟨by rw [HR.out]; rfl, HBB.out⟩
      · have e1 : decide (L < 0) = false := decide_eq_false hneg
        have HX := Lib.hid (HS.out k hlt _ _ L (by omega) hL.out hbb (VaC.later hbb _ _ hva))
        have HR : Hid (partsVs ls (left - (1 + bs.length)) = partsVs (ls.drop (k + 1)) (partsV ls[k] L)) := by
          show _ = _
          rw [hr.out, hdr.out, partsVs_cons, if_neg hneg]
        have HL2 := Lib.hid (show partsV ls[k] L ≤ 9000 by have := parts_le ls[k] L; have := hL.out; omega)
        generalize partsV ls[k] L = L2 at HX HR HL2
        clear hneg hva hbb hr hdr
        go_wp2_with fail
        refine (HX.out).mono ?_
        rintro e w3 ⟨rfl, hb3⟩
        have HB3 := Lib.hid (below_then HBB.out hb3)
        clear hb3
        go_wp2
        go_roundw
        case rel => exact ⟨k + 1, L2, by omega, by go_num, rfl, HL2, HR, HB3.out⟩
        case measure => simp [intOf]; omega
    · have d1 : decide ((k : Int) < (ls.length : Int)) = false := by rw [decide_eq_false_iff_not]; omega
      have d2 : decide (k < ls.length) = false := by rw [decide_eq_false_iff_not]; omega
      have HR : Hid (partsVs ls (left - (1 + bs.length)) = L) := by
        show _ = _
        rw [hr.out, List.drop_of_length_le (by omega), partsVs_nil]
      clear hr
      go_wp2
      go_ret
      exact ⟨by rw [HR.out]; rfl, hbr.out⟩
theorem parts_upto : ∀ (n : Nat) (v : Va) (cs : List Value) (left : Int) (w : World), SizeOf.sizeOf v < n → 0 ≤ left → left ≤ 9000 → VaC w v cs →
    Calls Tryz.prog 55 #[.agg cs.toArray, .int .i64 left] w (PartsPost (partsV v left) w)
  | 0, _, _, _, _, hz, _, _, _ => absurd hz (Nat.not_lt_zero _)
  | n + 1, .mk k m bs ls, cs, left, w, hz, h0, h9, h => by
    obtain ⟨C, x, p, D, y, q, rfl, hx, hy, hb, _, hy2, hL⟩ := vaC_open h
    obtain rfl : x = bs.length := hx
    obtain rfl : y = ls.length := hy
    obtain ⟨b, o, d1, d2⟩ := va_rows (ls := ls) hL
    have hbl : bs.length ≤ 9223372036854775807 := by
      obtain ⟨_, _, _, _, h2, _⟩ := hb
      exact h2
    exact parts_at k m left C D p q b o bs ls w h0 h9 hbl hy2 d1 d2 (fun j hj u cs m' a1 a2 hu hc => parts_upto n ls[j] cs m' u (size_in hz (List.getElem_mem hj)) a1 a2 hc)
theorem parts_any (v : Va) (cs : List Value) (w : World) (h : VaC w v cs) :
    Calls Tryz.prog 55 #[.agg cs.toArray, .int .i64 9000] w (PartsPost (partsV v 9000) w) := parts_upto _ v cs 9000 w (Nat.lt_succ_self _) (by omega) (by omega) h
end Go.Proofs.YtdiagnhdigakpaaGreatDoor
/- The contract of the reference's Small. -/
namespace Go.Proofs.YtdiagnhdigakpaaGreatDoor
open Go.RowKit

theorem rowT_at {w : World} {b : Nat} : ∀ (es : List Ty) (o : Nat), TyAt w es b o → ∀ (k : Nat) (h : k < es.length), ∃ A1 n1 c1 A2 n2 c2, TyC w es[k] [.int .i64 es[k].kind, .int .i64 es[k].len, .string es[k].name, .slice A1 n1 c1, .slice A2 n2 c2] ∧ n2 = es[k].elem.length ∧ Ty5 w b (o + k * 5) es[k].kind es[k].len es[k].name (.slice A1 n1 c1) (.slice A2 n2 c2)
  | [], _, _, k, h => absurd h (Nat.not_lt_zero _)
  | e :: r, o, hr, 0, _ => by
    rw [TyAt] at hr
    obtain ⟨⟨cs, h1, h2⟩, _⟩ := hr
    obtain ⟨A, n, c, B, m, d, rfl, _, hm, _⟩ := tyC_open h1
    rw [Nat.zero_mul]
    exact ⟨A, n, c, B, m, d, h1, hm, h2 0 (by omega), h2 1 (by omega), h2 2 (by omega), h2 3 (by omega), h2 4 (by omega)⟩
  | e :: r, o, hr, k + 1, h => by
    rw [TyAt] at hr
    have hk : k < r.length := by simpa using h
    obtain ⟨A1, n1, c1, A2, n2, c2, g⟩ := rowT_at r (o + 5) hr.2 k hk
    rw [show o + 5 + k * 5 = o + (k + 1) * 5 by omega] at g
    exact ⟨A1, n1, c1, A2, n2, c2, g⟩
theorem alls_more {α : Type} {f : α → Bool} {l : List α} {k : Nat} (h : k < l.length) (hk : (l.take k).all f = true) (hx : f l[k] = true) : (l.take (k + 1)).all f = true := by
  rw [List.take_succ_eq_append_getElem h, List.all_append, hk]
  simp [hx]
theorem alls_no {α : Type} {f : α → Bool} {l : List α} {k : Nat} (h : k < l.length) (hx : f l[k] = false) : l.all f = false := by
  rw [Bool.eq_false_iff]
  intro ha
  rw [List.all_eq_true.1 ha _ (List.getElem_mem h)] at hx
  cases hx
theorem alls_end {α : Type} {f : α → Bool} {l : List α} {k : Nat} (h : ¬ k < l.length) (hk : (l.take k).all f = true) : l.all f = true := by
  rwa [List.take_of_length_le (by omega)] at hk
def name100 (s : ByteArray) : Bool := decide (s.size ≤ 100)
def elem2 (t : Ty) : Bool := decide (t.elem.length ≤ 2) && smallT t
def part9 (v : Va) : Bool := decide (0 ≤ partsV v 9000)
/-- Has a type few parts, and have values? -/
def smallB (t : Ty) (ls : List Va) : Bool := smallT t && ls.all part9
theorem smallT_eq (k l : Int) (nm : ByteArray) (ns : List ByteArray) (es : List Ty) : smallT (.mk k l nm ns es) = (decide (nm.size ≤ 300) && (decide (ns.length ≤ 40) && (decide (es.length ≤ 3) && (ns.all name100 && es.all elem2)))) := by
  rw [smallT_def, smallTs_all]
  rfl
theorem smallB_no {k l : Int} {nm : ByteArray} {ns : List ByteArray} {es : List Ty} {ls : List Va} (h : ¬ (nm.size ≤ 300 ∧ ns.length ≤ 40 ∧ es.length ≤ 3) ∨ ns.all name100 = false ∨ es.all elem2 = false ∨ ls.all part9 = false) : smallB (.mk k l nm ns es) ls = false := by
  unfold smallB
  rw [smallT_eq, Bool.eq_false_iff]
  intro hh
  simp only [Bool.and_eq_true, decide_eq_true_eq] at hh
  obtain ⟨⟨h1, h2, h3, h4, h5⟩, h6⟩ := hh
  rcases h with h | h | h | h
  · exact h ⟨h1, h2, h3⟩
  · rw [h] at h4; cases h4
  · rw [h] at h5; cases h5
  · rw [h] at h6; cases h6
theorem smallB_yes {k l : Int} {nm : ByteArray} {ns : List ByteArray} {es : List Ty} {ls : List Va} (h1 : nm.size ≤ 300 ∧ ns.length ≤ 40 ∧ es.length ≤ 3) (h2 : ns.all name100 = true) (h3 : es.all elem2 = true) (h4 : ls.all part9 = true) : smallB (.mk k l nm ns es) ls = true := by
  unfold smallB
  rw [smallT_eq, h2, h3, h4, decide_eq_true h1.1, decide_eq_true h1.2.1, decide_eq_true h1.2.2]
  rfl
set_option maxRecDepth 100000 in
set_option maxHeartbeats 8000000 in
theorem small_no (k l : Int) (nm : ByteArray) (ns : List ByteArray) (es : List Ty) (ls : List Va) (A B D : Option Addr) (c d q : Nat) (w : World) (hn : ¬ (nm.size ≤ 300 ∧ ns.length ≤ 40 ∧ es.length ≤ 3)) :
    Calls Tryz.prog 13 #[.agg #[.int .i64 k, .int .i64 l, .string nm, .slice A ns.length c, .slice B es.length d], .slice D ls.length q] w fun e w' => e = .returned (.bool (smallB (.mk k l nm ns es) ls)) ∧ Below w.heap.size w w' := by
  have H0 := Lib.hid (below_alloc w (.cells #[.int .i64 k, .int .i64 l, .string nm, .slice A ns.length c, .slice B es.length d] 26))
  rw [smallB_no (.inl hn)]
  have h : (decide ((300 : Int) < (nm.size : Int)) = true ∧ decide (300 < nm.size) = true) ∨ ((decide ((300 : Int) < (nm.size : Int)) = false ∧ decide (300 < nm.size) = false) ∧ (decide ((40 : Int) < (ns.length : Int)) = true ∧ decide (40 < ns.length) = true)) ∨ ((decide ((300 : Int) < (nm.size : Int)) = false ∧ decide (300 < nm.size) = false) ∧ (decide ((40 : Int) < (ns.length : Int)) = false ∧ decide (40 < ns.length) = false) ∧ (decide ((3 : Int) < (es.length : Int)) = true ∧ decide (3 < es.length) = true)) := by
    simp only [decide_eq_true_eq, decide_eq_false_iff_not]
    omega
  clear hn
  rcases h with ⟨h1, h2⟩ | ⟨⟨h1, h2⟩, h3, h4⟩ | ⟨⟨h1, h2⟩, ⟨h3, h4⟩, h5, h6⟩
  all_goals
    go_enter Tryz.func13, Tryz.ntmps13
    go_wp2
    go_ret
    exact ⟨rfl, H0.out⟩
set_option maxRecDepth 100000 in
set_option maxHeartbeats 16000000 in
theorem small_at (k l : Int) (nm : ByteArray) (ns : List ByteArray) (es : List Ty) (ls : List Va) (A B D : Option Addr) (c d q b1 o1 b2 o2 b3 o3 : Nat) (w : World) (hn : nm.size ≤ 300 ∧ ns.length ≤ 40 ∧ es.length ≤ 3) (hx : ls.length ≤ 9223372036854775807)
    (HA : Hid (ns.length = 0 ∨ A = some ⟨b1, o1, none⟩)) (HN : Hid (∀ (k : Nat) (h : k < ns.length), w.cell? ⟨b1, o1 + k, none⟩ = some (.string ns[k])))
    (HB : Hid (es.length = 0 ∨ B = some ⟨b2, o2, none⟩)) (HE : Hid (TyAt w es b2 o2 ∨ es.length = 0))
    (HD : Hid (ls.length = 0 ∨ D = some ⟨b3, o3, none⟩)) (HV : Hid (VaAt w ls b3 o3 ∨ ls.length = 0))
    (HS : Hid (∀ (k : Nat) (h : k < es.length) (u : World) (cs : List Value), Below w.heap.size w u → TyC u es[k] cs → Calls Tryz.prog 13 #[.agg cs.toArray, .slice none 0 0] u fun e w' => e = .returned (.bool (smallT es[k])) ∧ Below u.heap.size u w')) :
    Calls Tryz.prog 13 #[.agg #[.int .i64 k, .int .i64 l, .string nm, .slice A ns.length c, .slice B es.length d], .slice D ls.length q] w fun e w' => e = .returned (.bool (smallB (.mk k l nm ns es) ls)) ∧ Below w.heap.size w w' := by
  have H0 := Lib.hid (below_alloc w (.cells #[.int .i64 k, .int .i64 l, .string nm, .slice A ns.length c, .slice B es.length d] 26))
  have HK := Lib.hid (box1 w 26 #[.int .i64 k, .int .i64 l, .string nm, .slice A ns.length c, .slice B es.length d])
  have H1 := Lib.hid hn
  have h1 : decide ((300 : Int) < (nm.size : Int)) = false := by rw [decide_eq_false_iff_not]; omega
  have h2 : decide (300 < nm.size) = false := by rw [decide_eq_false_iff_not]; omega
  have h3 : decide ((40 : Int) < (ns.length : Int)) = false := by rw [decide_eq_false_iff_not]; omega
  have h4 : decide (40 < ns.length) = false := by rw [decide_eq_false_iff_not]; omega
  have h5 : decide ((3 : Int) < (es.length : Int)) = false := by rw [decide_eq_false_iff_not]; omega
  have h6 : decide (3 < es.length) = false := by rw [decide_eq_false_iff_not]; omega
  have hn2 : ns.length ≤ 40 := hn.2.1
  have hn3 : es.length ≤ 3 := hn.2.2
  clear hn
  go_enter Tryz.func13, Tryz.ntmps13
  go_wp2_with fail
  clear h1 h2 h3 h4 h5 h6
  go_loop [30] (fun i => ∃ k : Nat, k ≤ ns.length ∧ i = .int .i64 k ∧ Hid ((ns.take k).all name100 = true)) (fun i => ns.length - (intOf i).toNat)
  case atStart => exact ⟨0, Nat.zero_le _, rfl, rfl⟩
  case round =>
    obtain ⟨j, hj, rfl, hr⟩ := hrel
    by_cases hlt : j < ns.length
    · have hA : A = some ⟨b1, o1, none⟩ := HA.out.resolve_left (by omega)
      subst hA
      have g := cell_stays H0.out (HN.out j hlt)
      have d1 : decide ((j : Int) < (ns.length : Int)) = true := by rw [decide_eq_true_eq]; omega
      have d2 : decide (j < ns.length) = true := by rw [decide_eq_true_eq]; omega
      have hji : (j : Int) < (ns.length : Int) := by omega
      have hj0 : (0 : Int) ≤ (j : Int) := by omega
      cases hf : name100 ns[j] with
      | false =>
        have HR := Lib.hid (smallB_no (k := k) (l := l) (nm := nm) (es := es) (ls := ls) (.inr (.inl (alls_no hlt hf))))
        unfold name100 at hf
        rw [decide_eq_false_iff_not] at hf
        generalize ns[j] = x at g hf
        have e1 : decide ((100 : Int) < (x.size : Int)) = true := by rw [decide_eq_true_eq]; omega
        have e2 : decide (100 < x.size) = true := by rw [decide_eq_true_eq]; omega
        clear hf hr
        go_wp2
        go_ret
        exact ⟨by rw [HR.out]; rfl, H0.out⟩
      | true =>
        have HR := Lib.hid (alls_more hlt hr.out hf)
        unfold name100 at hf
        rw [decide_eq_true_eq] at hf
        generalize ns[j] = x at g hf
        have e1 : decide ((100 : Int) < (x.size : Int)) = false := by rw [decide_eq_false_iff_not]; omega
        have e2 : decide (100 < x.size) = false := by rw [decide_eq_false_iff_not]; omega
        clear hf hr
        go_wp2
        go_round
        case rel => exact ⟨j + 1, by omega, by go_num, HR⟩
        case measure => simp [intOf]; omega
    · have d1 : decide ((j : Int) < (ns.length : Int)) = false := by rw [decide_eq_false_iff_not]; omega
      have d2 : decide (j < ns.length) = false := by rw [decide_eq_false_iff_not]; omega
      have HNs := Lib.hid (alls_end hlt hr.out)
      obtain ⟨p0, p1, p2, p3, p4⟩ := fives HK.out
      clear hr hlt
      go_wp2_with fail
      clear d1 d2 p0 p1 p2 p3 p4
      go_loopw [41] (fun i wr => ∃ k : Nat, k ≤ es.length ∧ i = .int .i64 k ∧ Hid ((es.take k).all elem2 = true) ∧ Hid (Below w.heap.size w wr)) (fun i _ => es.length - (intOf i).toNat)
      case atStart => exact ⟨0, Nat.zero_le _, rfl, rfl, H0.out⟩
      case round =>
        obtain ⟨m, hm, rfl, hr, hbr⟩ := hrel
        by_cases hlt : m < es.length
        · have hB : B = some ⟨b2, o2, none⟩ := HB.out.resolve_left (by omega)
          subst hB
          obtain ⟨A1, n1, c1, A2, n2, c2, k1, hn2', k5⟩ := rowT_at es o2 (HE.out.resolve_right (by omega)) m hlt
          obtain ⟨g0, g1, g2, g3, g4⟩ := k5.later hbr.out
          have hbb := below_then hbr.out (below_alloc wr (.cells #[.int .i64 es[m].kind, .int .i64 es[m].len, .string es[m].name, .slice A1 n1 c1, .slice A2 n2 c2] 26))
          have HBB := Lib.hid hbb
          have d1 : decide ((m : Int) < (es.length : Int)) = true := by rw [decide_eq_true_eq]; omega
          have d2 : decide (m < es.length) = true := by rw [decide_eq_true_eq]; omega
          have hji : (m : Int) < (es.length : Int) := by omega
          have hj0 : (0 : Int) ≤ (m : Int) := by omega
          have HX := Lib.hid (HS.out m hlt _ _ hbb (TyC.later hbb _ _ k1))
          by_cases h2 : es[m].elem.length ≤ 2
          · have e1 : decide ((2 : Int) < (n2 : Int)) = false := by rw [decide_eq_false_iff_not]; omega
            have e2 : decide (2 < n2) = false := by rw [decide_eq_false_iff_not]; omega
            cases hf : smallT es[m] with
            | false =>
              have HR := Lib.hid (smallB_no (k := k) (l := l) (nm := nm) (ns := ns) (ls := ls) (.inr (.inr (.inl (alls_no (f := elem2) hlt (by unfold elem2; rw [hf, Bool.and_false]))))))
              rw [hf] at HX
              generalize es[m].kind = z1 at *
              generalize es[m].len = z2 at *
              generalize es[m].name = z3 at *
              clear hf hr h2 hn2' hbb k1 k5
              go_wp2_with fail
              refine (HX.out).mono ?_
              rintro e w3 ⟨rfl, hb3⟩
              have HB3 := Lib.hid (below_then HBB.out hb3)
              clear hb3
              go_wp2
              go_ret
              exact ⟨by rw [HR.out]; rfl, HB3.out⟩
            | true =>
              have HR := Lib.hid (alls_more hlt hr.out (show elem2 es[m] = true by unfold elem2; rw [hf, decide_eq_true h2]; rfl))
              rw [hf] at HX
              generalize es[m].kind = z1 at *
              generalize es[m].len = z2 at *
              generalize es[m].name = z3 at *
              clear hf hr h2 hn2' hbb k1 k5
              go_wp2_with fail
              refine (HX.out).mono ?_
              rintro e w3 ⟨rfl, hb3⟩
              have HB3 := Lib.hid (below_then HBB.out hb3)
              clear hb3
              go_wp2
              go_roundw
              case rel => exact ⟨m + 1, by omega, by go_num, HR, HB3.out⟩
              case measure => simp [intOf]; omega
          · have e1 : decide ((2 : Int) < (n2 : Int)) = true := by rw [decide_eq_true_eq]; omega
            have e2 : decide (2 < n2) = true := by rw [decide_eq_true_eq]; omega
            have HR := Lib.hid (smallB_no (k := k) (l := l) (nm := nm) (ns := ns) (ls := ls) (.inr (.inr (.inl (alls_no (f := elem2) hlt (by unfold elem2; rw [decide_eq_false h2, Bool.false_and]))))))
            generalize es[m].kind = z1 at *
            generalize es[m].len = z2 at *
            generalize es[m].name = z3 at *
            clear hr h2 hn2' hbb k1 k5 HX
            go_wp2
            go_ret
            exact ⟨by rw [HR.out]; rfl, HBB.out⟩
        · have d1 : decide ((m : Int) < (es.length : Int)) = false := by rw [decide_eq_false_iff_not]; omega
          have d2 : decide (m < es.length) = false := by rw [decide_eq_false_iff_not]; omega
          have HEs := Lib.hid (alls_end hlt hr.out)
          have HB1 := Lib.hid hbr.out
          clear hr hlt
          go_wp2_with fail
          clear d1 d2
          obtain ⟨wo, hwo⟩ : ∃ wo : World, wo = wr := ⟨_, rfl⟩
          subst hwo
          go_loopw [57] (fun i wr => ∃ k : Nat, k ≤ ls.length ∧ i = .int .i64 k ∧ Hid ((ls.take k).all part9 = true) ∧ Hid (Below w.heap.size w wr)) (fun i _ => ls.length - (intOf i).toNat)
          case atStart => exact ⟨0, Nat.zero_le _, rfl, rfl, HB1.out⟩
          case round =>
            obtain ⟨r, hrr, rfl, hr, hbr2⟩ := hrel
            by_cases hlt : r < ls.length
            · have hD : D = some ⟨b3, o3, none⟩ := HD.out.resolve_left (by omega)
              subst hD
              obtain ⟨kk2, nn2, A2, m2, c2, A3, m3, c3, hva, g0, g1, g2, g3⟩ := row_at ls o3 (HV.out.resolve_right (by omega)) r hlt
              replace g0 := cell_stays hbr2.out g0
              replace g1 := cell_stays hbr2.out g1
              replace g2 := cell_stays hbr2.out g2
              replace g3 := cell_stays hbr2.out g3
              have hbb := below_then hbr2.out (below_alloc wr (.cells #[.int .i64 kk2, .int .i64 nn2, .slice A2 m2 c2, .slice A3 m3 c3] 38))
              have HBB := Lib.hid hbb
              have d1 : decide ((r : Int) < (ls.length : Int)) = true := by rw [decide_eq_true_eq]; omega
              have d2 : decide (r < ls.length) = true := by rw [decide_eq_true_eq]; omega
              have hji : (r : Int) < (ls.length : Int) := by omega
              have hj0 : (0 : Int) ≤ (r : Int) := by omega
              have HX := Lib.hid (parts_any ls[r] _ _ (VaC.later hbb _ _ hva))
              by_cases hf : partsV ls[r] 9000 < 0
              · have e1 : decide (partsV ls[r] 9000 < 0) = true := decide_eq_true hf
                have HR := Lib.hid (smallB_no (k := k) (l := l) (nm := nm) (ns := ns) (es := es) (.inr (.inr (.inr (alls_no (f := part9) hlt (by unfold part9; rw [decide_eq_false (by omega)]))))))
                generalize partsV ls[r] 9000 = z at *
                clear hf hr hbb hva
                go_wp2_with fail
                refine (HX.out).mono ?_
                rintro e w3 ⟨rfl, hb3⟩
                have HB3 := Lib.hid (below_then HBB.out hb3)
                clear hb3
                go_wp2
                go_ret
                exact ⟨by rw [HR.out]; rfl, HB3.out⟩
              · have e1 : decide (partsV ls[r] 9000 < 0) = false := decide_eq_false hf
                have HR := Lib.hid (alls_more hlt hr.out (show part9 ls[r] = true by unfold part9; rw [decide_eq_true (by omega)]))
                generalize partsV ls[r] 9000 = z at *
                clear hf hr hbb hva
                go_wp2_with fail
                refine (HX.out).mono ?_
                rintro e w3 ⟨rfl, hb3⟩
                have HB3 := Lib.hid (below_then HBB.out hb3)
                clear hb3
                go_wp2
                go_roundw
                case rel => exact ⟨r + 1, by omega, by go_num, HR, HB3.out⟩
                case measure => simp [intOf]; omega
            · have d1 : decide ((r : Int) < (ls.length : Int)) = false := by rw [decide_eq_false_iff_not]; omega
              have d2 : decide (r < ls.length) = false := by rw [decide_eq_false_iff_not]; omega
              have HR := Lib.hid (smallB_yes (k := k) (l := l) H1.out HNs.out HEs.out (alls_end hlt hr.out))
              clear hr
              go_wp2
              go_ret
              exact ⟨by rw [HR.out]; rfl, hbr2.out⟩
/-- v is a slice that reads as these values (whatever their blocks). -/
def VasC (w : World) (v : Value) (ls : List Va) : Prop :=
  ∃ (A : Option Addr) (c : Nat), v = .slice A ls.length c ∧ ls.length ≤ c ∧ ls.length ≤ 9223372036854775807 ∧ (ls = [] ∨ ∃ b off, A = some ⟨b, off, none⟩ ∧ VaAt w ls b off)
theorem VasC.later {w w' : World} {v : Value} {ls : List Va} (h : VasC w v ls) (hb : Below w.heap.size w w') : VasC w' v ls := by
  obtain ⟨A, c, e, h1, h2, h3⟩ := h
  refine ⟨A, c, e, h1, h2, ?_⟩
  rcases h3 with h3 | ⟨b, off, e', h3⟩
  · exact .inl h3
  · exact .inr ⟨b, off, e', VaAt.later hb _ _ _ h3⟩
theorem VasP.c {S : Nat → Prop} {w : World} {v : Value} {ls : List Va} (h : VasP S w v ls) : VasC w v ls := by
  obtain ⟨A, c, e, h1, h2, h3⟩ := h
  refine ⟨A, c, e, h1, h2, ?_⟩
  rcases h3 with h3 | ⟨b, off, e', _, h3⟩
  · exact .inl h3
  · exact .inr ⟨b, off, e', VaPAt.toC _ _ _ h3⟩
theorem ty_rows {w : World} {es : List Ty} {D : Option Addr} (h : es = [] ∨ ∃ b off, D = some ⟨b, off, none⟩ ∧ TyAt w es b off) : ∃ b o, (es.length = 0 ∨ D = some ⟨b, o, none⟩) ∧ (TyAt w es b o ∨ es.length = 0) := by
  rcases h with h | ⟨b, o, h1, h2⟩
  · exact ⟨0, 0, .inl (by rw [h]; rfl), .inr (by rw [h]; rfl)⟩
  · exact ⟨b, o, .inr h1, .inl h2⟩
theorem small_upto : ∀ (n : Nat) (t : Ty) (cs : List Value) (v : Value) (ls : List Va) (w : World), SizeOf.sizeOf t < n → TyC w t cs → VasC w v ls →
    Calls Tryz.prog 13 #[.agg cs.toArray, v] w fun e w' => e = .returned (.bool (smallB t ls)) ∧ Below w.heap.size w w'
  | 0, _, _, _, _, _, hz, _, _ => absurd hz (Nat.not_lt_zero _)
  | n + 1, .mk k l nm ns es, cs, v, ls, w, hz, h, hv => by
    rw [TyC] at h
    obtain ⟨vn, B, d, rfl, ⟨A, c, rfl, hs1, hs2, hs3⟩, h1, h2, h3⟩ := h
    obtain ⟨D, q, rfl, _, hx, hL⟩ := hv
    by_cases hn : nm.size ≤ 300 ∧ ns.length ≤ 40 ∧ es.length ≤ 3
    · obtain ⟨b2, o2, d1, d2⟩ := ty_rows h3
      obtain ⟨b3, o3, e1, e2⟩ := va_rows hL
      have hN : ∃ b1 o1, (ns.length = 0 ∨ A = some ⟨b1, o1, none⟩) ∧ ∀ (k : Nat) (h : k < ns.length), w.cell? ⟨b1, o1 + k, none⟩ = some (.string ns[k]) := by
        rcases hs3 with g | ⟨b, o, g1, g2⟩
        · exact ⟨0, 0, .inl (by rw [g]; rfl), fun k hk => absurd hk (by rw [g]; simp)⟩
        · exact ⟨b, o, .inr g1, g2⟩
      obtain ⟨b1, o1, f1, f2⟩ := hN
      refine small_at k l nm ns es ls A B D c d q b1 o1 b2 o2 b3 o3 w hn hx f1 f2 d1 d2 e1 e2 (fun j hj u cs hu hc => ?_)
      refine (small_upto n es[j] cs (.slice none 0 0) [] u (size_inT hz (List.getElem_mem hj)) hc ⟨none, 0, rfl, by simp, by simp, .inl rfl⟩).mono ?_
      rintro e w' ⟨rfl, hb⟩
      exact ⟨by unfold smallB; simp, hb⟩
    · exact small_no k l nm ns es ls A B D c d q w hn
theorem small_any (t : Ty) (cs : List Value) (v : Value) (ls : List Va) (w : World) (h : TyC w t cs) (hv : VasC w v ls) :
    Calls Tryz.prog 13 #[.agg cs.toArray, v] w fun e w' => e = .returned (.bool (smallB t ls)) ∧ Below w.heap.size w w' := small_upto _ t cs v ls w (Nat.lt_succ_self _) h hv
end Go.Proofs.YtdiagnhdigakpaaGreatDoor
