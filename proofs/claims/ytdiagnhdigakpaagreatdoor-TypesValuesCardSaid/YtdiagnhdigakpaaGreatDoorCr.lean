/- The contract of the reference's Copy. -/
import Derived.Test.YtdiagnhdigakpaaGreatDoorKg
import Derived.Deep.DeepCutAuto
import Derived.Deep.RegionHeld3
import Derived.Deep.DrawnRows
import Derived.WalkSpells
import Derived.StillTactics
namespace Go.Proofs.YtdiagnhdigakpaaGreatDoor
open Go.RowKit

/-- What stands behind the first statement of Copy: a box with the value's kind and number, and a copy of its bits. -/
def CopyMid (w : World) (kk nn : Int) (bs : List Nat) (a1 a2 : Array Value) (s3 : Value) (wx : World) : Prop :=
  ∃ (B : Nat) (A1 : Option Addr) (q1 : Nat), s3 = .pointer (some ⟨B, 0, none⟩) ∧ w.heap.size + 2 ≤ B ∧ Blk wx B 38 #[.int .i64 kk, .int .i64 nn, .slice A1 bs.length q1, .slice none 0 0] ∧ Blk wx (w.heap.size + 1) 38 a2 ∧ Blk wx w.heap.size 38 a1 ∧
    Lg.Own wx (w.heap.size + 2) (.slice A1 bs.length q1) bs ∧ (∀ g, (Value.slice A1 bs.length q1).ownBlock = some g → g ≠ B) ∧ Below w.heap.size w wx
def zbox : Obj := .cells #[.int .i64 0, .int .i64 0, .slice none 0 0, .slice none 0 0] 38
def ebox : Obj := .cells #[] 72
/-- What the append has left: the two first boxes, the copy, and that the copy's block is another than the box's. -/
structure CopyApp (w w1 : World) (bs : List Nat) (a1 a2 : Array Value) (A1 : Option Addr) (q1 : Nat) : Prop where
  b0 : Blk w1 w.heap.size 38 a1
  b1 : Blk w1 (w.heap.size + 1) 38 a2
  own : Lg.Own w1 (w.heap.size + 2) (.slice A1 bs.length q1) bs
  low : Below w.heap.size w w1
theorem copy_app {w X w1 : World} {bs : List Nat} {a1 a2 : Array Value} {A1 : Option Addr} {q1 r base : Nat} (h0 : Blk X w.heap.size 38 a1) (h1 : Blk X (w.heap.size + 1) 38 a2) (hb : Below w.heap.size w X) (hr : w.heap.size + 2 ≤ r) (hbase : w.heap.size + 2 ≤ base)
    (ho : Lg.Own w1 base (.slice A1 bs.length q1) bs) (hg : X.grownBy w1 (some r)) : CopyApp w w1 bs a1 a2 A1 q1 :=
  ⟨h0.grown hg (by omega), h1.grown hg (by omega), own_weak ho hbase, hb.grown hg hb.size (fun k hk => by have := Option.some.inj hk; omega)⟩
theorem mid_store {w w1 : World} {kk nn : Int} {bs : List Nat} {a1 a2 : Array Value} {A1 : Option Addr} {q1 B : Nat} (h : CopyApp w w1 bs a1 a2 A1 q1) (hB : w.heap.size + 2 ≤ B) (hk : Blk w1 B 38 #[.int .i64 0, .int .i64 0, .slice none 0 0, .slice none 0 0]) (hne : ∀ g, (Value.slice A1 bs.length q1).ownBlock = some g → g ≠ B) :
    CopyMid w kk nn bs a1 a2 (.pointer (some ⟨B, 0, none⟩)) ((((w1.setCell ⟨B, 0, none⟩ (.int .i64 kk)).setCell ⟨B, 1, none⟩ (.int .i64 nn)).setCell ⟨B, 2, none⟩ (.slice A1 bs.length q1)).setCell ⟨B, 3, none⟩ (.slice none 0 0)) := by
  refine ⟨B, A1, q1, rfl, hB, ?_, ?_, ?_, ?_, hne, set4_low h.low (by omega) _ _ _ _⟩
  · exact (((hk.set 0 _).set 1 _).set 2 _).set 3 _
  · exact (((h.b1.other (a := ⟨B, 0, none⟩) (show B ≠ w.heap.size + 1 by omega) _).other (a := ⟨B, 1, none⟩) (show B ≠ w.heap.size + 1 by omega) _).other (a := ⟨B, 2, none⟩) (show B ≠ w.heap.size + 1 by omega) _).other (a := ⟨B, 3, none⟩) (show B ≠ w.heap.size + 1 by omega) _
  · exact (((h.b0.other (a := ⟨B, 0, none⟩) (show B ≠ w.heap.size by omega) _).other (a := ⟨B, 1, none⟩) (show B ≠ w.heap.size by omega) _).other (a := ⟨B, 2, none⟩) (show B ≠ w.heap.size by omega) _).other (a := ⟨B, 3, none⟩) (show B ≠ w.heap.size by omega) _
  · refine own_turn h.own (by simp [World.setCell]) fun g hg => ?_
    have := hne g hg
    rw [Below.heap_setCell _ _ _ _ (by exact this), Below.heap_setCell _ _ _ _ (by exact this), Below.heap_setCell _ _ _ _ (by exact this), Below.heap_setCell _ _ _ _ (by exact this)]
where
  set4_low {w w1 : World} {g : Nat} (h : Below w.heap.size w w1) (hg : w.heap.size ≤ g) (a b c d : Value) : Below w.heap.size w ((((w1.setCell ⟨g, 0, none⟩ a).setCell ⟨g, 1, none⟩ b).setCell ⟨g, 2, none⟩ c).setCell ⟨g, 3, none⟩ d) :=
    (((h.setCell (p := ⟨_, _, none⟩) hg _).setCell (p := ⟨_, _, none⟩) hg _).setCell (p := ⟨_, _, none⟩) hg _).setCell (p := ⟨_, _, none⟩) hg _
theorem mid_alloc {w w1 : World} {kk nn : Int} {bs : List Nat} {a1 a2 : Array Value} {A1 : Option Addr} {q1 : Nat} (h : CopyApp w w1 bs a1 a2 A1 q1) :
    CopyMid w kk nn bs a1 a2 (.pointer (some ⟨w1.heap.size, 0, none⟩)) (w1.alloc (.cells #[.int .i64 kk, .int .i64 nn, .slice A1 bs.length q1, .slice none 0 0] 38)) := by
  have hb := below_alloc w1 (.cells #[.int .i64 kk, .int .i64 nn, .slice A1 bs.length q1, .slice none 0 0] 38)
  have h1 := h.b1.lt
  exact ⟨_, A1, q1, rfl, by omega, Blk.new _ _ _, h.b1.later hb, h.b0.later hb, h.own.kept hb, fun g hg => by have := (h.own.1.lt g hg).2; omega, below_then h.low hb⟩
theorem far4 {w : World} {g h i : Nat} {v a b c d : Value} (hv : w.cell? ⟨h, i, none⟩ = some v) (hne : g ≠ h) : ((((w.setCell ⟨g, 0, none⟩ a).setCell ⟨g, 1, none⟩ b).setCell ⟨g, 2, none⟩ c).setCell ⟨g, 3, none⟩ d).cell? ⟨h, i, none⟩ = some v := by
  have hn : ∀ j : Nat, (⟨g, j, none⟩ : Addr) ≠ ⟨h, i, none⟩ := fun j e => hne (by injection e)
  rw [World.cell?_setCell_other _ _ _ _ (hn 3), World.cell?_setCell_other _ _ _ _ (hn 2), World.cell?_setCell_other _ _ _ _ (hn 1), World.cell?_setCell_other _ _ _ _ (hn 0), hv]
theorem ne_low {w1 : World} {base B : Nat} {v : Value} {bs : List Nat} (h : Lg.Own w1 base v bs) (hB : B < base) : ∀ g, v.ownBlock = some g → g ≠ B := fun g hg => by have := (h.1.lt g hg).1; omega
theorem ne_new {v v' : Value} {n g0 B : Nat} (h : v'.ownBlock = v.ownBlock ∨ v'.ownBlock = some n) (hv : v.ownBlock = some g0) (hne : g0 ≠ B ∧ n ≠ B) : ∀ g, v'.ownBlock = some g → g ≠ B := fun g hg => by
  rcases h with e | e
  · rw [e, hv] at hg
    have := Option.some.inj hg
    omega
  · rw [e] at hg
    have := Option.some.inj hg
    omega
theorem own_far {w : World} {base : Nat} {v : Value} {zs : List Nat} (h : Lg.Own w base v zs) {a : Addr} (hne : ∀ g, v.ownBlock = some g → g ≠ a.block) (u : Value) : Lg.Own (w.setCell a u) base v zs :=
  own_turn h (by simp [World.setCell]) fun g hg => Below.heap_setCell _ _ _ _ (hne g hg)
theorem own_newS (X : World) : Lg.Own (X.alloc (.cells #[] 72)) X.heap.size (.slice (some ⟨X.heap.size, 0, none⟩) 0 0) [] := own_new X _ rfl
set_option maxRecDepth 100000 in
set_option maxHeartbeats 8000000 in
theorem refCopy_at (kk nn : Int) (A D : Option Addr) (p q b' o' : Nat) (bs : List Nat) (ls : List Va) (w : World)
    (hb : Lg.Sl w (.slice A bs.length p) bs) (hbl : bs.length ≤ 10000) (hx : ls.length ≤ 10000)
    (HD : Hid (ls.length = 0 ∨ D = some ⟨b', o', none⟩)) (HV : Hid (VaAt w ls b' o' ∨ ls.length = 0))
    (HS : Hid (∀ (k : Nat) (h : k < ls.length) (u : World) (cs : List Value), Below w.heap.size w u → VaC u ls[k] cs → Calls Tryz.prog 29 #[.agg cs.toArray] u (CopyOf u ls[k]))) :
    Calls Tryz.prog 29 #[.agg #[.int .i64 kk, .int .i64 nn, .slice A bs.length p, .slice D ls.length q]] w (CopyOf w (.mk kk nn bs ls)) := by
  have HB := Lib.hid hb
  clear hb
  have H2 := Lib.hid (boxes2 w 38 38 #[.int .i64 kk, .int .i64 nn, .slice A bs.length p, .slice D ls.length q] #[.int .i64 0, .int .i64 0, .slice none 0 0, .slice none 0 0])
  go_enter Tryz.func29, Tryz.ntmps29
  go_upto_region 1 with fail
  go_cut [3] (fun s3 wx => CopyMid w kk nn bs #[.int .i64 kk, .int .i64 nn, .slice A bs.length p, .slice D ls.length q] #[.int .i64 0, .int .i64 0, .slice none 0 0, .slice none 0 0] s3 wx)
  case first =>
    generalize hW : (w.alloc (.cells #[.int .i64 kk, .int .i64 nn, .slice A bs.length p, .slice D ls.length q] 38)).alloc (.cells #[.int .i64 0, .int .i64 0, .slice none 0 0, .slice none 0 0] 38) = W at H2
    have HZ := Lib.hid (show W.heap.size = w.heap.size + 1 + 1 from H2.out.2.2.2)
    obtain ⟨m0, m1, m2, m3⟩ := four H2.out.1
    have HBW := Lib.hid (show Lg.Sl W (.slice A bs.length p) bs from HB.out.later H2.out.2.2.1)
    have LA := Lib.hid (show Below W.heap.size W ((W.alloc (.cells #[.int .i64 0, .int .i64 0, .slice none 0 0, .slice none 0 0] 38)).alloc (.cells #[] 72)).drew from (below_then (below_alloc _ _) (below_alloc _ _)).drew)
    have LB := Lib.hid (show Below W.heap.size W ((W.alloc (.cells #[] 72)).alloc (.cells #[.int .i64 0, .int .i64 0, .slice none 0 0, .slice none 0 0] 38)).drew from (below_then (below_alloc _ _) (below_alloc _ _)).drew)
    have LZ := Lib.hid (show Below W.heap.size W (W.alloc (.cells #[.int .i64 0, .int .i64 0, .slice none 0 0, .slice none 0 0] 38)).drew from (below_alloc _ _).drew)
    have LC := Lib.hid (show Below W.heap.size W (W.alloc (.cells #[] 72)).drew from (below_alloc _ _).drew)
    have HA := Lib.hid (show Lg.Own ((W.alloc (.cells #[.int .i64 0, .int .i64 0, .slice none 0 0, .slice none 0 0] 38)).alloc (.cells #[] 72)).drew (W.heap.size + 1) (.slice (some ⟨W.heap.size + 1, 0, none⟩) 0 0) [] from own_drew (own_new _ _ (World.size_alloc _ _)))
    have HBo := Lib.hid (show Lg.Own ((W.alloc (.cells #[] 72)).alloc (.cells #[.int .i64 0, .int .i64 0, .slice none 0 0, .slice none 0 0] 38)).drew W.heap.size (.slice (some ⟨W.heap.size, 0, none⟩) 0 0) [] from own_drew (Lg.Own.alloc (own_newS W) _))
    have HC := Lib.hid (show Lg.Own (W.alloc (.cells #[] 72)).drew W.heap.size (.slice (some ⟨W.heap.size, 0, none⟩) 0 0) [] from own_drew (own_newS W))
    have SA := Lib.hid (HBW.out.later LA.out)
    have SB := Lib.hid (HBW.out.later LB.out)
    have SC := Lib.hid (HBW.out.later LC.out)
    have KA := Lib.hid (show Blk ((W.alloc (.cells #[.int .i64 0, .int .i64 0, .slice none 0 0, .slice none 0 0] 38)).alloc (.cells #[] 72)).drew W.heap.size 38 #[.int .i64 0, .int .i64 0, .slice none 0 0, .slice none 0 0] from blk_drew (blk_alloc (Blk.new W _ _) _))
    have KB := Lib.hid (show Blk ((W.alloc (.cells #[] 72)).alloc (.cells #[.int .i64 0, .int .i64 0, .slice none 0 0, .slice none 0 0] 38)).drew (W.heap.size + 1) 38 #[.int .i64 0, .int .i64 0, .slice none 0 0, .slice none 0 0] from blk_drew (blk_new _ _ _ _ (World.size_alloc _ _)))
    have HZR := Lib.hid (show w.heap.size + 2 ≤ W.heap.size ∧ w.heap.size + 2 ≤ W.heap.size + 1 by have := HZ.out; omega)
    have HNA := Lib.hid (show W.heap.size ≠ w.heap.size by have := HZ.out; omega)
    have HNB := Lib.hid (show W.heap.size + 1 ≠ w.heap.size by have := HZ.out; omega)
    have HL := Lib.hid (show ([] : List Nat).length + bs.length ≤ 140737488355328 by simp; omega)
    clear hW
    go_region_held3 (fun w' => w'.cell? ⟨w.heap.size, 0, none⟩ = some (.int .i64 kk) ∧ w'.cell? ⟨w.heap.size, 1, none⟩ = some (.int .i64 nn) ∧ w'.cell? ⟨w.heap.size, 2, none⟩ = some (.slice A bs.length p)) (first | with_reducible exact ⟨y0, y1, y2⟩ | with_reducible exact ⟨far4 y0 HNA.out, far4 y1 HNA.out, far4 y2 HNA.out⟩ | with_reducible exact ⟨far4 y0 HNB.out, far4 y1 HNB.out, far4 y2 HNB.out⟩ | with_reducible exact ⟨cell_stays (below_alloc _ _) y0, cell_stays (below_alloc _ _) y1, cell_stays (below_alloc _ _) y2⟩ | with_reducible exact ⟨cell_stays LA.out m0, cell_stays LA.out m1, cell_stays LA.out m2⟩ | with_reducible exact ⟨cell_stays LB.out m0, cell_stays LB.out m1, cell_stays LB.out m2⟩ | with_reducible exact ⟨cell_stays LC.out m0, cell_stays LC.out m1, cell_stays LC.out m2⟩ | with_reducible exact ⟨cell_stays LZ.out m0, cell_stays LZ.out m1, cell_stays LZ.out m2⟩ | go_keep) (first
      | ((with_reducible refine step_append_bits (by with_unfolding_all rfl) _ _ (by with_unfolding_all rfl) (W.heap.size + 1) _ _ [] bs (by with_unfolding_all rfl) (by with_unfolding_all rfl) HA.out SA.out HL.out ?_); intro v1 w1 hown1 hg1 hv1; obtain ⟨A1, q1, hv, -⟩ := hown1.sl; subst hv; have hg2 : World.grownBy _ w1 (some (W.heap.size + 1)) := hg1; have hr := HZR.out; have CA := Lib.hid (copy_app (r := W.heap.size + 1) (base := W.heap.size + 1) (H2.out.1.later LA.out) (H2.out.2.1.later LA.out) (below_then H2.out.2.2.1 LA.out) hr.2 hr.2 hown1 hg2); have NA := Lib.hid (KA.out.grown hg2 (by omega)); have NE : Hid (∀ g, (Value.slice A1 bs.length q1).ownBlock = some g → g ≠ W.heap.size) := ne_low hown1 (Nat.lt_succ_self _); clear hown1 hg1 hg2 hv1 hr; obtain ⟨y0, y1, y2, y3⟩ := four CA.out.b0; obtain ⟨n0, n1, n2, n3⟩ := four NA.out; have nf0 := NA.out.free 0; have nf1 := NA.out.free 1; have nf2 := NA.out.free 2; have nf3 := NA.out.free 3)
      | ((with_reducible refine step_append_bits (by with_unfolding_all rfl) _ _ (by with_unfolding_all rfl) (W.heap.size) _ _ [] bs (by with_unfolding_all rfl) (by with_unfolding_all rfl) HBo.out SB.out HL.out ?_); intro v1 w1 hown1 hg1 hv1; obtain ⟨A1, q1, hv, -⟩ := hown1.sl; subst hv; have hg2 : World.grownBy _ w1 (some (W.heap.size)) := hg1; have hr := HZR.out; have CA := Lib.hid (copy_app (r := W.heap.size) (base := W.heap.size) (H2.out.1.later LB.out) (H2.out.2.1.later LB.out) (below_then H2.out.2.2.1 LB.out) hr.1 hr.1 hown1 hg2); have NA := Lib.hid (KB.out.grown hg2 (by omega)); have NE : Hid (∀ g, (Value.slice A1 bs.length q1).ownBlock = some g → g ≠ W.heap.size + 1) := ne_new hv1 rfl (by simp [World.size_alloc]); clear hown1 hg1 hg2 hv1 hr; obtain ⟨y0, y1, y2, y3⟩ := four CA.out.b0; obtain ⟨n0, n1, n2, n3⟩ := four NA.out; have nf0 := NA.out.free 0; have nf1 := NA.out.free 1; have nf2 := NA.out.free 2; have nf3 := NA.out.free 3)
      | ((with_reducible refine step_append_bits (by with_unfolding_all rfl) _ _ (by with_unfolding_all rfl) (W.heap.size) _ _ [] bs (by with_unfolding_all rfl) (by with_unfolding_all rfl) HC.out SC.out HL.out ?_); intro v1 w1 hown1 hg1 hv1; obtain ⟨A1, q1, hv, -⟩ := hown1.sl; subst hv; have hg2 : World.grownBy _ w1 (some (W.heap.size)) := hg1; have hr := HZR.out; have CA := Lib.hid (copy_app (r := W.heap.size) (base := W.heap.size) (H2.out.1.later LC.out) (H2.out.2.1.later LC.out) (below_then H2.out.2.2.1 LC.out) hr.1 hr.1 hown1 hg2); clear hown1 hg1 hg2 hv1 hr; obtain ⟨y0, y1, y2, y3⟩ := four CA.out.b0))
    all_goals go_wp2
    all_goals go_meet
    all_goals first
      | exact mid_alloc CA.out
      | exact mid_store CA.out (by have := HZ.out; omega) NA.out NE.out
  case rest =>
    obtain ⟨B, A1, q1, rfl, hB, hKB, hK1, hK0, hO, hne, hbw⟩ := hcut
    have HNE := Lib.hid hne
    have HO1 := Lib.hid hO
    obtain ⟨G, hG⟩ : ∃ G, G = wc.heap.size := ⟨_, rfl⟩
    have HG := Lib.hid hG
    have HG1 := Lib.hid (show ∀ g, (Value.slice A1 bs.length q1).ownBlock = some g → g < G from fun g hg => by have := (hO.1.lt g hg).2; omega)
    have HGl := Lib.hid (show B < G by have := hKB.lt; omega)
    have K2 := Lib.hid hKB
    have K1 := Lib.hid hK1
    have K0 := Lib.hid hK0
    have HBw := Lib.hid hbw
    have HBh := Lib.hid hB
    obtain ⟨c0, c1, c2, c3⟩ := four K0.out
    clear hne hO hG hKB hK1 hK0 hbw hB H2
    go_wp2_with fail
    clear c0 c1 c2 c3
    go_loopw [18] (fun i wr => ∃ (k : Nat) (vl : Value), k ≤ ls.length ∧ i = .int .i64 k ∧ Hid (Blk wr B 38 #[.int .i64 kk, .int .i64 nn, .slice A1 bs.length q1, vl]) ∧ Hid (Blk wr (w.heap.size + 1) 38 #[.int .i64 0, .int .i64 0, .slice none 0 0, .slice none 0 0]) ∧ Hid (Blk wr w.heap.size 38 #[.int .i64 kk, .int .i64 nn, .slice A bs.length p, .slice D ls.length q]) ∧ Hid (Lg.Own wr (w.heap.size + 2) (.slice A1 bs.length q1) bs) ∧ Hid (OwnV (fun b => w.heap.size + 2 ≤ b ∧ b ≠ B) wr G vl (ls.take k)) ∧ Hid (Below w.heap.size w wr)) (fun i _ => ls.length - (intOf i).toNat)
    case atStart => exact ⟨0, .slice none 0 0, Nat.zero_le _, rfl, K2, K1, K0, HO1, OwnV.nil _ (by rw [HG.out]; omega), HBw⟩
    case round =>
      obtain ⟨k, vl, hk, rfl, R2, R1, R0, RO, RV, RB⟩ := hrel
      clear K2 K1 K0 HO1 HBw
      by_cases hlt : k < ls.length
      · have hD : D = some ⟨b', o', none⟩ := HD.out.resolve_left (by omega)
        subst hD
        obtain ⟨kk2, nn2, A2, m2, c2, A3, m3, c3, hva, g0, g1, g2, g3⟩ := row_at ls o' (HV.out.resolve_right (by omega)) k hlt
        replace g0 := cell_stays RB.out g0
        replace g1 := cell_stays RB.out g1
        replace g2 := cell_stays RB.out g2
        replace g3 := cell_stays RB.out g3
        have hba := below_alloc wr (.cells #[.int .i64 kk2, .int .i64 nn2, .slice A2 m2 c2, .slice A3 m3 c3] 38)
        have hbb := Lib.hid (below_drewN hba 1)
        obtain ⟨e0, e1, e2, e3⟩ := four (R2.out.later hba)
        have HX := Lib.hid (HS.out k hlt _ _ (below_drewN (below_then RB.out hba) 1) (VaC.later (below_drewN (below_then RB.out hba) 1) _ _ hva))
        have d1 : decide ((k : Int) < (ls.length : Int)) = true := by rw [decide_eq_true_eq]; omega
        have d2 : decide (k < ls.length) = true := by rw [decide_eq_true_eq]; omega
        have hki : (k : Int) < (ls.length : Int) := by omega
        have hk0 : (0 : Int) ≤ (k : Int) := by omega
        have hTk := Lib.hid (List.take_succ_eq_append_getElem hlt)
        have HL := Lib.hid (show (ls.take k).length < 100000 by rw [List.length_take]; omega)
        have HS3 := Lib.hid (show ∀ b, wr.heap.size ≤ b → w.heap.size + 2 ≤ b ∧ b ≠ B from fun b hb => by have := RV.out.2.2; have := HGl.out; have := HBh.out; omega)
        have HL5 := Lib.hid (show (ls.take k ++ [ls[k]]).length = k + 1 by rw [List.length_append, List.length_take, List.length_singleton]; omega)
        generalize ls[k] = x at HX hTk HL5
        clear hva hba
        go_wp2_with fail
        go_region_law (first | (refine step_append_va rfl _ _ rfl G vl (ls.take k) x _ _ _ _ rfl rfl (RV.out.kept HB4.out) HP4.out (new_cells _ _ _ _ _ _) HL.out ?_; intro v5 w5 hown5 hb5 hg5 ho5; obtain ⟨A5, q5, hv5⟩ := hown5.shape; rw [HL5.out] at hv5; subst hv5; have R5 := Lib.hid ((R2.out.later HB4.out).keep (hb5 _ (Nat.le_refl _)) HGl.out); obtain ⟨s0, s1, s2, s3⟩ := four R5.out; have sf := R5.out.free 3; have HV5 := Lib.hid hown5; have HB5 := Lib.hid (hb5 _ (Nat.le_refl _)); clear hown5 hb5 hg5 ho5) | (go_simp; go_at_call 29; refine (HX.out).mono ?_; rintro e w3 ⟨vb3, vl3, rfl, ho3, hv3, hb3⟩; have HP4 := Lib.hid (VaP.later (fresh_part (S := fun b => w.heap.size + 2 ≤ b ∧ b ≠ B) RV.out hbb.out ho3 hv3 HS3.out) (below_alloc w3 (.cells #[.int .i64 x.kind, .int .i64 x.n, vb3, vl3] 38))); have HB4 := Lib.hid (below_then (below_then hbb.out hb3) (below_alloc w3 (.cells #[.int .i64 x.kind, .int .i64 x.n, vb3, vl3] 38))); obtain ⟨t0, t1, t2, t3⟩ := four (R2.out.later (below_then hbb.out hb3)); obtain ⟨z0, z1, z2, z3⟩ := four (R2.out.later HB4.out); clear ho3 hv3 hb3))
        all_goals
          go_wp2
          go_roundw
          case rel =>
            refine ⟨k + 1, _, by omega, by go_num, R5.out.set 3 _, ((R1.out.later HB4.out).keep HB5.out (by have := HGl.out; have := HBh.out; omega)).other (show B ≠ w.heap.size + 1 by have := HBh.out; omega) _, ((R0.out.later HB4.out).keep HB5.out (by have := HGl.out; have := HBh.out; omega)).other (show B ≠ w.heap.size by have := HBh.out; omega) _, own_far (own_turn (RO.out.kept HB4.out) HB5.out.size (fun g hg => HB5.out.block g (HG1.out g hg))) HNE.out _, ?_, ((RB.out.trans (HB4.out.mono RB.out.size)).trans (HB5.out.mono (by have := HGl.out; have := HBh.out; omega))).setCell (show w.heap.size ≤ B by have := HBh.out; omega) _⟩
            rw [hTk.out]
            exact HV5.out.setLow (a := ⟨B, 3, none⟩) HGl.out (fun b hb => hb.2) _
          case measure => simp [intOf]; omega
      · obtain rfl : k = ls.length := by omega
        have hlk := RV.out
        rw [List.take_length] at hlk
        obtain ⟨A6, q6, hv6⟩ := hlk.shape
        subst hv6
        have HV6 := Lib.hid hlk
        obtain ⟨e0, e1, e2, e3⟩ := four R2.out
        obtain ⟨c0, c1, c2, c3⟩ := four R1.out
        have f0 := R1.out.free 0
        have f1 := R1.out.free 1
        have f2 := R1.out.free 2
        have f3 := R1.out.free 3
        clear hlk
        go_wp2
        refine bodyPost_ret (by simp [results, Tryz.results29, go_sem, c0, c1, c2, c3]; try rfl) rfl ?_
        have hs1 : w.heap.size + 1 < w.heap.size + 2 := by omega
        have hs2 : ∀ b, w.heap.size + 2 ≤ b ∧ b ≠ B → b ≠ w.heap.size + 1 := fun b hb => by omega
        have hs3 : w.heap.size + 1 < G := by have := HGl.out; have := HBh.out; omega
        have hs4 : w.heap.size ≤ w.heap.size + 1 := by omega
        refine ⟨_, _, rfl, own_weak (own_setLow (a := ⟨_, _, none⟩) (own_setLow (a := ⟨_, _, none⟩) (own_setLow (a := ⟨_, _, none⟩) (own_setLow (a := ⟨_, _, none⟩) RO.out hs1 _) hs1 _) hs1 _) hs1 _) (by omega), OwnV.weak (OwnV.setLow (a := ⟨_, _, none⟩) (OwnV.setLow (a := ⟨_, _, none⟩) (OwnV.setLow (a := ⟨_, _, none⟩) (OwnV.setLow (a := ⟨_, _, none⟩) HV6.out hs3 hs2 _) hs3 hs2 _) hs3 hs2 _) hs3 hs2 _) (by omega) (fun b hb => by omega), (((RB.out.setCell (p := ⟨_, _, none⟩) hs4 _).setCell (p := ⟨_, _, none⟩) hs4 _).setCell (p := ⟨_, _, none⟩) hs4 _).setCell (p := ⟨_, _, none⟩) hs4 _⟩
end Go.Proofs.YtdiagnhdigakpaaGreatDoor
