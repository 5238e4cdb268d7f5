/- The contracts of the program's Split and of the function that it hands to eachScalar. -/
import Derived.Test.YtdiagnhdigakpaaGreatDoorZd
import Derived.Test.YtdiagnhdigakpaaGreatDoorZe
import Derived.Deep.RegionWith
namespace Go.Proofs.YtdiagnhdigakpaaGreatDoor
open Go.RowKit

/-- What Split's variable holds: a row of the call's own, its memory all new. -/
def SplSt (p base : Nat) (ls : List Va) (u : World) : Prop := ∃ v, Blk u p 36 #[v] ∧ OwnV (fun b => base ≤ b) u base v ls
theorem splSt_lasts (p base : Nat) : Lasts (SplSt p base) := fun _ _ _ ⟨v, h1, h2⟩ hb => ⟨v, h1.later hb, h2.kept hb⟩
theorem set_last {α : Type} (ls : List α) (z x : α) : (ls ++ [z]).set ls.length x = ls ++ [x] := by
  rw [List.set_append_right _ _ (Nat.le_refl _), Nat.sub_self]
  rfl
theorem split1_after {base p bv : Nat} {ls : List Va} {x : Va} {v : Value} {cs : List Value} {ca : Array Value} {w0 W Wz w5 : World} {g5 n5 q5 : Nat} {z : Va}
    (_O1 : Hid (OwnV (fun b => base ≤ b) W base v ls)) (P1 : Hid (Blk W p 36 #[v])) (V1 : Hid (Blk W bv 38 ca)) (X1 : Hid (VaP (fun b => base ≤ b ∧ v.ownBlock ≠ some b) W x cs)) (B1 : Hid (Below w0.heap.size w0 W)) (HOL : Hid (∀ g, v.ownBlock = some g → base ≤ g ∧ g < bv)) (WZ : Hid (Below W.heap.size W Wz)) (HBP : Hid (p < base ∧ p < bv)) (HW0 : Hid (w0.heap.size ≤ base)) (HSZ : Hid (bv < W.heap.size))
    (hown5 : OwnV (fun b => base ≤ b) w5 base (.slice (some ⟨g5, 0, none⟩) n5 q5) (ls ++ [z])) (hb5 : ∀ B, B ≤ base → Below B Wz w5) (hg5 : Wz.grownBy w5 v.ownBlock) (ho5 : (Value.slice (some ⟨g5, 0, none⟩) n5 q5).ownBlock = v.ownBlock ∨ (Value.slice (some ⟨g5, 0, none⟩) n5 q5).ownBlock = some Wz.heap.size) :
    Blk w5 p 36 #[v] ∧ Blk w5 bv 38 ca ∧ VaP (fun b => base ≤ b ∧ b ≠ g5) w5 x cs ∧ Below w0.heap.size w0 w5 ∧ g5 ≠ p ∧ g5 ≠ bv := by
  have hz := WZ.out.size
  have hsz := HSZ.out
  have hg : g5 < bv ∧ v.ownBlock = some g5 ∨ g5 = Wz.heap.size := by
    rcases ho5 with e | e
    · have e' : v.ownBlock = some g5 := e.symm
      exact .inl ⟨(HOL.out g5 e').2, e'⟩
    · exact .inr (Option.some.inj e)
  have hge := (hown5.lt g5 rfl).1
  have hp := HBP.out
  refine ⟨(P1.out.later WZ.out).keep (hb5 base (Nat.le_refl _)) hp.1, (V1.out.later WZ.out).turn (hg5.block bv (V1.out.later WZ.out).lt (fun e => by have := (HOL.out bv e.symm).2; omega)), ?_, (below_then B1.out WZ.out).trans ((hb5 base (Nat.le_refl _)).mono HW0.out), by omega, by omega⟩
  refine VaP.turn (fun b hb hl => ?_) _ _ X1.out
  refine ⟨⟨hb.1, fun e => ?_⟩, (hg5.block b (by omega) (fun e => hb.2 e.symm)).trans (WZ.out.block b hl)⟩
  rcases hg with ⟨_, h2⟩ | h2
  · exact hb.2 (by rw [h2, e])
  · omega
set_option maxRecDepth 100000 in
set_option maxHeartbeats 16000000 in
theorem split1_at (p base : Nat) (hpb : p < base) (ls : List Va) (hl : ls.length < 4096) (x : Va) (v : Value) (A B : Option Addr) (n c m d : Nat) (w0 u : World) (hw0 : w0.heap.size ≤ p) (_hbs : base ≤ u.heap.size)
    (hP : Hid (Blk u p 36 #[v])) (hO : Hid (OwnV (fun b => base ≤ b) u base v ls)) (hX : Hid (VaP (fun b => base ≤ b ∧ v.ownBlock ≠ some b) u x [.int .i64 x.kind, .int .i64 x.n, .slice A n c, .slice B m d])) (hB : Hid (Below w0.heap.size w0 u)) :
    Calls Tryz.prog 84 #[.agg #[.int .i64 x.kind, .int .i64 x.n, .slice A n c, .slice B m d], .pointer (some ⟨p, 0, none⟩)] u (EachPost w0 (SplSt p base) (ls ++ [x])) := by
  have hba := below_alloc u (.cells #[.int .i64 x.kind, .int .i64 x.n, .slice A n c, .slice B m d] 38)
  have V1 := Lib.hid (box1 u 38 #[.int .i64 x.kind, .int .i64 x.n, .slice A n c, .slice B m d])
  obtain ⟨bv, hbv⟩ : ∃ bv, bv = u.heap.size := ⟨_, rfl⟩
  have hbp : p < bv := by rw [hbv]; exact hP.out.lt
  have P1 := Lib.hid (hP.out.later hba)
  have O1 := Lib.hid (hO.out.kept hba)
  have X1 := Lib.hid (hX.out.later hba)
  have B1 := Lib.hid (below_then hB.out hba)
  have hszb : (u.alloc (.cells #[.int .i64 x.kind, .int .i64 x.n, .slice A n c, .slice B m d] 38)).heap.size = bv + 1 := by rw [World.size_alloc, hbv]
  rw [← hbv] at V1
  have hol : ∀ g, v.ownBlock = some g → base ≤ g ∧ g < bv := fun g hg => by rw [hbv]; exact hO.out.lt g hg
  have HOL := Lib.hid hol
  obtain ⟨A9, q9, hv9⟩ := hO.out.shape
  have HL := Lib.hid (show ls.length < 100000 by omega)
  have HL5 := Lib.hid (show (ls ++ [zeroV]).length = ls.length + 1 by rw [List.length_append, List.length_singleton])
  have HSL := Lib.hid (set_last ls zeroV x)
  have HBP := Lib.hid (show p < base ∧ p < bv from ⟨hpb, hbp⟩)
  subst hv9
  clear hP hO hX hB hba hol
  go_enter Tryz.func84, Tryz.ntmps84
  go_upto_region 1 with fail
  rw [← hbv] at *
  generalize u.alloc (.cells #[.int .i64 x.kind, .int .i64 x.n, .slice A n c, .slice B m d] 38) = W at *
  have c1 : (0 : Int) ≤ (ls.length : Int) := by omega
  have c2 : (ls.length : Int) < (ls.length : Int) + 1 := by omega
  have c4 : decide ((ls.length : Int) < (ls.length : Int) + 1) = true := by rw [decide_eq_true_eq]; omega
  have c3 : decide (ls.length < ls.length + 1) = true := by rw [decide_eq_true_eq]; omega
  have WD := Lib.hid ((Below.refl W.heap.size W).drew)
  have WZ := Lib.hid (below_then WD.out (below_alloc W.drew (.cells #[.int .i64 0, .int .i64 0, .slice none 0 0, .slice none 0 0] 38)))
  obtain ⟨w0_, w1_, w2_, w3_⟩ := four (V1.out.later WD.out)
  obtain ⟨z0_, z1_, z2_, z3_⟩ := four (V1.out.later WZ.out)
  have p0_ := (P1.out.later WD.out).cell 0
  have p1_ := (P1.out.later WZ.out).cell 0
  have WY := Lib.hid (show Below W.heap.size W (W.alloc (.cells #[.int .i64 0, .int .i64 0, .slice none 0 0, .slice none 0 0] 38)).drew from (below_alloc W (.cells #[.int .i64 0, .int .i64 0, .slice none 0 0, .slice none 0 0] 38)).drew)
  obtain ⟨x0_, x1_, x2_, x3_⟩ := four (V1.out.later WY.out)
  have p2_ := (P1.out.later WY.out).cell 0
  have hlw : ls.length + 1 ≤ 4096 := by omega
  have HW0 := Lib.hid (show w0.heap.size ≤ base by omega)
  have HWP := Lib.hid hw0
  have HSZ := Lib.hid (show bv < W.heap.size by omega)
  clear hszb hbp hpb hw0
  go_region_law (first | (refine step_append_va rfl _ _ rfl base _ ls zeroV zero4 _ _ _ rfl rfl (O1.out.kept WZ.out) (zero_P _) (new_cells _ _ _ _ _ _) HL.out ?_; intro v5 w5 hown5 hb5 hg5 ho5; obtain ⟨g5, q5, hv5, l1, l2⟩ := hown5.some (by simp); rw [HL5.out] at hv5; subst hv5; have FA := Lib.hid (split1_after O1 P1 V1 X1 B1 HOL WZ HBP HW0 HSZ hown5 hb5 hg5 ho5); obtain ⟨P5, V5, X5, B5, r1, r2⟩ := FA.out; have HP5 := Lib.hid P5; have HV5 := Lib.hid V5; have HX5 := Lib.hid X5; have HB5 := Lib.hid B5; have HO5 := Lib.hid hown5; have HR := Lib.hid (show g5 ≠ p ∧ g5 ≠ bv from ⟨r1, r2⟩); have HO6 := Lib.hid (hown5.setLow (a := ⟨p, 0, none⟩) HBP.out.1 (fun b hb => show b ≠ p by have := HBP.out.1; omega) (.slice (some ⟨g5, 0, none⟩) (ls.length + 1) q5)); have HV6 := Lib.hid (V5.other (a := ⟨p, 0, none⟩) (show p ≠ bv by have := HBP.out.2; omega) (.slice (some ⟨g5, 0, none⟩) (ls.length + 1) q5)); have hkl : ls.length < (ls ++ [zeroV]).length := (by have := HL5.out; omega); obtain ⟨y0, o0, f0⟩ := hown5.cell4 ls.length hkl 0 (by omega); obtain ⟨y1, o1, f1⟩ := hown5.cell4 ls.length hkl 1 (by omega); obtain ⟨y2, o2, f2⟩ := hown5.cell4 ls.length hkl 2 (by omega); obtain ⟨y3, o3, f3⟩ := hown5.cell4 ls.length hkl 3 (by omega); rw [Nat.add_zero] at o0 f0; obtain ⟨y4, o4, f4⟩ := HO6.out.cell4 ls.length hkl 0 (by omega); obtain ⟨y5, o5, f5⟩ := HO6.out.cell4 ls.length hkl 1 (by omega); obtain ⟨y6, o6, f6⟩ := HO6.out.cell4 ls.length hkl 2 (by omega); obtain ⟨y7, o7, f7⟩ := HO6.out.cell4 ls.length hkl 3 (by omega); rw [Nat.add_zero] at o4 f4; have HKL := Lib.hid hkl; obtain ⟨a0, a1, a2, a3⟩ := four V5; obtain ⟨b0, b1, b2, b3⟩ := four HV6.out; have HV7 := Lib.hid ((((V5.other (a := ⟨g5, ls.length * 4, none⟩) r2 (.int .i64 x.kind)).other (a := ⟨g5, ls.length * 4 + 1, none⟩) r2 (.int .i64 x.n)).other (a := ⟨g5, ls.length * 4 + 2, none⟩) r2 (.slice A n c)).other (a := ⟨g5, ls.length * 4 + 3, none⟩) r2 (.slice B m d)); have HV8 := Lib.hid (HV7.out.other (a := ⟨p, 0, none⟩) (show p ≠ bv by have := HBP.out.2; omega) (.slice (some ⟨g5, 0, none⟩) (ls.length + 1) q5)); have HV9 := Lib.hid ((((HV6.out.other (a := ⟨g5, ls.length * 4, none⟩) r2 (.int .i64 x.kind)).other (a := ⟨g5, ls.length * 4 + 1, none⟩) r2 (.int .i64 x.n)).other (a := ⟨g5, ls.length * 4 + 2, none⟩) r2 (.slice A n c)).other (a := ⟨g5, ls.length * 4 + 3, none⟩) r2 (.slice B m d)); obtain ⟨d0, d1, d2, d3⟩ := four HV7.out; obtain ⟨e0, e1, e2, e3⟩ := four HV8.out; obtain ⟨h0, h1, h2, h3⟩ := four HV9.out; have pc := P5.cell 0; have pf := P5.free 0; have HP7 := Lib.hid ((((P5.other (a := ⟨g5, ls.length * 4, none⟩) r1 (.int .i64 x.kind)).other (a := ⟨g5, ls.length * 4 + 1, none⟩) r1 (.int .i64 x.n)).other (a := ⟨g5, ls.length * 4 + 2, none⟩) r1 (.slice A n c)).other (a := ⟨g5, ls.length * 4 + 3, none⟩) r1 (.slice B m d)); have qc := HP7.out.cell 0; have HR2 := Lib.hid l1; have EA := Lib.hid (show EachPost w0 (SplSt p base) (ls ++ [x]) (.returned (.tuple #[])) (((((w5.setCell ⟨g5, ls.length * 4, none⟩ (.int .i64 x.kind)).setCell ⟨g5, ls.length * 4 + 1, none⟩ (.int .i64 x.n)).setCell ⟨g5, ls.length * 4 + 2, none⟩ (.slice A n c)).setCell ⟨g5, ls.length * 4 + 3, none⟩ (.slice B m d)).setCell ⟨p, 0, none⟩ (.slice (some ⟨g5, 0, none⟩) (ls.length + 1) q5)) from ⟨rfl, ⟨_, HP7.out.set 0 _, (by rw [← HSL.out]; exact (HO5.out.stored4 HX5.out ls.length HKL.out).setLow (a := ⟨p, 0, none⟩) HBP.out.1 (fun b (hb : base ≤ b) => show b ≠ p by have := HBP.out.1; omega) _)⟩, (((((HB5.out).setCell (p := ⟨_, _, none⟩) (show w0.heap.size ≤ g5 by have := HR2.out; have := HW0.out; omega) _).setCell (p := ⟨_, _, none⟩) (show w0.heap.size ≤ g5 by have := HR2.out; have := HW0.out; omega) _).setCell (p := ⟨_, _, none⟩) (show w0.heap.size ≤ g5 by have := HR2.out; have := HW0.out; omega) _).setCell (p := ⟨_, _, none⟩) (show w0.heap.size ≤ g5 by have := HR2.out; have := HW0.out; omega) _).setCell (p := ⟨_, _, none⟩) (show w0.heap.size ≤ p by have := HWP.out; omega) _⟩); have EB := Lib.hid (show EachPost w0 (SplSt p base) (ls ++ [x]) (.returned (.tuple #[])) (((((w5.setCell ⟨p, 0, none⟩ (.slice (some ⟨g5, 0, none⟩) (ls.length + 1) q5)).setCell ⟨g5, ls.length * 4, none⟩ (.int .i64 x.kind)).setCell ⟨g5, ls.length * 4 + 1, none⟩ (.int .i64 x.n)).setCell ⟨g5, ls.length * 4 + 2, none⟩ (.slice A n c)).setCell ⟨g5, ls.length * 4 + 3, none⟩ (.slice B m d)) from ⟨rfl, ⟨_, ((((HP5.out.set 0 (.slice (some ⟨g5, 0, none⟩) (ls.length + 1) q5)).other (a := ⟨g5, ls.length * 4, none⟩) HR.out.1 (.int .i64 x.kind)).other (a := ⟨g5, ls.length * 4 + 1, none⟩) HR.out.1 (.int .i64 x.n)).other (a := ⟨g5, ls.length * 4 + 2, none⟩) HR.out.1 (.slice A n c)).other (a := ⟨g5, ls.length * 4 + 3, none⟩) HR.out.1 (.slice B m d), (by rw [← HSL.out]; exact HO6.out.stored4 (HX5.out.set (a := ⟨p, 0, none⟩) (fun b (hb : base ≤ b ∧ b ≠ g5) => show b ≠ p by have := HBP.out.1; omega) _) ls.length HKL.out)⟩, (((((HB5.out).setCell (p := ⟨_, _, none⟩) (show w0.heap.size ≤ p by have := HWP.out; omega) _).setCell (p := ⟨_, _, none⟩) (show w0.heap.size ≤ g5 by have := HR2.out; have := HW0.out; omega) _).setCell (p := ⟨_, _, none⟩) (show w0.heap.size ≤ g5 by have := HR2.out; have := HW0.out; omega) _).setCell (p := ⟨_, _, none⟩) (show w0.heap.size ≤ g5 by have := HR2.out; have := HW0.out; omega) _).setCell (p := ⟨_, _, none⟩) (show w0.heap.size ≤ g5 by have := HR2.out; have := HW0.out; omega) _⟩); have qf := HP7.out.free 0; have r3 : p ≠ g5 := Ne.symm r1; have r4 : ¬ p = g5 := Ne.symm r1; have r5 : ¬ g5 = p := r1; clear hown5 hb5 hg5 ho5 l1 l2 FA P5 V5 X5 B5 r2 hkl))
  all_goals go_wp2
  all_goals go_returns
  all_goals first | with_reducible exact EA.out | with_reducible exact EB.out
end Go.Proofs.YtdiagnhdigakpaaGreatDoor
