/- The listed package-level variables: from what the rows list to the five tables' cells. -/
import Derived.Test.YtaeehejnifhaaaaDoorAwake
import Derived.ProofKit
import Derived.LaidMore
import Derived.OpenShut
import Derived.Stop.Joined
import Derived.Lib.LaidTab
namespace Go.Proofs.YtaeehejnifhaaaaDoor
open Go.ChangeShapes Go.WideShapes Go.ChangeAt Go.WideMaps Go.WideElems Go.RowKit

def laid5 : List (String × DataW Unit) := [("netwright/logic.andTable", Rows.laid_netwright_logic_andTable), ("netwright/logic.orTable", Rows.laid_netwright_logic_orTable), ("netwright/logic.xorTable", Rows.laid_netwright_logic_xorTable), ("netwright/logic.notTable", Rows.laid_netwright_logic_notTable), ("netwright/logic.resolveTable", Rows.laid_netwright_logic_resolveTable)]

theorem own : ownKnob Tryd.prog.godebug = none := by kernel_rfl
theorem gAnd : Tryd.prog.globalNamed "netwright/logic.andTable" = some 0 := by kernel_rfl
theorem gOr : Tryd.prog.globalNamed "netwright/logic.orTable" = some 1 := by kernel_rfl
theorem gXor : Tryd.prog.globalNamed "netwright/logic.xorTable" = some 2 := by kernel_rfl
theorem gNot : Tryd.prog.globalNamed "netwright/logic.notTable" = some 3 := by kernel_rfl
theorem gRes : Tryd.prog.globalNamed "netwright/logic.resolveTable" = some 4 := by kernel_rfl
theorem tAnd : (Tryd.prog.globals[0]?).map (·.type) = some 61 := by kernel_rfl
theorem tOr : (Tryd.prog.globals[1]?).map (·.type) = some 61 := by kernel_rfl
theorem tXor : (Tryd.prog.globals[2]?).map (·.type) = some 61 := by kernel_rfl
theorem tNot : (Tryd.prog.globals[3]?).map (·.type) = some 60 := by kernel_rfl
theorem tRes : (Tryd.prog.globals[4]?).map (·.type) = some 61 := by kernel_rfl
theorem cBit : Tryd.prog.cellsOf 22 = 1 := by kernel_rfl
theorem cRow : Tryd.prog.cellsOf 60 = 4 := by kernel_rfl
theorem cTab : Tryd.prog.cellsOf 61 = 16 := by kernel_rfl

theorem row_cells {H : Type} {enc : TypeId × Value → H} {w : World} {base : Nat} {sp : Nat → Bool} {held : Bool} {fuel : Nat} {cs : List Value} {zs : List Int} {p : List MemPlace}
    (h : DataW.trod enc Tryd.prog w base sp held fuel 60 cs = some (Lib.tabData .u8 zs, p)) : cs = zs.map fun z => Value.int .u8 z :=
  Lib.cells_of_tab Tryd.underlying60 Tryd.underlying22 cBit cRow h

theorem tab_cells {H : Type} {enc : TypeId × Value → H} {w : World} {base : Nat} {sp : Nat → Bool} {held : Bool} {fuel : Nat} {cs : List Value} {zss : List (List Int)} {p : List MemPlace}
    (h : DataW.trod enc Tryd.prog w base sp held fuel 61 cs = some (.agg (zss.map fun zs => Lib.tabData .u8 zs), p)) (i : Nat) (hi : i < 4) :
    ∃ zs, zss[i]? = some zs ∧ (cs.drop (i * 4)).take 4 = zs.map fun z => Value.int .u8 z := by
  obtain ⟨xs, m, rfl, hx, _, hn, hel⟩ := DataW.trod_array Tryd.underlying61 h
  simp only [Prod.mk.injEq, DataW.agg.injEq] at hx
  have h1 := hel i hi
  rw [cRow] at h1
  have h2 : i < xs.length := by omega
  rw [List.getElem?_eq_getElem h2] at h1
  have h3 : (zss.map fun zs => (Lib.tabData .u8 zs : DataW H))[i]? = some xs[i].1 := by rw [hx.1, List.getElem?_map, List.getElem?_eq_getElem h2]; rfl
  rw [List.getElem?_map] at h3
  obtain ⟨zs, hz, he⟩ := Option.map_eq_some_iff.1 h3
  exact ⟨zs, hz, row_cells (p := xs[i].2) (by rw [h1, he])⟩

theorem tab_cell {H : Type} {enc : TypeId × Value → H} {w : World} {base : Nat} {sp : Nat → Bool} {held : Bool} {fuel : Nat} {cs : List Value} {zss : List (List Int)} {p : List MemPlace} (f : Nat → Nat → Nat)
    (hf : ∀ a b : Nat, a ≤ 3 → b ≤ 3 → ∃ zs, zss[a]? = some zs ∧ zs[b]? = some (f a b : Int))
    (h : DataW.trod enc Tryd.prog w base sp held fuel 61 cs = some (.agg (zss.map fun zs => Lib.tabData .u8 zs), p)) (a b : Nat) (ha : a ≤ 3) (hb : b ≤ 3) :
    cs[a * 4 + b]? = some (.int .u8 (f a b : Nat)) := by
  obtain ⟨zs, hz, hc⟩ := tab_cells h a (by omega)
  obtain ⟨zs', hz', hv⟩ := hf a b ha hb
  rw [hz] at hz'
  injection hz' with e
  subst e
  have : ((cs.drop (a * 4)).take 4)[b]? = cs[a * 4 + b]? := by rw [List.getElem?_take_of_lt (by omega), List.getElem?_drop]
  rw [← this, hc, List.getElem?_map, hv]; rfl

theorem four {P : Nat → Nat → Prop} (h : ∀ a, a ∈ [0, 1, 2, 3] → ∀ b, b ∈ [0, 1, 2, 3] → P a b) (a b : Nat) (ha : a ≤ 3) (hb : b ≤ 3) : P a b :=
  h a (by simp; omega) b (by simp; omega)

theorem of_laid {W : World} (h : laidMetH Tryd.prog laid5 W) : Tabs W := by
  rw [MakeChecks.laidMetH_plain _ _ _ (by kernel_rfl)] at h
  obtain ⟨ps, ⟨g0, t0, cs0, f0, p0, q0, hg0, ht0, hv0, hd0, ⟨g1, t1, cs1, f1, p1, q1, hg1, ht1, hv1, hd1, ⟨g2, t2, cs2, f2, p2, q2, hg2, ht2, hv2, hd2, ⟨g3, t3, cs3, f3, p3, q3, hg3, ht3, hv3, hd3, ⟨g4, t4, cs4, f4, p4, q4, hg4, ht4, hv4, hd4, _, _⟩, _⟩, _⟩, _⟩, _⟩, _, _⟩ := h
  obtain rfl := Option.some.inj (gAnd.symm.trans hg0)
  obtain rfl := Option.some.inj (gOr.symm.trans hg1)
  obtain rfl := Option.some.inj (gXor.symm.trans hg2)
  obtain rfl := Option.some.inj (gNot.symm.trans hg3)
  obtain rfl := Option.some.inj (gRes.symm.trans hg4)
  obtain rfl := Option.some.inj (tAnd.symm.trans ht0)
  obtain rfl := Option.some.inj (tOr.symm.trans ht1)
  obtain rfl := Option.some.inj (tXor.symm.trans ht2)
  obtain rfl := Option.some.inj (tNot.symm.trans ht3)
  obtain rfl := Option.some.inj (tRes.symm.trans ht4)
  refine ⟨fun a b ha hb => ?_, fun a b ha hb => ?_, fun a b ha hb => ?_, fun a b ha hb => ?_, fun a ha => ?_⟩
  · rw [World.var?_cell hg0 hv0, ← Array.getElem?_toList]
    exact tab_cell (zss := [[0, 0, 0, 0], [0, 1, 2, 2], [0, 2, 2, 2], [0, 2, 2, 2]]) andN (four (by decide)) hd0 a b ha hb
  · rw [World.var?_cell hg1 hv1, ← Array.getElem?_toList]
    exact tab_cell (zss := [[0, 1, 2, 2], [1, 1, 1, 1], [2, 1, 2, 2], [2, 1, 2, 2]]) orN (four (by decide)) hd1 a b ha hb
  · rw [World.var?_cell hg2 hv2, ← Array.getElem?_toList]
    exact tab_cell (zss := [[0, 1, 2, 2], [1, 0, 2, 2], [2, 2, 2, 2], [2, 2, 2, 2]]) xorN (four (by decide)) hd2 a b ha hb
  · rw [World.var?_cell hg4 hv4, ← Array.getElem?_toList]
    exact tab_cell (zss := [[0, 2, 2, 0], [2, 1, 2, 1], [2, 2, 2, 2], [0, 1, 2, 3]]) resN (four (by decide)) hd4 a b ha hb
  · rw [World.var?_cell hg3 hv3, ← Array.getElem?_toList]
    have := row_cells (zs := [1, 0, 2, 2]) hd3
    rw [this]
    obtain rfl | rfl | rfl | rfl : a = 0 ∨ a = 1 ∨ a = 2 ∨ a = 3 := by omega
    all_goals rfl

/-- The door's own heap meets the condition. -/
theorem door_met (os : Os) (args : Array Value) : laidMetH Tryd.prog laid5 ((World.doorLaid Tryd.prog 50 os).forCall (fun _ _ => 0) ⟨#[], args, []⟩).memory :=
  laidMetH_of_parts3 (fuel := 8) (laidMet_of_run' 8 (by kernel_rfl) (by kernel_rfl)) (by kernel_rfl) (by kernel_rfl)
end Go.Proofs.YtaeehejnifhaaaaDoor
