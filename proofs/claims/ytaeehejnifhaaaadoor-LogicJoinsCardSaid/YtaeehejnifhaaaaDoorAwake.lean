/- The laws' own check, awake, returns true wherever the five tables lie. -/
import Derived.Test.YtaeehejnifhaaaaDoorText
namespace Go.Proofs.YtaeehejnifhaaaaDoor
open Go.RowKit

theorem Sl.lit (w : World) (zs : List Nat) (cs : Array Value) (hcs : cs.toList = bitCells zs) (hz : ∀ z ∈ zs, z < 256) (hl : zs.length ≤ 1000) (n : Nat) (hn : n = w.heap.size) (k c : Nat) (hk : k = zs.length) :
    Sl (w.alloc (.cells cs 22)) (.slice (some ⟨n, 0, none⟩) k c) zs := by
  subst hn hk
  refine ⟨_, c, rfl, by omega, hz, .inr ⟨w.heap.size, 0, rfl, fun j hj => ?_⟩⟩
  rw [World.cell?_alloc_at _ _ _ _ rfl, Nat.zero_add, ← Array.getElem?_toList, hcs, bitCells_get hj]

theorem op_11 (w : World) (hT : Tabs w) : Calls Tryd.prog 13 #[.string ⟨#[97, 110, 100]⟩, .int .u8 1, .int .u8 1] w fun e w' => e = .returned (.tuple #[.int .u8 1, .int .i64 0]) ∧ w = w' :=
  (op_any ⟨#[97, 110, 100]⟩ 1 1 w hT).mono fun _ _ ⟨he, hw⟩ => ⟨he.trans (ret_ii (by kernel_rfl) (by kernel_rfl)), hw⟩
theorem op_41 (w : World) : Calls Tryd.prog 13 #[.string ⟨#[97, 110, 100]⟩, .int .u8 4, .int .u8 1] w fun e w' => e = .returned (.tuple #[.int .u8 0, .int .i64 2]) ∧ w = w' :=
  op_bad _ 4 1 w (by omega)
theorem not_0 (w : World) (hT : Tabs w) : Calls Tryd.prog 15 #[.int .u8 0] w fun e w' => e = .returned (.tuple #[.int .u8 1, .int .i64 0]) ∧ w = w' :=
  not_good 0 w hT (by omega)
theorem edge_01 (w : World) : Calls Tryd.prog 17 #[.int .u8 0, .int .u8 1] w fun e w' => e = .returned (.tuple #[.int .i64 1, .int .i64 0]) ∧ w = w' :=
  edge_any 0 1 w
theorem resolve_313 (v : Value) (w : World) (hT : Tabs w) (h : Sl w v [3, 1, 3]) : Calls Tryd.prog 22 #[v] w fun e w' => e = .returned (.tuple #[.int .u8 1, .int .i64 0]) ∧ w = w' :=
  resolve_any v [3, 1, 3] w hT h
theorem text_1230 (v : Value) (w : World) (h : Sl w v [1, 2, 3, 0]) : Calls Tryd.prog 35 #[v] w fun e w' => e = .returned (.tuple #[.string ⟨#[48, 122, 120, 49]⟩, .int .i64 0]) ∧ Below w.heap.size w w' :=
  text_any v [1, 2, 3, 0] w h
theorem parse_0z1 (w : World) : Calls Tryd.prog 39 #[.string ⟨#[48, 122, 49]⟩] w fun e w' => ∃ u, e = .returned (.tuple #[u, .int .i64 0]) ∧ Sl w' u [1, 3, 0] ∧ Below w.heap.size w w' :=
  parse_any ⟨#[48, 122, 49]⟩ w

theorem same_13 (v u : Value) (w : World) (h : Sl w v [1, 3, 0]) (h' : Sl w u [1, 3, 0]) : Calls Tryd.prog 24 #[v, u] w fun e w' => e = .returned (.bool true) ∧ Below w.heap.size w w' :=
  same_any v u [1, 3, 0] [1, 3, 0] w h h'
theorem is_13 (v : Value) (w : World) (h : Sl w v [1, 3, 0]) : Calls Tryd.prog 27 #[v] w fun e w' => e = .returned (.bool true) ∧ w = w' :=
  is_any v [1, 3, 0] w h

set_option maxHeartbeats 1000000 in
set_option maxRecDepth 100000 in
theorem awake_any (w : World) (hT : Tabs w) :
    Calls Tryd.prog 19 #[] w fun e w' => e = .returned (.bool true) ∧ Below w.heap.size w w' := by
  have HT := Lib.hid hT
  clear hT
  go_enter Tryd.func19, Tryd.ntmps19
  go_wp2_with fail
  refine (op_11 _ HT.out).mono ?_
  rintro e w' ⟨rfl, rfl⟩
  go_wp2_with fail
  refine (not_0 _ HT.out).mono ?_
  rintro e w' ⟨rfl, rfl⟩
  go_wp2_with fail
  have hb1 := below_alloc w (.cells #[.int .u8 3, .int .u8 1, .int .u8 3] 22)
  refine (resolve_313 _ _ (HT.out.later hb1) (Sl.lit w [3, 1, 3] _ rfl (by decide) (by decide) _ rfl _ _ rfl)).mono ?_
  rintro e w' ⟨rfl, rfl⟩
  have HB1 := Lib.hid hb1
  clear hb1
  go_wp2_with fail
  refine (text_1230 _ _ (Sl.lit _ [1, 2, 3, 0] _ rfl (by decide) (by decide) _ (by simp) _ _ rfl)).mono ?_
  rintro e w2 ⟨rfl, hb2⟩
  have HB2 := Lib.hid (below_then HB1.out (below_then (below_alloc _ _) hb2))
  clear hb2 HB1
  go_wp2_with fail
  refine (parse_0z1 _).mono ?_
  rintro e w3 ⟨u, rfl, hs3, hb3⟩
  have HS3 := Lib.hid hs3
  have HB3 := Lib.hid (below_then HB2.out hb3)
  clear hs3 hb3 HB2
  go_wp2_with fail
  refine (edge_01 _).mono ?_
  rintro e w' ⟨rfl, rfl⟩
  go_wp2_with fail
  refine (op_41 _).mono ?_
  rintro e w' ⟨rfl, rfl⟩
  go_wp2_with fail
  refine (same_13 _ _ _ (HS3.out.later (below_alloc _ _)) (Sl.lit w3 [1, 3, 0] _ rfl (by decide) (by decide) _ rfl _ _ rfl)).mono ?_
  rintro e w4 ⟨rfl, hb4⟩
  have hb5 := below_then (below_alloc w3 (.cells #[.int .u8 1, .int .u8 3, .int .u8 0] 22)) hb4
  have HS4 := Lib.hid (HS3.out.later hb5)
  have HB4 := Lib.hid (below_then HB3.out hb5)
  clear hb4 hb5 HB3 HS3
  go_wp2_with fail
  refine (is_13 _ _ HS4.out).mono ?_
  rintro e w' ⟨rfl, rfl⟩
  go_wp2
  go_ret
  exact ⟨rfl, HB4.out⟩
end Go.Proofs.YtaeehejnifhaaaaDoor
