/- The contracts of the reference's places and Places. -/
import Derived.Test.YtgcnckkpfeffnaaGreatDoorYb
import Derived.Test.YtgcnckkpfeffnaaGreatDoorYe
namespace Go.Proofs.YtgcnckkpfeffnaaGreatDoor
open Go.RowKit

/-- What places returns: a row of the call's own; what its types reach is of a kind. -/
def PlcPost (S : Nat → Prop) (ls : List Ty) (w : World) (e : Ending) (w' : World) : Prop := ∃ v, e = .returned v ∧ OwnT S w' w.heap.size v ls ∧ Below w.heap.size w w'
theorem ownT_one {S : Nat → Prop} {w : World} {base : Nat} {x : Ty} {a0 a1 a2 a3 a4 : Value} (hx : TyP S w x [a0, a1, a2, a3, a4]) (hb : base ≤ w.heap.size) : OwnT S (w.alloc (.cells #[a0, a1, a2, a3, a4] 26)) base (.slice (some ⟨w.heap.size, 0, none⟩) 1 1) [x] := by
  refine ⟨⟨[[a0, a1, a2, a3, a4]], ⟨by simp, .inr ⟨w.heap.size, 1, _, rfl, hb, heap_alloc_new w _, Nat.le_refl _, by decide, rfl, by simp⟩⟩, rfl, by simp, fun k hk hk' => ?_⟩, by simp, by rw [World.size_alloc]; omega⟩
  have : k = 0 := by simp at hk; omega
  subst this
  exact (hx.mono (S' := fun b => S b ∧ (Value.slice (some ⟨w.heap.size, 0, none⟩) 1 1).ownBlock ≠ some b) fun b hb' hl => ⟨hb', fun e => by have e' : w.heap.size = b := Option.some.inj e; omega⟩).later (below_alloc _ _)
theorem flat_rep {α : Type} (k : Nat) (l : List α) : (List.replicate k l).flatten.length = k * l.length := by
  induction k with
  | zero => simp
  | succ k ih => rw [List.replicate_succ, List.flatten_cons, List.length_append, ih, Nat.succ_mul, Nat.add_comm]
theorem bit_rows (S : Nat → Prop) (w : World) : ∀ (k : Nat) (_h : k < [bitT].length) (h' : k < [([.int .i64 1, .int .i64 0, .string ⟨#[]⟩, .slice none 0 0, .slice none 0 0] : List Value)].length), TyP S w [bitT][k] [[.int .i64 1, .int .i64 0, .string ⟨#[]⟩, .slice none 0 0, .slice none 0 0]][k] := fun k hk hk' => by
  have : k = 0 := by simp at hk; omega
  subst this
  unfold bitT
  exact tyP_iff.2 ⟨_, _, rfl, strP_none _ _, tysP_none _ _⟩
set_option maxRecDepth 100000 in
set_option maxHeartbeats 8000000 in
theorem rplc_o (S : Nat → Prop) (t : Ty) (k l : Int) (nm : ByteArray) (v3 v4 : Value) (w : World) (h4 : (k == 4) = false) (h6 : (k == 6) = false) (_hS : Hid (∀ b, S b → b < w.heap.size)) (h : Hid (TyP S w t [.int .i64 k, .int .i64 l, .string nm, v3, v4])) :
    Calls Tryz.prog 73 #[.agg #[.int .i64 k, .int .i64 l, .string nm, v3, v4]] w (PlcPost S [t] w) := by
  have B0 := Lib.hid (below_alloc w (.cells #[.int .i64 k, .int .i64 l, .string nm, v3, v4] 26))
  have T0 := Lib.hid (box1 w 26 #[.int .i64 k, .int .i64 l, .string nm, v3, v4])
  go_enter Tryz.func73, Tryz.ntmps73
  obtain ⟨tc_0, tc_1, tc_2, tc_3, tc_4⟩ := fives T0.out
  go_wp2
  go_ret
  have HO := ownT_one (h.out.later B0.out) B0.out.size
  have HB := below_then B0.out (below_alloc (w.alloc (.cells #[.int .i64 k, .int .i64 l, .string nm, v3, v4] 26)) (.cells #[.int .i64 k, .int .i64 l, .string nm, v3, v4] 26))
  rw [World.size_alloc] at HO
  exact ⟨_, rfl, HO, HB⟩
set_option maxRecDepth 100000 in
set_option maxHeartbeats 8000000 in
theorem rplc_4 (S : Nat → Prop) (l : Nat) (h64 : l ≤ 64) (nm : ByteArray) (v3 v4 : Value) (w : World) :
    Calls Tryz.prog 73 #[.agg #[.int .i64 4, .int .i64 (l : Nat), .string nm, v3, v4]] w (PlcPost S (List.replicate l [bitT]).flatten w) := by
  have B0 := Lib.hid (below_alloc w (.cells #[.int .i64 4, .int .i64 (l : Nat), .string nm, v3, v4] 26))
  have T0 := Lib.hid (box1 w 26 #[.int .i64 4, .int .i64 (l : Nat), .string nm, v3, v4])
  go_enter Tryz.func73, Tryz.ntmps73
  obtain ⟨tc_0, tc_1, tc_2, tc_3, tc_4⟩ := fives T0.out
  have O0 : Hid (OwnT S (w.alloc (.cells #[.int .i64 4, .int .i64 (l : Nat), .string nm, v3, v4] 26)) (w.heap.size + 1) (.slice none 0 0) (List.replicate 0 [bitT]).flatten) := OwnT.nil _ (by rw [World.size_alloc]; omega)
  go_wp2_with fail
  clear tc_0 tc_1 tc_2 tc_3 tc_4
  go_loopw [3, 10] (fun v i wr => ∃ (k : Nat) (vb : Value), k ≤ l ∧ vb = v ∧ i = .int .i64 k ∧ Hid (Blk wr w.heap.size 26 #[.int .i64 4, .int .i64 (l : Nat), .string nm, v3, v4]) ∧ Hid (OwnT S wr (w.heap.size + 1) vb (List.replicate k [bitT]).flatten) ∧ Hid (Below w.heap.size w wr)) (fun _ i _ => l - (intOf i).toNat)
  case atStart => exact ⟨0, _, Nat.zero_le _, rfl, rfl, T0, O0, B0⟩
  case round =>
    obtain ⟨k, vb, hk, rfl, rfl, NT, NO, NB⟩ := hrel
    clear B0 T0 O0
    by_cases hlt : k < l
    · have d1 : decide ((k : Int) < (l : Int)) = true := by rw [decide_eq_true_eq]; omega
      have HS := Lib.hid (show (List.replicate k [bitT]).flatten ++ [bitT] = (List.replicate (k + 1) [bitT]).flatten by rw [List.replicate_succ', List.flatten_append, List.flatten_singleton])
      have hL := flat_rep k [bitT]
      obtain ⟨e0, e1, e2, e3, e4⟩ := fives NT.out
      have HTl := Lib.hid NT.out.lt
      have Z := Lib.hid (below_alloc wr (.cells #[.int .i64 1, .int .i64 0, .string ⟨#[]⟩, .slice none 0 0, .slice none 0 0] 26))
      have TA := Lib.hid (NT.out.later Z.out)
      have BA := Lib.hid (below_then NB.out Z.out)
      have HL := Lib.hid (show (List.replicate k [bitT]).flatten.length + [bitT].length ≤ 100000 by rw [hL, List.length_singleton]; omega)
      have hc : ∀ j, j < [bitT].length * 5 → (wr.alloc (.cells #[.int .i64 1, .int .i64 0, .string ⟨#[]⟩, .slice none 0 0, .slice none 0 0] 26)).cell? ⟨wr.heap.size, 0 + j, none⟩ = [[.int .i64 1, .int .i64 0, .string ⟨#[]⟩, .slice none 0 0, .slice none 0 0]].flatten[j]? := fun j hj => new_cells5 wr _ _ _ _ _ _ j hj
      have HC := Lib.hid hc
      clear hc hL
      go_wp2_with (at_builtin; refine wpList_append_tys rfl _ _ rfl (w.heap.size + 1) _ (List.replicate k [bitT]).flatten [bitT] [[.int .i64 1, .int .i64 0, .string ⟨#[]⟩, .slice none 0 0, .slice none 0 0]] _ _ _ rfl rfl (NO.out.kept Z.out) rfl (by simp) (bit_rows _ _) HC.out HL.out ?_; intro v5 w5 hown5 hb5 _ _; have T5 := Lib.hid (TA.out.keep (hb5 _ (Nat.le_refl _)) (Nat.lt_succ_self _)); have O5 := Lib.hid hown5; have B5 := Lib.hid (BA.out.trans ((hb5 _ (Nat.le_refl _)).mono (Nat.le_succ _))); clear hown5 hb5)
      go_wp2
      go_roundw
      case rel => exact ⟨k + 1, _, by omega, rfl, by go_num, T5, by rw [← HS.out]; exact O5, B5⟩
      case measure => simp [intOf]; omega
    · obtain rfl : k = l := by omega
      have d1 : decide ((k : Int) < (k : Int)) = false := by rw [decide_eq_false_iff_not]; omega
      go_wp2
      go_ret
      exact ⟨_, rfl, NO.out.weak (by omega) (fun _ h => h), NB.out⟩
set_option maxRecDepth 100000 in
set_option maxHeartbeats 8000000 in
theorem rplc_6 (S : Nat → Prop) (ys : List Ty) (hpos : 0 < ys.length) (hy64 : ys.length ≤ 64) (l : Nat) (h64 : l ≤ 64) (nm : ByteArray) (v3 : Value) (b off d : Nat) (k1 l1 : Int) (nm1 : ByteArray) (A1 A2 : Option Addr) (n1 c1 n2 c2 : Nat) (w : World) (hS : Hid (∀ b, S b → b < w.heap.size))
    (h5 : Hid (Ty5 w b off k1 l1 nm1 (.slice A1 n1 c1) (.slice A2 n2 c2)))
    (HR : Hid (∀ u, Below w.heap.size w u → Calls Tryz.prog 73 #[.agg #[.int .i64 k1, .int .i64 l1, .string nm1, .slice A1 n1 c1, .slice A2 n2 c2]] u (PlcPost S ys u))) :
    Calls Tryz.prog 73 #[.agg #[.int .i64 6, .int .i64 (l : Nat), .string nm, v3, .slice (some ⟨b, off, none⟩) 1 d]] w (PlcPost S (List.replicate l ys).flatten w) := by
  have B0 := Lib.hid (below_alloc w (.cells #[.int .i64 6, .int .i64 (l : Nat), .string nm, v3, .slice (some ⟨b, off, none⟩) 1 d] 26))
  have T0 := Lib.hid (box1 w 26 #[.int .i64 6, .int .i64 (l : Nat), .string nm, v3, .slice (some ⟨b, off, none⟩) 1 d])
  go_enter Tryz.func73, Tryz.ntmps73
  obtain ⟨tc_0, tc_1, tc_2, tc_3, tc_4⟩ := fives T0.out
  have O0 : Hid (OwnT S (w.alloc (.cells #[.int .i64 6, .int .i64 (l : Nat), .string nm, v3, .slice (some ⟨b, off, none⟩) 1 d] 26)) (w.heap.size + 1) (.slice none 0 0) (List.replicate 0 ys).flatten) := OwnT.nil _ (by rw [World.size_alloc]; omega)
  go_wp2_with fail
  clear tc_0 tc_1 tc_2 tc_3 tc_4
  go_loopw [3, 22] (fun v i wr => ∃ (k : Nat) (vb : Value), k ≤ l ∧ vb = v ∧ i = .int .i64 k ∧ Hid (Blk wr w.heap.size 26 #[.int .i64 6, .int .i64 (l : Nat), .string nm, v3, .slice (some ⟨b, off, none⟩) 1 d]) ∧ Hid (OwnT S wr (w.heap.size + 1) vb (List.replicate k ys).flatten) ∧ Hid (Below w.heap.size w wr)) (fun _ i _ => l - (intOf i).toNat)
  case atStart => exact ⟨0, _, Nat.zero_le _, rfl, rfl, T0, O0, B0⟩
  case round =>
    obtain ⟨k, vb, hk, rfl, rfl, NT, NO, NB⟩ := hrel
    clear B0 T0 O0
    by_cases hlt : k < l
    · have d1 : decide ((k : Int) < (l : Int)) = true := by rw [decide_eq_true_eq]; omega
      have HS := Lib.hid (show (List.replicate k ys).flatten ++ ys = (List.replicate (k + 1) ys).flatten by rw [List.replicate_succ', List.flatten_append, List.flatten_singleton])
      have hL := flat_rep k ys
      obtain ⟨e0, e1, e2, e3, e4⟩ := fives NT.out
      have HTl := Lib.hid NT.out.lt
      obtain ⟨ec_0, ec_1, ec_2, ec_3, ec_4⟩ := h5.out.later NB.out
      have HL := Lib.hid (show (List.replicate k ys).flatten.length + ys.length ≤ 100000 by rw [hL]; have : k * ys.length ≤ 64 * 64 := Nat.mul_le_mul (by omega) hy64; omega)
      clear hL
      go_wp2_with fail
      refine (HR.out _ NB.out).mono ?_
      rintro e w3 ⟨u, rfl, hown, hb⟩
      clear e0 e1 e2 e3 e4 ec_0 ec_1 ec_2 ec_3 ec_4
      obtain ⟨g, q, css, rfl, g1, g2, c1, c2, c3, c4⟩ := hown.cells hpos
      have HC3 := Lib.hid (fun (i : Nat) (hi : i < ys.length) (hi' : i < css.length) => (c3 i hi hi').mono (S' := fun b => S b ∧ vb.ownBlock ≠ some b) fun b hb _ => ⟨hb.1, fun e => by have := (NO.out.lt b e).1; have := hS.out b hb.1; omega⟩)
      have HC1 := Lib.hid c1
      have HC2 := Lib.hid c2
      have HC4 := Lib.hid c4
      have Z := Lib.hid hb
      have TA := Lib.hid (NT.out.later Z.out)
      have BA := Lib.hid (below_then NB.out Z.out)
      clear hb hown c1 c2 c3 c4
      go_wp2_with (at_builtin; refine wpList_append_tys rfl _ _ rfl (w.heap.size + 1) _ (List.replicate k ys).flatten ys css _ _ _ rfl rfl (NO.out.kept Z.out) HC1.out HC2.out HC3.out HC4.out HL.out ?_; intro v5 w5 hown5 hb5 _ _; have T5 := Lib.hid (TA.out.keep (hb5 _ (Nat.le_refl _)) (Nat.lt_succ_self _)); have O5 := Lib.hid hown5; have B5 := Lib.hid (BA.out.trans ((hb5 _ (Nat.le_refl _)).mono (Nat.le_succ _))); clear hown5 hb5)
      go_wp2
      go_roundw
      case rel => exact ⟨k + 1, _, by omega, rfl, by go_num, T5, by rw [← HS.out]; exact O5, B5⟩
      case measure => simp [intOf]; omega
    · obtain rfl : k = l := by omega
      have d1 : decide ((k : Int) < (k : Int)) = false := by rw [decide_eq_false_iff_not]; omega
      go_wp2
      go_ret
      exact ⟨_, rfl, NO.out.weak (by omega) (fun _ h => h), NB.out⟩
end Go.Proofs.YtgcnckkpfeffnaaGreatDoor
