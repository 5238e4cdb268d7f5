/- The reference's Width and Name of any type. -/
import Derived.Test.YtdiagnhdigakpaaGreatDoorYa
import Derived.Test.YtdiagnhdigakpaaGreatDoorDc
namespace Go.Proofs.YtdiagnhdigakpaaGreatDoor
open Go.RowKit

theorem flat_wid {f : List UInt8 → Bool} {t : Ty} (h : Flat f t) : (widthT t).getD 0 ≤ 64 := by
  cases h with
  | sc k hk =>
    rcases hk with rfl | rfl | rfl
    · rw [widthT_mk _ _ _ _ _ (by omega) (by omega) (by omega) (by omega)]; decide
    · rw [widthT_mk _ _ _ _ _ (by omega) (by omega) (by omega) (by omega)]; decide
    · rw [widthT_int]; decide
  | vec l h1 h2 => rw [widthT_vec]; show (l : Int).toNat ≤ 64; omega
  | en nm ns hp hn => rw [widthT_enum]; show encN _ ≤ 64; have := (enc_le ns.length).2; omega
/-- The error of a width. -/
def widG (t : Ty) : Nat := if (widthT t).isSome then 0 else 16
theorem hv_of {t : Ty} {cs : List Value} {w : World} (b : Bool) (hb : validT isNameL t = b) (hn : NmT t) (h : TyC w t cs) : Hid (∀ u, Below w.heap.size w u → Calls Tryz.prog 17 #[.agg cs.toArray] u fun e w' => e = .returned (.bool b) ∧ Below u.heap.size u w') := fun u hu => by
  have := valid_any t cs u hn (TyC.later hu _ _ h)
  rwa [hb] at this
theorem rwid_flat {t : Ty} {cs : List Value} {w : World} (hf : Flat isNameL t) (hn : NmT t) (h : TyC w t cs) : Calls Tryz.prog 26 #[.agg cs.toArray] w (PairPost (.int .i64 ((widthT t).getD 0 : Nat)) (widG t) w) := by
  have hv := hv_of true (good_valid (.flat _ hf)) hn h
  obtain ⟨A, n, c, B, m, d, rfl, hl, _⟩ := tyC_open h
  unfold widG
  cases hf with
  | sc k hk =>
    rcases hk with rfl | rfl | rfl
    · rw [widthT_mk _ _ _ _ _ (by omega) (by omega) (by omega) (by omega)]; exact rwid_1 _ _ _ _ w hv
    · rw [widthT_mk _ _ _ _ _ (by omega) (by omega) (by omega) (by omega)]; exact rwid_2 _ _ _ _ w hv
    · rw [widthT_int]; exact rwid_3 _ _ _ _ w hv
  | vec l h1 h2 => rw [widthT_vec]; exact rwid_4 _ _ _ _ w hv
  | en nm ns hp hns =>
    rw [widthT_enum]
    have h16 := flat_scalar_names (Flat.en (f := isNameL) nm ns hp hns) rfl
    obtain rfl : n = ns.length := hl
    exact rwid_5 _ _ A ns.length c _ w h16.2 hv
theorem rwidth_any (t : Ty) (cs : List Value) (w : World) (ht : smT t) (h : TyC w t cs) : Calls Tryz.prog 26 #[.agg cs.toArray] w (PairPost (.int .i64 (widR t : Nat)) (widE t) w) := by
  unfold widR widE
  cases hv : validT isNameL t with
  | false =>
    have hvh := hv_of false hv ht.nm h
    obtain ⟨A, n, c, B, m, d, rfl, _⟩ := tyC_open h
    exact rwid_bad _ _ _ _ _ w hvh
  | true =>
    have hg := valid_good hv
    have hvh := hv_of true hv ht.nm h
    cases hg with
    | flat t hf => exact rwid_flat hf ht.nm h
    | arr l e h1 h2 he =>
      obtain ⟨A, n, c, B, m, d, rfl, hn, rfl, hs, hT⟩ := tyC_open h
      rcases hT with hT | ⟨b, off, rfl, hT⟩
      · cases hT
      obtain ⟨A1, n1, c1, A2, n2, c2, k1, k5⟩ := one_open hT
      have hen : NmT e := (((smT_def _ _ _ _ _).1 ht).2.2.2.2 e (by simp)).nm
      have hw := flat_wid he
      have hr := fun (u : World) (hu : Below w.heap.size w u) => rwid_flat he hen (TyC.later hu _ _ k1)
      have e1 : (widthT (.mk 6 l noName [] [e])).getD 0 = (widthT e).getD 0 * l := by
        rw [widthT_arr]
        cases widthT e with
        | none => show 0 = 0 * l; omega
        | some x => rfl
      have e2 : (if (widthT (.mk 6 l noName [] [e])).isSome then 0 else 16 : Nat) = widG e := by
        unfold widG
        rw [widthT_arr]
        cases widthT e <;> rfl
      show Calls _ _ _ _ (PairPost (.int .i64 ((widthT (.mk 6 l noName [] [e])).getD 0 : Nat)) (if (widthT (.mk 6 l noName [] [e])).isSome then 0 else 16) w)
      rw [e1, e2]
      refine rwid_6 ((widthT e).getD 0) (widG e) ((widthT e).getD 0 * l) (l : Int) noName _ b off d e.kind e.len e.name A1 A2 n1 c1 n2 c2 w ?_ hvh k5 hr
      rw [← Int.natCast_mul]
      have : (widthT e).getD 0 * l ≤ 64 * 64 := Nat.mul_le_mul hw (by omega)
      exact IntWalk.i64_in _ (by omega)
theorem rnam_flat {t : Ty} {cs : List Value} {w : World} (hf : Flat isNameL t) (hn : NmT t) (h : TyC w t cs) : Calls Tryz.prog 21 #[.agg cs.toArray] w (PairPost (.string (sb (nameT t))) 0 w) := by
  have hv := hv_of true (good_valid (.flat _ hf)) hn h
  obtain ⟨A, n, c, B, m, d, rfl, hl, _⟩ := tyC_open h
  cases hf with
  | sc k hk =>
    rcases hk with rfl | rfl | rfl
    · rw [nameT_bit]; exact rnam_1 _ _ _ _ w hv
    · rw [nameT_bool]; exact rnam_2 _ _ _ _ w hv
    · rw [nameT_int]; exact rnam_3 _ _ _ _ w hv
  | vec l h1 h2 =>
    have hz : (sb (decL l)).size ≤ 2 := by rw [sb_size]; exact dec_len (by omega) (by omega)
    have := rnam_4 (sb (decL l)) hz (l : Int) noName (.slice A n c) (.slice B m d) w hv (fun u _ => decimal_any l (by omega) u)
    have e : (⟨#[118, 101, 99, 40]⟩ : ByteArray) ++ sb (decL l) ++ ⟨#[41]⟩ = sb (nameT (.mk 4 l noName [] [])) := by
      rw [nameT_vec, ito_nat]
      apply bl_inj
      rw [bl_append, bl_append, bl_sb, bl_sb]
      rfl
    rw [e] at this
    exact this
  | en nm ns hp hns =>
    rw [nameT_enum, sb_bl]
    exact rnam_5 _ _ _ _ w hv
theorem rname_any (t : Ty) (cs : List Value) (w : World) (ht : smT t) (h : TyC w t cs) : Calls Tryz.prog 21 #[.agg cs.toArray] w (PairPost (.string (sb (nameR t))) (valE t) w) := by
  unfold nameR valE
  cases hv : validT isNameL t with
  | false =>
    have hvh := hv_of false hv ht.nm h
    obtain ⟨A, n, c, B, m, d, rfl, _⟩ := tyC_open h
    exact rnam_bad _ _ _ _ _ w hvh
  | true =>
    have hg := valid_good hv
    have hvh := hv_of true hv ht.nm h
    cases hg with
    | flat t hf => exact rnam_flat hf ht.nm h
    | arr l e h1 h2 he =>
      obtain ⟨A, n, c, B, m, d, rfl, hn, rfl, hs, hT⟩ := tyC_open h
      rcases hT with hT | ⟨b, off, rfl, hT⟩
      · cases hT
      obtain ⟨A1, n1, c1, A2, n2, c2, k1, k5⟩ := one_open hT
      have hen : NmT e := (((smT_def _ _ _ _ _).1 ht).2.2.2.2 e (by simp)).nm
      have hz : (sb (decL l)).size ≤ 2 := by rw [sb_size]; exact dec_len (by omega) (by omega)
      have hz3 : (sb (nameT e)).size ≤ 1000 := by rw [sb_size]; have := flat_name_len he; omega
      have := rnam_6 (sb (decL l)) (sb (nameT e)) hz hz3 (l : Int) noName (.slice A n c) b off d e.kind e.len e.name A1 A2 n1 c1 n2 c2 w hvh k5 (fun u hu => rnam_flat he hen (TyC.later hu _ _ k1)) (fun u _ => decimal_any l (by omega) u)
      have e1 : (⟨#[97, 114, 114, 97, 121, 40]⟩ : ByteArray) ++ sb (decL l) ++ ⟨#[41, 32, 111, 102, 32]⟩ ++ sb (nameT e) = sb (nameT (.mk 6 l noName [] [e])) := by
        rw [nameT_arr, ito_nat]
        apply bl_inj
        rw [bl_append, bl_append, bl_append, bl_sb, bl_sb, bl_sb]
        show 97 :: 114 :: 114 :: 97 :: 121 :: 40 :: ((decL l ++ [41, 32, 111, 102, 32]) ++ nameT e) = _
        rw [List.append_assoc]
        rfl
      rw [e1] at this
      exact this
end Go.Proofs.YtdiagnhdigakpaaGreatDoor
