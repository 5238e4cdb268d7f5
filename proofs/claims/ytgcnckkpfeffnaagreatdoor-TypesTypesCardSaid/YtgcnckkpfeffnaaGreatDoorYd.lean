/- The reference's First of any type. -/
import Derived.Test.YtgcnckkpfeffnaaGreatDoorYc
namespace Go.Proofs.YtgcnckkpfeffnaaGreatDoor
open Go.RowKit

theorem rfir_flat {t : Ty} {cs : List Value} {w : World} (hf : Flat isNameL t) (hn : NmT t) (h : TyC w t cs) : Calls Tryz.prog 23 #[.agg cs.toArray] w (FirstPostP (firstV t) 0 w) := by
  have hv := hv_of true (good_valid (.flat _ hf)) hn h
  obtain ⟨A, n, c, B, m, d, rfl, hl, _⟩ := tyC_open h
  cases hf with
  | sc k hk =>
    rcases hk with rfl | rfl | rfl
    · rw [firstV_bit]; exact rfir_1 _ _ _ _ w hv
    · rw [firstV_mk _ _ _ _ _ (by omega) (by omega) (by omega)]; exact rfir_2 _ _ _ _ w hv
    · rw [firstV_mk _ _ _ _ _ (by omega) (by omega) (by omega)]; exact rfir_3 _ _ _ _ w hv
  | vec l h1 h2 =>
    rw [firstV_vec, Int.toNat_natCast]
    exact rfir_4 l (by omega) _ _ _ w hv
  | en nm ns hp hns =>
    rw [firstV_mk _ _ _ _ _ (by omega) (by omega) (by omega)]
    exact rfir_5 _ _ _ _ w hv
theorem rfirst_any (t : Ty) (cs : List Value) (w : World) (ht : smT t) (h : TyC w t cs) : Calls Tryz.prog 23 #[.agg cs.toArray] w (FirstPostP (firstR t) (valE t) w) := by
  unfold firstR valE
  cases hv : validT isNameL t with
  | false =>
    have hvh := hv_of false hv ht.nm h
    obtain ⟨A, n, c, B, m, d, rfl, _⟩ := tyC_open h
    exact rfir_bad _ _ _ _ _ w hvh
  | true =>
    have hg := valid_good hv
    have hvh := hv_of true hv ht.nm h
    cases hg with
    | flat t hf => exact rfir_flat hf ht.nm h
    | arr l e h1 h2 he =>
      obtain ⟨A, n, c, B, m, d, rfl, hn, rfl, hs, hT⟩ := tyC_open h
      rcases hT with hT | ⟨b, off, rfl, hT⟩
      · cases hT
      obtain ⟨A1, n1, c1, A2, n2, c2, k1, k5⟩ := one_open hT
      have hen : NmT e := (((smT_def _ _ _ _ _).1 ht).2.2.2.2 e (by simp)).nm
      have e1 : firstV (.mk 6 (l : Int) noName [] [e]) = .mk 6 0 [] (List.replicate l (firstV e)) := by rw [firstV_arr, Int.toNat_natCast]
      show Calls _ _ _ _ (FirstPostP (firstV (.mk 6 (l : Int) noName [] [e])) 0 w)
      rw [e1]
      exact rfir_6 (firstV e) l (by omega) noName _ b off d e.kind e.len e.name A1 A2 n1 c1 n2 c2 w hvh k5 (fun u hu => rfir_flat he hen (TyC.later hu _ _ k1))
end Go.Proofs.YtgcnckkpfeffnaaGreatDoor
