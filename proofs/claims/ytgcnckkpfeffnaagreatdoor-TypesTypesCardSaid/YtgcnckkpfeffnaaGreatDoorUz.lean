/- The law TypesElements: its contracts put together. -/
import Derived.Test.YtgcnckkpfeffnaaGreatDoorUy
import Derived.Test.YtgcnckkpfeffnaaGreatDoorUg
namespace Go.Proofs.YtgcnckkpfeffnaaGreatDoor
open Go.RowKit

theorem zero_small : smV zeroV := by
  unfold zeroV
  exact (smV_def _ _ _ _).2 ⟨by simp, by simp, by simp⟩
theorem atR_small {t : Ty} {v : Va} {i : Int} (h : smV v) : smV (atR t v i) := by
  unfold atR
  split
  · exact at_small h
  · exact zero_small
theorem withR_small {t : Ty} {v x : Va} {i : Int} (h : smV v) (hx : smV x) : smV (withR t v i x) := by
  unfold withR
  split
  · exact with_small h hx
  · exact zero_small
theorem ralike_same (y : Va) (hy : smV y) (ca cb : List Value) (z : World) (h : VaC z y ca) (h' : VaC z y cb) : Calls Tryz.prog 24 #[.agg ca.toArray, .agg cb.toArray] z fun e w' => e = .returned (.bool true) ∧ Below z.heap.size z w' := by
  have := ralike_any y y ca cb z hy hy h h'
  rwa [alikeV_refl] at this
theorem lawElements_any (t : Ty) (v x : Va) (i0 : Int) (cs c1 c2 : List Value) (w : World) (hw : Std w) (h : TyC w t cs) (hv : VaC w v c1) (hx : VaC w x c2) :
    Calls Tryz.prog 6 #[.agg cs.toArray, .agg (c1 ++ c2).toArray, .int .i64 i0] w fun e w' => e = .returned (.bool true) ∧ Below w.heap.size w w' := by
  have h0 := h
  have hv0 := hv
  have hx0 := hx
  obtain ⟨A, n, c, B, m, d, rfl, _⟩ := tyC_open h
  obtain ⟨C, y, p, D, z, q, rfl, _⟩ := vaC_open hv
  obtain ⟨C2, y2, p2, D2, z2, q2, rfl, _⟩ := vaC_open hx
  have HAw : Hid (∀ z, Below w.heap.size w z → Calls Tryz.prog 14 #[] z fun e w' => e = .returned (.bool true) ∧ Below z.heap.size z w') := fun z hz => awake_true z (hw.later hz)
  have HSm : ∀ b, smallB t [v, x] = b → Hid (∀ u s, Below w.heap.size w u → VasC u s [v, x] → Calls Tryz.prog 13 #[.agg #[.int .i64 t.kind, .int .i64 t.len, .string t.name, .slice A n c, .slice B m d], s] u fun e w' => e = .returned (.bool b) ∧ Below u.heap.size u w') := fun b hb u s hu hs => by
    have := small_any t _ s [v, x] u (TyC.later hu _ _ h0) hs
    rwa [hb] at this
  cases hs : smallB t [v, x] with
  | false => exact elem_small _ _ _ _ _ _ i0 _ A B C D C2 D2 n c m d y p z q y2 p2 z2 q2 v x w hv0 hx0 HAw (HSm false hs)
  | true =>
    obtain ⟨ht, hsv, hsx⟩ := small_two hs
    exact elem_all _ _ _ _ _ _ i0 _ A B C D C2 D2 n c m d y p z q y2 p2 z2 q2 v x w t (atR t v i0) (withR t v i0 x) (partE t v i0) (withE t v i0 x) hv0 hx0 HAw (HSm true hs)
      (fun u hu => copyType_any t _ u ht (TyC.later hu _ _ h0))
      (fun u hu => rcopy_any v _ u hsv (VaC.later hu _ _ hv0))
      (fun u hu => rcopy_any x _ u hsx (VaC.later hu _ _ hx0))
      (fun u ct cv hu h1 h2 => pat_any t v i0 ct cv u ht hsv h1 h2)
      (fun u hu => rat_any t v i0 _ _ u ht hsv (TyC.later hu _ _ h0) (VaC.later hu _ _ hv0))
      (fun u ca cb hu h1 h2 => ralike_same _ (atR_small hsv) ca cb u h1 h2)
      (fun u ct cv cx hu h1 h2 h3 => pwithP_any t v x i0 ct cv cx u ht hsv hsx h1 h2 h3)
      (fun u hu => rwithP_any t v x i0 _ _ _ u ht hsv hsx (TyC.later hu _ _ h0) (VaC.later hu _ _ hv0) (VaC.later hu _ _ hx0))
      (fun u ca cb hu h1 h2 => ralike_same _ (withR_small hsv hsx) ca cb u h1 h2)
      (fun u cb hu h1 => ralike_same v hsv _ cb u (VaC.later hu _ _ hv0) h1)
      (fun u cb hu h1 => ralike_same x hsx _ cb u (VaC.later hu _ _ hx0) h1)
end Go.Proofs.YtgcnckkpfeffnaaGreatDoor
