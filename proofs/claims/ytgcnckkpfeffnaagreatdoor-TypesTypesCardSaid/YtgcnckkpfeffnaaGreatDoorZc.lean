/- The law TypesTypes: its contracts put together. -/
import Derived.Test.YtgcnckkpfeffnaaGreatDoorZb
import Derived.Test.YtgcnckkpfeffnaaGreatDoorUz
import Derived.Test.YtgcnckkpfeffnaaGreatDoorYd
import Derived.Test.YtgcnckkpfeffnaaGreatDoorYg
import Derived.Test.YtgcnckkpfeffnaaGreatDoorZa
namespace Go.Proofs.YtgcnckkpfeffnaaGreatDoor
open Go.RowKit

theorem firstR_small (t : Ty) : smV (firstR t) := by
  have key : ∀ e : Ty, Flat isNameL e → smV (firstV e) := fun e he => by
    cases he with
    | sc k hk =>
      rcases hk with rfl | rfl | rfl
      · rw [firstV_bit]; exact (smV_def _ _ _ _).2 ⟨by simp, by simp, by simp⟩
      · rw [firstV_mk _ _ _ _ _ (by omega) (by omega) (by omega)]; exact (smV_def _ _ _ _).2 ⟨by simp, by simp, by simp⟩
      · rw [firstV_mk _ _ _ _ _ (by omega) (by omega) (by omega)]; exact (smV_def _ _ _ _).2 ⟨by simp, by simp, by simp⟩
    | vec l h1 h2 => rw [firstV_vec]; exact (smV_def _ _ _ _).2 ⟨by rw [List.length_replicate, Int.toNat_natCast]; omega, by simp, by simp⟩
    | en nm ns h1 h2 => rw [firstV_mk _ _ _ _ _ (by omega) (by omega) (by omega)]; exact (smV_def _ _ _ _).2 ⟨by simp, by simp, by simp⟩
  unfold firstR
  cases hv : validT isNameL t with
  | false => exact zero_small
  | true =>
    show smV (firstV t)
    cases valid_good hv with
    | flat t h => exact key t h
    | arr l e h1 h2 he =>
      rw [firstV_arr, Int.toNat_natCast]
      exact (smV_def _ _ _ _).2 ⟨by simp, by rw [List.length_replicate]; omega, fun v hv => by rw [List.eq_of_mem_replicate hv]; exact key e he⟩
theorem smallB_smT {t : Ty} (h : smallB t [] = true) : smT t := by
  unfold smallB at h
  rw [Bool.and_eq_true] at h
  exact small_smT h.1
theorem lawTypes_any (t u : Ty) (cs cs' : List Value) (w : World) (hw : Std w) (h : TyC w t cs) (h' : TyC w u cs') :
    Calls Tryz.prog 3 #[.agg cs.toArray, .agg cs'.toArray] w fun e w' => e = .returned (.bool true) ∧ Below w.heap.size w w' := by
  have h0 := h
  have h0' := h'
  obtain ⟨A, n, c, B, m, d, rfl, _⟩ := tyC_open h
  obtain ⟨A', n', c', B', m', d', rfl, _⟩ := tyC_open h'
  have HAw : Hid (∀ z, Below w.heap.size w z → Calls Tryz.prog 14 #[] z fun e w' => e = .returned (.bool true) ∧ Below z.heap.size z w') := fun z hz => awake_true z (hw.later hz)
  have HS : ∀ b, smallB t [] = b → Hid (∀ z, Below w.heap.size w z → Calls Tryz.prog 13 #[.agg #[.int .i64 t.kind, .int .i64 t.len, .string t.name, .slice A n c, .slice B m d], .slice none 0 0] z fun e w' => e = .returned (.bool b) ∧ Below z.heap.size z w') := fun b hb z hz => by
    have := small_any t _ _ [] z (TyC.later hz _ _ h0) (vas_nil z)
    rwa [hb] at this
  have HS' : ∀ b, smallB u [] = b → Hid (∀ z, Below w.heap.size w z → Calls Tryz.prog 13 #[.agg #[.int .i64 u.kind, .int .i64 u.len, .string u.name, .slice A' n' c', .slice B' m' d'], .slice none 0 0] z fun e w' => e = .returned (.bool b) ∧ Below z.heap.size z w') := fun b hb z hz => by
    have := small_any u _ _ [] z (TyC.later hz _ _ h0') (vas_nil z)
    rwa [hb] at this
  cases hs : smallB t [] with
  | false => exact types_small1 _ _ _ _ _ _ A B A' B' n c m d n' c' m' d' w HAw (HS false hs)
  | true =>
    cases hs' : smallB u [] with
    | false => exact types_small2 _ _ _ _ _ _ A B A' B' n c m d n' c' m' d' w HAw (HS true hs) (HS' false hs')
    | true =>
      have st := smallB_smT hs
      have su := smallB_smT hs'
      exact types_all _ _ _ _ _ _ A B A' B' n c m d n' c' m' d' w t u (validT isNameL t) (sameT isNameL t u) (sameT isNameL u t) (sb (nameR t)) (firstR t) (valE t) (valE t) (widE t) (valE t) (widR t) (plcV t) HAw (HS true hs) (HS' true hs')
        (fun z hz => copyType_any t _ z st (TyC.later hz _ _ h0))
        (fun z hz => copyType_any u _ z su (TyC.later hz _ _ h0'))
        (fun z ct hz h1 => pvalid_any t ct z st h1)
        (fun z hz => valid_any t _ z st.nm (TyC.later hz _ _ h0))
        (fun z ct cu hz h1 h2 => psame_any t u ct cu z st su h1 h2)
        (fun z hz => same_any t u _ _ z st.nm su.nm (TyC.later hz _ _ h0) (TyC.later hz _ _ h0'))
        (fun z ct cu hz h1 h2 => psame_any u t cu ct z su st h2 h1)
        (fun z hz => same_any u t _ _ z su.nm st.nm (TyC.later hz _ _ h0') (TyC.later hz _ _ h0))
        (fun z ct hz h1 => name_any t ct z st (hw.later hz) h1)
        (fun z hz => rname_any t _ z st (TyC.later hz _ _ h0))
        (fun z ct hz h1 => pfirst_any t ct z st h1)
        (fun z hz => (rfirst_any t _ z st (TyC.later hz _ _ h0)).mono fun _ _ hh => hh.c)
        (fun z ca cb hz h1 h2 => ralike_same _ (firstR_small t) ca cb z h1 h2)
        (fun z ct hz h1 => width_any t ct z st h1)
        (fun z hz => rwidth_any t _ z st (TyC.later hz _ _ h0))
        (fun z ct hz h1 => places_any t ct z st h1)
        (fun z hz => rplaces_any t _ z st (TyC.later hz _ _ h0))
end Go.Proofs.YtgcnckkpfeffnaaGreatDoor
