/- The reference's Resolve returns what any list of numbers is resolved to. -/
import Derived.Test.YtaeehejnifhaaaaDoorMem
namespace Go.Proofs.YtaeehejnifhaaaaDoor
open Go.RowKit

def resOf (D : List Nat) : Nat := match D with | [] => 3 | r :: l => if (∀ z ∈ l, z = r) then r else 2
theorem resOf_all {D : List Nat} (h : 0 < D.length) (ha : ∀ z ∈ D, z = D[0]) : resOf D = D[0] := by
  cases D with
  | nil => simp at h
  | cons r l => simp only [resOf]; rw [if_pos (show ∀ z ∈ l, z = r from fun z hz => ha z (by simp [hz]))]; rfl
theorem resOf_no {D : List Nat} {k : Nat} (h : k < D.length) (hne : D[k] ≠ D[0]) : resOf D = 2 := by
  cases D with
  | nil => simp at h
  | cons r l =>
    simp only [resOf]
    rw [if_neg]
    intro ha
    apply hne
    cases k with
    | zero => rfl
    | succ k => exact ha _ (List.getElem_mem (by simpa using h))
theorem resL_of (zs : List Nat) (h : bitsB zs = true) : resL zs = resOf (drv zs) := by rw [resL_drv zs h]; rfl
theorem resV_of {zs : List Nat} (h : bitsB zs = true) : resV zs = resOf (drv zs) := by unfold resV; rw [if_pos h, resL_of zs h]
theorem resE_of {zs : List Nat} (h : bitsB zs = true) : resE zs = 0 := by unfold resE; rw [if_pos h]
theorem resV_no {zs : List Nat} (h : bitsB zs = false) : resV zs = 0 := by unfold resV; rw [h]; rfl
theorem resE_no {zs : List Nat} (h : bitsB zs = false) : resE zs = 2 := by unfold resE; rw [h]; rfl

set_option maxHeartbeats 1000000 in
theorem refResolve_any (v : Value) (zs : List Nat) (w : World) (h : Sl w v zs) :
    Calls Tryd.prog 23 #[v] w fun e w' => e = .returned (.tuple #[.int .u8 (resV zs : Nat), .int .i64 (resE zs : Nat)]) ∧ Below w.heap.size w w' := by
  obtain ⟨A, c, rfl, hn, hz, hc⟩ := h
  have HZ := Lib.hid hz
  clear hz
  go_enter Tryd.func23, Tryd.ntmps23
  go_wp2_with fail
  go_loop [13] (fun i => ∃ k : Nat, k ≤ zs.length ∧ i = .int .i64 k ∧ Hid (bitsB (zs.take k) = true)) (fun i => zs.length - (intOf i).toNat)
  case atStart => exact ⟨0, Nat.zero_le _, rfl, rfl⟩
  case round =>
    obtain ⟨k, hk, rfl, hr⟩ := hrel
    by_cases hlt : k < zs.length
    · rcases hc with rfl | ⟨b, off, rfl, hc⟩
      · exact absurd hlt (by simp)
      have g := hc k hlt
      clear hc
      by_cases h3 : zs[k] ≤ 3
      · have HR := Lib.hid (bitsB_take hlt hr.out h3)
        generalize zs[k] = z at g h3
        go_wp2_with (go_at_call 41; refine (bit_yes _ _ (by omega)).mono ?_; rintro e w' ⟨rfl, rfl⟩)
        go_round
        case rel => exact ⟨k + 1, by omega, by go_num, HR⟩
        case measure => simp [intOf]; omega
      · have HR := Lib.hid (bitsB_no hlt (by omega))
        generalize zs[k] = z at g h3
        go_wp2_with (go_at_call 41; refine (bit_no _ _ (by omega)).mono ?_; rintro e w' ⟨rfl, rfl⟩)
        go_ret2
        exact ⟨ret_ii (by rw [resV_no HR.out]; rfl) (by rw [resE_no HR.out]; rfl), Below.refl _ _⟩
    · have HB := Lib.hid (bitsB_end (zs := zs) (by have := hr.out; rwa [show k = zs.length by omega] at this))
      clear hr
      have HC := Lib.hid hc
      clear hc
      go_wp2_with fail
      go_loopw [6, 23] (fun v i wr => ∃ j : Nat, j ≤ zs.length ∧ i = .int .i64 j ∧ Own wr w.heap.size v (drv (zs.take j)) ∧ Below w.heap.size w wr) (fun _ i _ => zs.length - (intOf i).toNat)
      case atStart => exact ⟨0, Nat.zero_le _, rfl, by simpa [drv] using Own.nil w (Nat.le_refl _), Below.refl _ _⟩
      case round =>
        obtain ⟨j, hj, rfl, hown, hb⟩ := hrel
        have HO := Lib.hid hown
        have Hb := Lib.hid hb
        clear hown hb
        by_cases hlt : j < zs.length
        · rcases HC.out with rfl | ⟨b, off, rfl, hc⟩
          · exact absurd hlt (by simp)
          have g := (Hb.out.cell (block_lt_of_cell (hc j hlt))).trans (hc j hlt)
          clear hc
          by_cases h3 : zs[j] = 3
          · have HR := Lib.hid (drv_no hlt h3)
            rw [h3] at g
            clear h3
            go_wp2
            go_roundw
            case rel => exact ⟨j + 1, by omega, by go_num, by rw [HR.out]; exact HO.out, Hb.out⟩
            case measure => simp [intOf]; omega
          · have HR := Lib.hid (drv_yes hlt h3)
            have h256 := HZ.out _ (List.getElem_mem hlt)
            have hne : ((zs[j] : Int) != 3) = true := by rw [bne_iff_ne]; omega
            have hne' : ((zs[j] : Int) == 3) = false := by rw [beq_eq_false_iff_ne]; omega
            have HL := Lib.hid (drv_le zs j)
            generalize zs[j] = z at g hne hne' HR h256
            clear h3
            go_wp2_with (at_builtin; refine wpList_append_sl rfl _ _ rfl w.heap.size _ _ _ [z] rfl rfl (HO.out.alloc _) (Sl.one _ _ h256) (by have := HL.out; simp; omega) ?_; intro v' w' hown' hb')
            have HO' := Lib.hid hown'
            have Hb' := Lib.hid hb'
            clear hown' hb'
            go_wp2
            go_roundw
            case rel => exact ⟨j + 1, by omega, by go_num, by rw [HR.out]; exact HO'.out, (Hb.out.alloc HO.out.2.2.2 _).trans (Hb'.out _ (Nat.le_refl _))⟩
            case measure => simp [intOf]; omega
        · have HO2 : Hid (Own wr w.heap.size u6 (drv zs)) := by have := HO.out; rwa [List.take_of_length_le (by omega)] at this
          have HV := Lib.hid (resV_of HB.out)
          have HE := Lib.hid (resE_of HB.out)
          have hdl : (drv zs).length ≤ 140737488355328 := HO2.out.2.1
          clear HO HC HZ HB
          obtain ⟨A', c', rfl, _, _, hc'⟩ := HO2.out.sl
          generalize hD : drv zs = D at hc' HV hdl
          clear hD HO2
          by_cases h0 : 0 < D.length
          · rcases hc' with rfl | ⟨b, off, rfl, hc'⟩
            · exact absurd h0 (by simp)
            have g0 : wr.cell? ⟨b, off, none⟩ = some (.int .u8 (D[0] : Nat)) := hc' 0 h0
            have HC := Lib.hid hc'
            clear hc'
            have hd0 : ((D.length : Int) == 0) = false := by rw [beq_eq_false_iff_ne]; omega
            go_wp2_with fail
            go_loop [39] (fun i => ∃ j : Nat, j ≤ D.length ∧ i = .int .i64 j ∧ Hid (∀ z ∈ D.take j, z = D[0])) (fun i => D.length - (intOf i).toNat)
            case atStart => exact ⟨0, Nat.zero_le _, rfl, by intro z hz; simp at hz⟩
            case round =>
              obtain ⟨j', hj', rfl, hr⟩ := hrel
              by_cases hlt' : j' < D.length
              · have g := HC.out j' hlt'
                by_cases h3 : D[j'] = D[0]
                · have HR : Hid (∀ z ∈ D.take (j' + 1), z = D[0]) := by
                    intro z hz
                    rw [List.take_succ_eq_append_getElem hlt'] at hz
                    rcases List.mem_append.1 hz with h | h
                    · exact hr.out z h
                    · simp at h; rw [h, h3]
                  rw [h3] at g
                  clear h3 hr
                  go_wp2
                  go_round
                  case rel => exact ⟨j' + 1, by omega, by go_num, HR⟩
                  case measure => simp [intOf]; omega
                · have HR := Lib.hid (resOf_no hlt' h3)
                  have hne : ((D[j'] : Int) != (D[0] : Int)) = true := by rw [bne_iff_ne]; omega
                  have hne' := beq_nat_no h3
                  generalize D[j'] = z at g hne hne'
                  generalize D[0] = z' at g0 hne hne'
                  clear h3 hr
                  go_wp2
                  go_ret2
                  exact ⟨ret_ii (by rw [HV.out, HR.out]; rfl) (by rw [HE.out]; rfl), Hb.out⟩
              · have HR : Hid (resOf D = D[0]) := resOf_all h0 (by have := hr.out; rwa [List.take_of_length_le (by omega)] at this)
                clear hr
                go_wp2
                go_ret2
                exact ⟨ret_ii (by rw [HV.out, HR.out]) (by rw [HE.out]; rfl), Hb.out⟩
          · have hD : D = [] := List.length_eq_zero_iff.1 (by omega)
            subst hD
            go_wp2
            go_ret2
            exact ⟨ret_ii (by rw [HV.out]; rfl) (by rw [HE.out]; rfl), Hb.out⟩
end Go.Proofs.YtaeehejnifhaaaaDoor
