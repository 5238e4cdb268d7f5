/- The contract of the reference's Join. -/
import Derived.Test.YtaeehejnifhaaaaDoorJoin2
import Derived.Test.YtaeehejnifhaaaaDoorRes
namespace Go.Proofs.YtaeehejnifhaaaaDoor
open Go.RowKit

theorem accL_take {zss : List (List Nat)} {n m i : Nat} (h : i < n) : (accL zss n m).take (i + 1) = (accL zss n m).take i ++ [resL (col (zss.take m) i)] := by
  rw [List.take_succ_eq_append_getElem (by rw [accL_len]; exact h)]
  simp [accL]
theorem col_take {zss : List (List Nat)} {i j : Nat} (h : j < zss.length) : (col zss i).take (j + 1) = (col zss i).take j ++ [(zss[j]).getD i 0] := by
  rw [List.take_succ_eq_append_getElem (by simpa [col] using h)]
  simp [col]
theorem refResolve_at {zs : List Nat} (hb : bitsB zs = true) {v : Value} {w : World} (h : Sl w v zs) :
    Calls Tryd.prog 23 #[v] w fun e w' => e = .returned (.tuple #[.int .u8 (resL zs : Nat), .int .i64 0]) ∧ Below w.heap.size w w' := by
  have := refResolve_any v zs w h
  rw [show resV zs = resL zs by unfold resV; rw [if_pos hb], show resE zs = 0 by unfold resE; rw [if_pos hb]] at this
  exact this

set_option maxRecDepth 100000 in
set_option maxHeartbeats 4000000 in
theorem refJoin_any (v : Value) (zss : List (List Nat)) (w : World) (h : Sls w v zss) (hm : zss.length ≤ 40) :
    Calls Tryd.prog 38 #[v] w fun e w' => ∃ u, e = .returned (.tuple #[u, .int .i64 (joinE zss : Nat)]) ∧ Sl w' u (joinV zss) ∧ Below w.heap.size w w' := by
  obtain ⟨A, c, rfl, hn, hc⟩ := h
  by_cases h0 : 0 < zss.length
  · obtain ⟨b, off, rfl, hk0⟩ := hc.resolve_left (fun h => by rw [h] at h0; exact absurd h0 (by simp))
    obtain ⟨u0, g0, A0, c0, rfl, hn0, _, _⟩ := hk0 0 h0
    have g0' : w.cell? ⟨b, off, none⟩ = some (.slice A0 zss[0].length c0) := g0
    have HC := Lib.hid hk0
    have hne0 : ((zss.length : Int) == 0) = false := by rw [beq_eq_false_iff_ne]; omega
    have hh : zss.headD [] = zss[0] := by cases zss with | nil => simp at h0 | cons a l => rfl
    have HH := Lib.hid hh
    clear g0 hc hk0 hh
    go_enter Tryd.func38, Tryd.ntmps38
    go_wp2_with fail
    clear hne0
    go_loop [18] (fun i => ∃ k : Nat, k ≤ zss.length ∧ i = .int .i64 k ∧ Hid (∀ z ∈ zss.take k, isV z = true ∧ z.length = zss[0].length)) (fun i => zss.length - (intOf i).toNat)
    case atStart => exact ⟨0, Nat.zero_le _, rfl, by intro z hz; simp at hz⟩
    case round =>
      obtain ⟨k, hk, rfl, hr⟩ := hrel
      by_cases hlt : k < zss.length
      · obtain ⟨u, g, hs⟩ := HC.out k hlt
        have HI := Lib.hid (refIs_any u _ w hs)
        obtain ⟨Ak, ck, rfl, hnk, _, _⟩ := hs
        by_cases hv : isV zss[k] = true
        · have hI := HI.out
          rw [hv] at hI
          have HI' := Lib.hid hI
          clear hI HI
          by_cases hl : zss[k].length = zss[0].length
          · have hne : ((zss[k].length : Int) != (zss[0].length : Int)) = false := by rw [hl]; simp
            have hne' : ((zss[k].length : Int) == (zss[0].length : Int)) = true := by rw [hl]; simp
            have HR : Hid (∀ z ∈ zss.take (k + 1), isV z = true ∧ z.length = zss[0].length) := by
              intro z hz
              rw [List.take_succ_eq_append_getElem hlt] at hz
              rcases List.mem_append.1 hz with h | h
              · exact hr.out z h
              · simp at h; subst h; exact ⟨hv, hl⟩
            clear hv hl hr
            generalize zss[k].length = nk at g HI' hne hne' hnk
            go_wp2_with (go_at_call 28; refine (HI'.out).mono ?_; rintro e w' ⟨rfl, rfl⟩)
            go_round
            case rel => exact ⟨k + 1, by omega, by go_num, HR⟩
            case measure => simp [intOf]; omega
          · have hne : ((zss[k].length : Int) != (zss[0].length : Int)) = true := by rw [bne_iff_ne]; omega
            have hne' : ((zss[k].length : Int) == (zss[0].length : Int)) = false := by rw [beq_eq_false_iff_ne]; omega
            have HR := Lib.hid (join_no (oneV_no hlt (.inr hl)))
            clear hv hl hr
            generalize zss[k].length = nk at g HI' hne hne' hnk
            go_wp2_with (go_at_call 28; refine (HI'.out).mono ?_; rintro e w' ⟨rfl, rfl⟩)
            go_ret2
            exact ⟨_, ret_vi (by rw [HR.out.2]; rfl), by rw [HR.out.1]; exact sl_nil _, Below.refl _ _⟩
        · have hv' : isV zss[k] = false := by simpa using hv
          have hI := HI.out
          rw [hv'] at hI
          have HI' := Lib.hid hI
          have HR := Lib.hid (join_no (oneV_no hlt (.inl hv')))
          clear hI HI hv hv' hr
          generalize zss[k].length = nk at g HI' hnk
          go_wp2_with (go_at_call 28; refine (HI'.out).mono ?_; rintro e w' ⟨rfl, rfl⟩)
          go_ret2
          exact ⟨_, ret_vi (by rw [HR.out.2]; rfl), by rw [HR.out.1]; exact sl_nil _, Below.refl _ _⟩
      · have hall : ∀ z ∈ zss, isV z = true ∧ z.length = zss[0].length := by have := hr.out; rwa [List.take_of_length_le (by omega)] at this
        have HR := Lib.hid (join_yes (oneV_all h0 hall))
        have HALL := Lib.hid hall
        have hn64 := (isV_bits (hall zss[0] (List.getElem_mem h0)).1).2.2
        clear hr hall
        obtain ⟨n, hnn⟩ : ∃ n, zss[0].length = n := ⟨_, rfl⟩
        rw [hnn] at hn64 g0'
        have HN := Lib.hid hnn
        clear hnn
        go_wp2_with fail
        go_loopw [6, 39] (fun x i wr => ∃ t : Nat, t ≤ n ∧ i = .int .i64 t ∧ Own wr w.heap.size x ((accL zss n zss.length).take t) ∧ Below w.heap.size w wr) (fun _ i _ => n - (intOf i).toNat)
        case atStart => exact ⟨0, Nat.zero_le _, rfl, Own.nil w (Nat.le_refl _), Below.refl _ _⟩
        case round =>
          obtain ⟨t, ht, rfl, hown, hb⟩ := hrel
          have HO := Lib.hid hown
          have HB := Lib.hid hb
          clear hown hb
          by_cases hti : t < n
          · obtain ⟨wo, rfl⟩ : ∃ wo : World, wo = wr := ⟨_, rfl⟩
            go_wp2_with fail
            go_loopw [8, 44] (fun x i wr => ∃ j : Nat, j ≤ zss.length ∧ i = .int .i64 j ∧ Own wr wo.heap.size x ((col zss t).take j) ∧ Below wo.heap.size wo wr) (fun _ i _ => zss.length - (intOf i).toNat)
            case atStart => exact ⟨0, Nat.zero_le _, rfl, Own.nil wo (Nat.le_refl _), Below.refl _ _⟩
            case round =>
              obtain ⟨j, hj, rfl, hown, hb⟩ := hrel
              have HO' := Lib.hid hown
              have HB' := Lib.hid hb
              clear hown hb
              have HBB := Lib.hid (below_then HB.out HB'.out)
              by_cases hjl : j < zss.length
              · obtain ⟨uj, gj, hsj⟩ := HC.out j hjl
                have hlj : zss[j].length = n := by rw [(HALL.out _ (List.getElem_mem hjl)).2, HN.out]
                have hvj := isV_bits (HALL.out _ (List.getElem_mem hjl)).1
                obtain ⟨Aj, cj, rfl, _, _, hcj⟩ := hsj
                have gj' := (HBB.out.cell (block_lt_of_cell gj)).trans gj
                rw [hlj] at gj'
                obtain ⟨bj, oj, rfl, hcj'⟩ := hcj.resolve_left (fun h => by rw [h] at hlj; simp at hlj; omega)
                have htl : t < zss[j].length := by omega
                have gz := (HBB.out.cell (block_lt_of_cell (hcj' t htl))).trans (hcj' t htl)
                have z3 := bitsB_at hvj.1 htl
                have hct := col_take (i := t) hjl
                rw [show (zss[j]).getD t 0 = zss[j][t] by simp [htl]] at hct
                have HCt := Lib.hid hct
                have HLen : Hid (((col zss t).take j).length + 1 ≤ 140737488355328) := by
                  show ((col zss t).take j).length + 1 ≤ 140737488355328
                  simp [col]; omega
                clear gj hcj hcj' hvj hlj hct
                generalize zss[j][t] = z at gz z3 HCt
                go_wp2_with (at_builtin; refine wpList_append_sl rfl _ _ rfl wo.heap.size _ _ _ [z] rfl rfl (HO'.out.alloc _) (Sl.one _ _ (by omega)) HLen.out ?_; intro v5 w5 hown5 hb5)
                have HO5 := Lib.hid hown5
                have HB5 := Lib.hid (hb5 _ (Nat.le_refl _))
                clear hown5 hb5
                go_wp2
                go_roundw
                case rel => exact ⟨j + 1, by omega, by go_num, by rw [HCt.out]; exact HO5.out, (HB'.out.alloc HO'.out.2.2.2 _).trans HB5.out⟩
                case measure => simp [intOf]; omega
              · have hS : Sl wr u8 (col zss t) := by
                  have := HO'.out.sl
                  rwa [List.take_of_length_le (by simp [col]; omega)] at this
                have HS := Lib.hid hS
                have hbits : bitsB (col zss t) = true := col_bits (fun z hz => (isV_bits (HALL.out z hz).1).1) t
                have HBits := Lib.hid hbits
                have HO2 := Lib.hid (HO.out.kept HB'.out)
                have hr2 := resL_le hbits
                have HT := Lib.hid (accL_take (zss := zss) (m := zss.length) hti)
                rw [List.take_length] at HT
                have HLen : Hid (((accL zss n zss.length).take t).length + 1 ≤ 140737488355328) := by
                  show ((accL zss n zss.length).take t).length + 1 ≤ 140737488355328
                  simp [accL]; omega
                clear hS hbits
                go_wp2_with fail
                refine (refResolve_at HBits.out HS.out).mono ?_
                rintro e w6 ⟨rfl, hb6⟩
                have HO6 := Lib.hid (HO2.out.kept hb6)
                have HB6 := Lib.hid (below_then HBB.out hb6)
                clear hb6
                generalize resL (col zss t) = r at hr2 HT
                go_wp2_with (at_builtin; refine wpList_append_sl rfl _ _ rfl w.heap.size _ _ _ [r] rfl rfl (HO6.out.alloc _) (Sl.one _ _ (by omega)) HLen.out ?_; intro v7 w7 hown7 hb7)
                have HO7 := Lib.hid hown7
                have HB7 := Lib.hid (hb7 _ (Nat.le_refl _))
                clear hown7 hb7
                go_wp2
                go_roundw
                case rel => exact ⟨t + 1, by omega, by go_num, by rw [HT.out]; exact HO7.out, (HB6.out.alloc HB6.out.size _).trans HB7.out⟩
                case measure => simp [intOf]; omega
          · go_wp2
            go_ret2
            refine ⟨_, ret_vi (by rw [HR.out.2]; rfl), ?_, HB.out⟩
            rw [HR.out.1, HH.out, HN.out]
            have := HO.out.sl
            rwa [List.take_of_length_le (by rw [accL_len]; omega)] at this
  · have e : zss = [] := List.length_eq_zero_iff.1 (by omega)
    subst e
    go_enter Tryd.func38, Tryd.ntmps38
    go_wp2
    go_ret2
    exact ⟨_, rfl, sl_nil _, Below.refl _ _⟩
end Go.Proofs.YtaeehejnifhaaaaDoor
