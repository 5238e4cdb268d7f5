/- The contract of Join. -/
import Derived.Test.YtaeehejnifhaaaaDoorJoin1
namespace Go.Proofs.YtaeehejnifhaaaaDoor
open Go.RowKit

theorem Own.drew {w : World} {base : Nat} {v : Value} {zs : List Nat} (h : Own w base v zs) : Own w.drew base v zs := h.kept (Below.refl _ _).drew

set_option maxRecDepth 100000 in
set_option maxHeartbeats 4000000 in
theorem join_more (v : Value) (zss : List (List Nat)) (w : World) (hT : Tabs w) (h : Sls w v zss) (hcap : ∃ A cp, v = .slice A zss.length cp ∧ zss.length ≤ cp) (hv : oneV zss = true) (h2 : 2 ≤ zss.length) :
    Calls Tryd.prog 37 #[v] w fun e w' => ∃ u, e = .returned (.tuple #[u, .int .i64 0]) ∧ Sl w' u (accL zss (zss.headD []).length zss.length) ∧ Below w.heap.size w w' := by
  have hI := oneLength_any v zss w h
  rw [hv] at hI
  have HI := Lib.hid hI
  obtain ⟨h0, hall⟩ := oneV_at hv
  have HT := Lib.hid hT
  have HALL := Lib.hid hall
  have HCap := Lib.hid hcap
  obtain ⟨A, cp, rfl, hn, hc⟩ := h
  obtain ⟨b, off, rfl, hk⟩ := hc.resolve_left (fun h => by rw [h] at h0; exact absurd h0 (by simp))
  obtain ⟨A', cp', hAc, hcpl⟩ := hcap
  obtain rfl : cp' = cp := by injection hAc with _ _ h; exact h.symm
  have hh : zss.headD [] = zss[0] := by cases zss with | nil => simp at h0 | cons a l => rfl
  obtain ⟨u0, g0, hs0⟩ := hk 0 h0
  have g0' : w.cell? ⟨b, off, none⟩ = some u0 := g0
  obtain ⟨v0, l0⟩ := hall zss[0] (List.getElem_mem h0)
  have hb0 := isV_bits v0
  have HB0 := Lib.hid hb0
  have HS0 := Lib.hid hs0
  have HC := Lib.hid hk
  rw [hh]
  obtain ⟨n, hnn⟩ : ∃ n, zss[0].length = n := ⟨_, rfl⟩
  have HN := Lib.hid hnn
  have hn1 : 1 ≤ n := by omega
  have hn2 : n ≤ 64 := by omega
  rw [hnn]
  have HH := Lib.hid (hh ▸ hnn : (zss.headD []).length = n)
  clear hI hv hT hall hc hk g0 v0 l0 hs0 hnn hh hAc hb0
  have hcp : ¬ cp' = 1 := by omega
  go_enter Tryd.func37, Tryd.ntmps37
  go_wp2_with fail
  refine (HI.out).mono ?_
  rintro e w' ⟨rfl, rfl⟩
  go_wp2_with fail
  refine (clone_any _ _ _ HS0.out (by have := HN.out; omega)).mono ?_
  rintro e w1 ⟨u, rfl, hown, hb1⟩
  have ho : Own w1 w.heap.size u (accL zss n 1) := by
    rw [← HN.out, accL_one h0 HB0.out.1]; exact hown
  obtain ⟨g, cap, rfl, _, _⟩ := hown.1.form (by have := HN.out; omega)
  rw [HN.out] at ho ⊢
  have HO1 := Lib.hid ho
  have HB1 := Lib.hid hb1
  clear hown hb1 ho
  go_wp2_with fail
  go_loopw [18] (fun i wr => ∃ j : Nat, j + 1 ≤ zss.length ∧ i = .int .i64 j ∧ Own wr w.heap.size (.slice (some ⟨g, 0, none⟩) n cap) (accL zss n (j + 1)) ∧ Below w.heap.size w wr) (fun i _ => zss.length - (intOf i).toNat)
  case atStart => exact ⟨0, h0, rfl, HO1.out, HB1.out⟩
  case round =>
    obtain ⟨j, hj, rfl, hown, hb⟩ := hrel
    have HO := Lib.hid hown
    have HB := Lib.hid hb
    clear hown hb
    by_cases hlt : j + 1 < zss.length
    · obtain ⟨uj, gj, hsj⟩ := HC.out (j + 1) hlt
      have hlj : zss[j + 1].length = n := by rw [(HALL.out _ (List.getElem_mem hlt)).2, HH.out]
      have hvj := isV_bits (HALL.out _ (List.getElem_mem hlt)).1
      obtain ⟨Aj, cj, rfl, _, _, hcj⟩ := hsj
      have gj' : wr.cell? ⟨b, off + 1 + j, none⟩ = some (.slice Aj n cj) := by
        have := (HB.out.cell (block_lt_of_cell gj)).trans gj
        rw [hlj] at this
        rwa [show off + (j + 1) = off + 1 + j by omega] at this
      obtain ⟨bj, oj, rfl, hcj'⟩ := hcj.resolve_left (fun h => by rw [h] at hlj; simp at hlj; omega)
      have HCj := Lib.hid hcj'
      have HVj := Lib.hid hvj
      have HLj := Lib.hid hlj
      have hlt1 : j < zss.length - 1 := by omega
      clear gj hcj hcj' hvj hlj
      obtain ⟨wo, rfl⟩ : ∃ wo : World, wo = wr := ⟨_, rfl⟩
      go_wp2_with fail
      go_loopw [24] (fun i wr => ∃ t : Nat, t ≤ n ∧ i = .int .i64 t ∧ Own wr w.heap.size (.slice (some ⟨g, 0, none⟩) n cap) (midL zss n (j + 1) t) ∧ Below w.heap.size w wr) (fun i _ => n - (intOf i).toNat)
      case atStart => exact ⟨0, Nat.zero_le _, rfl, by rw [midL_zero]; exact HO.out, HB.out⟩
      case round =>
        obtain ⟨t, ht, rfl, hown, hb⟩ := hrel
        have HO' := Lib.hid hown
        have HB' := Lib.hid hb
        clear hown hb
        by_cases hti : t < n
        · have htl : t < zss[j + 1].length := by have := HLj.out; omega
          have gz := (HB'.out.cell (block_lt_of_cell (HCj.out t htl))).trans (HCj.out t htl)
          have z3 := bitsB_at HVj.out.1 htl
          have r3 := resL_le (col_bits (zss := zss.take (j + 1)) (fun z hz => (isV_bits (HALL.out z (List.mem_of_mem_take hz)).1).1) t)
          obtain ⟨gr, gf⟩ := HO'.out.cell t (by rw [midL_len]; exact hti)
          rw [midL_get hti] at gr
          have c4 := (HT.out.later HB'.out).res_ _ _ r3 z3
          have hset := midL_set (n := n) hlt hti
          rw [show (zss[j + 1]).getD t 0 = zss[j + 1][t] by simp [htl]] at hset
          have rz := resN_le _ _ r3 z3
          have hst := HO'.out.stored t (resN (resL (col (zss.take (j + 1)) t)) zss[j + 1][t]) (by omega)
          rw [hset] at hst
          have HS := Lib.hid hst
          clear hst hset
          generalize resL (col (zss.take (j + 1)) t) = r at gr c4 r3 rz HS
          generalize zss[j + 1][t] = z at gz c4 z3 rz HS
          go_wp2
          go_region
          all_goals
            go_wp2
            go_roundw
            case rel => exact ⟨t + 1, by omega, by go_num, HS.out.1.drew, (HB'.out.trans (HS.out.2 _ (Nat.le_refl _))).drew⟩
            case measure => simp [intOf]; omega
        · have HE : Hid (midL zss n (j + 1) t = accL zss n (j + 2)) := by
            rw [show t = n by omega, midL_end]; exact rfl
          go_wp2
          go_roundw
          case rel => exact ⟨j + 1, by omega, by go_num, by rw [← HE.out]; exact HO'.out, HB'.out⟩
          case measure => simp [intOf]; omega
    · have hlt2 : ¬ j < zss.length - 1 := by omega
      have HE : Hid (accL zss n (j + 1) = accL zss n zss.length) := by rw [show j + 1 = zss.length by omega]; exact rfl
      go_wp2
      go_ret2
      exact ⟨_, rfl, by rw [← HE.out]; exact HO.out.sl, HB.out⟩

set_option maxRecDepth 100000 in
set_option maxHeartbeats 4000000 in
theorem join_one (v : Value) (zss : List (List Nat)) (w : World) (h : Sls w v zss) (hcap : ∃ A cp, v = .slice A zss.length cp ∧ zss.length ≤ cp) (hv : oneV zss = true) (h1 : zss.length = 1) :
    Calls Tryd.prog 37 #[v] w fun e w' => ∃ u, e = .returned (.tuple #[u, .int .i64 0]) ∧ Sl w' u (accL zss (zss.headD []).length zss.length) ∧ Below w.heap.size w w' := by
  have hI := oneLength_any v zss w h
  rw [hv] at hI
  have HI := Lib.hid hI
  obtain ⟨z0, rfl⟩ : ∃ z0, zss = [z0] := by
    match zss, h1 with
    | [z], _ => exact ⟨z, rfl⟩
  obtain ⟨h0, hall⟩ := oneV_at hv
  have v0 := (hall z0 (by simp)).1
  obtain ⟨A, cp, rfl, hn, hc⟩ := h
  obtain ⟨b, off, rfl, hk⟩ := hc.resolve_left (by simp)
  obtain ⟨A', cp', hAc, hcpl⟩ := hcap
  obtain rfl : cp' = cp := by injection hAc with _ _ h; exact h.symm
  obtain ⟨u0, g0, hs0⟩ := hk 0 (by simp)
  have g0' : w.cell? ⟨b, off, none⟩ = some u0 := g0
  have HS0 : Hid (Sl w u0 z0) := hs0
  have hb := isV_bits v0
  have HB0 := Lib.hid hb
  have HE : Hid (accL [z0] ([z0].headD []).length [z0].length = z0) := accL_one (zss := [z0]) (by simp) hb.1
  clear hI hv hall hc hk g0 v0 hs0 hAc hb h0 h1 hn
  by_cases hcp : cp' = 1
  · subst hcp
    go_enter Tryd.func37, Tryd.ntmps37
    go_wp2_with fail
    refine (HI.out).mono ?_
    rintro e w' ⟨rfl, rfl⟩
    go_wp2_with fail
    refine (clone_any _ _ _ HS0.out (by have := HB0.out; omega)).mono ?_
    rintro e w1 ⟨u, rfl, hown, hb1⟩
    have HO1 := Lib.hid hown
    have HB1 := Lib.hid hb1
    clear hown hb1
    go_wp2
    refine wp_loop_rounds 1 ?_
    rw [rounds_succ]
    go_wp2
    go_ret2
    refine ⟨u, rfl, ?_, HB1.out⟩
    show Sl w1 u (accL [z0] ([z0].headD []).length [z0].length)
    rw [HE.out]
    exact HO1.out.sl
  · simp at hcpl
    go_enter Tryd.func37, Tryd.ntmps37
    go_wp2_with fail
    refine (HI.out).mono ?_
    rintro e w' ⟨rfl, rfl⟩
    go_wp2_with fail
    refine (clone_any _ _ _ HS0.out (by have := HB0.out; omega)).mono ?_
    rintro e w1 ⟨u, rfl, hown, hb1⟩
    have HO1 := Lib.hid hown
    have HB1 := Lib.hid hb1
    clear hown hb1
    go_wp2
    refine wp_loop_rounds 1 ?_
    rw [rounds_succ]
    go_wp2
    go_ret2
    refine ⟨u, rfl, ?_, HB1.out⟩
    show Sl w1 u (accL [z0] ([z0].headD []).length [z0].length)
    rw [HE.out]
    exact HO1.out.sl

theorem join_any (v : Value) (zss : List (List Nat)) (w : World) (hT : Tabs w) (h : Sls w v zss) (hcap : ∃ A cp, v = .slice A zss.length cp ∧ zss.length ≤ cp) :
    Calls Tryd.prog 37 #[v] w fun e w' => ∃ u, e = .returned (.tuple #[u, .int .i64 (joinE zss : Nat)]) ∧ Sl w' u (joinV zss) ∧ Below w.heap.size w w' := by
  by_cases hv : oneV zss = true
  · rw [(join_yes hv).1, (join_yes hv).2]
    have h0 := (oneV_at hv).1
    by_cases h2 : 2 ≤ zss.length
    · exact join_more v zss w hT h hcap hv h2
    · exact join_one v zss w h hcap hv (by omega)
  · have hv' : oneV zss = false := by simpa using hv
    rw [(join_no hv').1, (join_no hv').2]
    have hI := oneLength_any v zss w h
    rw [hv'] at hI
    have HI := Lib.hid hI
    obtain ⟨A, cp, rfl, _⟩ := h
    clear hI hv hv' hcap hT
    go_enter Tryd.func37, Tryd.ntmps37
    go_wp2_with fail
    refine (HI.out).mono ?_
    rintro e w' ⟨rfl, rfl⟩
    go_wp2
    go_ret2
    exact ⟨_, rfl, sl_nil _, Below.refl _ _⟩
end Go.Proofs.YtaeehejnifhaaaaDoor
