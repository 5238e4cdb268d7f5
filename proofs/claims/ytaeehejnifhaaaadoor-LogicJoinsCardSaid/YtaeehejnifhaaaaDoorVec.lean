/- The contracts of oneLength, Known, Inverse, Map and Covers, of the program and of the reference. -/
import Derived.Test.YtaeehejnifhaaaaDoorOne
import Derived.Test.YtaeehejnifhaaaaDoorOpr
namespace Go.Proofs.YtaeehejnifhaaaaDoor
open Go.RowKit

/-- v is a slice of slices of bits. -/
def Sls (w : World) (v : Value) (zss : List (List Nat)) : Prop :=
  ∃ (A : Option Addr) (c : Nat), v = .slice A zss.length c ∧ zss.length ≤ 140737488355328 ∧
    (zss = [] ∨ ∃ b off, A = some ⟨b, off, none⟩ ∧ ∀ (k : Nat) (h : k < zss.length), ∃ u, w.cell? ⟨b, off + k, none⟩ = some u ∧ Sl w u zss[k])
theorem Sls.later {w w' : World} {v : Value} {zss : List (List Nat)} (h : Sls w v zss) (hb : Below w.heap.size w w') : Sls w' v zss := by
  obtain ⟨A, c, e, hn, hc⟩ := h
  refine ⟨A, c, e, hn, ?_⟩
  rcases hc with hc | ⟨b, off, e', hc⟩
  · exact .inl hc
  · refine .inr ⟨b, off, e', fun k hk => ?_⟩
    obtain ⟨u, hu, hs⟩ := hc k hk
    exact ⟨u, (hb.cell (block_lt_of_cell hu)).trans hu, hs.later hb⟩
theorem Sls.two {w : World} {u v : Value} {a b : List Nat} (hu : Sl w u a) (hv : Sl w v b) : Sls (w.alloc (.cells #[u, v] 31)) (.slice (some ⟨w.heap.size, 0, none⟩) 2 2) [a, b] := by
  refine ⟨_, 2, rfl, by simp, .inr ⟨w.heap.size, 0, rfl, fun k hk => ?_⟩⟩
  have hb := below_alloc w (.cells #[u, v] 31)
  simp at hk
  obtain rfl | rfl : k = 0 ∨ k = 1 := by omega
  · exact ⟨u, by rw [World.cell?_alloc_at _ _ _ _ rfl]; rfl, hu.later hb⟩
  · exact ⟨v, by rw [World.cell?_alloc_at _ _ _ _ rfl]; rfl, hv.later hb⟩

/-- There is at least one vector, and all are vectors of one length. -/
def oneV (zss : List (List Nat)) : Bool := decide (0 < zss.length) && zss.all fun z => isV z && decide (z.length = (zss.headD []).length)
theorem oneV_no {zss : List (List Nat)} {k : Nat} (h : k < zss.length) (hz : isV zss[k] = false ∨ zss[k].length ≠ (zss[0]'(by omega)).length) : oneV zss = false := by
  have e0 : zss.headD [] = zss[0]'(by omega) := by cases zss with | nil => simp at h | cons a l => rfl
  unfold oneV
  rw [Bool.and_eq_false_iff]
  right
  rw [List.all_eq_false]
  refine ⟨zss[k], List.getElem_mem h, ?_⟩
  rw [e0]
  rcases hz with h | h
  · simp [h]
  · simp [h]
theorem oneV_all {zss : List (List Nat)} (h : 0 < zss.length) (ha : ∀ z ∈ zss, isV z = true ∧ z.length = zss[0].length) : oneV zss = true := by
  have e0 : zss.headD [] = zss[0] := by cases zss with | nil => simp at h | cons a l => rfl
  unfold oneV
  rw [e0, Bool.and_eq_true]
  refine ⟨by simpa using h, List.all_eq_true.2 fun z hz => ?_⟩
  simp [ha z hz]
theorem oneV_two (a b : List Nat) : oneV [a, b] = (isV a && isV b && decide (a.length = b.length)) := by
  unfold oneV
  simp
  by_cases h : a.length = b.length
  · simp [h]
  · simp [h, Ne.symm h]

set_option maxHeartbeats 1000000 in
theorem oneLength_any (v : Value) (zss : List (List Nat)) (w : World) (h : Sls w v zss) :
    Calls Tryd.prog 48 #[v] w fun e w' => e = .returned (.bool (oneV zss)) ∧ w = w' := by
  obtain ⟨A, c, rfl, hn, hc⟩ := h
  by_cases h0 : 0 < zss.length
  · rcases hc with rfl | ⟨b, off, rfl, hc⟩
    · exact absurd h0 (by simp)
    obtain ⟨u0, g0, A0, c0, rfl, hn0, _, _⟩ := hc 0 h0
    have g0' : w.cell? ⟨b, off, none⟩ = some (.slice A0 zss[0].length c0) := g0
    have HC := Lib.hid hc
    clear g0 hc
    go_enter Tryd.func48, Tryd.ntmps48
    go_wp2_with fail
    go_loop [7] (fun i => ∃ k : Nat, k ≤ zss.length ∧ i = .int .i64 k ∧ Hid (∀ z ∈ zss.take k, isV z = true ∧ z.length = zss[0].length)) (fun i => zss.length - (intOf i).toNat)
    case atStart => exact ⟨0, Nat.zero_le _, rfl, by intro z hz; simp at hz⟩
    case round =>
      obtain ⟨k, hk, rfl, hr⟩ := hrel
      by_cases hlt : k < zss.length
      · obtain ⟨u, g, hs⟩ := HC.out k hlt
        have HI := Lib.hid (is_any u _ w hs)
        obtain ⟨Ak, ck, rfl, hnk, _, _⟩ := hs
        by_cases hv : isV zss[k] = true
        · have hI := HI.out
          rw [hv] at hI
          have HI' := Lib.hid hI
          clear hI HI
          by_cases hl : zss[k].length = zss[0].length
          · have hne : ((zss[k].length : Int) != (zss[0].length : Int)) = false := by rw [hl]; simp
            have hne' : ((zss[k].length : Int) == (zss[0].length : Int)) = true := by rw [hl]; simp
            have HR : Hid (∀ z ∈ zss.take (k + 1), isV z = true ∧ z.length = zss[0].length) := by
              intro z hz
              rw [List.take_succ_eq_append_getElem hlt] at hz
              rcases List.mem_append.1 hz with h | h
              · exact hr.out z h
              · simp at h; subst h; exact ⟨hv, hl⟩
            clear hv hl hr
            generalize zss[k].length = nk at g HI' hne hne' hnk
            go_wp2_with (go_at_call 27; refine (HI'.out).mono ?_; rintro e w' ⟨rfl, rfl⟩)
            go_round
            case rel => exact ⟨k + 1, by omega, by go_num, HR⟩
            case measure => simp [intOf]; omega
          · have hne : ((zss[k].length : Int) != (zss[0].length : Int)) = true := by rw [bne_iff_ne]; omega
            have hne' : ((zss[k].length : Int) == (zss[0].length : Int)) = false := by rw [beq_eq_false_iff_ne]; omega
            have HR := Lib.hid (oneV_no hlt (.inr hl))
            clear hv hl hr
            generalize zss[k].length = nk at g HI' hne hne' hnk
            go_wp2_with (go_at_call 27; refine (HI'.out).mono ?_; rintro e w' ⟨rfl, rfl⟩)
            go_ret
            exact ⟨ret_bool HR.out.symm, rfl⟩
        · have hv' : isV zss[k] = false := by simpa using hv
          have hI := HI.out
          rw [hv'] at hI
          have HI' := Lib.hid hI
          have HR := Lib.hid (oneV_no hlt (.inl hv'))
          clear hI HI hv hv' hr
          generalize zss[k].length = nk at g HI' hnk
          go_wp2_with (go_at_call 27; refine (HI'.out).mono ?_; rintro e w' ⟨rfl, rfl⟩)
          go_ret
          exact ⟨ret_bool HR.out.symm, rfl⟩
      · have HR := Lib.hid (oneV_all h0 (by have := hr.out; rwa [List.take_of_length_le (by omega)] at this))
        clear hr
        go_wp2
        go_ret
        exact ⟨ret_bool HR.out.symm, rfl⟩
  · have e : zss = [] := List.length_eq_zero_iff.1 (by omega)
    subst e
    go_enter Tryd.func48, Tryd.ntmps48
    go_wp2
    refine wp_loop_rounds 1 ?_
    rw [rounds_succ]
    go_wp2
    go_ret
    exact ⟨rfl, rfl⟩
end Go.Proofs.YtaeehejnifhaaaaDoor
