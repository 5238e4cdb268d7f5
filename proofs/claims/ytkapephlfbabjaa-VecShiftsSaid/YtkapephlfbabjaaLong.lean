/- What long says of one or two lists; what the laws take besides. -/
import Derived.Test.YtkapephlfbabjaaAwake
namespace Go.Proofs.Ytkapephlfbabjaa
open Go.RowKit

/-- v is a slice of slices of bits. -/
def Sls (w : World) (v : Value) (zss : List (List Nat)) : Prop :=
  ∃ (A : Option Addr) (c : Nat), v = .slice A zss.length c ∧ zss.length ≤ 140737488355328 ∧
    (zss = [] ∨ ∃ b off, A = some ⟨b, off, none⟩ ∧ ∀ (k : Nat) (h : k < zss.length), ∃ u, w.cell? ⟨b, off + k, none⟩ = some u ∧ Sl w u zss[k])
theorem Sls.later {w w' : World} {v : Value} {zss : List (List Nat)} (h : Sls w v zss) (hb : Below w.heap.size w w') : Sls w' v zss := by
  obtain ⟨A, c, e, hn, hc⟩ := h
  refine ⟨A, c, e, hn, ?_⟩
  rcases hc with hc | ⟨b, off, e', hc⟩
  · exact .inl hc
  · refine .inr ⟨b, off, e', fun k hk => ?_⟩
    obtain ⟨u, hu, hs⟩ := hc k hk
    exact ⟨u, (hb.cell (block_lt_of_cell hu)).trans hu, hs.later hb⟩
theorem Sls.two {w : World} {u v : Value} {a b : List Nat} (hu : Sl w u a) (hv : Sl w v b) : Sls (w.alloc (.cells #[u, v] 22)) (.slice (some ⟨w.heap.size, 0, none⟩) 2 2) [a, b] := by
  refine ⟨_, 2, rfl, by simp, .inr ⟨w.heap.size, 0, rfl, fun k hk => ?_⟩⟩
  have hb := below_alloc w (.cells #[u, v] 22)
  simp at hk
  obtain rfl | rfl : k = 0 ∨ k = 1 := by omega
  · exact ⟨u, by rw [World.cell?_alloc_at _ _ _ _ rfl]; rfl, hu.later hb⟩
  · exact ⟨v, by rw [World.cell?_alloc_at _ _ _ _ rfl]; rfl, hv.later hb⟩

theorem Sls.one {w : World} {u : Value} {a : List Nat} (hu : Sl w u a) : Sls (w.alloc (.cells #[u] 22)) (.slice (some ⟨w.heap.size, 0, none⟩) 1 1) [a] := by
  refine ⟨_, 1, rfl, by simp, .inr ⟨w.heap.size, 0, rfl, fun k hk => ?_⟩⟩
  have hb := below_alloc w (.cells #[u] 22)
  simp at hk
  subst hk
  exact ⟨u, by rw [World.cell?_alloc_at _ _ _ _ rfl]; rfl, hu.later hb⟩

/-- Some list has more than 200 elements. -/
def longB (zss : List (List Nat)) : Bool := zss.any fun z => decide (200 < z.length)
theorem longB_yes {zss : List (List Nat)} {k : Nat} (h : k < zss.length) (hz : 200 < zss[k].length) : longB zss = true := by
  unfold longB
  rw [List.any_eq_true]
  exact ⟨zss[k], List.getElem_mem h, by simpa using hz⟩
theorem longB_no {zss : List (List Nat)} (h : ∀ z ∈ zss, z.length ≤ 200) : longB zss = false := by
  unfold longB
  rw [List.any_eq_false]
  intro z hz
  simpa using h z hz

set_option maxHeartbeats 1000000 in
theorem long_any (v : Value) (zss : List (List Nat)) (w : World) (h : Sls w v zss) :
    Calls Try.prog 15 #[v] w fun e w' => e = .returned (.bool (longB zss)) ∧ w = w' := by
  obtain ⟨A, c, rfl, hn, hc⟩ := h
  go_enter Try.func15, Try.ntmps15
  go_wp2_with fail
  go_loop [7] (fun i => ∃ k : Nat, k ≤ zss.length ∧ i = .int .i64 k ∧ Hid (∀ z ∈ zss.take k, z.length ≤ 200)) (fun i => zss.length - (intOf i).toNat)
  case atStart => exact ⟨0, Nat.zero_le _, rfl, by intro z hz; simp at hz⟩
  case round =>
    obtain ⟨k, hk, rfl, hr⟩ := hrel
    by_cases hlt : k < zss.length
    · rcases hc with rfl | ⟨b, off, rfl, hc⟩
      · exact absurd hlt (by simp)
      obtain ⟨u, g, hs⟩ := hc k hlt
      obtain ⟨Ak, ck, rfl, hnk, _, _⟩ := hs
      clear hc
      by_cases hl : zss[k].length ≤ 200
      · have hd : decide ((200 : Int) < (zss[k].length : Int)) = false := by rw [decide_eq_false_iff_not]; omega
        have HR : Hid (∀ z ∈ zss.take (k + 1), z.length ≤ 200) := by
          intro z hz
          rw [List.take_succ_eq_append_getElem hlt] at hz
          rcases List.mem_append.1 hz with h | h
          · exact hr.out z h
          · simp at h; subst h; exact hl
        clear hl hr
        generalize zss[k].length = nk at g hd hnk
        go_wp2
        go_round
        case rel => exact ⟨k + 1, by omega, by go_num, HR⟩
        case measure => simp [intOf]; omega
      · have hd : decide ((200 : Int) < (zss[k].length : Int)) = true := by rw [decide_eq_true_eq]; omega
        have HR := Lib.hid (longB_yes hlt (by omega))
        clear hl hr
        generalize zss[k].length = nk at g hd hnk
        go_wp2
        go_ret
        exact ⟨ret_bool HR.out.symm, rfl⟩
    · have HR := Lib.hid (longB_no (zss := zss) (by have := hr.out; rwa [List.take_of_length_le (by omega)] at this))
      clear hr hc
      go_wp2
      go_ret
      exact ⟨ret_bool HR.out.symm, rfl⟩

theorem long_one {w : World} {u : Value} {a : List Nat} (hu : Sl w u a) {t : Bool} (h : longB [a] = t) :
    Calls Try.prog 15 #[.slice (some ⟨w.heap.size, 0, none⟩) 1 1] (w.alloc (.cells #[u] 22)) fun e w' => e = .returned (.bool t) ∧ (w.alloc (.cells #[u] 22)) = w' := by
  subst h
  exact long_any _ _ _ (Sls.one hu)
theorem long_two {w : World} {u v : Value} {a b : List Nat} (hu : Sl w u a) (hv : Sl w v b) {t : Bool} (h : longB [a, b] = t) :
    Calls Try.prog 15 #[.slice (some ⟨w.heap.size, 0, none⟩) 2 2] (w.alloc (.cells #[u, v] 22)) fun e w' => e = .returned (.bool t) ∧ (w.alloc (.cells #[u, v] 22)) = w' := by
  subst h
  exact long_any _ _ _ (Sls.two hu hv)
end Go.Proofs.Ytkapephlfbabjaa
