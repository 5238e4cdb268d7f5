/- What long says; and Parse as the reference has it. -/
import Derived.Test.YtaeehejnifhaaaaDoorLaw
namespace Go.Proofs.YtaeehejnifhaaaaDoor
open Go.RowKit

theorem long_no (A : Option Addr) (n c : Nat) (w : World) (h : n ≤ 200) :
    Calls Tryd.prog 20 #[.slice A n c] w fun e w' => e = .returned (.bool false) ∧ w = w' := by
  have hd : decide ((200 : Int) < (n : Int)) = false := by rw [decide_eq_false_iff_not]; omega
  go_enter Tryd.func20, Tryd.ntmps20
  go_wp2
  go_ret
  exact ⟨rfl, rfl⟩
theorem long_yes (A : Option Addr) (n c : Nat) (w : World) (h : ¬ n ≤ 200) :
    Calls Tryd.prog 20 #[.slice A n c] w fun e w' => e = .returned (.bool true) ∧ w = w' := by
  have hd : decide ((200 : Int) < (n : Int)) = true := by rw [decide_eq_true_eq]; omega
  go_enter Tryd.func20, Tryd.ntmps20
  go_wp2
  go_ret
  exact ⟨rfl, rfl⟩
theorem Sl.long_no {w : World} {v : Value} {zs : List Nat} (h : Sl w v zs) (hl : zs.length ≤ 200) (w0 : World) :
    Calls Tryd.prog 20 #[v] w0 fun e w' => e = .returned (.bool false) ∧ w0 = w' := by
  obtain ⟨A, c, rfl, _⟩ := h
  exact Proofs.YtaeehejnifhaaaaDoor.long_no _ _ _ _ hl
theorem Sl.long_yes {w : World} {v : Value} {zs : List Nat} (h : Sl w v zs) (hl : ¬ zs.length ≤ 200) (w0 : World) :
    Calls Tryd.prog 20 #[v] w0 fun e w' => e = .returned (.bool true) ∧ w0 = w' := by
  obtain ⟨A, c, rfl, _⟩ := h
  exact Proofs.YtaeehejnifhaaaaDoor.long_yes _ _ _ _ hl
theorem eqL_self (zs : List Nat) : eqL zs zs = true := by unfold eqL; simp
theorem same_self {w : World} {v u : Value} {zs : List Nat} (h : Sl w v zs) (h' : Sl w u zs) :
    Calls Tryd.prog 24 #[v, u] w fun e w' => e = .returned (.bool true) ∧ Below w.heap.size w w' := by
  have := same_any v u zs zs w h h'
  rwa [eqL_self] at this

/-- The letters' bits from behind, after k rounds. -/
theorem rev_take {l : List UInt8} {k : Nat} (h : k < l.length) : ((l.reverse.map lc).take (k + 1)) = (l.reverse.map lc).take k ++ [lc (l[l.length - 1 - k]'(by omega))] := by
  rw [List.take_succ_eq_append_getElem (by simpa using h)]
  simp

set_option maxHeartbeats 1000000 in
theorem refParse_any (s : ByteArray) (w : World) :
    Calls Tryd.prog 40 #[.string s] w fun e w' => ∃ u, e = .returned (.tuple #[u, .int .i64 (parE s.data.toList : Nat)]) ∧ Sl w' u (parV s.data.toList) ∧ Below w.heap.size w w' := by
  have hl := byte_list s
  by_cases h1 : 1 ≤ s.size
  · by_cases h2 : s.size ≤ 64
    · have HF := Lib.hid (parB_fits (l := s.data.toList) (by omega) (by omega))
      have HL := Lib.hid hl
      clear hl
      go_enter Tryd.func40, Tryd.ntmps40
      go_wp2_with fail
      go_loopw [4, 18] (fun v i wr => ∃ k : Nat, k ≤ s.size ∧ i = .int .i64 k ∧ Hid (lcB (s.data.toList.reverse.take k) = true) ∧ Own wr w.heap.size v ((s.data.toList.reverse.map lc).take k) ∧ Below w.heap.size w wr) (fun _ i _ => s.size - (intOf i).toNat)
      case atStart => exact ⟨0, Nat.zero_le _, rfl, rfl, Own.nil w (Nat.le_refl _), Below.refl _ _⟩
      case round =>
        obtain ⟨k, hk, rfl, hr, hown, hb⟩ := hrel
        have HO := Lib.hid hown
        have HB := Lib.hid hb
        clear hown hb
        by_cases hlt : k < s.size
        · have hlt' : s.size - 1 - k < s.data.toList.length := by rw [HL.out]; omega
          have hX := byte_get s (s.size - 1 - k) (by omega) hlt'
          have hX' : s.data.toList.reverse[k]'(by simp; omega) = s[s.size - 1 - k] := by rw [← hX]; simp
          have hz4 := lc_le s[s.size - 1 - k]
          by_cases h3 : lc s[s.size - 1 - k] ≤ 3
          · have HR := Lib.hid (lcB_take (l := s.data.toList.reverse) (k := k) (by simp; omega) hr.out (by rw [hX']; exact h3))
            have hT0 : (s.data.toList.reverse.map lc).take (k + 1) = (s.data.toList.reverse.map lc).take k ++ [lc s[s.size - 1 - k]] := by
              rw [List.take_succ_eq_append_getElem (by simp; omega), List.getElem_map, hX']
            have HT := Lib.hid hT0
            clear hT0
            have hc := fun w => of_any s[s.size - 1 - k] w
            rw [if_pos h3, decide_eq_true h3] at hc
            have hlen : ((s.data.toList.reverse.map lc).take k).length ≤ 64 := by simp; omega
            generalize lc s[s.size - 1 - k] = z at hc HT h3 hz4
            have HI := Lib.hid hc
            have HLen := Lib.hid hlen
            clear hc hX hX' hr hlen
            go_wp2_with (first | (go_at_call 44; refine (HI.out _).mono ?_; rintro e w' ⟨rfl, rfl⟩) | (at_builtin; refine wpList_append_sl rfl _ _ rfl w.heap.size _ _ _ [z] rfl rfl (HO.out.alloc _) (Sl.one _ _ (by omega)) (by have := HLen.out; rw [List.length_singleton]; omega) ?_; intro v' w2 hown2 hb2))
            have HO2 := Lib.hid hown2
            have HB2 := Lib.hid hb2
            clear hown2 hb2
            go_wp2
            go_roundw
            case rel => exact ⟨k + 1, by omega, by go_num, HR, by rw [HT.out]; exact HO2.out, (HB.out.alloc HO.out.2.2.2 _).trans (HB2.out _ (Nat.le_refl _))⟩
            case measure => simp [intOf]; omega
          · have HR : Hid (parB s.data.toList = false) := by
              have := lcB_no hlt' (by rw [hX]; exact h3)
              exact (HF.out).trans this
            have hc := fun w => of_any s[s.size - 1 - k] w
            rw [if_neg h3, decide_eq_false h3] at hc
            have HI := Lib.hid hc
            clear hc hX hX' hr h3 hz4
            go_wp2_with (go_at_call 44; refine (HI.out _).mono ?_; rintro e w' ⟨rfl, rfl⟩)
            go_ret2
            exact ⟨_, ret_vi (by rw [(par_no HR.out).2]; rfl), by rw [(par_no HR.out).1]; exact sl_nil _, HB.out⟩
        · have HR : Hid (parB s.data.toList = true) := by
            refine (HF.out).trans ?_
            have := lcB_end (l := s.data.toList.reverse) (k := k) (by simp; omega) hr.out
            unfold lcB at this ⊢
            rwa [List.all_reverse] at this
          have HE : Hid ((s.data.toList.reverse.map lc).take k = (s.data.toList.map lc).reverse) := by
            rw [List.take_of_length_le (by simp; omega), List.map_reverse]; exact rfl
          clear hr
          go_wp2
          go_ret2
          exact ⟨_, ret_vi (by rw [(par_yes HR.out).2]; rfl), by rw [(par_yes HR.out).1, ← HE.out]; exact HO.out.sl, HB.out⟩
    · have HR := Lib.hid (par_no (parB_long (l := s.data.toList) (by omega)))
      clear hl
      go_enter Tryd.func40, Tryd.ntmps40
      go_wp2
      go_ret2
      exact ⟨_, ret_vi (by rw [HR.out.2]; rfl), by rw [HR.out.1]; exact sl_nil _, Below.refl _ _⟩
  · have HR := Lib.hid (par_no (parB_none (l := s.data.toList) (by omega)))
    clear hl
    go_enter Tryd.func40, Tryd.ntmps40
    go_wp2
    go_ret2
    exact ⟨_, ret_vi (by rw [HR.out.2]; rfl), by rw [HR.out.1]; exact sl_nil _, Below.refl _ _⟩
end Go.Proofs.YtaeehejnifhaaaaDoor
