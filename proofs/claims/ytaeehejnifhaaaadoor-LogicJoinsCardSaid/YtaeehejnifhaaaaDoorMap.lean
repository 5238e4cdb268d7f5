/- The contracts of Inverse, Map and Covers, of the program and of the reference. -/
import Derived.Test.YtaeehejnifhaaaaDoorKn
namespace Go.Proofs.YtaeehejnifhaaaaDoor
open Go.RowKit

theorem same_w {P : Program} {f : FuncId} {args : Array Value} {w : World} {v : Value} (h : Calls P f args w fun e w' => e = .returned v ∧ w = w') : Calls P f args w fun e w' => e = .returned v ∧ w' = w :=
  h.mono fun _ _ ⟨a, b⟩ => ⟨a, b.symm⟩
theorem Tabs.drewN {w : World} (h : Tabs w) (n : Nat) : Tabs (w.drewN n) := h.later (below_drewN (Below.refl _ _) n)
theorem Own.drewN {w : World} {base : Nat} {v : Value} {zs : List Nat} (h : Own w base v zs) (n : Nat) : Own (w.drewN n) base v zs := h.kept (below_drewN (Below.refl _ _) n)

/-- A row of the call's own that is filled from the front. -/
def fillF (n : Nat) (ys : List Nat) : List Nat := ys ++ List.replicate (n - ys.length) 0
theorem fillF_len {n : Nat} {ys : List Nat} (h : ys.length ≤ n) : (fillF n ys).length = n := by unfold fillF; simp; omega
theorem fillF_set {n k : Nat} {ys : List Nat} (hk : ys.length = k) (h : k < n) (z : Nat) : (fillF n ys).set k z = fillF n (ys ++ [z]) := by
  subst hk
  unfold fillF
  rw [List.set_append_right _ _ (Nat.le_refl _), Nat.sub_self]
  obtain ⟨m, hm⟩ : ∃ m, n - ys.length = m + 1 := ⟨n - ys.length - 1, by omega⟩
  rw [hm, List.replicate_succ, List.set_cons_zero]
  simp
  omega
theorem fillF_end {n : Nat} {ys : List Nat} (h : ys.length = n) : fillF n ys = ys := by unfold fillF; rw [h, Nat.sub_self]; simp

/-- What Inverse returns. -/
def invV (zs : List Nat) : List Nat := if isV zs then zs.map notN else []
def invK (zs : List Nat) (k : Nat) : List Nat := (zs.take k).map notN
theorem invK_succ {zs : List Nat} {k : Nat} (h : k < zs.length) : invK zs (k + 1) = invK zs k ++ [notN zs[k]] := by
  unfold invK; rw [List.take_succ_eq_append_getElem h, List.map_append]; rfl
theorem invK_end {zs : List Nat} {k : Nat} (h : ¬ k < zs.length) : invK zs k = zs.map notN := by unfold invK; rw [List.take_of_length_le (by omega)]
theorem invK_len {zs : List Nat} {k : Nat} (h : k ≤ zs.length) : (invK zs k).length = k := by unfold invK; simp; omega
theorem invV_yes {zs : List Nat} (h : isV zs = true) : invV zs = zs.map notN := by unfold invV; rw [h]; rfl
theorem invV_no {zs : List Nat} (h : isV zs = false) : invV zs = [] := by unfold invV; rw [h]; rfl

set_option maxHeartbeats 1000000 in
theorem inverse_any (v : Value) (zs : List Nat) (w : World) (hT : Tabs w) (h : Sl w v zs) :
    Calls Tryd.prog 31 #[v] w fun e w' => ∃ u, e = .returned (.tuple #[u, .int .i64 (txtE zs : Nat)]) ∧ Sl w' u (invV zs) ∧ Below w.heap.size w w' := by
  have hI := is_any v zs w h
  obtain ⟨A, c, rfl, hn, hz, hc⟩ := h
  clear hz
  have HT := Lib.hid hT
  by_cases hv : isV zs = true
  · rw [hv] at hI
    have HI := Lib.hid hI
    have HB := Lib.hid (isV_bits hv)
    have h64 := (isV_bits hv).2.2
    rw [txtE_yes hv, invV_yes hv]
    clear hI hv hn hT
    go_enter Tryd.func31, Tryd.ntmps31
    go_wp2_with (first | (go_at_call 27; refine (HI.out).mono ?_; rintro e w' ⟨rfl, rfl⟩) | (refine wpList_make_bits rfl _ _ rfl zs.length rfl rfl (by omega) ?_; intro w1 hown1 hb1))
    have HO1 := Lib.hid hown1
    have HB1 := Lib.hid hb1
    clear hown1 hb1
    go_loopw [14] (fun i wr => ∃ k : Nat, k ≤ zs.length ∧ i = .int .i64 k ∧ Own wr w.heap.size (.slice (some ⟨w.heap.size, 0, none⟩) zs.length zs.length) (fillF zs.length (invK zs k)) ∧ Below w.heap.size w wr) (fun i _ => zs.length - (intOf i).toNat)
    case atStart => exact ⟨0, Nat.zero_le _, rfl, by simpa [fillF, invK] using HO1.out, HB1.out⟩
    case round =>
      obtain ⟨k, hk, rfl, hown, hb⟩ := hrel
      have HO := Lib.hid hown
      have Hb := Lib.hid hb
      clear hown hb
      by_cases hlt : k < zs.length
      · rcases hc with rfl | ⟨b, off, rfl, hc⟩
        · exact absurd hlt (by simp)
        have g := (Hb.out.cell (block_lt_of_cell (hc k hlt))).trans (hc k hlt)
        clear hc
        have h3 := bitsB_at HB.out.1 hlt
        have c3 := (HT.out.later Hb.out).not_ _ h3
        have HR := Lib.hid (invK_succ hlt)
        have hfl := fillF_len (n := zs.length) (ys := invK zs k) (by rw [invK_len hk]; exact hk)
        obtain ⟨gc, gf⟩ := HO.out.cell k (by rw [hfl]; exact hlt)
        have n2 := notN_le zs[k]
        have HS := Lib.hid (HO.out.stored k (notN zs[k]) (by omega))
        rw [fillF_set (invK_len hk) hlt, ← HR.out] at HS
        generalize (fillF zs.length (invK zs k))[k] = y at gc
        generalize zs[k] = z at g h3 c3 HS HR n2
        clear hfl
        go_wp2
        go_roundw
        case rel => exact ⟨k + 1, by omega, by go_num, HS.out.1, Hb.out.trans (HS.out.2 _ (Nat.le_refl _))⟩
        case measure => simp [intOf]; omega
      · have HR := Lib.hid (invK_end hlt)
        have HR' : Hid (fillF zs.length (invK zs k) = zs.map notN) := by
          rw [fillF_end (by rw [invK_len hk]; omega), invK_end hlt]; exact rfl
        clear hc
        go_wp2
        go_ret2
        exact ⟨_, rfl, by rw [← HR'.out]; exact HO.out.sl, Hb.out⟩
  · have hv' : isV zs = false := by simpa using hv
    rw [hv'] at hI
    have HI := Lib.hid hI
    rw [txtE_no hv', invV_no hv']
    clear hI hv hv' hn hc hT
    go_enter Tryd.func31, Tryd.ntmps31
    go_wp2_with (go_at_call 27; refine (HI.out).mono ?_; rintro e w' ⟨rfl, rfl⟩)
    go_ret2
    exact ⟨_, rfl, sl_nil _, Below.refl _ _⟩

theorem refNot_good {a : Nat} (h : a ≤ 3) (w : World) :
    Calls Tryd.prog 16 #[.int .u8 a] w fun e w' => e = .returned (.tuple #[.int .u8 (notN a : Nat), .int .i64 0]) ∧ w = w' := by
  have := refNot_any a w
  unfold notV notE at this
  rwa [if_pos h, if_pos h] at this

set_option maxHeartbeats 1000000 in
theorem refInverse_any (v : Value) (zs : List Nat) (w : World) (h : Sl w v zs) :
    Calls Tryd.prog 32 #[v] w fun e w' => ∃ u, e = .returned (.tuple #[u, .int .i64 (txtE zs : Nat)]) ∧ Sl w' u (invV zs) ∧ Below w.heap.size w w' := by
  have hI := refIs_any v zs w h
  obtain ⟨A, c, rfl, hn, hz, hc⟩ := h
  clear hz
  by_cases hv : isV zs = true
  · rw [hv] at hI
    have HI := Lib.hid hI
    have HB := Lib.hid (isV_bits hv)
    have h64 := (isV_bits hv).2.2
    rw [txtE_yes hv, invV_yes hv]
    clear hI hv hn
    go_enter Tryd.func32, Tryd.ntmps32
    go_wp2_with (go_at_call 28; refine (HI.out).mono ?_; rintro e w' ⟨rfl, rfl⟩)
    go_loopw [4, 14] (fun v i wr => ∃ k : Nat, k ≤ zs.length ∧ i = .int .i64 k ∧ Own wr w.heap.size v (invK zs k) ∧ Below w.heap.size w wr) (fun _ i _ => zs.length - (intOf i).toNat)
    case atStart => exact ⟨0, Nat.zero_le _, rfl, Own.nil w (Nat.le_refl _), Below.refl _ _⟩
    case round =>
      obtain ⟨k, hk, rfl, hown, hb⟩ := hrel
      have HO := Lib.hid hown
      have Hb := Lib.hid hb
      clear hown hb
      by_cases hlt : k < zs.length
      · rcases hc with rfl | ⟨b, off, rfl, hc⟩
        · exact absurd hlt (by simp)
        have g := (Hb.out.cell (block_lt_of_cell (hc k hlt))).trans (hc k hlt)
        clear hc
        have h3 := bitsB_at HB.out.1 hlt
        have HR := Lib.hid (invK_succ hlt)
        have HLen := Lib.hid (invK_len hk)
        have n2 := notN_le zs[k]
        generalize zs[k] = z at g h3 HR n2
        have HI2 := Lib.hid (refNot_good h3)
        go_wp2_with (first | (go_at_call 16; refine (HI2.out _).mono ?_; rintro e w' ⟨rfl, rfl⟩) | (at_builtin; refine wpList_append_sl rfl _ _ rfl w.heap.size _ _ _ [notN z] rfl rfl (HO.out.alloc _) (Sl.one _ _ (by omega)) (by rw [HLen.out, List.length_singleton]; omega) ?_; intro v' w2 hown2 hb2))
        have HO2 := Lib.hid hown2
        have HB2 := Lib.hid hb2
        clear hown2 hb2
        go_wp2
        go_roundw
        case rel => exact ⟨k + 1, by omega, by go_num, by rw [HR.out]; exact HO2.out, (Hb.out.alloc HO.out.2.2.2 _).trans (HB2.out _ (Nat.le_refl _))⟩
        case measure => simp [intOf]; omega
      · have HR := Lib.hid (invK_end hlt)
        clear hc
        go_wp2
        go_ret2
        exact ⟨_, rfl, by rw [← HR.out]; exact HO.out.sl, Hb.out⟩
  · have hv' : isV zs = false := by simpa using hv
    rw [hv'] at hI
    have HI := Lib.hid hI
    rw [txtE_no hv', invV_no hv']
    clear hI hv hv' hn hc
    go_enter Tryd.func32, Tryd.ntmps32
    go_wp2_with (go_at_call 28; refine (HI.out).mono ?_; rintro e w' ⟨rfl, rfl⟩)
    go_ret2
    exact ⟨_, rfl, sl_nil _, Below.refl _ _⟩
end Go.Proofs.YtaeehejnifhaaaaDoor
