/- The contracts of Map and Covers, of the program and of the reference. -/
import Derived.Test.YtaeehejnifhaaaaDoorMap
namespace Go.Proofs.YtaeehejnifhaaaaDoor
open Go.RowKit

/-- Two vectors of one length. -/
def two (a b : List Nat) : Bool := isV a && isV b && decide (a.length = b.length)
theorem two_yes {a b : List Nat} (h : two a b = true) : isV a = true ∧ isV b = true ∧ a.length = b.length := by
  unfold two at h; simp at h; exact ⟨h.1.1, h.1.2, h.2⟩
def zipK (kk : Nat) (a b : List Nat) (k : Nat) : List Nat := List.zipWith (opN kk) (a.take k) (b.take k)
theorem zipK_succ {kk : Nat} {a b : List Nat} {k : Nat} (h : k < a.length) (h' : k < b.length) : zipK kk a b (k + 1) = zipK kk a b k ++ [opN kk a[k] b[k]] := by
  unfold zipK
  rw [List.take_succ_eq_append_getElem h, List.take_succ_eq_append_getElem h', List.zipWith_append (by simp; omega)]
  rfl
theorem zipK_end {kk : Nat} {a b : List Nat} {k : Nat} (h : ¬ k < a.length) (hl : a.length = b.length) : zipK kk a b k = List.zipWith (opN kk) a b := by
  unfold zipK; rw [List.take_of_length_le (by omega), List.take_of_length_le (by omega)]
theorem zipK_len {kk : Nat} {a b : List Nat} {k : Nat} (h : k ≤ a.length) (hl : a.length = b.length) : (zipK kk a b k).length = k := by unfold zipK; simp; omega
/-- What Map returns. -/
def mapV (s : ByteArray) (a b : List Nat) : List Nat := if nameK s ≤ 5 ∧ two a b = true then List.zipWith (opN (nameK s)) a b else []
def mapE (s : ByteArray) (a b : List Nat) : Nat := if nameK s ≤ 5 ∧ two a b = true then 0 else 2
theorem map_yes {s : ByteArray} {a b : List Nat} (hk : nameK s ≤ 5) (h : two a b = true) : mapV s a b = List.zipWith (opN (nameK s)) a b ∧ mapE s a b = 0 := by
  unfold mapV mapE; rw [if_pos ⟨hk, h⟩, if_pos ⟨hk, h⟩]; exact ⟨rfl, rfl⟩
theorem map_no {s : ByteArray} {a b : List Nat} (h : ¬ (nameK s ≤ 5 ∧ two a b = true)) : mapV s a b = [] ∧ mapE s a b = 2 := by
  unfold mapV mapE; rw [if_neg h, if_neg h]; exact ⟨rfl, rfl⟩

theorem op_at {s : ByteArray} (hk : nameK s ≤ 5) {a b : Nat} (ha : a ≤ 3) (hb : b ≤ 3) (w : World) (hT : Tabs w) :
    Calls Tryd.prog 13 #[.string s, .int .u8 a, .int .u8 b] w fun e w' => e = .returned (.tuple #[.int .u8 (opN (nameK s) a b : Nat), .int .i64 0]) ∧ w = w' := by
  have := op_good s a b w hT ha hb
  rwa [if_pos hk, if_pos hk] at this
theorem op_bad_name {s : ByteArray} (hk : ¬ nameK s ≤ 5) {a b : Nat} (ha : a ≤ 3) (hb : b ≤ 3) (w : World) (hT : Tabs w) :
    Calls Tryd.prog 13 #[.string s, .int .u8 a, .int .u8 b] w fun e w' => e = .returned (.tuple #[.int .u8 0, .int .i64 2]) ∧ w = w' := by
  have := op_good s a b w hT ha hb
  rwa [if_neg hk, if_neg hk] at this

theorem two_any (u v : Value) (a b : List Nat) (w : World) (hu : Sl w u a) (hv : Sl w v b) :
    Calls Tryd.prog 48 #[.slice (some ⟨w.heap.size, 0, none⟩) 2 2] (w.alloc (.cells #[u, v] 31)) fun e w' => e = .returned (.bool (two a b)) ∧ w.alloc (.cells #[u, v] 31) = w' := by
  have := oneLength_any _ _ _ (Sls.two hu hv)
  rwa [oneV_two] at this

set_option maxHeartbeats 2000000 in
theorem map_any (s : ByteArray) (u v : Value) (a b : List Nat) (w : World) (hT : Tabs w) (hu : Sl w u a) (hv : Sl w v b) :
    Calls Tryd.prog 29 #[.string s, u, v] w fun e w' => ∃ x, e = .returned (.tuple #[x, .int .i64 (mapE s a b : Nat)]) ∧ Sl w' x (mapV s a b) ∧ Below w.heap.size w w' := by
  have hI := two_any u v a b w hu hv
  have HT := Lib.hid hT
  obtain ⟨A, c, rfl, hn, _, hc⟩ := hu
  obtain ⟨A', c', rfl, hn', _, hc'⟩ := hv
  by_cases ht : two a b = true
  · rw [ht] at hI
    have HI := Lib.hid hI
    obtain ⟨va, vb, hl⟩ := two_yes ht
    have HA := Lib.hid (isV_bits va)
    have HB := Lib.hid (isV_bits vb)
    have h64 := (isV_bits va).2.2
    have h01 := (isV_bits va).2.1
    have HL := Lib.hid hl
    by_cases hk : nameK s ≤ 5
    · rw [(map_yes hk ht).1, (map_yes hk ht).2]
      have HO := Lib.hid (fun a b ha hb w hT => op_at (s := s) hk (a := a) (b := b) ha hb w hT)
      clear hI ht va vb hl hT hn hn'
      generalize nameK s = kk at HO hk
      clear hk
      go_enter Tryd.func29, Tryd.ntmps29
      go_wp2_with fail
      refine (HI.out).mono ?_
      rintro e w' ⟨rfl, rfl⟩
      have HB0 := Lib.hid (below_alloc w (.cells #[.slice A a.length c, .slice A' b.length c'] 31))
      go_wp2_with (refine wpList_make_bits rfl _ _ rfl a.length rfl rfl (by omega) ?_; intro w1 hown1 hb1)
      have HO1 := Lib.hid hown1
      have HB1 := Lib.hid (below_then HB0.out hb1)
      have hg0 : w.heap.size ≤ (w.alloc (.cells #[.slice A a.length c, .slice A' b.length c'] 31)).heap.size := HB0.out.size
      have hge : (w.alloc (.cells #[.slice A a.length c, .slice A' b.length c'] 31)).heap.size = w.heap.size + 1 := by simp
      rw [hge] at HO1
      clear hown1 hb1 hg0 hge
      go_loopw [22] (fun i wr => ∃ k : Nat, k ≤ a.length ∧ i = .int .i64 k ∧ Own wr (w.heap.size + 1) (.slice (some ⟨w.heap.size + 1, 0, none⟩) a.length a.length) (fillF a.length (zipK kk a b k)) ∧ Below w.heap.size w wr) (fun i _ => a.length - (intOf i).toNat)
      case atStart => exact ⟨0, Nat.zero_le _, rfl, by simpa [fillF, zipK] using HO1.out, HB1.out⟩
      case round =>
        obtain ⟨k, hk, rfl, hown, hb⟩ := hrel
        have HW := Lib.hid hown
        have Hb := Lib.hid hb
        clear hown hb
        by_cases hlt : k < a.length
        · have hlt' : k < b.length := by have := HL.out; omega
          rcases hc with rfl | ⟨ba, off, rfl, hc⟩
          · exact absurd hlt (by simp)
          rcases hc' with rfl | ⟨ba', off', rfl, hc'⟩
          · exact absurd hlt' (by simp)
          have g := (Hb.out.cell (block_lt_of_cell (hc k hlt))).trans (hc k hlt)
          have g' := (Hb.out.cell (block_lt_of_cell (hc' k hlt'))).trans (hc' k hlt')
          clear hc hc'
          have h3 := bitsB_at HA.out.1 hlt
          have h3' := bitsB_at HB.out.1 hlt'
          have HR := Lib.hid (zipK_succ (kk := kk) hlt hlt')
          have hfl := fillF_len (n := a.length) (ys := zipK kk a b k) (by rw [zipK_len hk HL.out]; exact hk)
          obtain ⟨gc, gf⟩ := HW.out.cell k (by rw [hfl]; exact hlt)
          have n2 := opN_le kk a[k] b[k]
          have hst := fun q => (HW.out.drewN q).stored k (opN kk a[k] b[k]) (by omega)
          rw [fillF_set (zipK_len hk HL.out) hlt, ← HR.out] at hst
          have HS := Lib.hid hst
          have HTr := Lib.hid (HT.out.later Hb.out)
          generalize (fillF a.length (zipK kk a b k))[k] = y at gc
          generalize a[k] = z at g h3 HR n2 HS
          generalize b[k] = z' at g' h3' HR n2 HS
          clear hfl hst
          go_wp2
          go_quiet ((go_at_call 13; exact Calls.quiet_of_same (same_w (HO.out z z' h3 h3' _ (HTr.out.drewN _)))))
          go_wp2
          go_roundw
          case rel => exact ⟨k + 1, by omega, by go_num, (HS.out _).1, (below_drewN Hb.out _).trans ((HS.out _).2 _ (by omega))⟩
          case measure => simp [intOf]; omega
        · have HR' : Hid (fillF a.length (zipK kk a b k) = List.zipWith (opN kk) a b) := by
            rw [fillF_end (by rw [zipK_len hk HL.out]; omega), zipK_end hlt HL.out]; exact rfl
          clear hc hc'
          go_wp2
          go_ret2
          exact ⟨_, rfl, by rw [← HR'.out]; exact HW.out.sl, Hb.out⟩
    · rw [(map_no (s := s) (a := a) (b := b) (fun h => hk h.1)).1, (map_no (s := s) (a := a) (b := b) (fun h => hk h.1)).2]
      have HO := Lib.hid (fun a b ha hb w hT => op_bad_name (s := s) hk (a := a) (b := b) ha hb w hT)
      clear hI ht va vb hl hT hn hn' hk
      go_enter Tryd.func29, Tryd.ntmps29
      go_wp2_with fail
      refine (HI.out).mono ?_
      rintro e w' ⟨rfl, rfl⟩
      have HB0 := Lib.hid (below_alloc w (.cells #[.slice A a.length c, .slice A' b.length c'] 31))
      go_wp2_with (refine wpList_make_bits rfl _ _ rfl a.length rfl rfl (by omega) ?_; intro w1 hown1 hb1)
      have HB1 := Lib.hid (below_then HB0.out hb1)
      clear hown1 hb1
      go_loopw [22] (fun i wr => i = .int .i64 0 ∧ Below w.heap.size w wr) (fun i _ => a.length - (intOf i).toNat)
      case atStart => exact ⟨rfl, HB1.out⟩
      case round =>
        obtain ⟨rfl, hb⟩ := hrel
        have Hb := Lib.hid hb
        have hlt : 0 < a.length := h01
        have hlt' : 0 < b.length := by have := HL.out; omega
        rcases hc with rfl | ⟨ba, off, rfl, hc⟩
        · exact absurd hlt (by simp)
        rcases hc' with rfl | ⟨ba', off', rfl, hc'⟩
        · exact absurd hlt' (by simp)
        have g : wr.cell? ⟨ba, off, none⟩ = some (.int .u8 (a[0] : Nat)) := (hb.cell (block_lt_of_cell (hc 0 hlt))).trans (hc 0 hlt)
        have g' : wr.cell? ⟨ba', off', none⟩ = some (.int .u8 (b[0] : Nat)) := (hb.cell (block_lt_of_cell (hc' 0 hlt'))).trans (hc' 0 hlt')
        clear hc hc' hb
        have h3 := bitsB_at HA.out.1 hlt
        have h3' := bitsB_at HB.out.1 hlt'
        have HTr := Lib.hid (HT.out.later Hb.out)
        generalize a[0] = z at g h3
        generalize b[0] = z' at g' h3'
        go_wp2
        go_quiet ((go_at_call 13; exact Calls.quiet_of_same (same_w (HO.out z z' h3 h3' _ (HTr.out.drewN _)))))
        go_wp2
        go_ret2
        exact ⟨_, rfl, sl_nil _, below_drewN Hb.out _⟩
  · have ht' : two a b = false := by simpa using ht
    rw [(map_no (s := s) (a := a) (b := b) (fun h => ht h.2)).1, (map_no (s := s) (a := a) (b := b) (fun h => ht h.2)).2]
    rw [ht'] at hI
    have HI := Lib.hid hI
    clear hI ht ht' hT hc hc'
    go_enter Tryd.func29, Tryd.ntmps29
    go_wp2_with fail
    refine (HI.out).mono ?_
    rintro e w' ⟨rfl, rfl⟩
    go_wp2
    go_ret2
    exact ⟨_, rfl, sl_nil _, below_alloc _ _⟩

theorem refOp_at {s : ByteArray} (hk : nameK s ≤ 5) {a b : Nat} (ha : a ≤ 3) (hb : b ≤ 3) (w : World) :
    Calls Tryd.prog 14 #[.string s, .int .u8 a, .int .u8 b] w fun e w' => e = .returned (.tuple #[.int .u8 (opN (nameK s) a b : Nat), .int .i64 0]) ∧ w = w' := refOp_good s a b w hk ha hb

set_option maxHeartbeats 2000000 in
theorem refMap_any (s : ByteArray) (u v : Value) (a b : List Nat) (w : World) (hu : Sl w u a) (hv : Sl w v b) :
    Calls Tryd.prog 30 #[.string s, u, v] w fun e w' => ∃ x, e = .returned (.tuple #[x, .int .i64 (mapE s a b : Nat)]) ∧ Sl w' x (mapV s a b) ∧ Below w.heap.size w w' := by
  have hI := refIs_any u a w hu
  have hJ := refIs_any v b w hv
  have hC := fun w => table_any s w
  obtain ⟨A, c, rfl, hn, _, hc⟩ := hu
  obtain ⟨A', c', rfl, hn', _, hc'⟩ := hv
  by_cases hk : nameK s ≤ 5
  · rw [decide_eq_true hk] at hC
    by_cases va : isV a = true
    · rw [va] at hI
      by_cases vb : isV b = true
      · rw [vb] at hJ
        have HI := Lib.hid hI
        have HJ := Lib.hid hJ
        have HC := Lib.hid hC
        by_cases hl : a.length = b.length
        · have ht : two a b = true := by unfold two; rw [va, vb]; simpa using hl
          have HA := Lib.hid (isV_bits va)
          have HB := Lib.hid (isV_bits vb)
          have h64 := (isV_bits va).2.2
          have h01 := (isV_bits va).2.1
          have HL := Lib.hid hl
          have hne : ((a.length : Int) != (b.length : Int)) = false := by rw [hl]; simp
          have hne' : ((a.length : Int) == (b.length : Int)) = true := by rw [hl]; simp
          rw [(map_yes hk ht).1, (map_yes hk ht).2]
          have HO := Lib.hid (fun a b ha hb w => refOp_at (s := s) hk (a := a) (b := b) ha hb w)
          clear hI hJ hC ht va vb hl hn hn'
          generalize nameK s = kk at HO HC hk
          clear hk
          go_enter Tryd.func30, Tryd.ntmps30
          go_wp2_with fail
          refine (HC.out _).mono ?_
          rintro e w' ⟨rfl, rfl⟩
          go_wp2_with fail
          refine (HI.out).mono ?_
          rintro e w' ⟨rfl, rfl⟩
          go_wp2_with fail
          refine (HJ.out).mono ?_
          rintro e w' ⟨rfl, rfl⟩
          go_wp2_with fail
          go_loopw [10, 40] (fun x i wr => ∃ k : Nat, k ≤ a.length ∧ i = .int .i64 k ∧ Own wr w.heap.size x (zipK kk a b k) ∧ Below w.heap.size w wr) (fun _ i _ => a.length - (intOf i).toNat)
          case atStart => exact ⟨0, Nat.zero_le _, rfl, Own.nil w (Nat.le_refl _), Below.refl _ _⟩
          case round =>
            obtain ⟨k, hk, rfl, hown, hb⟩ := hrel
            have HW := Lib.hid hown
            have Hb := Lib.hid hb
            clear hown hb
            by_cases hlt : k < a.length
            · have hlt' : k < b.length := by have := HL.out; omega
              rcases hc with rfl | ⟨ba, off, rfl, hc⟩
              · exact absurd hlt (by simp)
              rcases hc' with rfl | ⟨ba', off', rfl, hc'⟩
              · exact absurd hlt' (by simp)
              have g := (Hb.out.cell (block_lt_of_cell (hc k hlt))).trans (hc k hlt)
              have g' := (Hb.out.cell (block_lt_of_cell (hc' k hlt'))).trans (hc' k hlt')
              clear hc hc'
              have h3 := bitsB_at HA.out.1 hlt
              have h3' := bitsB_at HB.out.1 hlt'
              have HR := Lib.hid (zipK_succ (kk := kk) hlt hlt')
              have HLen := Lib.hid (zipK_len (kk := kk) hk HL.out)
              have n2 := opN_le kk a[k] b[k]
              generalize a[k] = z at g h3 HR n2
              generalize b[k] = z' at g' h3' HR n2
              go_wp2
              go_quiet ((go_at_call 14; exact Calls.quiet_of_same (same_w (HO.out z z' h3 h3' _))))
              go_wp2_with (at_builtin; refine wpList_append_sl rfl _ _ rfl w.heap.size _ _ _ [opN kk z z'] rfl rfl ((HW.out.drewN _).alloc _) (Sl.one _ _ (by omega)) (by rw [HLen.out, List.length_singleton]; omega) ?_; intro v' w2 hown2 hb2)
              have HO2 := Lib.hid hown2
              have HB2 := Lib.hid hb2
              clear hown2 hb2
              go_wp2
              go_roundw
              case rel => exact ⟨k + 1, by omega, by go_num, by rw [HR.out]; exact HO2.out, ((below_drewN Hb.out _).alloc (HW.out.drewN _).2.2.2 _).trans (HB2.out _ (Nat.le_refl _))⟩
              case measure => simp [intOf]; omega
            · have HR' := Lib.hid (zipK_end (kk := kk) hlt HL.out)
              clear hc hc'
              go_wp2
              go_ret2
              exact ⟨_, rfl, by rw [← HR'.out]; exact HW.out.sl, Hb.out⟩
        · have hne : ((a.length : Int) != (b.length : Int)) = true := by rw [bne_iff_ne]; omega
          have hne' : ((a.length : Int) == (b.length : Int)) = false := by rw [beq_eq_false_iff_ne]; omega
          have hno : ¬ (nameK s ≤ 5 ∧ two a b = true) := fun h => hl (two_yes h.2).2.2
          rw [(map_no hno).1, (map_no hno).2]
          clear hI hJ hC va vb hl hn hn' hno hc hc' hk
          go_enter Tryd.func30, Tryd.ntmps30
          go_wp2_with fail
          refine (HC.out _).mono ?_
          rintro e w' ⟨rfl, rfl⟩
          go_wp2_with fail
          refine (HI.out).mono ?_
          rintro e w' ⟨rfl, rfl⟩
          go_wp2_with fail
          refine (HJ.out).mono ?_
          rintro e w' ⟨rfl, rfl⟩
          go_wp2
          go_ret2
          exact ⟨_, rfl, sl_nil _, Below.refl _ _⟩
      · have vb' : isV b = false := by simpa using vb
        rw [vb'] at hJ
        have hno : ¬ (nameK s ≤ 5 ∧ two a b = true) := fun h => vb (two_yes h.2).2.1
        rw [(map_no hno).1, (map_no hno).2]
        have HI := Lib.hid hI
        have HJ := Lib.hid hJ
        have HC := Lib.hid hC
        clear hI hJ hC va vb vb' hn hn' hno hc hc' hk
        go_enter Tryd.func30, Tryd.ntmps30
        go_wp2_with fail
        refine (HC.out _).mono ?_
        rintro e w' ⟨rfl, rfl⟩
        go_wp2_with fail
        refine (HI.out).mono ?_
        rintro e w' ⟨rfl, rfl⟩
        go_wp2_with fail
        refine (HJ.out).mono ?_
        rintro e w' ⟨rfl, rfl⟩
        go_wp2
        go_ret2
        exact ⟨_, rfl, sl_nil _, Below.refl _ _⟩
    · have va' : isV a = false := by simpa using va
      rw [va'] at hI
      have hno : ¬ (nameK s ≤ 5 ∧ two a b = true) := fun h => va (two_yes h.2).1
      rw [(map_no hno).1, (map_no hno).2]
      have HI := Lib.hid hI
      have HC := Lib.hid hC
      clear hI hJ hC va va' hn hn' hno hc hc' hk
      go_enter Tryd.func30, Tryd.ntmps30
      go_wp2_with fail
      refine (HC.out _).mono ?_
      rintro e w' ⟨rfl, rfl⟩
      go_wp2_with fail
      refine (HI.out).mono ?_
      rintro e w' ⟨rfl, rfl⟩
      go_wp2
      go_ret2
      exact ⟨_, rfl, sl_nil _, Below.refl _ _⟩
  · rw [decide_eq_false hk] at hC
    have hno : ¬ (nameK s ≤ 5 ∧ two a b = true) := fun h => hk h.1
    rw [(map_no hno).1, (map_no hno).2]
    have HC := Lib.hid hC
    clear hI hJ hC hn hn' hno hc hc' hk
    go_enter Tryd.func30, Tryd.ntmps30
    go_wp2_with fail
    refine (HC.out _).mono ?_
    rintro e w' ⟨rfl, rfl⟩
    go_wp2
    go_ret2
    exact ⟨_, rfl, sl_nil _, Below.refl _ _⟩
end Go.Proofs.YtaeehejnifhaaaaDoor
