/- The contracts of the reference's Cat, Slice and Put. -/
import Derived.Test.YtkapephlfbabjaaRefB
namespace Go.Proofs.Ytkapephlfbabjaa
open Go.RowKit

theorem within_any (n h l : Int) (w : World) :
    Calls Try.prog 79 #[.int .i64 n, .int .i64 h, .int .i64 l] w fun e w' => e = .returned (.bool (piece h l n)) ∧ w = w' := by
  have hp : piece h l n = (decide (0 ≤ l) && (decide (l ≤ h) && decide (h < n))) := by
    unfold piece
    cases decide (h < n) <;> cases decide (l ≤ h) <;> cases decide (0 ≤ l) <;> rfl
  rw [hp]
  clear hp
  by_cases h1 : 0 ≤ l
  · have d1 : decide (0 ≤ l) = true := by simpa using h1
    rw [d1]
    by_cases h2 : l ≤ h
    · have d2 : decide (l ≤ h) = true := by simpa using h2
      rw [d2]
      clear h1 h2
      go_enter Try.func79, Try.ntmps79
      go_wp2
      go_ret
      exact ⟨ret_bool (by simp), rfl⟩
    · have d2 : decide (l ≤ h) = false := by simpa using h2
      rw [d2]
      clear h1 h2
      go_enter Try.func79, Try.ntmps79
      go_wp2
      go_ret
      exact ⟨rfl, rfl⟩
  · have d1 : decide (0 ≤ l) = false := by simpa using h1
    rw [d1]
    clear h1
    go_enter Try.func79, Try.ntmps79
    go_wp2
    go_ret
    exact ⟨rfl, rfl⟩
theorem within_at {h l n : Int} {b : Bool} (hp : piece h l n = b) (w : World) :
    Calls Try.prog 79 #[.int .i64 n, .int .i64 h, .int .i64 l] w fun e w' => e = .returned (.bool b) ∧ w = w' := by
  subst hp
  exact within_any n h l w

/-- A piece of a slice that came in. -/
theorem Sl.cut {w : World} {b off c n q : Nat} {zs : List Nat} (hc : ∀ (k : Nat) (h : k < zs.length), w.cell? ⟨b, off + k, none⟩ = some (.int .u8 (zs[k] : Nat))) (hz : ∀ z ∈ zs, z < 256) (hl : zs.length ≤ 140737488355328)
    (hn : q + n ≤ zs.length) (hcap : n ≤ c) : Sl w (.slice (some ⟨b, off + q, none⟩) n c) ((zs.drop q).take n) := by
  have hlen : ((zs.drop q).take n).length = n := by simp; omega
  refine ⟨_, c, by rw [hlen], by omega, fun z h => hz z (List.mem_of_mem_drop (List.mem_of_mem_take h)), by omega, .inr ⟨b, off + q, rfl, fun k hk => ?_⟩⟩
  have := hc (q + k) (by omega)
  rw [show off + q + k = off + (q + k) by omega, this]
  simp
theorem Sl.none {w : World} {A : Option Addr} {c : Nat} : Sl w (.slice A 0 c) [] := ⟨A, c, rfl, by simp, by simp, by simp, .inl rfl⟩
/-- The same facts in a later memory. -/
theorem cells_later {w w1 : World} {b off : Nat} {zs : List Nat} (hc : ∀ (k : Nat) (h : k < zs.length), w.cell? ⟨b, off + k, none⟩ = some (.int .u8 (zs[k] : Nat))) (hb : Below w.heap.size w w1) :
    ∀ (k : Nat) (h : k < zs.length), w1.cell? ⟨b, off + k, none⟩ = some (.int .u8 (zs[k] : Nat)) := fun k h => (hb.cell (block_lt_of_cell (hc k h))).trans (hc k h)

set_option maxHeartbeats 1000000 in
theorem refCat_any (u v : Value) (a b : List Nat) (w : World) (hu : Sl w u a) (hv : Sl w v b) :
    Calls Try.prog 46 #[u, v] w fun e w' => ∃ x, e = .returned (.tuple #[x, .int .i64 (catE a b : Nat)]) ∧ Sl w' x (catV a b) ∧ Below w.heap.size w w' := by
  have hI := refIs_any u a w hu
  have hJ := refIs_any v b w hv
  have HU := Lib.hid hu
  have HV := Lib.hid hv
  obtain ⟨A, c, rfl, an, _⟩ := hu
  obtain ⟨A', c', rfl, bn, _⟩ := hv
  by_cases va : isV a = true
  · rw [va] at hI
    have HI := Lib.hid hI
    by_cases vb : isV b = true
    · rw [vb] at hJ
      have HJ := Lib.hid hJ
      have a64 := (isV_bits va).2.2
      have b64 := (isV_bits vb).2.2
      by_cases hl : a.length + b.length ≤ 64
      · rw [show catV a b = b ++ a by unfold catV; rw [va, vb, decide_eq_true hl]; rfl, show catE a b = 0 by unfold catE; rw [va, vb, if_pos hl]; rfl]
        have hd : decide ((64 : Int) < (a.length : Int) + (b.length : Int)) = false := by rw [decide_eq_false_iff_not]; omega
        clear hI hJ va vb
        go_enter Try.func46, Try.ntmps46
        go_wp2_with fail
        refine (HI.out).mono ?_
        rintro e w' ⟨rfl, rfl⟩
        go_wp2_with fail
        refine (HJ.out).mono ?_
        rintro e w' ⟨rfl, rfl⟩
        go_wp2_with (first
          | (at_builtin; refine wpList_append_sl rfl _ _ rfl w.heap.size _ _ [] b rfl rfl (Own.empty w) (HV.out.later (below_alloc _ _)) (by simpa using bn) ?_; intro x1 w1 hown1 hb1; have HO1 := Lib.hid hown1; have HB1 := Lib.hid ((below_alloc _ _).trans (hb1 _ (Nat.le_refl _))); clear hown1 hb1)
          | (at_builtin; refine wpList_append_sl rfl _ _ rfl w.heap.size _ _ ([] ++ b) a rfl rfl HO1.out (HU.out.later HB1.out) (by rw [List.nil_append]; omega) ?_; intro x2 w2 hown2 hb2; have HO2 := Lib.hid hown2; have HB2 := Lib.hid (HB1.out.trans (hb2 _ (Nat.le_refl _))); clear hown2 hb2))
        rw [List.nil_append] at HO2
        go_wp2
        go_ret2
        exact ⟨_, rfl, HO2.out.sl, HB2.out⟩
      · rw [show catV a b = [] by unfold catV; rw [va, vb, decide_eq_false hl]; rfl, show catE a b = 19 by unfold catE; rw [va, vb, if_neg hl]; rfl]
        have hd : decide ((64 : Int) < (a.length : Int) + (b.length : Int)) = true := by rw [decide_eq_true_eq]; omega
        clear hI hJ va vb
        go_enter Try.func46, Try.ntmps46
        go_wp2_with fail
        refine (HI.out).mono ?_
        rintro e w' ⟨rfl, rfl⟩
        go_wp2_with fail
        refine (HJ.out).mono ?_
        rintro e w' ⟨rfl, rfl⟩
        go_wp2
        go_ret2
        exact ⟨_, rfl, sl_nil _, Below.refl _ _⟩
    · have vb' : isV b = false := by simpa using vb
      rw [vb'] at hJ
      have HJ := Lib.hid hJ
      rw [show catV a b = [] by unfold catV; rw [va, vb']; rfl, show catE a b = 2 by unfold catE; rw [va, vb']; rfl]
      clear hI hJ va vb vb'
      go_enter Try.func46, Try.ntmps46
      go_wp2_with fail
      refine (HI.out).mono ?_
      rintro e w' ⟨rfl, rfl⟩
      go_wp2_with fail
      refine (HJ.out).mono ?_
      rintro e w' ⟨rfl, rfl⟩
      go_wp2
      go_ret2
      exact ⟨_, rfl, sl_nil _, Below.refl _ _⟩
  · have va' : isV a = false := by simpa using va
    rw [va'] at hI
    have HI := Lib.hid hI
    rw [show catV a b = [] by unfold catV; rw [va']; rfl, show catE a b = 2 by unfold catE; rw [va']; rfl]
    clear hI hJ va va'
    go_enter Try.func46, Try.ntmps46
    go_wp2_with fail
    refine (HI.out).mono ?_
    rintro e w' ⟨rfl, rfl⟩
    go_wp2
    go_ret2
    exact ⟨_, rfl, sl_nil _, Below.refl _ _⟩

set_option maxHeartbeats 1000000 in
theorem refSlice_any (v : Value) (zs : List Nat) (h l : Int) (w : World) (hs : Sl w v zs) :
    Calls Try.prog 48 #[v, .int .i64 h, .int .i64 l] w fun e w' => ∃ u, e = .returned (.tuple #[u, .int .i64 (slcE zs h l : Nat)]) ∧ Sl w' u (slcV zs h l) ∧ Below w.heap.size w w' := by
  have hI := refIs_any v zs w hs
  by_cases hv : isV zs = true
  · have h64 := (isV_bits hv).2.2
    have h1 := (isV_bits hv).2.1
    obtain ⟨b, off, c, rfl, ⟨hn, hq⟩, hz, hc⟩ := hs.cells h1
    rw [hv] at hI
    have HI := Lib.hid hI
    by_cases hp : piece h l zs.length = true
    · rw [show slcV zs h l = (zs.drop l.toNat).take (h.toNat - l.toNat + 1) by unfold slcV; rw [hv, hp]; rfl, show slcE zs h l = 0 by unfold slcE; rw [hv, hp]; rfl]
      have HP := Lib.hid (within_at hp)
      obtain ⟨p, q, rfl, rfl, hqp, hpn⟩ := piece_nat hp
      rw [Int.toNat_natCast, Int.toNat_natCast]
      have hqc : q < c := by omega
      have e1 : p + 1 - q = p - q + 1 := by omega
      have HS : Hid (Sl w (.slice (some ⟨b, off + q, none⟩) (p + 1 - q) (c - q)) ((zs.drop q).take (p - q + 1))) := by
        show Sl _ _ _
        rw [e1]
        exact Sl.cut hc hz hn (by omega) (by omega)
      have hlen : Hid (((zs.drop q).take (p - q + 1)).length ≤ 64) := by show _ ≤ _; simp; omega
      clear hI hv hz hc h1 hs hp e1
      go_enter Try.func48, Try.ntmps48
      go_wp2_with fail
      refine (HI.out).mono ?_
      rintro e w' ⟨rfl, rfl⟩
      go_wp2_with fail
      refine (HP.out _).mono ?_
      rintro e w' ⟨rfl, rfl⟩
      go_wp2_with (at_builtin; refine wpList_append_sl rfl _ _ rfl w.heap.size _ _ [] ((zs.drop q).take (p - q + 1)) rfl rfl (Own.empty w) (HS.out.later (below_alloc _ _)) (by have := hlen.out; rw [List.length_nil]; omega) ?_; intro x1 w1 hown1 hb1; have HO1 := Lib.hid hown1; have HB1 := Lib.hid ((below_alloc _ _).trans (hb1 _ (Nat.le_refl _))); clear hown1 hb1)
      rw [List.nil_append] at HO1
      go_wp2
      go_ret2
      exact ⟨_, rfl, HO1.out.sl, HB1.out⟩
    · have hp' : piece h l zs.length = false := by simpa using hp
      rw [show slcV zs h l = [] by unfold slcV; rw [hv, hp']; rfl, show slcE zs h l = 19 by unfold slcE; rw [hv, hp']; rfl]
      have HP := Lib.hid (within_at hp')
      clear hI hv hz hc h1 hs hp hp'
      go_enter Try.func48, Try.ntmps48
      go_wp2_with fail
      refine (HI.out).mono ?_
      rintro e w' ⟨rfl, rfl⟩
      go_wp2_with fail
      refine (HP.out _).mono ?_
      rintro e w' ⟨rfl, rfl⟩
      go_wp2
      go_ret2
      exact ⟨_, rfl, sl_nil _, Below.refl _ _⟩
  · have hv' : isV zs = false := by simpa using hv
    rw [hv'] at hI
    have HI := Lib.hid hI
    rw [show slcV zs h l = [] by unfold slcV; rw [hv']; rfl, show slcE zs h l = 2 by unfold slcE; rw [hv']; rfl]
    obtain ⟨A, c, rfl, hn, hz, hq, hc⟩ := hs
    clear hI hv hv' hz hc
    go_enter Try.func48, Try.ntmps48
    go_wp2_with fail
    refine (HI.out).mono ?_
    rintro e w' ⟨rfl, rfl⟩
    go_wp2
    go_ret2
    exact ⟨_, rfl, sl_nil _, Below.refl _ _⟩

set_option maxHeartbeats 1000000 in
theorem refPut_any (u v : Value) (a b : List Nat) (h l : Int) (w : World) (hu : Sl w u a) (hv : Sl w v b) :
    Calls Try.prog 50 #[u, .int .i64 h, .int .i64 l, v] w fun e w' => ∃ x, e = .returned (.tuple #[x, .int .i64 (putE a h l b : Nat)]) ∧ Sl w' x (putV a h l b) ∧ Below w.heap.size w w' := by
  have hI := refIs_any u a w hu
  have hJ := refIs_any v b w hv
  by_cases va : isV a = true
  · have a64 := (isV_bits va).2.2
    have a1 := (isV_bits va).2.1
    obtain ⟨g, off, c, rfl, ⟨an, aq⟩, az, ac⟩ := hu.cells a1
    rw [va] at hI
    have HI := Lib.hid hI
    by_cases vb : isV b = true
    · have b64 := (isV_bits vb).2.2
      have b1 := (isV_bits vb).2.1
      obtain ⟨g', off', c', rfl, ⟨bn, bq⟩, bz, bc⟩ := hv.cells b1
      have HV := Lib.hid hv
      rw [vb] at hJ
      have HJ := Lib.hid hJ
      by_cases hp : piece h l a.length = true
      · have HP := Lib.hid (within_at hp)
        by_cases hl : (b.length : Int) = h - l + 1
        · rw [show putV a h l b = splice a l.toNat b by unfold putV; rw [va, vb, hp, decide_eq_true hl]; rfl, show putE a h l b = 0 by unfold putE; rw [va, vb, hp, if_pos hl]; rfl]
          obtain ⟨p, q, rfl, rfl, hqp, hpn⟩ := piece_nat hp
          rw [Int.toNat_natCast]
          have hm : ((p : Int) - (q : Int) + 1) = (b.length : Int) := by omega
          have hbl : q + b.length = p + 1 := by omega
          have HS1 : Hid (Sl w (.slice (some ⟨g, off, none⟩) q c) ((a.drop 0).take q)) := Sl.cut (q := 0) ac az an (by omega) (by omega)
          have HS3 : Hid (Sl w (.slice (some ⟨g, off + (p + 1), none⟩) (a.length - (p + 1)) (c - (p + 1))) ((a.drop (p + 1)).take (a.length - (p + 1)))) := Sl.cut ac az an (by omega) (by omega)
          have H0 : Hid (a.length = p + 1 → (a.drop (p + 1)).take (a.length - (p + 1)) = []) := fun h => by rw [h, Nat.sub_self]; rfl
          have l1 : Hid (((a.drop 0).take q).length = q) := by show _ = _; simp; omega
          have l3 : Hid (((a.drop (p + 1)).take (a.length - (p + 1))).length = a.length - (p + 1)) := by show _ = _; simp
          have HY : Hid ([] ++ (a.drop 0).take q ++ b ++ (a.drop (p + 1)).take (a.length - (p + 1)) = splice a q b) := by
            show _ = _
            unfold splice
            rw [hbl, List.take_of_length_le (l := a.drop (p + 1)) (by simp)]
            simp
          have hbl' : b.length = p + 1 - q := by omega
          have Hbl := Lib.hid hbl'
          clear hI hJ va vb az bz ac bc hu hv hl hp hbl hbl'
          rcases Nat.lt_or_ge (p + 1) c with hpc | hpc
          · have hpc' : (p + 1 = c) = False := eq_false (by omega)
            have hpc2 : (c = p + 1) = False := eq_false (by omega)
            go_enter Try.func50, Try.ntmps50
            go_wp2_with fail
            refine (HI.out).mono ?_
            rintro e w' ⟨rfl, rfl⟩
            go_wp2_with fail
            refine (HJ.out).mono ?_
            rintro e w' ⟨rfl, rfl⟩
            go_wp2_with fail
            refine (HP.out _).mono ?_
            rintro e w' ⟨rfl, rfl⟩
            go_wp2_with (first
              | (at_builtin; refine wpList_append_sl rfl _ _ rfl w.heap.size _ _ [] ((a.drop 0).take q) rfl rfl (Own.empty w) (HS1.out.later (below_alloc _ _)) (by rw [l1.out, List.length_nil]; omega) ?_; intro x1 w1 hown1 hb1; have HO1 := Lib.hid hown1; have HB1 := Lib.hid ((below_alloc _ _).trans (hb1 _ (Nat.le_refl _))); clear hown1 hb1)
              | (at_builtin; refine wpList_append_sl rfl _ _ rfl w.heap.size _ _ ([] ++ (a.drop 0).take q) b rfl rfl HO1.out (HV.out.later HB1.out) (by rw [List.nil_append, l1.out]; omega) ?_; intro x2 w2 hown2 hb2; have HO2 := Lib.hid hown2; have HB2 := Lib.hid (HB1.out.trans (hb2 _ (Nat.le_refl _))); clear hown2 hb2)
              | (at_builtin; refine wpList_append_sl rfl _ _ rfl w.heap.size _ _ ([] ++ (a.drop 0).take q ++ b) ((a.drop (p + 1)).take (a.length - (p + 1))) rfl rfl HO2.out (HS3.out.later HB2.out) (by rw [List.length_append, List.nil_append, l1.out, l3.out]; omega) ?_; intro x3 w3 hown3 hb3; have HO3 := Lib.hid hown3; have HB3 := Lib.hid (HB2.out.trans (hb3 _ (Nat.le_refl _))); clear hown3 hb3)
              | (at_builtin; refine wpList_append_sl rfl _ _ rfl w.heap.size _ _ ([] ++ (a.drop 0).take q ++ b) ((a.drop (p + 1)).take (a.length - (p + 1))) rfl rfl HO2.out (by rw [H0.out (by omega)]; exact Sl.none) (by rw [List.length_append, List.nil_append, l1.out, l3.out]; omega) ?_; intro x3 w3 hown3 hb3; have HO3 := Lib.hid hown3; have HB3 := Lib.hid (HB2.out.trans (hb3 _ (Nat.le_refl _))); clear hown3 hb3))
            all_goals
              rw [HY.out] at HO3
              go_wp2
              go_ret2
              exact ⟨_, rfl, HO3.out.sl, HB3.out⟩
          · obtain rfl : c = p + 1 := by omega
            go_enter Try.func50, Try.ntmps50
            go_wp2_with fail
            refine (HI.out).mono ?_
            rintro e w' ⟨rfl, rfl⟩
            go_wp2_with fail
            refine (HJ.out).mono ?_
            rintro e w' ⟨rfl, rfl⟩
            go_wp2_with fail
            refine (HP.out _).mono ?_
            rintro e w' ⟨rfl, rfl⟩
            go_wp2_with (first
              | (at_builtin; refine wpList_append_sl rfl _ _ rfl w.heap.size _ _ [] ((a.drop 0).take q) rfl rfl (Own.empty w) (HS1.out.later (below_alloc _ _)) (by rw [l1.out, List.length_nil]; omega) ?_; intro x1 w1 hown1 hb1; have HO1 := Lib.hid hown1; have HB1 := Lib.hid ((below_alloc _ _).trans (hb1 _ (Nat.le_refl _))); clear hown1 hb1)
              | (at_builtin; refine wpList_append_sl rfl _ _ rfl w.heap.size _ _ ([] ++ (a.drop 0).take q) b rfl rfl HO1.out (HV.out.later HB1.out) (by rw [List.nil_append, l1.out]; omega) ?_; intro x2 w2 hown2 hb2; have HO2 := Lib.hid hown2; have HB2 := Lib.hid (HB1.out.trans (hb2 _ (Nat.le_refl _))); clear hown2 hb2)
              | (at_builtin; refine wpList_append_sl rfl _ _ rfl w.heap.size _ _ ([] ++ (a.drop 0).take q ++ b) ((a.drop (p + 1)).take (a.length - (p + 1))) rfl rfl HO2.out (HS3.out.later HB2.out) (by rw [List.length_append, List.nil_append, l1.out, l3.out]; omega) ?_; intro x3 w3 hown3 hb3; have HO3 := Lib.hid hown3; have HB3 := Lib.hid (HB2.out.trans (hb3 _ (Nat.le_refl _))); clear hown3 hb3)
              | (at_builtin; refine wpList_append_sl rfl _ _ rfl w.heap.size _ _ ([] ++ (a.drop 0).take q ++ b) ((a.drop (p + 1)).take (a.length - (p + 1))) rfl rfl HO2.out (by rw [H0.out (by omega)]; exact Sl.none) (by rw [List.length_append, List.nil_append, l1.out, l3.out]; omega) ?_; intro x3 w3 hown3 hb3; have HO3 := Lib.hid hown3; have HB3 := Lib.hid (HB2.out.trans (hb3 _ (Nat.le_refl _))); clear hown3 hb3))
            all_goals
              rw [HY.out] at HO3
              go_wp2
              go_ret2
              exact ⟨_, rfl, HO3.out.sl, HB3.out⟩
        · rw [show putV a h l b = [] by unfold putV; rw [va, vb, hp, decide_eq_false hl]; rfl, show putE a h l b = 16 by unfold putE; rw [va, vb, hp, if_neg hl]; rfl]
          obtain ⟨p, q, rfl, rfl, hqp, hpn⟩ := piece_nat hp
          have hne : ((b.length : Int) != ((p : Int) - (q : Int) + 1)) = true := by rw [bne_iff_ne]; exact hl
          clear hI hJ va vb az bz ac bc hu hv hl hp
          go_enter Try.func50, Try.ntmps50
          go_wp2_with fail
          refine (HI.out).mono ?_
          rintro e w' ⟨rfl, rfl⟩
          go_wp2_with fail
          refine (HJ.out).mono ?_
          rintro e w' ⟨rfl, rfl⟩
          go_wp2_with fail
          refine (HP.out _).mono ?_
          rintro e w' ⟨rfl, rfl⟩
          go_wp2
          go_ret2
          exact ⟨_, rfl, sl_nil _, Below.refl _ _⟩
      · have hp' : piece h l a.length = false := by simpa using hp
        rw [show putV a h l b = [] by unfold putV; rw [va, vb, hp']; rfl, show putE a h l b = 19 by unfold putE; rw [va, vb, hp']; rfl]
        have HP := Lib.hid (within_at hp')
        clear hI hJ va vb az bz ac bc hu hv hp hp'
        go_enter Try.func50, Try.ntmps50
        go_wp2_with fail
        refine (HI.out).mono ?_
        rintro e w' ⟨rfl, rfl⟩
        go_wp2_with fail
        refine (HJ.out).mono ?_
        rintro e w' ⟨rfl, rfl⟩
        go_wp2_with fail
        refine (HP.out _).mono ?_
        rintro e w' ⟨rfl, rfl⟩
        go_wp2
        go_ret2
        exact ⟨_, rfl, sl_nil _, Below.refl _ _⟩
    · have vb' : isV b = false := by simpa using vb
      rw [vb'] at hJ
      have HJ := Lib.hid hJ
      rw [show putV a h l b = [] by unfold putV; rw [va, vb']; rfl, show putE a h l b = 2 by unfold putE; rw [va, vb']; rfl]
      obtain ⟨A', c', rfl, _⟩ := hv
      clear hI hJ va vb vb' az ac hu
      go_enter Try.func50, Try.ntmps50
      go_wp2_with fail
      refine (HI.out).mono ?_
      rintro e w' ⟨rfl, rfl⟩
      go_wp2_with fail
      refine (HJ.out).mono ?_
      rintro e w' ⟨rfl, rfl⟩
      go_wp2
      go_ret2
      exact ⟨_, rfl, sl_nil _, Below.refl _ _⟩
  · have va' : isV a = false := by simpa using va
    rw [va'] at hI
    have HI := Lib.hid hI
    rw [show putV a h l b = [] by unfold putV; rw [va']; rfl, show putE a h l b = 2 by unfold putE; rw [va']; rfl]
    obtain ⟨A, c, rfl, _⟩ := hu
    obtain ⟨A', c', rfl, _⟩ := hv
    clear hI hJ va va'
    go_enter Try.func50, Try.ntmps50
    go_wp2_with fail
    refine (HI.out).mono ?_
    rintro e w' ⟨rfl, rfl⟩
    go_wp2
    go_ret2
    exact ⟨_, rfl, sl_nil _, Below.refl _ _⟩
end Go.Proofs.Ytkapephlfbabjaa
