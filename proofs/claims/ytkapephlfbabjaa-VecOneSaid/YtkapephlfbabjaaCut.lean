/- The contracts of Cat, Slice, Put and Resize. -/
import Derived.Test.YtkapephlfbabjaaMov
namespace Go.Proofs.Ytkapephlfbabjaa
open Go.RowKit

/-- What Cat returns. -/
def catE (a b : List Nat) : Nat := if isV a && isV b then (if a.length + b.length ≤ 64 then 0 else 19) else 2
def catV (a b : List Nat) : List Nat := if isV a && isV b && decide (a.length + b.length ≤ 64) then b ++ a else []
theorem splice_all {n : Nat} {L ys : List Nat} (h : ys.length = n) (hL : L.length = n) : splice L 0 ys = ys := by
  unfold splice
  rw [List.drop_eq_nil_of_le (by omega)]
  simp
theorem cat_row {a b : List Nat} : splice (splice (List.replicate (a.length + b.length) 0) 0 ((b.drop 0).take b.length)) b.length ((a.drop 0).take a.length) = b ++ a := by
  simp [splice, List.take_of_length_le]
theorem cat_256 {a b : List Nat} (ha : ∀ z ∈ a, z < 256) (hb : ∀ z ∈ b, z < 256) : ∀ z ∈ b ++ a, z < 256 := fun z hz => (List.mem_append.1 hz).elim (hb z) (ha z)
theorem okN_pos {n : Nat} (h1 : 1 ≤ n) (h2 : n ≤ 64) : okN (n : Int) = true := by unfold okN; simp; omega
theorem okN_neg {n : Int} (h : ¬ (1 ≤ n ∧ n ≤ 64)) : okN n = false := by
  unfold okN
  rw [Bool.and_eq_false_iff, decide_eq_false_iff_not, decide_eq_false_iff_not]
  omega

set_option maxHeartbeats 1000000 in
theorem cat_any (u v : Value) (a b : List Nat) (w : World) (hu : Sl w u a) (hv : Sl w v b) :
    Calls Try.prog 45 #[u, v] w fun e w' => ∃ x, e = .returned (.tuple #[x, .int .i64 (catE a b : Nat)]) ∧ Sl w' x (catV a b) ∧ Below w.heap.size w w' := by
  have hI := is_any u a w hu
  have hJ := is_any v b w hv
  by_cases va : isV a = true
  · have a64 := (isV_bits va).2.2
    have a1 := (isV_bits va).2.1
    obtain ⟨g, off, c, rfl, ⟨an, aq⟩, az, ac⟩ := hu.cells a1
    rw [va] at hI
    have HI := Lib.hid hI
    by_cases vb : isV b = true
    · have b64 := (isV_bits vb).2.2
      have b1 := (isV_bits vb).2.1
      obtain ⟨g', off', c', rfl, ⟨bn, bq⟩, bz, bc⟩ := hv.cells b1
      rw [vb] at hJ
      have HJ := Lib.hid hJ
      have hs : ((a.length : Int) + (b.length : Int)) = ((a.length + b.length : Nat) : Int) := by omega
      by_cases hl : a.length + b.length ≤ 64
      · rw [show catV a b = b ++ a by unfold catV; rw [va, vb, decide_eq_true hl]; rfl, show catE a b = 0 by unfold catE; rw [va, vb, if_pos hl]; rfl]
        have HK := Lib.hid (length_yes (okN_pos (show 1 ≤ a.length + b.length by omega) hl))
        rw [← hs] at HK
        have hnil : ¬ a = [] := by intro h; rw [h] at a1; simp at a1
        have HZ := Lib.hid (cat_256 az bz)
        have HA := Lib.hid ac
        have HB := Lib.hid bc
        clear hI hJ va vb az bz ac bc hu hv hs
        go_enter Try.func45, Try.ntmps45
        go_wp2_with fail
        refine (HI.out).mono ?_
        rintro e w' ⟨rfl, rfl⟩
        go_wp2_with fail
        refine (HJ.out).mono ?_
        rintro e w' ⟨rfl, rfl⟩
        go_wp2_with fail
        refine (HK.out _).mono ?_
        rintro e w' ⟨rfl, rfl⟩
        go_wp2_with (first | (refine wpList_make_bits rfl _ _ rfl (a.length + b.length) rfl rfl (by omega) ?_; intro w1 hown1 hb1; have HO1 := Lib.hid hown1; have HB1 := Lib.hid hb1; clear hown1 hb1) | (refine wpList_copy_bits rfl _ _ rfl _ _ _ _ _ _ rfl rfl w.heap.size 0 (List.replicate (a.length + b.length) 0) ((b.drop 0).take b.length) HO1.out.raw.1 (by show _ = min _ _; simp only [List.length_take, List.length_drop]; omega) (fun _ => ⟨rfl, g', off', rfl, below_cells HB1.out HB.out 0 (by omega)⟩) (by simp only [List.length_take, List.length_drop, List.length_replicate]; omega) w.heap.size w HB1.out (Nat.le_refl _) ?_; intro w2 HR2 hb2; have HB2 := Lib.hid hb2; clear hb2) | (refine wpList_copy_bits rfl _ _ rfl _ _ _ _ _ _ rfl rfl w.heap.size b.length (splice (List.replicate (a.length + b.length) 0) 0 ((b.drop 0).take b.length)) ((a.drop 0).take a.length) HR2.out (by show _ = min _ _; simp only [List.length_take, List.length_drop]; omega) (fun _ => ⟨rfl, g, off, rfl, below_cells HB2.out HA.out 0 (by omega)⟩) (by simp only [len_splice, List.length_take, List.length_drop, List.length_replicate]; omega) w.heap.size w HB2.out (Nat.le_refl _) ?_; intro w3 HR3 hb3; have HB3 := Lib.hid hb3; clear hb3))
        rw [cat_row] at HR3
        go_wp2
        go_ret2
        exact ⟨_, rfl, HR3.out.sl (by simp; omega) (by omega) HZ.out, HB3.out⟩
      · rw [show catV a b = [] by unfold catV; rw [va, vb, decide_eq_false hl]; rfl, show catE a b = 19 by unfold catE; rw [va, vb, if_neg hl]; rfl]
        have HK := Lib.hid (length_no (okN_neg (n := ((a.length + b.length : Nat) : Int)) (by omega)))
        rw [← hs] at HK
        clear hI hJ va vb az bz ac bc hu hv hs
        go_enter Try.func45, Try.ntmps45
        go_wp2_with fail
        refine (HI.out).mono ?_
        rintro e w' ⟨rfl, rfl⟩
        go_wp2_with fail
        refine (HJ.out).mono ?_
        rintro e w' ⟨rfl, rfl⟩
        go_wp2_with fail
        refine (HK.out _).mono ?_
        rintro e w' ⟨rfl, rfl⟩
        go_wp2
        go_ret2
        exact ⟨_, rfl, sl_nil _, Below.refl _ _⟩
    · have vb' : isV b = false := by simpa using vb
      rw [vb'] at hJ
      have HJ := Lib.hid hJ
      rw [show catV a b = [] by unfold catV; rw [va, vb']; rfl, show catE a b = 2 by unfold catE; rw [va, vb']; rfl]
      obtain ⟨A', c', rfl, _⟩ := hv
      clear hI hJ va vb vb' az ac hu
      go_enter Try.func45, Try.ntmps45
      go_wp2_with fail
      refine (HI.out).mono ?_
      rintro e w' ⟨rfl, rfl⟩
      go_wp2_with fail
      refine (HJ.out).mono ?_
      rintro e w' ⟨rfl, rfl⟩
      go_wp2
      go_ret2
      exact ⟨_, rfl, sl_nil _, Below.refl _ _⟩
  · have va' : isV a = false := by simpa using va
    rw [va'] at hI
    have HI := Lib.hid hI
    rw [show catV a b = [] by unfold catV; rw [va']; rfl, show catE a b = 2 by unfold catE; rw [va']; rfl]
    obtain ⟨A, c, rfl, _⟩ := hu
    obtain ⟨A', c', rfl, _⟩ := hv
    clear hI hJ va va'
    go_enter Try.func45, Try.ntmps45
    go_wp2_with fail
    refine (HI.out).mono ?_
    rintro e w' ⟨rfl, rfl⟩
    go_wp2
    go_ret2
    exact ⟨_, rfl, sl_nil _, Below.refl _ _⟩

/-- Whether a vector has bits l to h. -/
def piece (h l n : Int) : Bool := decide (h < n) && (decide (l ≤ h) && decide (0 ≤ l))
theorem piece_nat {h l : Int} {n : Nat} (hp : piece h l n = true) : ∃ p q : Nat, h = p ∧ l = q ∧ q ≤ p ∧ p < n := by
  unfold piece at hp
  simp at hp
  exact ⟨h.toNat, l.toNat, by omega, by omega, by omega, by omega⟩
theorem isPiece_any (h l n : Int) (w : World) :
    Calls Try.prog 78 #[.int .i64 h, .int .i64 l, .int .i64 n] w fun e w' => e = .returned (.bool (piece h l n)) ∧ w = w' := by
  unfold piece
  by_cases h1 : h < n
  · have d1 : decide (h < n) = true := by simpa using h1
    rw [d1]
    by_cases h2 : l ≤ h
    · have d2 : decide (l ≤ h) = true := by simpa using h2
      rw [d2]
      clear h1 h2
      go_enter Try.func78, Try.ntmps78
      go_wp2
      go_ret
      exact ⟨ret_bool (by simp), rfl⟩
    · have d2 : decide (l ≤ h) = false := by simpa using h2
      rw [d2]
      clear h1 h2
      go_enter Try.func78, Try.ntmps78
      go_wp2
      go_ret
      exact ⟨rfl, rfl⟩
  · have d1 : decide (h < n) = false := by simpa using h1
    rw [d1]
    clear h1
    go_enter Try.func78, Try.ntmps78
    go_wp2
    go_ret
    exact ⟨rfl, rfl⟩
theorem piece_at {h l n : Int} {b : Bool} (hp : piece h l n = b) (w : World) :
    Calls Try.prog 78 #[.int .i64 h, .int .i64 l, .int .i64 n] w fun e w' => e = .returned (.bool b) ∧ w = w' := by
  subst hp
  exact isPiece_any h l n w

/-- What Slice returns. -/
def slcE (zs : List Nat) (h l : Int) : Nat := if isV zs then (if piece h l zs.length then 0 else 19) else 2
def slcV (zs : List Nat) (h l : Int) : List Nat := if isV zs && piece h l zs.length then (zs.drop l.toNat).take (h.toNat - l.toNat + 1) else []

set_option maxHeartbeats 1000000 in
theorem slice_any (v : Value) (zs : List Nat) (h l : Int) (w : World) (hs : Sl w v zs) :
    Calls Try.prog 47 #[v, .int .i64 h, .int .i64 l] w fun e w' => ∃ u, e = .returned (.tuple #[u, .int .i64 (slcE zs h l : Nat)]) ∧ Sl w' u (slcV zs h l) ∧ Below w.heap.size w w' := by
  have hI := is_any v zs w hs
  by_cases hv : isV zs = true
  · have h64 := (isV_bits hv).2.2
    have h1 := (isV_bits hv).2.1
    obtain ⟨b, off, c, rfl, ⟨hn, hq⟩, hz, hc⟩ := hs.cells h1
    rw [hv] at hI
    have HI := Lib.hid hI
    by_cases hp : piece h l zs.length = true
    · rw [show slcV zs h l = (zs.drop l.toNat).take (h.toNat - l.toNat + 1) by unfold slcV; rw [hv, hp]; rfl, show slcE zs h l = 0 by unfold slcE; rw [hv, hp]; rfl]
      have HP := Lib.hid (piece_at hp)
      obtain ⟨p, q, rfl, rfl, hqp, hpn⟩ := piece_nat hp
      rw [Int.toNat_natCast, Int.toNat_natCast]
      have hm : ((p : Int) - (q : Int) + 1) = ((p - q + 1 : Nat) : Int) := by omega
      have HZ : Hid (∀ z ∈ (zs.drop q).take (p - q + 1), z < 256) := fun z h => hz z (List.mem_of_mem_drop (List.mem_of_mem_take h))
      have HC := Lib.hid hc
      have HY : Hid (splice (List.replicate (p - q + 1) 0) 0 ((zs.drop q).take (p - q + 1)) = (zs.drop q).take (p - q + 1)) := by
        exact splice_all (n := p - q + 1) (by simp only [List.length_take, List.length_drop]; omega) (by simp)
      have hqn : q < zs.length := by omega
      clear hI hv hz hc h1 hs hp
      go_enter Try.func47, Try.ntmps47
      go_wp2_with fail
      refine (HI.out).mono ?_
      rintro e w' ⟨rfl, rfl⟩
      go_wp2_with fail
      refine (HP.out _).mono ?_
      rintro e w' ⟨rfl, rfl⟩
      go_wp2_with (first | (refine wpList_make_bits rfl _ _ rfl (p - q + 1) rfl rfl (by omega) ?_; intro w1 hown1 hb1; have HO1 := Lib.hid hown1; have HB1 := Lib.hid hb1; clear hown1 hb1) | (refine wpList_copy_bits rfl _ _ rfl _ _ _ _ _ _ rfl rfl w.heap.size 0 (List.replicate (p - q + 1) 0) ((zs.drop q).take (p - q + 1)) HO1.out.raw.1 (by show _ = min _ _; simp only [List.length_take, List.length_drop]; omega) (fun _ => ⟨rfl, b, off + q, rfl, below_cells HB1.out HC.out q (by omega)⟩) (by simp only [List.length_take, List.length_drop, List.length_replicate]; omega) w.heap.size w HB1.out (Nat.le_refl _) ?_; intro w2 HR2 hb2; have HB2 := Lib.hid hb2; clear hb2))
      rw [HY.out] at HR2
      go_wp2
      go_ret2
      exact ⟨_, rfl, HR2.out.sl (by simp; omega) (by omega) HZ.out, HB2.out⟩
    · have hp' : piece h l zs.length = false := by simpa using hp
      rw [show slcV zs h l = [] by unfold slcV; rw [hv, hp']; rfl, show slcE zs h l = 19 by unfold slcE; rw [hv, hp']; rfl]
      have HP := Lib.hid (piece_at hp')
      clear hI hv hz hc h1 hs hp hp'
      go_enter Try.func47, Try.ntmps47
      go_wp2_with fail
      refine (HI.out).mono ?_
      rintro e w' ⟨rfl, rfl⟩
      go_wp2_with fail
      refine (HP.out _).mono ?_
      rintro e w' ⟨rfl, rfl⟩
      go_wp2
      go_ret2
      exact ⟨_, rfl, sl_nil _, Below.refl _ _⟩
  · have hv' : isV zs = false := by simpa using hv
    rw [hv'] at hI
    have HI := Lib.hid hI
    rw [show slcV zs h l = [] by unfold slcV; rw [hv']; rfl, show slcE zs h l = 2 by unfold slcE; rw [hv']; rfl]
    obtain ⟨A, c, rfl, hn, hz, hq, hc⟩ := hs
    clear hI hv hv' hz hc
    go_enter Try.func47, Try.ntmps47
    go_wp2_with fail
    refine (HI.out).mono ?_
    rintro e w' ⟨rfl, rfl⟩
    go_wp2
    go_ret2
    exact ⟨_, rfl, sl_nil _, Below.refl _ _⟩

/-- What Resize returns. -/
def rszE (zs : List Nat) (n : Int) : Nat := if isV zs then (if okN n then 0 else 19) else 2
def rsz (zs : List Nat) (n : Nat) : List Nat := splice (List.replicate n 0) 0 ((zs.drop 0).take (min n zs.length))
def rszV (zs : List Nat) (n : Int) : List Nat := if isV zs && okN n then rsz zs n.toNat else []
theorem rsz_len (zs : List Nat) (n : Nat) : (rsz zs n).length = n := by unfold rsz; rw [len_splice]; simp; omega
theorem rsz_256 {zs : List Nat} (h : ∀ z ∈ zs, z < 256) (n : Nat) : ∀ z ∈ rsz zs n, z < 256 := splice_256 (zeros_256 _) fun z hz => h z (List.mem_of_mem_take hz)

set_option maxHeartbeats 1000000 in
theorem resize_any (v : Value) (zs : List Nat) (n : Int) (w : World) (hs : Sl w v zs) :
    Calls Try.prog 27 #[v, .int .i64 n] w fun e w' => ∃ u, e = .returned (.tuple #[u, .int .i64 (rszE zs n : Nat)]) ∧ Sl w' u (rszV zs n) ∧ Below w.heap.size w w' := by
  have hI := is_any v zs w hs
  by_cases hv : isV zs = true
  · have h64 := (isV_bits hv).2.2
    have h1 := (isV_bits hv).2.1
    obtain ⟨b, off, c, rfl, ⟨hn, hq⟩, hz, hc⟩ := hs.cells h1
    rw [hv] at hI
    have HI := Lib.hid hI
    by_cases hp : okN n = true
    · rw [show rszV zs n = rsz zs n.toNat by unfold rszV; rw [hv, hp]; rfl, show rszE zs n = 0 by unfold rszE; rw [hv, hp]; rfl]
      have HP := Lib.hid (length_yes hp)
      obtain ⟨m, rfl, m1, m64⟩ := okN_nat hp
      rw [Int.toNat_natCast]
      have HZ := Lib.hid (rsz_256 hz m)
      have HC := Lib.hid hc
      have HL := Lib.hid (rsz_len zs m)
      clear hI hv hz hc h1 hs hp
      go_enter Try.func27, Try.ntmps27
      go_wp2_with fail
      refine (HI.out).mono ?_
      rintro e w' ⟨rfl, rfl⟩
      go_wp2_with fail
      refine (HP.out _).mono ?_
      rintro e w' ⟨rfl, rfl⟩
      go_wp2_with (first | (refine wpList_make_bits rfl _ _ rfl m rfl rfl (by omega) ?_; intro w1 hown1 hb1; have HO1 := Lib.hid hown1; have HB1 := Lib.hid hb1; clear hown1 hb1) | (refine wpList_copy_bits rfl _ _ rfl _ _ _ _ _ _ rfl rfl w.heap.size 0 (List.replicate m 0) ((zs.drop 0).take (min m zs.length)) HO1.out.raw.1 (by show _ = min _ _; simp only [List.length_take, List.length_drop]; omega) (fun _ => ⟨rfl, b, off, rfl, below_cells HB1.out HC.out 0 (by omega)⟩) (by simp only [List.length_take, List.length_drop, List.length_replicate]; omega) w.heap.size w HB1.out (Nat.le_refl _) ?_; intro w2 HR2 hb2; have HB2 := Lib.hid hb2; clear hb2))
      go_wp2
      go_ret2
      exact ⟨_, rfl, Raw.sl (show Raw _ _ (rsz zs m) from HR2.out) HL.out (by omega) HZ.out, HB2.out⟩
    · have hp' : okN n = false := by simpa using hp
      rw [show rszV zs n = [] by unfold rszV; rw [hv, hp']; rfl, show rszE zs n = 19 by unfold rszE; rw [hv, hp']; rfl]
      have HP := Lib.hid (length_no hp')
      clear hI hv hz hc h1 hs hp hp'
      go_enter Try.func27, Try.ntmps27
      go_wp2_with fail
      refine (HI.out).mono ?_
      rintro e w' ⟨rfl, rfl⟩
      go_wp2_with fail
      refine (HP.out _).mono ?_
      rintro e w' ⟨rfl, rfl⟩
      go_wp2
      go_ret2
      exact ⟨_, rfl, sl_nil _, Below.refl _ _⟩
  · have hv' : isV zs = false := by simpa using hv
    rw [hv'] at hI
    have HI := Lib.hid hI
    rw [show rszV zs n = [] by unfold rszV; rw [hv']; rfl, show rszE zs n = 2 by unfold rszE; rw [hv']; rfl]
    obtain ⟨A, c, rfl, hn, hz, hq, hc⟩ := hs
    clear hI hv hv' hz hc
    go_enter Try.func27, Try.ntmps27
    go_wp2_with fail
    refine (HI.out).mono ?_
    rintro e w' ⟨rfl, rfl⟩
    go_wp2
    go_ret2
    exact ⟨_, rfl, sl_nil _, Below.refl _ _⟩

/-- What Put returns. -/
def putE (zs : List Nat) (h l : Int) (ys : List Nat) : Nat := if isV zs && isV ys then (if piece h l zs.length then (if (ys.length : Int) = h - l + 1 then 0 else 16) else 19) else 2
def putV (zs : List Nat) (h l : Int) (ys : List Nat) : List Nat := if isV zs && isV ys && piece h l zs.length && decide ((ys.length : Int) = h - l + 1) then splice zs l.toNat ys else []

set_option maxHeartbeats 1000000 in
theorem put_any (u v : Value) (a b : List Nat) (h l : Int) (w : World) (hu : Sl w u a) (hv : Sl w v b) :
    Calls Try.prog 49 #[u, .int .i64 h, .int .i64 l, v] w fun e w' => ∃ x, e = .returned (.tuple #[x, .int .i64 (putE a h l b : Nat)]) ∧ Sl w' x (putV a h l b) ∧ Below w.heap.size w w' := by
  have hI := is_any u a w hu
  have hJ := is_any v b w hv
  by_cases va : isV a = true
  · have a64 := (isV_bits va).2.2
    have a1 := (isV_bits va).2.1
    obtain ⟨g, off, c, rfl, ⟨an, aq⟩, az, ac⟩ := hu.cells a1
    rw [va] at hI
    have HI := Lib.hid hI
    by_cases vb : isV b = true
    · have b64 := (isV_bits vb).2.2
      have b1 := (isV_bits vb).2.1
      obtain ⟨g', off', c', rfl, ⟨bn, bq⟩, bz, bc⟩ := hv.cells b1
      rw [vb] at hJ
      have HJ := Lib.hid hJ
      by_cases hp : piece h l a.length = true
      · have HP := Lib.hid (piece_at hp)
        by_cases hl : (b.length : Int) = h - l + 1
        · rw [show putV a h l b = splice a l.toNat b by unfold putV; rw [va, vb, hp, decide_eq_true hl]; rfl, show putE a h l b = 0 by unfold putE; rw [va, vb, hp, if_pos hl]; rfl]
          obtain ⟨p, q, rfl, rfl, hqp, hpn⟩ := piece_nat hp
          rw [Int.toNat_natCast]
          have hm : ((p : Int) - (q : Int) + 1) = (b.length : Int) := by omega
          have HZ := Lib.hid (splice_256 (off := q) az bz)
          have HA := Lib.hid ac
          have HB := Lib.hid bc
          have HY : Hid (splice (splice (List.replicate a.length 0) 0 ((a.drop 0).take a.length)) q ((b.drop 0).take b.length) = splice a q b) := by
            show _ = _
            rw [splice_all (n := a.length) (by simp) (by simp)]
            simp
          have hqn : q < a.length := by omega
          clear hI hJ va vb az bz ac bc hu hv hl hp
          go_enter Try.func49, Try.ntmps49
          go_wp2_with fail
          refine (HI.out).mono ?_
          rintro e w' ⟨rfl, rfl⟩
          go_wp2_with fail
          refine (HJ.out).mono ?_
          rintro e w' ⟨rfl, rfl⟩
          go_wp2_with fail
          refine (HP.out _).mono ?_
          rintro e w' ⟨rfl, rfl⟩
          go_wp2_with (first | (refine wpList_make_bits rfl _ _ rfl a.length rfl rfl (by omega) ?_; intro w1 hown1 hb1; have HO1 := Lib.hid hown1; have HB1 := Lib.hid hb1; clear hown1 hb1) | (refine wpList_copy_bits rfl _ _ rfl _ _ _ _ _ _ rfl rfl w.heap.size 0 (List.replicate a.length 0) ((a.drop 0).take a.length) HO1.out.raw.1 (by show _ = min _ _; simp only [List.length_take, List.length_drop]; omega) (fun _ => ⟨rfl, g, off, rfl, below_cells HB1.out HA.out 0 (by omega)⟩) (by simp only [List.length_take, List.length_drop, List.length_replicate]; omega) w.heap.size w HB1.out (Nat.le_refl _) ?_; intro w2 HR2 hb2; have HB2 := Lib.hid hb2; clear hb2) | (refine wpList_copy_bits rfl _ _ rfl _ _ _ _ _ _ rfl rfl w.heap.size q (splice (List.replicate a.length 0) 0 ((a.drop 0).take a.length)) ((b.drop 0).take b.length) HR2.out (by show _ = min _ _; simp only [List.length_take, List.length_drop]; omega) (fun _ => ⟨rfl, g', off', rfl, below_cells HB2.out HB.out 0 (by omega)⟩) (by simp only [len_splice, List.length_take, List.length_drop, List.length_replicate]; omega) w.heap.size w HB2.out (Nat.le_refl _) ?_; intro w3 HR3 hb3; have HB3 := Lib.hid hb3; clear hb3))
          rw [HY.out] at HR3
          go_wp2
          go_ret2
          exact ⟨_, rfl, HR3.out.sl (by rw [len_splice]; omega) (by omega) HZ.out, HB3.out⟩
        · rw [show putV a h l b = [] by unfold putV; rw [va, vb, hp, decide_eq_false hl]; rfl, show putE a h l b = 16 by unfold putE; rw [va, vb, hp, if_neg hl]; rfl]
          obtain ⟨p, q, rfl, rfl, hqp, hpn⟩ := piece_nat hp
          have hne : ((b.length : Int) != ((p : Int) - (q : Int) + 1)) = true := by rw [bne_iff_ne]; exact hl
          clear hI hJ va vb az bz ac bc hu hv hl hp
          go_enter Try.func49, Try.ntmps49
          go_wp2_with fail
          refine (HI.out).mono ?_
          rintro e w' ⟨rfl, rfl⟩
          go_wp2_with fail
          refine (HJ.out).mono ?_
          rintro e w' ⟨rfl, rfl⟩
          go_wp2_with fail
          refine (HP.out _).mono ?_
          rintro e w' ⟨rfl, rfl⟩
          go_wp2
          go_ret2
          exact ⟨_, rfl, sl_nil _, Below.refl _ _⟩
      · have hp' : piece h l a.length = false := by simpa using hp
        rw [show putV a h l b = [] by unfold putV; rw [va, vb, hp']; rfl, show putE a h l b = 19 by unfold putE; rw [va, vb, hp']; rfl]
        have HP := Lib.hid (piece_at hp')
        clear hI hJ va vb az bz ac bc hu hv hp hp'
        go_enter Try.func49, Try.ntmps49
        go_wp2_with fail
        refine (HI.out).mono ?_
        rintro e w' ⟨rfl, rfl⟩
        go_wp2_with fail
        refine (HJ.out).mono ?_
        rintro e w' ⟨rfl, rfl⟩
        go_wp2_with fail
        refine (HP.out _).mono ?_
        rintro e w' ⟨rfl, rfl⟩
        go_wp2
        go_ret2
        exact ⟨_, rfl, sl_nil _, Below.refl _ _⟩
    · have vb' : isV b = false := by simpa using vb
      rw [vb'] at hJ
      have HJ := Lib.hid hJ
      rw [show putV a h l b = [] by unfold putV; rw [va, vb']; rfl, show putE a h l b = 2 by unfold putE; rw [va, vb']; rfl]
      obtain ⟨A', c', rfl, _⟩ := hv
      clear hI hJ va vb vb' az ac hu
      go_enter Try.func49, Try.ntmps49
      go_wp2_with fail
      refine (HI.out).mono ?_
      rintro e w' ⟨rfl, rfl⟩
      go_wp2_with fail
      refine (HJ.out).mono ?_
      rintro e w' ⟨rfl, rfl⟩
      go_wp2
      go_ret2
      exact ⟨_, rfl, sl_nil _, Below.refl _ _⟩
  · have va' : isV a = false := by simpa using va
    rw [va'] at hI
    have HI := Lib.hid hI
    rw [show putV a h l b = [] by unfold putV; rw [va']; rfl, show putE a h l b = 2 by unfold putE; rw [va']; rfl]
    obtain ⟨A, c, rfl, _⟩ := hu
    obtain ⟨A', c', rfl, _⟩ := hv
    clear hI hJ va va'
    go_enter Try.func49, Try.ntmps49
    go_wp2_with fail
    refine (HI.out).mono ?_
    rintro e w' ⟨rfl, rfl⟩
    go_wp2
    go_ret2
    exact ⟨_, rfl, sl_nil _, Below.refl _ _⟩
end Go.Proofs.Ytkapephlfbabjaa
