/- The contracts of the program's gapLength, skip and skipGaps. -/
import Derived.Test.YtfjeljehodbbmaaDoorPg
import Derived.Test.YtfjeljehodbbmaaDoorMs
namespace Go.Proofs.YtfjeljehodbbmaaDoor
open Go.RowKit

theorem pre_dash (c : UInt8) (r : List UInt8) : (bl ⟨#[45, 45]⟩).isPrefixOf (c :: r) = decide (c = 45 ∧ r.head? = some 45) := by
  show List.isPrefixOf [45, 45] (c :: r) = _
  cases r with
  | nil => simp [List.isPrefixOf]
  | cons d z =>
    by_cases h1 : c = 45
    · subst h1
      by_cases h2 : d = 45
      · subst h2; simp [List.isPrefixOf]
      · simp [List.isPrefixOf, h2, Ne.symm h2]
    · simp [List.isPrefixOf, h1, Ne.symm h1]
def blksL : List UInt8 := [32, 9, 13, 10]
theorem blk_in (x : UInt8) : blkB x = blksL.contains x := by
  have h : ∀ n < 256, blkB (UInt8.ofNat n) = blksL.contains (UInt8.ofNat n) := by decide +kernel
  have := h x.toNat x.toNat_lt
  rwa [UInt8.ofNat_toNat] at this
set_option maxHeartbeats 4000000 in
theorem gapLength_any (s : ByteArray) (hs : s.size ≤ 140737488355328) (w : World) :
    Calls Tryd.prog 43 #[.string s] w fun e w' => e = .returned (.int .i64 (gapL (bl s) : Nat)) ∧ Below w.heap.size w w' := by
  by_cases h0 : 0 < s.size
  · obtain ⟨r, hr⟩ := hd_byte h0
    have hP := fun w => prefix_any s ⟨#[45, 45]⟩ w
    rw [hr, pre_dash] at hP
    have t0 : (s.toList != []) = true := by
      rw [bl_toList, hr]; rfl
    have t0' : s.toList.isEmpty = false := by
      rw [bl_toList, hr]; rfl
    have d0 : decide ((0 : Int) < (s.size : Int)) = true := by rw [decide_eq_true_eq]; omega
    by_cases hc : s[0]'h0 = 45 ∧ r.head? = some 45
    · have hg : gapL (bl s) = (befL 10 (bl s)).length := by rw [hr, gapL, if_pos hc]
      rw [decide_eq_true hc] at hP
      have hC := fun w => cut_any s 10 hs w
      have hz := sb_size (befL 10 (bl s))
      rw [hg, ← hz]
      generalize sb (befL 10 (bl s)) = y at *
      generalize decide ((10 : UInt8) ∈ bl s) = b at *
      have HP := Lib.hid hP
      have HC := Lib.hid hC
      clear hP hC hg hz hr hc
      go_enter Tryd.func43, Tryd.ntmps43
      go_wp2_with fail
      refine (HP.out _).mono ?_
      rintro e w' ⟨rfl, rfl⟩
      go_wp2_with fail
      refine (HC.out _).mono ?_
      rintro e w1 ⟨⟨t, rfl⟩, hb⟩
      have HB := Lib.hid hb
      clear hb
      go_wp2
      go_ret
      exact ⟨rfl, HB.out⟩
    · have hg : gapL (bl s) = if blkB (s[0]'h0) then 1 else 0 := by rw [hr, gapL, if_neg hc]
      rw [decide_eq_false hc] at hP
      rw [hg, blk_in]
      have hI := fun w => index_any ⟨#[32, 9, 13, 10]⟩ (s[0]'h0) w
      rcases has_byte blksL (s[0]'h0) with ⟨h1, h2⟩ | ⟨n, h1, h2⟩
      · rw [h2]
        rw [show Lib.indexByte (bl ⟨#[32, 9, 13, 10]⟩) (s[0]'h0) = -1 from h1] at hI
        have HP := Lib.hid hP
        have HI := Lib.hid hI
        clear hP hI hg h1 h2 hr hc
        go_enter Tryd.func43, Tryd.ntmps43
        go_wp2_with fail
        refine (HP.out _).mono ?_
        rintro e w' ⟨rfl, rfl⟩
        go_wp2_with fail
        refine (HI.out _).mono ?_
        rintro e w' ⟨rfl, rfl⟩
        go_wp2
        go_ret
        exact ⟨rfl, Below.refl _ _⟩
      · rw [h2]
        rw [show Lib.indexByte (bl ⟨#[32, 9, 13, 10]⟩) (s[0]'h0) = n from h1] at hI
        have d1 : decide ((0 : Int) ≤ (n : Int)) = true := by rw [decide_eq_true_eq]; omega
        have HP := Lib.hid hP
        have HI := Lib.hid hI
        clear hP hI hg h1 h2 hr hc
        go_enter Tryd.func43, Tryd.ntmps43
        go_wp2_with fail
        refine (HP.out _).mono ?_
        rintro e w' ⟨rfl, rfl⟩
        go_wp2_with fail
        refine (HI.out _).mono ?_
        rintro e w' ⟨rfl, rfl⟩
        go_wp2
        go_ret
        exact ⟨rfl, Below.refl _ _⟩
  · have e : s = ⟨#[]⟩ := bl_inj (List.eq_nil_of_length_eq_zero (by rw [bl_len]; omega))
    subst e
    have HP : Hid (∀ w, Calls Tryd.prog 44 #[.string ⟨#[]⟩, .string ⟨#[45, 45]⟩] w fun e w' => e = .returned (.bool false) ∧ w = w') := fun w => prefix_any ⟨#[]⟩ ⟨#[45, 45]⟩ w
    go_enter Tryd.func43, Tryd.ntmps43
    go_wp2_with fail
    refine (HP.out _).mono ?_
    rintro e w' ⟨rfl, rfl⟩
    go_wp2
    go_ret
    exact ⟨rfl, Below.refl _ _⟩

/-- The reader in block B holds a rest, a line and a column. -/
def Rd (w : World) (B : Nat) (x : ByteArray) (l c : Nat) : Prop :=
  w.cell? ⟨B, 0, none⟩ = some (.string x) ∧ w.cell? ⟨B, 1, none⟩ = some (.int .i64 (l : Nat)) ∧ w.cell? ⟨B, 2, none⟩ = some (.int .i64 (c : Nat)) ∧ ∀ k, w.frozen? ⟨B, k, none⟩ = false
/-- The reader stands at byte i of s. -/
def RdAt (w : World) (B : Nat) (s : ByteArray) (i : Nat) : Prop :=
  i ≤ s.size ∧ Rd w B (s.extract i s.size) (placeL ((bl s).take i)).1 (placeL ((bl s).take i)).2
/-- All but block B stays. -/
def But (B : Nat) (w w' : World) : Prop := w.grownBy w' (some B)
theorem But.refl (B : Nat) (w : World) : But B w w := ⟨rfl, rfl, rfl, Nat.le_refl _, fun _ _ _ => rfl⟩
theorem But.trans {B : Nat} {a b c : World} (h : But B a b) (k : But B b c) : But B a c :=
  ⟨k.os.trans h.os, k.tape.trans h.tape, k.output.trans h.output, Nat.le_trans h.size k.size, fun i hi hne => (k.block i (Nat.lt_of_lt_of_le hi h.size) hne).trans (h.block i hi hne)⟩
theorem But.of {B : Nat} {w w' : World} (h : Below w.heap.size w w') : But B w w' := ⟨h.os, h.tape, h.output, h.size, fun k hk _ => h.block k hk⟩
theorem But.set (B : Nat) (w : World) (k : Nat) (v : Value) : But B w (w.setCell ⟨B, k, none⟩ v) :=
  ⟨rfl, rfl, rfl, by simp [World.setCell], fun j hj hne => Below.heap_setCell _ _ _ _ (fun e => hne (by rw [e]))⟩
theorem adr_ne {B i j : Nat} (h : i ≠ j) : (⟨B, i, none⟩ : Addr) ≠ ⟨B, j, none⟩ := fun e => h (by injection e)
theorem Rd.set0 {w : World} {B l c : Nat} {x : ByteArray} (h : Rd w B x l c) (y : ByteArray) : Rd (w.setCell ⟨B, 0, none⟩ (.string y)) B y l c := by
  obtain ⟨h0, h1, h2, h3⟩ := h
  exact ⟨World.cell?_setCell_same _ _ _ h0, by rw [World.cell?_setCell_other (h := adr_ne (by decide))]; exact h1, by rw [World.cell?_setCell_other (h := adr_ne (by decide))]; exact h2, fun k => (World.frozen?_setCell _ _ _ _).trans (h3 k)⟩
theorem Rd.set1 {w : World} {B l c : Nat} {x : ByteArray} (h : Rd w B x l c) (l' : Nat) : Rd (w.setCell ⟨B, 1, none⟩ (.int .i64 (l' : Nat))) B x l' c := by
  obtain ⟨h0, h1, h2, h3⟩ := h
  exact ⟨by rw [World.cell?_setCell_other (h := adr_ne (by decide))]; exact h0, World.cell?_setCell_same _ _ _ h1, by rw [World.cell?_setCell_other (h := adr_ne (by decide))]; exact h2, fun k => (World.frozen?_setCell _ _ _ _).trans (h3 k)⟩
theorem Rd.set2 {w : World} {B l c : Nat} {x : ByteArray} (h : Rd w B x l c) (c' : Nat) : Rd (w.setCell ⟨B, 2, none⟩ (.int .i64 (c' : Nat))) B x l c' := by
  obtain ⟨h0, h1, h2, h3⟩ := h
  exact ⟨by rw [World.cell?_setCell_other (h := adr_ne (by decide))]; exact h0, by rw [World.cell?_setCell_other (h := adr_ne (by decide))]; exact h1, World.cell?_setCell_same _ _ _ h2, fun k => (World.frozen?_setCell _ _ _ _).trans (h3 k)⟩
theorem take_place (s : ByteArray) (j : Nat) (h : j < s.size) : placeL ((bl s).take (j + 1)) = if s[j] = 10 then ((placeL ((bl s).take j)).1 + 1, 1) else ((placeL ((bl s).take j)).1, (placeL ((bl s).take j)).2 + 1) := by
  have hl : j < (bl s).length := by rw [bl_len]; exact h
  rw [List.take_succ_eq_append_getElem hl, place_snoc, bl_get s j h]
theorem rd_eq {w : World} {B j j' l c : Nat} {x s : ByteArray} (hj : j = j') (hp : placeL ((bl s).take j') = (l, c)) (h : Rd w B x l c) : Rd w B x (placeL ((bl s).take j)).1 (placeL ((bl s).take j)).2 := by
  subst hj
  rw [hp]
  exact h
set_option maxRecDepth 100000 in
set_option maxHeartbeats 4000000 in
theorem skip_any (B : Nat) (s : ByteArray) (i n : Nat) (hs : s.size ≤ 20000) (hn : i + n ≤ s.size) (w : World) (h : RdAt w B s i) :
    Calls Tryd.prog 29 #[.pointer (some ⟨B, 0, none⟩), .int .i64 n] w fun e w' => e = .returned (.tuple #[]) ∧ RdAt w' B s (i + n) ∧ But B w w' := by
  obtain ⟨hi, h⟩ := h
  obtain ⟨x, hx⟩ : ∃ x, x = s.extract i s.size := ⟨_, rfl⟩
  have hxs : x.size = s.size - i := by rw [hx, ByteArray.size_extract]; omega
  have hxg : ∀ (k : Nat) (h : k < x.size) (h' : i + k < s.size), x[k] = s[i + k]'h' := by
    intro k h h'
    have h1 := bl_get x k h
    have h2 := bl_get s (i + k) h'
    have h3 : bl x = (bl s).drop i := by rw [hx]; exact ext_drop s i
    rw [← h1, ← h2]
    simp only [h3, List.getElem_drop]
  rw [← hx] at h
  have HR0 := Lib.hid h
  have HX := Lib.hid hx
  have HG := Lib.hid hxg
  have HS := Lib.hid hxs
  clear h hx hxg hxs
  go_enter Tryd.func29, Tryd.ntmps29
  go_wp2_with fail
  go_loopw [6] (fun v wr => ∃ k : Nat, k ≤ n ∧ v = .int .i64 k ∧ Hid (Rd wr B x (placeL ((bl s).take (i + k))).1 (placeL ((bl s).take (i + k))).2) ∧ Hid (But B w wr)) (fun v _ => n - (intOf v).toNat)
  case atStart => exact ⟨0, Nat.zero_le _, rfl, HR0, But.refl _ _⟩
  case round =>
    obtain ⟨k, hk, rfl, hr, hb⟩ := hrel
    by_cases hlt : k < n
    · have hkx : k < x.size := by have := HS.out; omega
      have hg : x[k] = s[i + k]'(by omega) := HG.out k hkx (by omega)
      have hp := take_place s (i + k) (by omega)
      have hpb := place_le ((bl s).take (i + k))
      rw [List.length_take, bl_len] at hpb
      have hpe : i + (k + 1) = i + k + 1 := by omega
      have HRk := hr.out
      obtain ⟨l, c, hlc⟩ : ∃ l c, placeL ((bl s).take (i + k)) = (l, c) := ⟨_, _, rfl⟩
      rw [hlc] at hp hpb HRk
      simp only at hp hpb HRk
      obtain ⟨l1, hl1⟩ : ∃ l1, l1 = l + 1 := ⟨_, rfl⟩
      obtain ⟨c1, hc1⟩ : ∃ c1, c1 = c + 1 := ⟨_, rfl⟩
      have hll : (l : Int) + 1 = (l1 : Int) := by omega
      have hcc : (c : Int) + 1 = (c1 : Int) := by omega
      have hlb : l ≤ 30000 := by omega
      have hcb : c ≤ 30000 := by omega
      rw [← hl1, ← hc1] at hp
      by_cases h10 : s[i + k]'(by omega) = 10
      · have t1 : ((x[k].toNat : Int) == 10) = true := by rw [hg, h10]; rfl
        rw [if_pos h10] at hp
        have R1 := HRk.set2 c1
        have R2 := R1.set1 l1
        have R3 := R2.set2 1
        have HF := Lib.hid (rd_eq hpe hp R3)
        have HBf := Lib.hid (((hb.out.trans (But.set B wr 2 (.int .i64 c1))).trans (But.set B _ 1 (.int .i64 l1))).trans (But.set B _ 2 (.int .i64 (1 : Nat))))
        obtain ⟨a0, a1, a2, a3⟩ := HRk
        obtain ⟨b0, b1, b2, b3⟩ := R1
        obtain ⟨c0, c1', c2, c3⟩ := R2
        clear hp hpb hpe hlc hl1 hc1 hg h10 R3 hr hb
        go_wp2
        go_roundw
        case rel => exact ⟨k + 1, by omega, by go_num, HF, HBf⟩
        case measure => simp [intOf]; omega
      · have t1 : ((x[k].toNat : Int) == 10) = false := by
          rw [hg, beq_eq_false_iff_ne]
          intro e
          exact h10 (UInt8.toNat_inj.1 (by show (s[i + k]'(by omega)).toNat = 10; omega))
        rw [if_neg h10] at hp
        have R1 := HRk.set2 c1
        have HF := Lib.hid (rd_eq hpe hp R1)
        have HBf := Lib.hid (hb.out.trans (But.set B wr 2 (.int .i64 c1)))
        obtain ⟨a0, a1, a2, a3⟩ := HRk
        obtain ⟨b0, b1, b2, b3⟩ := R1
        clear hp hpb hpe hlc hl1 hc1 hg h10 hr hb
        go_wp2
        go_roundw
        case rel => exact ⟨k + 1, by omega, by go_num, HF, HBf⟩
        case measure => simp [intOf]; omega
    · have hkn : k = n := by omega
      subst hkn
      have HXE : Hid (x.extract k x.size = s.extract (i + k) s.size) := by
        show _ = _
        apply bl_inj
        rw [ext_drop, HX.out, ext_drop, ext_drop, List.drop_drop]
      have R := hr.out.set0 (x.extract k x.size)
      have HF : Hid (RdAt (wr.setCell ⟨B, 0, none⟩ (.string (x.extract k x.size))) B s (i + k)) := ⟨hn, by rw [← HXE.out]; exact R⟩
      have HBf := Lib.hid (hb.out.trans (But.set B wr 0 (.string (x.extract k x.size))))
      obtain ⟨a0, a1, a2, a3⟩ := hr.out
      have hkx : k ≤ x.size := by have := HS.out; omega
      clear R hr hb
      go_wp2
      go_returns
      exact ⟨rfl, HF.out, HBf.out⟩
theorem RdAt.later {w w' : World} {B : Nat} {s : ByteArray} {i : Nat} (h : RdAt w B s i) (hb : Below w.heap.size w w') : RdAt w' B s i := by
  obtain ⟨hi, h0, h1, h2, h3⟩ := h
  have hl := block_lt_of_cell h0
  exact ⟨hi, (hb.cell (by exact hl)).trans h0, (hb.cell (by exact hl)).trans h1, (hb.cell (by exact hl)).trans h2, fun k => (hb.frozen (by exact hl)).trans (h3 k)⟩
theorem RdAt.rest {w : World} {B : Nat} {s : ByteArray} {i : Nat} (h : RdAt w B s i) : w.cell? ⟨B, 0, none⟩ = some (.string (s.extract i s.size)) := h.2.1
/-- How long the reader's rest is. -/
def restSz (w : World) (B : Nat) : Nat := match w.cell? ⟨B, 0, none⟩ with | some (.string x) => x.size | _ => 0
theorem rest_sz {w : World} {B : Nat} {s : ByteArray} {i : Nat} (h : RdAt w B s i) : restSz w B = s.size - i := by
  unfold restSz
  rw [h.rest]
  show (s.extract i s.size).size = _
  rw [ByteArray.size_extract]
  omega
set_option maxRecDepth 100000 in
set_option maxHeartbeats 4000000 in
theorem skipGaps_any (B : Nat) (s : ByteArray) (i : Nat) (hs : s.size ≤ 20000) (w : World) (h : RdAt w B s i) :
    Calls Tryd.prog 27 #[.pointer (some ⟨B, 0, none⟩)] w fun e w' => e = .returned (.tuple #[]) ∧ RdAt w' B s (nextN s i) ∧ But B w w' := by
  have hr0 := h.rest
  have H0 := Lib.hid h
  have HG := Lib.hid (fun j (hj : j ≤ s.size) w => gapLength_any (s.extract j s.size) (by rw [ByteArray.size_extract]; omega) w)
  have hi := h.1
  have HGi := Lib.hid (HG.out i hi)
  obtain ⟨g0, hg0⟩ : ∃ g, gapL (bl (s.extract i s.size)) = g := ⟨_, rfl⟩
  rw [hg0] at HGi
  have HG0 := Lib.hid hg0
  clear h hg0
  go_enter Tryd.func27, Tryd.ntmps27
  go_wp2_with fail
  refine (HGi.out _).mono ?_
  rintro e w1 ⟨rfl, hb1⟩
  have HB1 := Lib.hid hb1
  clear hb1 hr0
  have HR1 := Lib.hid (H0.out.later HB1.out)
  have HT1 : Hid (But B w w1) := But.of HB1.out
  clear H0 HB1
  go_wp2_with fail
  go_loopw [2] (fun v wr => ∃ j g : Nat, j ≤ s.size ∧ v = .int .i64 g ∧ Hid (RdAt wr B s j) ∧ Hid (gapL (bl (s.extract j s.size)) = g ∧ skipL ((bl s).drop j) = skipL ((bl s).drop i)) ∧ Hid (But B w wr)) (fun _ wr => restSz wr B)
  case atStart => exact ⟨i, g0, hi, rfl, HR1, ⟨HG0.out, rfl⟩, HT1⟩
  case round =>
    obtain ⟨j, g, hj, rfl, hR, hg, hB⟩ := hrel
    by_cases hg0 : g = 0
    · subst hg0
      have HE : Hid (nextN s i = j) := by
        obtain ⟨e1, e2⟩ := hg.out
        rw [ext_drop] at e1
        exact next_end hj (e2.symm.trans (gap_none e1))
      clear HGi HG0 HR1 HT1 hg
      go_wp2
      go_returns
      exact ⟨rfl, by rw [HE.out]; exact hR.out, hB.out⟩
    · obtain ⟨e1, e2⟩ := hg.out
      rw [ext_drop] at e1
      obtain ⟨e3, e4⟩ := gap_more (l := (bl s).drop j) (by rw [e1]; exact hg0)
      rw [List.length_drop, bl_len] at e4
      rw [e1] at e3 e4
      rw [List.drop_drop] at e3
      obtain ⟨j2, hj2⟩ : ∃ j2, j2 = j + g := ⟨_, rfl⟩
      have hj2s : j2 ≤ s.size := by omega
      have HSk := Lib.hid (skip_any B s j g hs (by omega) wr hR.out)
      rw [← hj2] at HSk e3
      have HGj := Lib.hid (HG.out j2 hj2s)
      obtain ⟨g2, hg2⟩ : ∃ g, gapL (bl (s.extract j2 s.size)) = g := ⟨_, rfl⟩
      rw [hg2] at HGj
      have HK : Hid (gapL (bl (s.extract j2 s.size)) = g2 ∧ skipL ((bl s).drop j2) = skipL ((bl s).drop i)) := ⟨hg2, by rw [← e3]; exact e2⟩
      have hsz : restSz wr B = s.size - j := rest_sz hR.out
      have hlt : s.size - j2 < s.size - j := by omega
      have d1 : decide ((0 : Int) < (g : Int)) = true := by rw [decide_eq_true_eq]; omega
      have d2 : decide (0 < g) = true := by rw [decide_eq_true_eq]; omega
      have HSZ := Lib.hid hsz
      clear e1 e2 e3 e4 hg hg0 hj2 hg2 HGi HG0 HR1 HT1 hsz
      go_wp2_with fail
      refine (HSk.out).mono ?_
      rintro e w2 ⟨rfl, hR2, hB2⟩
      have HR2 := Lib.hid hR2
      have HB2 := Lib.hid (hB.out.trans hB2)
      have hr2 := hR2.rest
      clear hR2 hB2
      go_wp2_with fail
      refine (HGj.out _).mono ?_
      rintro e w3 ⟨rfl, hb3⟩
      have HR3 := Lib.hid (HR2.out.later hb3)
      have HB3 := Lib.hid (HB2.out.trans (But.of hb3))
      clear hb3 hr2
      go_wp2
      go_roundw
      case rel => exact ⟨j2, g2, hj2s, rfl, HR3, HK, HB3⟩
      case measure =>
        have := rest_sz HR3.out
        rw [this, HSZ.out]
        exact hlt
end Go.Proofs.YtfjeljehodbbmaaDoor
