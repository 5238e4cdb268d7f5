/- The contracts of Text and Parse, and of the reference's of, Text and Parse: bits as letters. -/
import Derived.Test.YtaeehejnifhaaaaDoorMem
import Derived.Lib.IndexLaws
import Derived.Laws.IdiomStrings
namespace Go.Proofs.YtaeehejnifhaaaaDoor
open Go.RowKit

/-- The letter of a bit, and the bit of a letter (4 of any other). -/
def ltr (z : Nat) : UInt8 := if z = 0 then 48 else if z = 1 then 49 else if z = 2 then 120 else 122
def lc (x : UInt8) : Nat := if x = 48 then 0 else if x = 49 then 1 else if x = 120 then 2 else if x = 122 then 3 else 4
theorem lc_ltr {z : Nat} (h : z ≤ 3) : lc (ltr z) = z := by
  obtain rfl | rfl | rfl | rfl : z = 0 ∨ z = 1 ∨ z = 2 ∨ z = 3 := by omega
  all_goals decide
theorem ltr_lc {x : UInt8} (h : lc x ≤ 3) : ltr (lc x) = x := by
  unfold lc at *
  split
  · rename_i e; rw [e]; rfl
  · split
    · rename_i e; rw [e]; rfl
    · split
      · rename_i e; rw [e]; rfl
      · split
        · rename_i e; rw [e]; rfl
        · simp_all
theorem lc_le (x : UInt8) : lc x ≤ 4 := by unfold lc; (repeat' split) <;> omega
theorem lc_cases (x : UInt8) : (x = 48 ∧ lc x = 0) ∨ (x = 49 ∧ lc x = 1) ∨ (x = 120 ∧ lc x = 2) ∨ (x = 122 ∧ lc x = 3) ∨ (x ≠ 48 ∧ x ≠ 49 ∧ x ≠ 120 ∧ x ≠ 122 ∧ lc x = 4) := by
  by_cases h0 : x = 48
  · subst h0; left; exact ⟨rfl, rfl⟩
  by_cases h1 : x = 49
  · subst h1; right; left; exact ⟨rfl, rfl⟩
  by_cases h2 : x = 120
  · subst h2; right; right; left; exact ⟨rfl, rfl⟩
  by_cases h3 : x = 122
  · subst h3; right; right; right; left; exact ⟨rfl, rfl⟩
  right; right; right; right
  exact ⟨h0, h1, h2, h3, by simp [lc, h0, h1, h2, h3]⟩
theorem idx_lc (x : UInt8) : Lib.indexByte [48, 49, 120, 122] x = if lc x ≤ 3 then (lc x : Int) else -1 := by
  rcases lc_cases x with ⟨rfl, _⟩ | ⟨rfl, _⟩ | ⟨rfl, _⟩ | ⟨rfl, _⟩ | ⟨h0, h1, h2, h3, h⟩
  · decide
  · decide
  · decide
  · decide
  · rw [h]
    simp [Lib.indexByte, Ne.symm h0, Ne.symm h1, Ne.symm h2, Ne.symm h3]

theorem ne_of_byte {x : UInt8} (n : Nat) (hn : n < 256) (h : x ≠ UInt8.ofNat n) : ((x.toNat : Int) == (n : Int)) = false := by
  rw [beq_eq_false_iff_ne]
  intro e
  apply h
  have : x.toNat = n := by omega
  apply UInt8.toNat_inj.1
  rw [this]
  simp [Nat.mod_eq_of_lt hn]

theorem of_any (x : UInt8) (w : World) :
    Calls Tryd.prog 44 #[.int .u8 x.toNat] w fun e w' => e = .returned (.tuple #[.int .u8 (if lc x ≤ 3 then lc x else 0 : Nat), .bool (decide (lc x ≤ 3))]) ∧ w = w' := by
  rcases lc_cases x with ⟨rfl, h⟩ | ⟨rfl, h⟩ | ⟨rfl, h⟩ | ⟨rfl, h⟩ | ⟨h0, h1, h2, h3, h⟩
  case inr.inr.inr.inr =>
    rw [h]
    clear h
    have e0 := ne_of_byte 48 (by decide) h0
    have e1 := ne_of_byte 49 (by decide) h1
    have e2 := ne_of_byte 120 (by decide) h2
    have e3 := ne_of_byte 122 (by decide) h3
    clear h0 h1 h2 h3
    go_enter Tryd.func44, Tryd.ntmps44
    go_wp2
    go_ret2
    exact ⟨rfl, rfl⟩
  all_goals
    rw [h]
    clear h
    go_enter Tryd.func44, Tryd.ntmps44
    go_wp2
    go_ret2
    exact ⟨rfl, rfl⟩

theorem idx0_any (s : ByteArray) (x : UInt8) (w : World) :
    Calls Tryd.prog 52 #[.string s, .int .u8 x.toNat] w fun e w' => e = .returned (.int .i64 (Lib.indexByte s.data.toList x)) ∧ w = w' := by
  go_enter Tryd.func52, Tryd.ntmps52
  go_wp2
  rw [run_callFunc_extern Tryd.func53 (by kernel_rfl) (by kernel_rfl) (by kernel_rfl) (e := Extern.BytealgIndexByte.indexByte) (by kernel_rfl), Lib.run_indexByteString]
  simp only [Result.andThen]
  rw [Oper.upon_value]
  go_wp2
  go_ret
  exact ⟨by simp, rfl⟩
theorem idx1_any (s : ByteArray) (x : UInt8) (w : World) :
    Calls Tryd.prog 50 #[.string s, .int .u8 x.toNat] w fun e w' => e = .returned (.int .i64 (Lib.indexByte s.data.toList x)) ∧ w = w' := by
  go_enter Tryd.func50, Tryd.ntmps50
  go_wp2_with (go_at_call 52; refine (idx0_any _ _ _).mono ?_; rintro e w' ⟨rfl, rfl⟩)
  go_ret
  exact ⟨rfl, rfl⟩
/-- The place of a letter among the four. -/
def idxV (x : UInt8) : Int := if lc x ≤ 3 then (lc x : Int) else -1
theorem idx_any (x : UInt8) (w : World) :
    Calls Tryd.prog 50 #[.string ⟨#[48, 49, 120, 122]⟩, .int .u8 x.toNat] w fun e w' => e = .returned (.int .i64 (idxV x)) ∧ w = w' := by
  refine (idx1_any _ x w).mono ?_
  rintro e w' ⟨rfl, rfl⟩
  refine ⟨?_, rfl⟩
  show Ending.returned (.int .i64 (Lib.indexByte [48, 49, 120, 122] x)) = _
  rw [idx_lc]; rfl

/-- What Parse returns of the bytes l. -/
def lcB (l : List UInt8) : Bool := l.all fun x => decide (lc x ≤ 3)
def parB (l : List UInt8) : Bool := decide (1 ≤ l.length) && decide (l.length ≤ 64) && lcB l
def parV (l : List UInt8) : List Nat := if parB l then (l.map lc).reverse else []
def parE (l : List UInt8) : Nat := if parB l then 0 else 44
theorem par_yes {l : List UInt8} (h : parB l = true) : parV l = (l.map lc).reverse ∧ parE l = 0 := by unfold parV parE; rw [h]; exact ⟨rfl, rfl⟩
theorem par_no {l : List UInt8} (h : parB l = false) : parV l = [] ∧ parE l = 44 := by unfold parV parE; rw [h]; exact ⟨rfl, rfl⟩
theorem parB_none {l : List UInt8} (h : ¬ 1 ≤ l.length) : parB l = false := by simp [parB, h]
theorem parB_long {l : List UInt8} (h : ¬ l.length ≤ 64) : parB l = false := by simp [parB, h]
theorem parB_fits {l : List UInt8} (h : 1 ≤ l.length) (h' : l.length ≤ 64) : parB l = lcB l := by simp [parB, h, h']
theorem lcB_take {l : List UInt8} {k : Nat} (h : k < l.length) (hk : lcB (l.take k) = true) (hz : lc l[k] ≤ 3) : lcB (l.take (k + 1)) = true := by
  unfold lcB at *
  rw [List.take_succ_eq_append_getElem h, List.all_append, hk]
  simpa using hz
theorem lcB_no {l : List UInt8} {k : Nat} (h : k < l.length) (hz : ¬ lc l[k] ≤ 3) : lcB l = false := by
  unfold lcB
  rw [List.all_eq_false]
  exact ⟨l[k], List.getElem_mem h, by simpa using hz⟩
theorem lcB_end {l : List UInt8} {k : Nat} (h : ¬ k < l.length) (hk : lcB (l.take k) = true) : lcB l = true := by rwa [List.take_of_length_le (by omega)] at hk
theorem lc_256 (l : List UInt8) : ∀ z ∈ l.map lc, z < 256 := by
  intro z hz
  obtain ⟨x, _, rfl⟩ := List.mem_map.1 hz
  have := lc_le x
  omega

theorem byte_list (s : ByteArray) : s.data.toList.length = s.size := by simp
theorem byte_get (s : ByteArray) (k : Nat) (_h : k < s.size) (h' : k < s.data.toList.length) : s.data.toList[k] = s[k] := by simp; rfl

/-- The row of the call's own that is filled from behind: after k rounds. -/
def fillB (n k : Nat) (ys : List Nat) : List Nat := List.replicate (n - k) 0 ++ ys
theorem fillB_set {n k : Nat} (h : k < n) (ys : List Nat) (z : Nat) : (fillB n k ys).set (n - 1 - k) z = fillB n (k + 1) (z :: ys) := by
  unfold fillB
  rw [List.set_append_left _ _ (by simp; omega)]
  have : n - k = (n - 1 - k) + 1 := by omega
  rw [this, List.replicate_succ', List.set_append_right _ _ (by simp), List.length_replicate, Nat.sub_self, show n - (k + 1) = n - 1 - k by omega, List.append_assoc]
  rfl

theorem Own.made {w w' : World} {base n : Nat} {v : Value} (h : w'.ownsRow base 22 1 v n (madeCells (Value.cells (.int .u8 0)) (n * 1)).toList) (hn : n ≤ 140737488355328) (hb : w.grownBy w' none) (hB : base ≤ w.heap.size) : Own w' base v (List.replicate n 0) := by
  refine ⟨?_, by simpa using hn, by intro z hz; have := List.eq_of_mem_replicate hz; omega, Nat.le_trans hB hb.size⟩
  rw [List.length_replicate]
  rw [show (madeCells (Value.cells (.int .u8 0)) (n * 1)).toList = List.replicate (n * 1) (.int .u8 0) from toList_madeCells_one _ _, Nat.mul_one] at h
  simpa [bitCells] using h
theorem Own.stored {w : World} {base g cap n : Nat} {zs : List Nat} (h : Own w base (.slice (some ⟨g, 0, none⟩) n cap) zs) (j z : Nat) (hz : z < 256) :
    Own (w.setCell ⟨g, j, none⟩ (.int .u8 (z : Nat))) base (.slice (some ⟨g, 0, none⟩) n cap) (zs.set j z) ∧ ∀ B, B ≤ base → Below B w (w.setCell ⟨g, j, none⟩ (.int .u8 (z : Nat))) := by
  obtain ⟨ho, hn, hzs, hB⟩ := h
  have hg : base ≤ g := by
    rcases ho.2 with ⟨h', _⟩ | ⟨g', cap', cur, h', hb, _⟩
    · simp at h'
    · simp only [Value.slice.injEq, Option.some.injEq, Addr.mk.injEq, and_true] at h'
      omega
  have hlen : n = zs.length := by
    rcases ho.2 with ⟨h', _⟩ | ⟨g', cap', cur, h', hb, _⟩
    · simp at h'
    · simp only [Value.slice.injEq] at h'
      omega
  subst hlen
  obtain ⟨h1, h2⟩ := ho.stored j (.int .u8 (z : Nat))
  refine ⟨⟨?_, by simpa using hn, ?_, Nat.le_trans hB h2.size⟩, fun B hb => (Below.refl _ _).setCell (by show B ≤ g; omega) _⟩
  · rw [List.length_set, show bitCells (zs.set j z) = (bitCells zs).set j (.int .u8 (z : Nat)) by simp [bitCells]]; exact h1
  · intro y hy
    rcases List.mem_or_eq_of_mem_set hy with h | h
    · exact hzs y h
    · omega
theorem Own.cell {w : World} {base g cap n : Nat} {zs : List Nat} (h : Own w base (.slice (some ⟨g, 0, none⟩) n cap) zs) (j : Nat) (hj : j < zs.length) : w.cell? ⟨g, j, none⟩ = some (.int .u8 (zs[j] : Nat)) ∧ w.frozen? ⟨g, j, none⟩ = false := by
  obtain ⟨ho, _⟩ := h
  have hlen : n = zs.length := by
    rcases ho.2 with ⟨h', _⟩ | ⟨g', cap', cur, h', hb, _⟩
    · simp at h'
    · simp only [Value.slice.injEq] at h'
      omega
  subst hlen
  exact ⟨by rw [ho.cellAt j (by omega), bitCells_get hj], ho.frozenAt j⟩

theorem wpList_make_bits {ops : Array Oper} {rest : List Oper} {o : Oper} {a : Act} {Q : Exit → Act → World → Prop} {w : World} (hg : o.guard = none) (l c : Operand) (hop : o.op = Op.makeSlice 31 l c)
    (n : Nat) (hl : a.eval l = .int .i64 (n : Int)) (hc : a.eval c = .int .i64 (n : Int)) (hn : n ≤ 140737488355328)
    (hK : ∀ w', Own w' w.heap.size (.slice (some ⟨w.heap.size, 0, none⟩) n n) (List.replicate n 0) → Below w.heap.size w w' → wpList Tryd.prog ops Q rest (a.put o.dst (.slice (some ⟨w.heap.size, 0, none⟩) n n)) w') :
    wpList Tryd.prog ops Q (o :: rest) a w := by
  obtain ⟨i, hi, hz, hsize, hby⟩ := info_parts Tryd.infoBit
  refine wpList_make_full _ hg l c 31 hop w.heap.size 22 i (.int .u8 0) 1 Tryd.underlying31 hi hz hsize _ _ _ _ n hl hc rfl rfl (by rw [hby]; omega) (by unfold maxLen; omega) (Nat.le_refl _) ?_
  intro w1 hown hg1
  exact hK w1 (Own.made hown hn hg1 (Nat.le_refl _)) ((Below.refl _ _).grown hg1 (Nat.le_refl _) (fun k hk => by cases hk))

theorem idx_yes {x : UInt8} {z : Nat} (h : lc x = z) (h3 : z ≤ 3) (w : World) :
    Calls Tryd.prog 50 #[.string ⟨#[48, 49, 120, 122]⟩, .int .u8 x.toNat] w fun e w' => e = .returned (.int .i64 (z : Nat)) ∧ w = w' := by
  have := idx_any x w
  unfold idxV at this
  rwa [h, if_pos h3] at this
theorem idx_no {x : UInt8} (h : ¬ lc x ≤ 3) (w : World) :
    Calls Tryd.prog 50 #[.string ⟨#[48, 49, 120, 122]⟩, .int .u8 x.toNat] w fun e w' => e = .returned (.int .i64 (-1)) ∧ w = w' := by
  have := idx_any x w
  unfold idxV at this
  rwa [if_neg h] at this

/-- The letters' bits after k rounds, the last first. -/
def revL (l : List UInt8) (k : Nat) : List Nat := ((l.take k).map lc).reverse
theorem revL_succ {l : List UInt8} {k : Nat} (h : k < l.length) : revL l (k + 1) = lc l[k] :: revL l k := by
  unfold revL
  rw [List.take_succ_eq_append_getElem h, List.map_append, List.reverse_append]; rfl
theorem revL_end {l : List UInt8} {k : Nat} (h : ¬ k < l.length) : revL l k = (l.map lc).reverse := by
  unfold revL; rw [List.take_of_length_le (by omega)]
theorem sl_nil (w : World) : Sl w (.slice none 0 0) [] := ⟨none, 0, rfl, by simp, by simp, .inl rfl⟩
theorem ret_vi {u : Value} {k' : IntKind} {c d : Int} (h' : c = d) : Ending.returned (.tuple #[u, .int k' c]) = .returned (.tuple #[u, .int k' d]) := by rw [h']

set_option maxHeartbeats 1000000 in
theorem parse_any (s : ByteArray) (w : World) :
    Calls Tryd.prog 39 #[.string s] w fun e w' => ∃ u, e = .returned (.tuple #[u, .int .i64 (parE s.data.toList : Nat)]) ∧ Sl w' u (parV s.data.toList) ∧ Below w.heap.size w w' := by
  have hl := byte_list s
  by_cases h1 : 1 ≤ s.size
  · by_cases h2 : s.size ≤ 64
    · have HF := Lib.hid (parB_fits (l := s.data.toList) (by omega) (by omega))
      have HL := Lib.hid hl
      clear hl
      go_enter Tryd.func39, Tryd.ntmps39
      go_wp2_with (refine wpList_make_bits rfl _ _ rfl s.size rfl rfl (by omega) ?_; intro w1 hown1 hb1)
      have HO1 := Lib.hid hown1
      have HB1 := Lib.hid hb1
      clear hown1 hb1
      go_loopw [20] (fun i wr => ∃ k : Nat, k ≤ s.size ∧ i = .int .i64 k ∧ Hid (lcB (s.data.toList.take k) = true) ∧ Own wr w.heap.size (.slice (some ⟨w.heap.size, 0, none⟩) s.size s.size) (fillB s.size k (revL s.data.toList k)) ∧ Below w.heap.size w wr) (fun i _ => s.size - (intOf i).toNat)
      case atStart => exact ⟨0, Nat.zero_le _, rfl, rfl, by simpa [fillB, revL] using HO1.out, HB1.out⟩
      case round =>
        obtain ⟨k, hk, rfl, hr, hown, hb⟩ := hrel
        have HO := Lib.hid hown
        have HB := Lib.hid hb
        clear hown hb
        by_cases hlt : k < s.size
        · have hlt' : k < s.data.toList.length := by rw [HL.out]; exact hlt
          have HX := Lib.hid (byte_get s k hlt hlt')
          by_cases h3 : lc s[k] ≤ 3
          · have HR := Lib.hid (lcB_take hlt' hr.out (by rw [HX.out]; exact h3))
            have HV := Lib.hid (revL_succ hlt')
            obtain ⟨z, hzz⟩ : ∃ z, lc s[k] = z := ⟨_, rfl⟩
            have HI := Lib.hid (fun w => idx_yes hzz (by omega) w)
            have HZ := Lib.hid hzz
            have hz3 : z ≤ 3 := by omega
            have hfl : (fillB s.size k (revL s.data.toList k)).length = s.size := by simp [fillB, revL]; omega
            obtain ⟨g, gf⟩ := HO.out.cell (s.size - 1 - k) (by rw [hfl]; omega)
            have HS := Lib.hid (HO.out.stored (s.size - 1 - k) z (by omega))
            generalize (fillB s.size k (revL s.data.toList k))[s.size - 1 - k] = y at g
            clear h3 hr hzz hfl
            go_wp2_with (go_at_call 50; refine (HI.out _).mono ?_; rintro e w' ⟨rfl, rfl⟩)
            go_roundw
            case rel => exact ⟨k + 1, by omega, by go_num, HR, by have := HS.out.1; rwa [fillB_set hlt, show z :: revL s.data.toList k = revL s.data.toList (k + 1) by rw [HV.out, HX.out, HZ.out]] at this, HB.out.trans (HS.out.2 _ (Nat.le_refl _))⟩
            case measure => simp [intOf]; omega
          · have HI := Lib.hid (fun w => idx_no h3 w)
            have HR : Hid (parB s.data.toList = false) := by
              have := lcB_no hlt' (by rw [HX.out]; exact h3)
              exact (HF.out).trans this
            clear h3 hr
            go_wp2_with (go_at_call 50; refine (HI.out _).mono ?_; rintro e w' ⟨rfl, rfl⟩)
            go_ret2
            exact ⟨_, ret_vi (by rw [(par_no HR.out).2]; rfl), by rw [(par_no HR.out).1]; exact sl_nil _, HB.out⟩
        · have HR : Hid (parB s.data.toList = true) := (HF.out).trans (lcB_end (by rw [HL.out]; exact hlt) hr.out)
          clear hr
          go_wp2
          go_ret2
          exact ⟨_, ret_vi (by rw [(par_yes HR.out).2]; rfl), by rw [(par_yes HR.out).1, ← revL_end (k := k) (by rw [HL.out]; exact hlt)]; have := HO.out.sl; rwa [fillB, show s.size - k = 0 by omega] at this, HB.out⟩
    · have HR := Lib.hid (par_no (parB_long (l := s.data.toList) (by omega)))
      clear hl
      go_enter Tryd.func39, Tryd.ntmps39
      go_wp2
      go_ret2
      exact ⟨_, ret_vi (by rw [HR.out.2]; rfl), by rw [HR.out.1]; exact sl_nil _, Below.refl _ _⟩
  · have HR := Lib.hid (par_no (parB_none (l := s.data.toList) (by omega)))
    clear hl
    go_enter Tryd.func39, Tryd.ntmps39
    go_wp2
    go_ret2
    exact ⟨_, ret_vi (by rw [HR.out.2]; rfl), by rw [HR.out.1]; exact sl_nil _, Below.refl _ _⟩
end Go.Proofs.YtaeehejnifhaaaaDoor
