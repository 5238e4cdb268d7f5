/- The contracts of the program's lettersOf and written, for types that are no arrays. -/
import Derived.Test.YtdiagnhdigakpaaGreatDoorKh
import Derived.Lib.Join
namespace Go.Proofs.YtdiagnhdigakpaaGreatDoor
open Go.RowKit

set_option maxRecDepth 100000 in
set_option maxHeartbeats 4000000 in
theorem lettersOf_any (v : Value) (zs : List Nat) (w : World) (h : Lg.Sl w v zs) :
    Calls Tryz.prog 114 #[v] w fun e w' => e = .returned (.string (Lg.txtV zs)) ∧ Below w.heap.size w w' := by
  have HT := Lib.hid (Lg.text_any v zs w h)
  obtain ⟨A, c, rfl, _⟩ := h
  go_enter Tryz.func114, Tryz.ntmps114
  go_wp2_with fail
  refine (HT.out).mono ?_
  rintro e w1 ⟨rfl, hb1⟩
  have H1 := Lib.hid hb1
  clear hb1
  go_wp2
  go_ret
  exact ⟨rfl, H1.out⟩
theorem txt_letters {zs : List Nat} (h1 : 1 ≤ zs.length) (h2 : zs.length ≤ 64) (h3 : ∀ z ∈ zs, z ≤ 3) : Lg.txtV zs = sb (lettersL zs) := by
  have hv : Lg.isV zs = true := by
    unfold Lg.isV
    simp only [Bool.and_eq_true, decide_eq_true_eq]
    refine ⟨⟨h1, h2⟩, ?_⟩
    unfold Lg.bitsB
    rw [List.all_eq_true]
    intro z hz
    rw [decide_eq_true_eq]
    exact h3 z hz
  unfold Lg.txtV
  rw [if_pos hv]
  rfl
/-- What written returns. -/
def WriPost (l : List UInt8) (w : World) (e : Ending) (w' : World) : Prop := e = .returned (.string (sb l)) ∧ Below w.heap.size w w'
theorem letters_size {bs : List Nat} (h : bs.length ≤ 64) : (sb (lettersL bs)).size ≤ 64 := by rw [sb_size]; unfold lettersL; simpa using h
set_option maxRecDepth 100000 in
set_option maxHeartbeats 8000000 in
theorem written_bit (l n k : Int) (nm : ByteArray) (v3 v4 u4 : Value) (A : Option Addr) (m c : Nat) (bs : List Nat) (hb : bs.length ≤ 64) (w : World)
    (HL : Hid (∀ u, Below w.heap.size w u → Calls Tryz.prog 114 #[.slice A m c] u fun e w' => e = .returned (.string (sb (lettersL bs))) ∧ Below u.heap.size u w')) :
    Calls Tryz.prog 78 #[.agg #[.int .i64 1, .int .i64 l, .string nm, v3, v4], .agg #[.int .i64 k, .int .i64 n, .slice A m c, u4]] w (WriPost (39 :: (lettersL bs ++ [39])) w) := by
  have H2 := Lib.hid (boxes2 w 26 38 #[.int .i64 1, .int .i64 l, .string nm, v3, v4] #[.int .i64 k, .int .i64 n, .slice A m c, u4])
  have H0 := Lib.hid H2.out.2.2.1
  have hz := letters_size hb
  have HR : Hid ((⟨#[39]⟩ : ByteArray) ++ sb (lettersL bs) ++ ⟨#[39]⟩ = sb (39 :: (lettersL bs ++ [39]))) := by
    show _ = _
    apply bl_inj
    rw [bl_append, bl_append, bl_sb, bl_sb]
    rfl
  have hz1 : (⟨#[39]⟩ : ByteArray).size = 1 := rfl
  generalize sb (lettersL bs) = x at *
  clear hb
  unfold WriPost
  go_enter Tryz.func78, Tryz.ntmps78
  go_wp2_with fail
  refine (HL.out _ H0.out).mono ?_
  rintro e w1 ⟨rfl, hb1⟩
  have H1 := Lib.hid (below_then H0.out hb1)
  clear hb1
  go_wp2
  go_ret
  exact ⟨by rw [← HR.out]; rfl, H1.out⟩
set_option maxRecDepth 100000 in
set_option maxHeartbeats 8000000 in
theorem written_vec (l n k : Int) (nm : ByteArray) (v3 v4 u4 : Value) (A : Option Addr) (m c : Nat) (bs : List Nat) (hb : bs.length ≤ 64) (w : World)
    (HL : Hid (∀ u, Below w.heap.size w u → Calls Tryz.prog 114 #[.slice A m c] u fun e w' => e = .returned (.string (sb (lettersL bs))) ∧ Below u.heap.size u w')) :
    Calls Tryz.prog 78 #[.agg #[.int .i64 4, .int .i64 l, .string nm, v3, v4], .agg #[.int .i64 k, .int .i64 n, .slice A m c, u4]] w (WriPost (98 :: 34 :: (lettersL bs ++ [34])) w) := by
  have H2 := Lib.hid (boxes2 w 26 38 #[.int .i64 4, .int .i64 l, .string nm, v3, v4] #[.int .i64 k, .int .i64 n, .slice A m c, u4])
  have H0 := Lib.hid H2.out.2.2.1
  have hz := letters_size hb
  have HR : Hid ((⟨#[98, 34]⟩ : ByteArray) ++ sb (lettersL bs) ++ ⟨#[34]⟩ = sb (98 :: 34 :: (lettersL bs ++ [34]))) := by
    show _ = _
    apply bl_inj
    rw [bl_append, bl_append, bl_sb, bl_sb]
    rfl
  have hz1 : (⟨#[98, 34]⟩ : ByteArray).size = 2 := rfl
  have hz2 : (⟨#[34]⟩ : ByteArray).size = 1 := rfl
  generalize sb (lettersL bs) = x at *
  clear hb
  unfold WriPost
  go_enter Tryz.func78, Tryz.ntmps78
  go_wp2_with fail
  refine (HL.out _ H0.out).mono ?_
  rintro e w1 ⟨rfl, hb1⟩
  have H1 := Lib.hid (below_then H0.out hb1)
  clear hb1
  go_wp2
  go_ret
  exact ⟨by rw [← HR.out]; rfl, H1.out⟩
set_option maxRecDepth 100000 in
set_option maxHeartbeats 8000000 in
theorem written_bool (l n k : Int) (nm : ByteArray) (v3 v4 u3 u4 : Value) (w : World) :
    Calls Tryz.prog 78 #[.agg #[.int .i64 2, .int .i64 l, .string nm, v3, v4], .agg #[.int .i64 k, .int .i64 n, u3, u4]] w (WriPost (if n = 1 then trueL else falseL) w) := by
  have H2 := Lib.hid (boxes2 w 26 38 #[.int .i64 2, .int .i64 l, .string nm, v3, v4] #[.int .i64 k, .int .i64 n, u3, u4])
  have H0 := Lib.hid H2.out.2.2.1
  have HF := Lib.hid (fun (b : Bool) (u : World) => formatBool_any b u)
  unfold WriPost
  by_cases h1 : n = 1
  · subst h1
    rw [if_pos rfl]
    go_enter Tryz.func78, Tryz.ntmps78
    go_wp2_with fail
    refine (HF.out true _).mono ?_
    rintro e w1 ⟨rfl, rfl⟩
    go_wp2
    go_ret
    exact ⟨rfl, H0.out⟩
  · rw [if_neg h1]
    have e1 : (n == 1) = false := by rw [beq_eq_false_iff_ne]; exact h1
    go_enter Tryz.func78, Tryz.ntmps78
    go_wp2_with fail
    refine (HF.out false _).mono ?_
    rintro e w1 ⟨rfl, rfl⟩
    go_wp2
    go_ret
    exact ⟨rfl, H0.out⟩
set_option maxRecDepth 100000 in
set_option maxHeartbeats 8000000 in
theorem written_int (l n k : Int) (nm : ByteArray) (v3 v4 u3 u4 : Value) (w : World) (h1 : -2147483648 ≤ n) (h2 : n ≤ 2147483647) (hw : Std w) :
    Calls Tryz.prog 78 #[.agg #[.int .i64 3, .int .i64 l, .string nm, v3, v4], .agg #[.int .i64 k, .int .i64 n, u3, u4]] w (WriPost (itoL n) w) := by
  have H2 := Lib.hid (boxes2 w 26 38 #[.int .i64 3, .int .i64 l, .string nm, v3, v4] #[.int .i64 k, .int .i64 n, u3, u4])
  have H0 := Lib.hid H2.out.2.2.1
  have HI := Lib.hid (itoa_any n (by omega) (by omega) _ (hw.later H0.out))
  unfold WriPost
  generalize sb (itoL n) = x at *
  clear hw h1 h2
  go_enter Tryz.func78, Tryz.ntmps78
  go_wp2_with fail
  refine (HI.out).mono ?_
  rintro e w1 ⟨rfl, hb1⟩
  have H1 := Lib.hid (below_then H0.out hb1)
  clear hb1
  go_wp2
  go_ret
  exact ⟨rfl, H1.out⟩
set_option maxRecDepth 100000 in
set_option maxHeartbeats 8000000 in
theorem written_enum (l k : Int) (nm s : ByteArray) (v4 u3 u4 : Value) (b off m c i : Nat) (hi : i < m) (w : World) (hc : w.cell? ⟨b, off + i, none⟩ = some (.string s)) :
    Calls Tryz.prog 78 #[.agg #[.int .i64 5, .int .i64 l, .string nm, .slice (some ⟨b, off, none⟩) m c, v4], .agg #[.int .i64 k, .int .i64 (i : Nat), u3, u4]] w (WriPost (bl s) w) := by
  have H2 := Lib.hid (boxes2 w 26 38 #[.int .i64 5, .int .i64 l, .string nm, .slice (some ⟨b, off, none⟩) m c, v4] #[.int .i64 k, .int .i64 (i : Nat), u3, u4])
  have H0 := Lib.hid H2.out.2.2.1
  have g := cell_stays H0.out hc
  have hi0 : (0 : Int) ≤ (i : Int) := by omega
  have hi1 : (i : Int) < (m : Int) := by omega
  clear hc
  unfold WriPost
  rw [sb_bl]
  go_enter Tryz.func78, Tryz.ntmps78
  go_wp2
  go_ret
  exact ⟨rfl, H0.out⟩
end Go.Proofs.YtdiagnhdigakpaaGreatDoor
/- The contract of the program's written: arrays. A row of strings of the call's own. -/
namespace Go.Proofs.YtdiagnhdigakpaaGreatDoor
open Go.RowKit

theorem Tryz.infoStr : (Tryz.prog.info? 9).map (fun i => (i.zero, i.size, i.bytes)) = some (some (.string ⟨#[]⟩), 1, 16) := by kernel_rfl
def strCells (xs : List ByteArray) : List Value := xs.map fun x => .string x
/-- The block g is a row of these strings. -/
def OwnP (w : World) (g : Nat) (n : Nat) (xs : List ByteArray) : Prop :=
  w.ownsRow g 9 1 (.slice (some ⟨g, 0, none⟩) n n) n (strCells xs) ∧ xs.length = n
theorem OwnP.made {w w' : World} {n : Nat} (h : w'.ownsRow w.heap.size 9 1 (.slice (some ⟨w.heap.size, 0, none⟩) n n) n (madeCells (Value.cells (.string ⟨#[]⟩)) (n * 1)).toList) : OwnP w' w.heap.size n (List.replicate n ⟨#[]⟩) := by
  refine ⟨?_, by simp⟩
  rw [show (madeCells (Value.cells (.string ⟨#[]⟩)) (n * 1)).toList = List.replicate (n * 1) (.string ⟨#[]⟩) from toList_madeCells_one _ _, Nat.mul_one] at h
  simpa [strCells] using h
theorem OwnP.cell {w : World} {g n : Nat} {xs : List ByteArray} (h : OwnP w g n xs) (j : Nat) (hj : j < n) : w.cell? ⟨g, j, none⟩ = some (.string (xs[j]'(by rw [h.2]; exact hj))) ∧ w.frozen? ⟨g, j, none⟩ = false := by
  obtain ⟨ho, hl⟩ := h
  refine ⟨?_, ho.frozenAt j⟩
  rw [ho.cellAt j (by omega)]
  unfold strCells
  rw [List.getElem?_map, List.getElem?_eq_getElem (by omega)]
  rfl
theorem OwnP.stored {w : World} {g n : Nat} {xs : List ByteArray} (h : OwnP w g n xs) (j : Nat) (y : ByteArray) : OwnP (w.setCell ⟨g, j, none⟩ (.string y)) g n (xs.set j y) := by
  obtain ⟨ho, hl⟩ := h
  obtain ⟨h1, _⟩ := ho.stored j (.string y)
  refine ⟨?_, by simpa using hl⟩
  rw [show strCells (xs.set j y) = (strCells xs).set j (.string y) by simp [strCells]]
  exact h1
theorem OwnP.kept {w w' : World} {g n : Nat} {xs : List ByteArray} (h : OwnP w g n xs) (hb : Below w.heap.size w w') : OwnP w' g n xs := by
  obtain ⟨ho, hl⟩ := h
  have hg : w.grownBy w' none := ⟨hb.os, hb.tape, hb.output, hb.size, fun k hk _ => hb.block k hk⟩
  exact ⟨ho.kept hg (.inr (by simp [Value.ownBlock])), hl⟩
theorem OwnP.lt {w : World} {g n : Nat} {xs : List ByteArray} (h : OwnP w g n xs) : g < w.heap.size := (h.1.lt g rfl).2
theorem wpList_make_strs {ops : Array Oper} {rest : List Oper} {o : Oper} {a : Act} {Q : Exit → Act → World → Prop} {w : World} (hg : o.guard = none) (l c : Operand) (hop : o.op = Op.makeSlice 23 l c)
    (n : Nat) (hl : a.eval l = .int .i64 (n : Int)) (hc : a.eval c = .int .i64 (n : Int)) (hn : n ≤ 20000)
    (hK : ∀ w', OwnP w' w.heap.size n (List.replicate n ⟨#[]⟩) → Below w.heap.size w w' → wpList Tryz.prog ops Q rest (a.put o.dst (.slice (some ⟨w.heap.size, 0, none⟩) n n)) w') :
    wpList Tryz.prog ops Q (o :: rest) a w := by
  obtain ⟨i, hi, hz, hsize, hby⟩ := info_parts Tryz.infoStr
  refine wpList_make_full _ hg l c 23 hop w.heap.size 9 i (.string ⟨#[]⟩) 1 Tryz.underlying23 hi hz hsize _ _ _ _ n hl hc rfl rfl (by rw [hby]; omega) (by unfold maxLen; omega) (Nat.le_refl _) ?_
  intro w1 hown hg1
  exact hK w1 (OwnP.made hown) ((Below.refl _ _).grown hg1 (Nat.le_refl _) (fun k hk => by cases hk))
/-- The parts after k rounds. -/
def rowX (xs : List ByteArray) (k : Nat) : List ByteArray := xs.take k ++ List.replicate (xs.length - k) ⟨#[]⟩
theorem rowX_zero (xs : List ByteArray) : rowX xs 0 = List.replicate xs.length ⟨#[]⟩ := by simp [rowX]
theorem rowX_set {xs : List ByteArray} {k : Nat} (h : k < xs.length) : (rowX xs k).set k xs[k] = rowX xs (k + 1) := by
  unfold rowX
  have hl : (xs.take k).length = k := by rw [List.length_take]; omega
  rw [List.set_append_right _ _ (by omega), hl, Nat.sub_self, List.take_succ_eq_append_getElem h, List.append_assoc]
  congr 1
  rw [show xs.length - k = (xs.length - (k + 1)) + 1 by omega, List.replicate_succ]
  rfl
theorem rowX_end {xs : List ByteArray} {k : Nat} (h : ¬ k < xs.length) : rowX xs k = xs := by
  unfold rowX
  rw [List.take_of_length_le (by omega), show xs.length - k = 0 by omega]
  simp
theorem inter_len (B : Nat) : ∀ {xs : List (List UInt8)}, (∀ x ∈ xs, x.length ≤ B) → ([44].intercalate xs).length ≤ (B + 1) * xs.length
  | [], _ => by simp [List.intercalate]
  | [x], h => by
    rw [join_one]
    have := h x (by simp)
    simp
    omega
  | x :: y :: r, h => by
    rw [join_two, List.length_append, List.length_cons]
    have h1 := h x (by simp)
    have h2 := inter_len B (xs := y :: r) (fun z hz => h z (by simp [hz]))
    rw [List.length_cons (a := x), Nat.mul_succ]
    omega
set_option maxRecDepth 100000 in
set_option maxHeartbeats 8000000 in
theorem written_arr (l : Nat) (h64 : l ≤ 64) (n k k1 l1 : Int) (nm nm1 : ByteArray) (v3 u3 : Value) (b off d c b' o' : Nat) (D A1 A2 : Option Addr) (n1 c1 n2 c2 : Nat) (ls : List Va) (xs : List ByteArray) (hl : ls.length = l) (hxl : xs.length = l) (hx : ∀ x ∈ xs, x.size ≤ 1000) (w : World) (_hlc : l ≤ c)
    (h5 : Hid (Ty5 w b off k1 l1 nm1 (.slice A1 n1 c1) (.slice A2 n2 c2))) (HD : Hid (ls.length = 0 ∨ D = some ⟨b', o', none⟩)) (HV : Hid (VaAt w ls b' o' ∨ ls.length = 0))
    (HX : Hid (∀ (j : Nat) (hj : j < ls.length) (hj' : j < xs.length) (u : World) (cs : List Value), Below w.heap.size w u → VaC u ls[j] cs → Calls Tryz.prog 78 #[.agg #[.int .i64 k1, .int .i64 l1, .string nm1, .slice A1 n1 c1, .slice A2 n2 c2], .agg cs.toArray] u (WriPost (bl xs[j]) u))) :
    Calls Tryz.prog 78 #[.agg #[.int .i64 6, .int .i64 (l : Nat), .string nm, v3, .slice (some ⟨b, off, none⟩) 1 d], .agg #[.int .i64 k, .int .i64 n, u3, .slice D l c]] w (WriPost (91 :: ([44].intercalate (xs.map bl) ++ [93])) w) := by
  have H2 := boxes2 w 26 38 #[.int .i64 6, .int .i64 (l : Nat), .string nm, v3, .slice (some ⟨b, off, none⟩) 1 d] #[.int .i64 k, .int .i64 n, u3, .slice D l c]
  have hjl := inter_len 1000 (xs := xs.map bl) (fun y hy => by
    obtain ⟨x, hx1, rfl⟩ := List.mem_map.1 hy
    rw [bl_len]
    exact hx x hx1)
  rw [List.length_map, hxl] at hjl
  have HJL := Lib.hid hjl
  have HXL := Lib.hid hxl
  have HLL := Lib.hid hl
  have hz : (sb ([44].intercalate (xs.map bl))).size ≤ 100000 := by
    rw [sb_size]
    have : 1001 * l ≤ 1001 * 64 := Nat.mul_le_mul_left _ h64
    omega
  have HR : Hid ((⟨#[91]⟩ : ByteArray) ++ sb ([44].intercalate (xs.map bl)) ++ ⟨#[93]⟩ = sb (91 :: ([44].intercalate (xs.map bl) ++ [93]))) := by
    show _ = _
    apply bl_inj
    rw [bl_append, bl_append, bl_sb, bl_sb]
    rfl
  obtain ⟨y, hy⟩ : ∃ y, sb ([44].intercalate (xs.map bl)) = y := ⟨_, rfl⟩
  have HY := Lib.hid hy
  rw [hy] at hz HR
  unfold WriPost
  rw [← HR.out]
  clear hjl hxl hl hx hy HR
  have H0 := Lib.hid H2.2.2.1
  have HT0 := Lib.hid H2.1
  have HV0 := Lib.hid H2.2.1
  clear H2
  go_enter Tryz.func78, Tryz.ntmps78
  go_wp2_with (refine wpList_make_strs rfl _ _ rfl l rfl rfl (by omega) ?_; intro w1 hown1 hb1; have HT1 := Lib.hid (HT0.out.later hb1); have HV1 := Lib.hid (HV0.out.later hb1); have HO1 := Lib.hid hown1; have HB1 := Lib.hid (below_then H0.out hb1); obtain ⟨p0, p1, p2, p3, p4⟩ := fives HT1.out; obtain ⟨q0, q1, q2, q3⟩ := four HV1.out; clear hown1 hb1 HT0 HV0 H0)
  replace HO1 : Hid (OwnP w1 (w.heap.size + 1 + 1) l (List.replicate l ⟨#[]⟩)) := Lib.hid (by have := HO1.out; rwa [World.size_alloc, World.size_alloc] at this)
  obtain ⟨b1, hb1⟩ : ∃ b1, w.heap.size + 1 + 1 = b1 := ⟨_, rfl⟩
  have HS1 : Hid (w.heap.size + 1 < b1) := by show _ < _; omega
  rw [hb1] at HO1 ⊢
  clear hb1 p0 p1 p2 p3 p4 q0 q1 q2 q3
  go_loopw [47] (fun i wr => ∃ j : Nat, j ≤ l ∧ i = .int .i64 (j : Nat) ∧ Hid (OwnP wr b1 l (rowX xs j)) ∧ Hid (Blk wr w.heap.size 26 #[.int .i64 6, .int .i64 (l : Nat), .string nm, v3, .slice (some ⟨b, off, none⟩) 1 d]) ∧ Hid (Blk wr (w.heap.size + 1) 38 #[.int .i64 k, .int .i64 n, u3, .slice D l c]) ∧ Hid (Below w.heap.size w wr)) (fun i _ => l - (intOf i).toNat)
  case atStart => exact ⟨0, Nat.zero_le _, rfl, by rw [rowX_zero, HXL.out]; exact HO1, HT1, HV1, HB1⟩
  case round =>
    obtain ⟨j, hj, rfl, HO, HT, HV2, HB⟩ := hrel
    clear HO1 HT1 HV1 HB1
    by_cases hlt : j < l
    · have hjl : j < ls.length := by rw [HLL.out]; exact hlt
      have hjx : j < xs.length := by rw [HXL.out]; exact hlt
      have hD : D = some ⟨b', o', none⟩ := HD.out.resolve_left (by omega)
      subst hD
      obtain ⟨p0, p1, p2, p3, p4⟩ := fives HT.out
      obtain ⟨q0, q1, q2, q3⟩ := four HV2.out
      obtain ⟨e0, e1, e2, e3, e4⟩ := h5.out.later HB.out
      obtain ⟨kk, nn, B1, m1, d1, B2, m2, d2, hva, g0, g1, g2, g3⟩ := row_at ls o' (HV.out.resolve_right (by omega)) j hjl
      replace g0 := cell_stays HB.out g0
      replace g1 := cell_stays HB.out g1
      replace g2 := cell_stays HB.out g2
      replace g3 := cell_stays HB.out g3
      have HC := Lib.hid (HX.out j hjl hjx (wr.drewN 1) _ (below_drewN HB.out 1) (VaC.later (below_drewN HB.out 1) _ _ hva))
      have HSet := Lib.hid (rowX_set hjx)
      obtain ⟨x, hx⟩ : ∃ x, xs[j] = x := ⟨_, rfl⟩
      rw [hx] at HC HSet
      unfold WriPost at HC
      rw [sb_bl] at HC
      have t1 : decide ((j : Int) < (l : Int)) = true := by rw [decide_eq_true_eq]; omega
      have t2 : decide (j < l) = true := by rw [decide_eq_true_eq]; omega
      have hji : (j : Int) < (l : Int) := by omega
      have hj0 : (0 : Int) ≤ (j : Int) := by omega
      clear hva hx hjl hjx h5 HX
      go_wp2_with fail
      go_region_with (go_at_call 78; refine (HC.out).mono ?_; rintro e w3 ⟨rfl, hb3⟩; have HO3 := Lib.hid ((HO.out.kept (below_drewN (Below.refl _ wr) 1)).kept hb3); have HT3 := Lib.hid (HT.out.later (below_then (below_drewN (Below.refl _ wr) 1) hb3)); have HV3 := Lib.hid (HV2.out.later (below_then (below_drewN (Below.refl _ wr) 1) hb3)); have HB3 := Lib.hid (below_then (below_drewN HB.out 1) hb3); obtain ⟨k0, k1⟩ := HO3.out.cell j hlt; generalize (rowX xs j)[j]'(by rw [HO3.out.2]; exact hlt) = u0 at k0; clear hb3)
      all_goals
        have HO4 := Lib.hid (HO3.out.stored j x)
        rw [HSet.out] at HO4
        have HT4 := Lib.hid (HT3.out.other (a := ⟨b1, j, none⟩) (by have := HS1.out; show b1 ≠ _; omega) (.string x))
        have HV4 := Lib.hid (HV3.out.other (a := ⟨b1, j, none⟩) (by have := HS1.out; show b1 ≠ _; omega) (.string x))
        have HB4 : Hid (Below w.heap.size w (w3.setCell ⟨b1, j, none⟩ (.string x))) := HB3.out.setCell (by have := HS1.out; show _ ≤ b1; omega) _
        go_wp2
        go_roundw
        case rel => exact ⟨j + 1, by omega, by go_num, HO4, HT4, HV4, HB4⟩
        case measure => simp [intOf]; omega
    · have t1 : decide ((j : Int) < (l : Int)) = false := by rw [decide_eq_false_iff_not]; omega
      have t2 : decide (j < l) = false := by rw [decide_eq_false_iff_not]; omega
      have HJ : Hid (Calls Tryz.prog 116 #[.slice (some ⟨b1, 0, none⟩) l l, .string ⟨#[44]⟩] wr fun e w' => e = .returned (.string y) ∧ Below wr.heap.size wr w') := by
        have hr : rowX xs j = xs := rowX_end (by rw [HXL.out]; exact hlt)
        have hO := HO.out
        rw [hr] at hO
        have := join_any b1 0 l xs ⟨#[44]⟩ wr (fun i x hx => by
          have hi : i < xs.length := by
            rcases Nat.lt_or_ge i xs.length with h | h
            · exact h
            · rw [List.getElem?_eq_none (by omega)] at hx; cases hx
          rw [Nat.zero_add, (hO.cell i (by rw [← HXL.out]; exact hi)).1]
          rw [List.getElem?_eq_getElem hi] at hx
          injection hx with hx
          rw [hx]) hO.lt (by have := HXL.out; omega) (by have := HXL.out; omega) (by
            have h1 := HJL.out
            have : 1001 * l ≤ 1001 * 64 := Nat.mul_le_mul_left _ h64
            show ([44].intercalate (xs.map bl)).length ≤ _
            omega)
        rw [HXL.out] at this
        show Calls _ _ _ _ _
        rw [← HY.out]
        exact this
      clear h5 HX
      go_wp2_with fail
      refine HJ.out.mono ?_
      rintro e w2 ⟨rfl, hb2⟩
      have HB2 := Lib.hid (below_then HB.out hb2)
      clear hb2
      go_wp2
      go_ret
      exact ⟨rfl, HB2.out⟩
end Go.Proofs.YtdiagnhdigakpaaGreatDoor
/- The contracts of the program's written and Text. -/
namespace Go.Proofs.YtdiagnhdigakpaaGreatDoor
open Go.RowKit

theorem pwritten_flat {t : Ty} {v : Va} {w : World} {cs c1 : List Value} (ht : Flat isNameL t) (hv : HasF t v) (hw : Std w) (h : TyC w t cs) (h1 : VaC w v c1) :
    Calls Tryz.prog 78 #[.agg cs.toArray, .agg c1.toArray] w (WriPost (textV t v) w) := by
  obtain ⟨A, n, c, B, m, d, rfl, hn, -, hs, -⟩ := tyC_open h
  obtain ⟨C, x, p, D, y, q, rfl, hx, -, hb, -⟩ := vaC_open h1
  cases ht with
  | sc k hk =>
    rcases hk with rfl | rfl | rfl
    · cases hv with
      | bit _ _ _ _ z hz =>
      rw [textV_bit]
      refine written_bit 0 0 1 noName _ _ _ C x p [z] (by simp) w ?_
      intro u hu
      rw [← txt_letters (by simp) (by simp) (by simpa using hz)]
      exact lettersOf_any _ _ u (bitS_sl (hb.later hu) (by simp))
    · cases hv with
      | bool _ _ _ _ z hz =>
      rw [textV_bool]
      exact written_bool 0 z 2 noName _ _ _ _ w
    · cases hv with
      | int _ _ _ _ z g1 g2 =>
      rw [textV_int]
      exact written_int 0 z 3 noName _ _ _ _ w g1 g2 hw
  | vec l h1 h2 =>
    cases hv with
    | vec _ _ _ _ bs hl hb3 =>
    rw [textV_vec]
    have hl1 : bs.length = l := by omega
    refine written_vec (l : Int) 0 4 noName _ _ _ C x p bs (by omega) w ?_
    intro u hu
    rw [← txt_letters (by omega) (by omega) hb3]
    exact lettersOf_any _ _ u (bitS_sl (hb.later hu) (by show bs.length ≤ _; omega))
  | en nm ns hp hns =>
    cases hv with
    | en _ _ _ _ i hi =>
    rw [textV_enum]
    obtain ⟨A', c', e', hc1, hc2, hc⟩ := hs
    injection e' with e1 e2 e3
    subst e1
    subst e2
    subst e3
    rcases hc with hc | ⟨b, off, rfl, hc⟩
    · have hc : ns = [] := hc
      rw [hc] at hi
      exact absurd hi (Nat.not_lt_zero _)
    have hi' : i < ns.length := hi
    have hg : ns.getD (i : Int).toNat noName = ns[i] := by
      rw [Int.toNat_natCast, List.getD_eq_getElem?_getD, List.getElem?_eq_getElem hi']
      rfl
    rw [hg]
    exact written_enum 0 5 nm ns[i] _ _ _ b off _ _ i hi' w (hc i hi')
theorem itoL_len {n : Int} (h1 : -2147483648 ≤ n) (h2 : n ≤ 2147483647) : (itoL n).length ≤ 1000 := by
  rcases ito_cases n with ⟨m, hm, h⟩ | ⟨m, _, hm, h⟩
  · rw [h]
    have := dec_len (k := 10) (n := m) (by omega) (by omega)
    omega
  · rw [h, List.length_cons]
    have := dec_len (k := 10) (n := m) (by omega) (by omega)
    omega
theorem flat_text_len {t : Ty} {v : Va} (ht : Flat isNameL t) (hsm : smT t) (hv : HasF t v) : (textV t v).length ≤ 1000 := by
  cases ht with
  | sc k hk =>
    rcases hk with rfl | rfl | rfl
    · cases hv with
      | bit _ _ _ _ z hz => rw [textV_bit]; simp [lettersL]
    · cases hv with
      | bool _ _ _ _ z hz =>
        rw [textV_bool]
        rcases hz with rfl | rfl
        · simp [falseL]
        · simp [trueL]
    · cases hv with
      | int _ _ _ _ z h1 h2 =>
        rw [textV_int]
        exact itoL_len h1 h2
  | vec l h1 h2 =>
    cases hv with
    | vec _ _ _ _ bs hl hb3 =>
      rw [textV_vec]
      simp [lettersL]
      omega
  | en nm ns hp hns =>
    cases hv with
    | en _ _ _ _ i hi =>
      rw [textV_enum, bl_len]
      rw [smT_def] at hsm
      rw [Int.toNat_natCast, List.getD_eq_getElem?_getD, List.getElem?_eq_getElem hi]
      have := hsm.2.2.2.1 _ (List.getElem_mem hi)
      show ns[i].size ≤ 1000
      omega
theorem pwritten_any {t : Ty} {v : Va} {w : World} {cs c1 : List Value} (ht : Good isNameL t) (hsm : smT t) (hv : HasG t v) (hw : Std w) (h : TyC w t cs) (h1 : VaC w v c1) :
    Calls Tryz.prog 78 #[.agg cs.toArray, .agg c1.toArray] w (WriPost (textV t v) w) := by
  cases ht with
  | flat t ht =>
    cases hv with
    | flat _ _ hv => exact pwritten_flat ht hv hw h h1
    | arr l nm ns e ls hl hv =>
      have := (flat_kind ht).1
      exact absurd rfl this
  | arr l e g1 g2 he =>
    cases hv with
    | flat _ _ hv => cases hv
    | arr _ _ _ _ ls hl hv =>
    have hse : smT e := ((smT_def _ _ _ _ _).1 hsm).2.2.2.2 e (by simp)
    obtain ⟨A, n, c, B, m, d, rfl, hn, rfl, hs, hT⟩ := tyC_open h
    rcases hT with hT | ⟨b, off, rfl, hT⟩
    · cases hT
    obtain ⟨A1, n1, c1, A2, n2, c2, k1, k5⟩ := one_open hT
    obtain ⟨C, x, p, D, y, q, rfl, hx, hy, hb, hyq, -, hL⟩ := vaC_open h1
    obtain ⟨b', o', hD, hV⟩ := va_rows hL
    have hll : ls.length = l := by omega
    have hy' : y = l := by rw [hy]; exact hll
    subst hy'
    rw [textV_arr]
    have := written_arr y g2 0 6 e.kind e.len noName e.name (.slice A n c) (.slice C x p) b off d q b' o' D A1 A2 n1 c1 n2 c2 ls (ls.map fun v => sb (textV e v)) hll (by rw [List.length_map, hll]) (by
        intro x hx
        obtain ⟨v, hv1, rfl⟩ := List.mem_map.1 hx
        rw [sb_size]
        exact flat_text_len he hse (hv v hv1)) w hyq k5 hD hV (by
        intro j hj hj' u cs hu hva
        rw [List.getElem_map, bl_sb]
        exact pwritten_flat (t := e) he (hv _ (List.getElem_mem hj)) (hw.later hu) (TyC.later hu _ _ k1) hva)
    rw [List.map_map, show (bl ∘ fun v => sb (textV e v)) = fun v => textV e v from funext fun v => bl_sb _] at this
    exact this
/-- What Text returns. -/
def textR (t : Ty) (v : Va) : List UInt8 := if hasT t v then textV t v else []
def hasE (t : Ty) (v : Va) : Nat := if hasT t v then 0 else 2
set_option maxRecDepth 100000 in
set_option maxHeartbeats 4000000 in
theorem text_gen (k l k1 n1 : Int) (nm : ByteArray) (t3 t4 v5 v6 : Value) (a : Bool) (s : List UInt8) (w : World)
    (HA : Hid (∀ u, Below w.heap.size w u → Calls Tryz.prog 30 #[.agg #[.int .i64 k, .int .i64 l, .string nm, t3, t4], .agg #[.int .i64 k1, .int .i64 n1, v5, v6]] u fun e w' => e = .returned (.bool a) ∧ Below u.heap.size u w'))
    (HX : Hid (a = true → ∀ u, Below w.heap.size w u → Calls Tryz.prog 78 #[.agg #[.int .i64 k, .int .i64 l, .string nm, t3, t4], .agg #[.int .i64 k1, .int .i64 n1, v5, v6]] u (WriPost s u))) :
    Calls Tryz.prog 34 #[.agg #[.int .i64 k, .int .i64 l, .string nm, t3, t4], .agg #[.int .i64 k1, .int .i64 n1, v5, v6]] w fun e w' => e = .returned (.tuple #[.string (sb (if a then s else [])), .int .i64 (if a then 0 else 2 : Nat)]) ∧ Below w.heap.size w w' := by
  have H2 := Lib.hid (boxes2 w 26 38 #[.int .i64 k, .int .i64 l, .string nm, t3, t4] #[.int .i64 k1, .int .i64 n1, v5, v6])
  have H0 := Lib.hid H2.out.2.2.1
  cases a
  · clear HX
    go_enter Tryz.func34, Tryz.ntmps34
    go_wp2_with fail
    refine (HA.out _ H0.out).mono ?_
    rintro e w1 ⟨rfl, hb1⟩
    have H1 := Lib.hid (below_then H0.out hb1)
    clear hb1
    go_wp2
    go_ret2
    exact ⟨rfl, H1.out⟩
  · have HY := Lib.hid (HX.out rfl)
    clear HX
    rw [if_pos rfl, if_pos rfl]
    unfold WriPost at HY
    generalize sb s = x at *
    go_enter Tryz.func34, Tryz.ntmps34
    go_wp2_with fail
    refine (HA.out _ H0.out).mono ?_
    rintro e w1 ⟨rfl, hb1⟩
    have H1 := Lib.hid (below_then H0.out hb1)
    obtain ⟨p0, p1, p2, p3, p4⟩ := fives (H2.out.1.later hb1)
    obtain ⟨q0, q1, q2, q3⟩ := four (H2.out.2.1.later hb1)
    clear hb1
    go_wp2_with fail
    refine (HY.out _ H1.out).mono ?_
    rintro e w2 ⟨rfl, hb2⟩
    have H3 := Lib.hid (below_then H1.out hb2)
    clear hb2 p0 p1 p2 p3 p4 q0 q1 q2 q3
    go_wp2
    go_ret2
    exact ⟨rfl, H3.out⟩
theorem ptext_any (t : Ty) (v : Va) (cs c1 : List Value) (w : World) (ht : smT t) (hw : Std w) (h : TyC w t cs) (h1 : VaC w v c1) :
    Calls Tryz.prog 34 #[.agg cs.toArray, .agg c1.toArray] w fun e w' => e = .returned (.tuple #[.string (sb (textR t v)), .int .i64 (hasE t v : Nat)]) ∧ Below w.heap.size w w' := by
  have h0 := h
  have h10 := h1
  obtain ⟨A, n, c, B, m, d, rfl, _⟩ := tyC_open h
  obtain ⟨C, x, p, D, y, q, rfl, _⟩ := vaC_open h1
  exact text_gen _ _ _ _ _ _ _ _ _ (hasT t v) (textV t v) w (fun z hz => phas_any t v _ _ z ht (TyC.later hz _ _ h0) (VaC.later hz _ _ h10))
    (fun ha z hz => pwritten_any (hasT_good ha).1 ht (hasT_good ha).2 (hw.later hz) (TyC.later hz _ _ h0) (VaC.later hz _ _ h10))
end Go.Proofs.YtdiagnhdigakpaaGreatDoor
/- The contracts of the program's scalarWidth and Width. -/
namespace Go.Proofs.YtdiagnhdigakpaaGreatDoor
open Go.RowKit

/-- How many bits a scalar has. -/
def swT (t : Ty) : Nat := if t.kind = 5 then encN t.names.length else 1
theorem enc_len : ∀ n : Nat, 1 ≤ n → n ≤ 16 → (max 1 (Lib.bitLen (n - 1) : Nat) : Nat) = encN n ∧ Lib.bitLen (n - 1) ≤ 4 := by
  intro n h1 h2
  have h : n - 1 < 16 := by omega
  obtain ⟨m, rfl⟩ : ∃ m, n = m + 1 := ⟨n - 1, by omega⟩
  rw [Nat.add_sub_cancel] at h ⊢
  clear h1 h2
  have : ∀ m, m < 16 → ((max 1 (Lib.bitLen m : Nat) : Nat) = encN (m + 1) ∧ Lib.bitLen m ≤ 4) := by decide +kernel
  exact this m h
set_option maxRecDepth 100000 in
set_option maxHeartbeats 4000000 in
theorem swidth_enum (l : Int) (nm : ByteArray) (A : Option Addr) (n c : Nat) (h1 : 1 ≤ n) (h2 : n ≤ 16) (v4 : Value) (w : World) :
    Calls Tryz.prog 72 #[.agg #[.int .i64 5, .int .i64 l, .string nm, .slice A n c, v4]] w fun e w' => e = .returned (.int .i64 (encN n : Nat)) ∧ Below w.heap.size w w' := by
  have H0 := Lib.hid (below_alloc w (.cells #[.int .i64 5, .int .i64 l, .string nm, .slice A n c, v4] 26))
  obtain ⟨m, rfl⟩ : ∃ m, n = m + 1 := ⟨n - 1, by omega⟩
  obtain ⟨he, hl⟩ := enc_len (m + 1) h1 h2
  rw [Nat.add_sub_cancel] at he hl
  have HL := Lib.hid (fun (u : World) => bitsLen_any m (by omega) u)
  have hm : IntKind.i64.wrap (((m + 1 : Nat) : Int) - 1) = (m : Int) := by
    rw [show (((m + 1 : Nat) : Int) - 1) = (m : Int) by omega]
    exact IntWalk.i64_in _ (by omega)
  have HE := Lib.hid he
  clear he
  generalize Lib.bitLen m = x at *
  go_enter Tryz.func72, Tryz.ntmps72
  go_wp2_with fail
  refine (HL.out _).mono ?_
  rintro e w1 ⟨rfl, rfl⟩
  go_wp2
  go_ret
  refine ⟨?_, H0.out⟩
  rw [← HE.out]
  show Ending.returned (.int .i64 (max 1 (x : Int))) = Ending.returned (.int .i64 ((max 1 x : Nat) : Int))
  rw [show max 1 (x : Int) = ((max 1 x : Nat) : Int) by omega]
set_option maxRecDepth 100000 in
set_option maxHeartbeats 4000000 in
theorem swidth_other (k l : Int) (hk : (k == 5) = false) (nm : ByteArray) (v3 v4 : Value) (w : World) :
    Calls Tryz.prog 72 #[.agg #[.int .i64 k, .int .i64 l, .string nm, v3, v4]] w fun e w' => e = .returned (.int .i64 (1 : Nat)) ∧ Below w.heap.size w w' := by
  have H0 := Lib.hid (below_alloc w (.cells #[.int .i64 k, .int .i64 l, .string nm, v3, v4] 26))
  go_enter Tryz.func72, Tryz.ntmps72
  go_wp2
  go_ret
  exact ⟨rfl, H0.out⟩
theorem swidth_any {st : Ty} {cs : List Value} {w : World} (h1 : st.kind = 5 → 1 ≤ st.names.length ∧ st.names.length ≤ 16) (h : TyC w st cs) :
    Calls Tryz.prog 72 #[.agg cs.toArray] w fun e w' => e = .returned (.int .i64 (swT st : Nat)) ∧ Below w.heap.size w w' := by
  obtain ⟨A, n, c, B, m, d, rfl, hn, _⟩ := tyC_open h
  unfold swT
  by_cases hk : st.kind = 5
  · rw [if_pos hk, hk, ← hn]
    obtain ⟨a, b⟩ := h1 hk
    exact swidth_enum _ _ A n c (by omega) (by omega) _ w
  · rw [if_neg hk]
    exact swidth_other _ _ (by rw [beq_eq_false_iff_ne]; exact hk) _ _ _ w
theorem widthT_mk (k l : Int) (nm : ByteArray) (ns : List ByteArray) (es : List Ty) (h3 : ¬ k = 3) (h4 : ¬ k = 4) (h5 : ¬ k = 5) (h6 : ¬ k = 6) : widthT (.mk k l nm ns es) = some 1 := by
  match es with
  | [] => simp [widthT, h3, h4, h5, h6]
  | [e] => simp [widthT, h3, h4, h5, h6]
  | e :: e2 :: r => simp [widthT, h3, h4, h5, h6]
theorem widthT_int (l : Int) (nm : ByteArray) (ns : List ByteArray) (es : List Ty) : widthT (.mk 3 l nm ns es) = none := by
  match es with
  | [] => simp [widthT]
  | [e] => simp [widthT]
  | e :: e2 :: r => simp [widthT]
theorem widthT_vec (l : Int) (nm : ByteArray) (ns : List ByteArray) (es : List Ty) : widthT (.mk 4 l nm ns es) = some l.toNat := by
  match es with
  | [] => simp [widthT]
  | [e] => simp [widthT]
  | e :: e2 :: r => simp [widthT]
theorem widthT_enum (l : Int) (nm : ByteArray) (ns : List ByteArray) (es : List Ty) : widthT (.mk 5 l nm ns es) = some (encN ns.length) := by
  match es with
  | [] => simp [widthT]
  | [e] => simp [widthT]
  | e :: e2 :: r => simp [widthT]
theorem flat_width {f : List UInt8 → Bool} {t : Ty} (h : Flat f t) : ((scalarT t).kind = 3 ∧ widthT t = none) ∨ (¬ (scalarT t).kind = 3 ∧ widthT t = some (countT t * swT (scalarT t))) := by
  cases h with
  | sc k hk =>
    rcases hk with rfl | rfl | rfl
    · right
      rw [scalarT_mk _ _ _ _ _ (by omega) (by omega), widthT_mk _ _ _ _ _ (by omega) (by omega) (by omega) (by omega), countT_mk _ _ _ _ _ (by omega) (by omega)]
      exact ⟨by decide, rfl⟩
    · right
      rw [scalarT_mk _ _ _ _ _ (by omega) (by omega), widthT_mk _ _ _ _ _ (by omega) (by omega) (by omega) (by omega), countT_mk _ _ _ _ _ (by omega) (by omega)]
      exact ⟨by decide, rfl⟩
    · left
      rw [scalarT_mk _ _ _ _ _ (by omega) (by omega), widthT_int]
      exact ⟨rfl, rfl⟩
  | vec l h1 h2 =>
    right
    rw [scalarT_vec, widthT_vec, countT_vec]
    exact ⟨by decide, by rw [show swT bitT = 1 from rfl, Nat.mul_one]⟩
  | en nm ns hp hn =>
    right
    rw [scalarT_mk _ _ _ _ _ (by omega) (by omega), widthT_enum, countT_mk _ _ _ _ _ (by omega) (by omega), Nat.one_mul]
    exact ⟨by show ¬ (5 : Int) = 3; decide, rfl⟩
theorem good_width {f : List UInt8 → Bool} {t : Ty} (h : Good f t) : ((scalarT t).kind = 3 ∧ widthT t = none) ∨ (¬ (scalarT t).kind = 3 ∧ widthT t = some (countT t * swT (scalarT t))) := by
  cases h with
  | flat t h => exact flat_width h
  | arr l e h1 h2 h =>
    rw [scalarT_arr, widthT_arr, countT_arr]
    rcases flat_width h with ⟨a, b⟩ | ⟨a, b⟩
    · left
      exact ⟨a, by rw [b]; rfl⟩
    · right
      refine ⟨a, ?_⟩
      rw [b]
      show some ((countT e * swT (scalarT e)) * (l : Int).toNat) = some (((l : Int).toNat * countT e) * swT (scalarT e))
      rw [Nat.mul_comm (countT e * swT (scalarT e)), Nat.mul_assoc]
theorem flat_scalar_names {f : List UInt8 → Bool} {t : Ty} (h : Flat f t) : (scalarT t).kind = 5 → 1 ≤ (scalarT t).names.length ∧ (scalarT t).names.length ≤ 16 := by
  cases h with
  | sc k hk =>
    rw [scalarT_mk _ _ _ _ _ (by omega) (by omega)]
    intro h
    have h : k = 5 := h
    omega
  | vec l h1 h2 =>
    rw [scalarT_vec]
    intro h
    exact absurd h (by decide)
  | en nm ns hp hn =>
    rw [scalarT_mk _ _ _ _ _ (by omega) (by omega)]
    intro _
    unfold namesOk at hn
    simp only [Bool.and_eq_true, decide_eq_true_eq] at hn
    exact ⟨hn.1, hn.2.1⟩
theorem good_scalar_names {f : List UInt8 → Bool} {t : Ty} (h : Good f t) : (scalarT t).kind = 5 → 1 ≤ (scalarT t).names.length ∧ (scalarT t).names.length ≤ 16 := by
  cases h with
  | flat t h => exact flat_scalar_names h
  | arr l e h1 h2 h => rw [scalarT_arr]; exact flat_scalar_names h
theorem enc_le (n : Nat) : 1 ≤ encN n ∧ encN n ≤ 4 := by unfold encN; split <;> (try split) <;> (try split) <;> omega
theorem sw_le (t : Ty) : 1 ≤ swT t ∧ swT t ≤ 4 := by
  unfold swT
  split
  · exact enc_le _
  · omega
/-- What Width returns. -/
def widR (t : Ty) : Nat := if validT isNameL t then (widthT t).getD 0 else 0
def widE (t : Ty) : Nat := if validT isNameL t then (if (widthT t).isSome then 0 else 16) else 2
set_option maxRecDepth 100000 in
set_option maxHeartbeats 8000000 in
theorem width_gen (k l : Int) (nm : ByteArray) (v3 v4 : Value) (a : Bool) (st : Ty) (cn sn : Nat) (hcn : cn ≤ 4096) (hsn : sn ≤ 4) (w : World)
    (HA : Hid (∀ u, Below w.heap.size w u → Calls Tryz.prog 16 #[.agg #[.int .i64 k, .int .i64 l, .string nm, v3, v4]] u fun e w' => e = .returned (.bool a) ∧ Below u.heap.size u w'))
    (HS : Hid (a = true → ∀ u, Below w.heap.size w u → Calls Tryz.prog 66 #[.agg #[.int .i64 k, .int .i64 l, .string nm, v3, v4]] u (ScalarPost u st)))
    (HC : Hid (a = true → ∀ u, Below w.heap.size w u → Calls Tryz.prog 71 #[.agg #[.int .i64 k, .int .i64 l, .string nm, v3, v4]] u fun e w' => e = .returned (.int .i64 (cn : Nat)) ∧ Below u.heap.size u w'))
    (HW : Hid (a = true → ∀ u cs, TyC u st cs → Calls Tryz.prog 72 #[.agg cs.toArray] u fun e w' => e = .returned (.int .i64 (sn : Nat)) ∧ Below u.heap.size u w')) :
    Calls Tryz.prog 25 #[.agg #[.int .i64 k, .int .i64 l, .string nm, v3, v4]] w fun e w' => e = .returned (.tuple #[.int .i64 (if a then (if st.kind = 3 then 0 else cn * sn) else 0 : Nat), .int .i64 (if a then (if st.kind = 3 then 16 else 0) else 2 : Nat)]) ∧ Below w.heap.size w w' := by
  have H0 := Lib.hid (below_alloc w (.cells #[.int .i64 k, .int .i64 l, .string nm, v3, v4] 26))
  have HK := Lib.hid (box1 w 26 #[.int .i64 k, .int .i64 l, .string nm, v3, v4])
  cases a
  · clear HS HC HW
    go_enter Tryz.func25, Tryz.ntmps25
    go_wp2_with fail
    refine (HA.out _ H0.out).mono ?_
    rintro e w1 ⟨rfl, hb1⟩
    have H1 := Lib.hid (below_then H0.out hb1)
    clear hb1
    go_wp2
    go_ret2
    exact ⟨rfl, H1.out⟩
  · have HSY := Lib.hid (HS.out rfl)
    have HCY := Lib.hid (HC.out rfl)
    have HWY := Lib.hid (HW.out rfl)
    clear HS HC HW
    rw [if_pos rfl, if_pos rfl]
    unfold ScalarPost at HSY
    by_cases h3 : st.kind = 3
    · rw [if_pos h3, if_pos h3]
      obtain ⟨k2, l2, nm2, ns2, es2⟩ := st
      have h3 : k2 = 3 := h3
      subst h3
      clear HCY HWY
      go_enter Tryz.func25, Tryz.ntmps25
      go_wp2_with fail
      refine (HA.out _ H0.out).mono ?_
      rintro e w1 ⟨rfl, hb1⟩
      have H1 := Lib.hid (below_then H0.out hb1)
      obtain ⟨p0, p1, p2, p3, p4⟩ := fives (HK.out.later hb1)
      clear hb1
      go_wp2_with fail
      refine (HSY.out _ H1.out).mono ?_
      rintro e w2 ⟨A, n, c, B, m, d, rfl, -, hb2⟩
      have H2 := Lib.hid (below_then H1.out hb2)
      have H3 := Lib.hid (below_then H2.out (below_alloc w2 (.cells #[.int .i64 3, .int .i64 l2, .string nm2, .slice A n c, .slice B m d] 26)))
      clear hb2 p0 p1 p2 p3 p4
      dsimp only [Ty.kind, Ty.len, Ty.name]
      go_wp2
      go_ret2
      exact ⟨rfl, H3.out⟩
    · rw [if_neg h3, if_neg h3]
      obtain ⟨k2, l2, nm2, ns2, es2⟩ := st
      have b3 : (k2 == 3) = false := by rw [beq_eq_false_iff_ne]; exact h3
      have hmul : IntKind.i64.wrap ((cn : Int) * (sn : Int)) = ((cn * sn : Nat) : Int) := by
        have : cn * sn ≤ 4096 * 4 := Nat.mul_le_mul hcn hsn
        rw [← Int.natCast_mul]
        exact IntWalk.i64_in _ (by omega)
      clear h3 hcn hsn
      go_enter Tryz.func25, Tryz.ntmps25
      go_wp2_with fail
      refine (HA.out _ H0.out).mono ?_
      rintro e w1 ⟨rfl, hb1⟩
      have H1 := Lib.hid (below_then H0.out hb1)
      have K1 := Lib.hid (HK.out.later hb1)
      obtain ⟨p0, p1, p2, p3, p4⟩ := fives K1.out
      clear hb1
      go_wp2_with fail
      refine (HSY.out _ H1.out).mono ?_
      rintro e w2 ⟨A, n, c, B, m, d, rfl, hty, hb2⟩
      dsimp only [Ty.kind, Ty.len, Ty.name] at hty ⊢
      have H2 := Lib.hid (below_then H1.out hb2)
      have H3 : Hid (Below w.heap.size w ((w2.alloc (.cells #[.int .i64 k2, .int .i64 l2, .string nm2, .slice A n c, .slice B m d] 26)).drewN 1)) := below_drewN (below_then H2.out (below_alloc w2 (.cells #[.int .i64 k2, .int .i64 l2, .string nm2, .slice A n c, .slice B m d] 26))) 1
      have K3 : Hid (Blk ((w2.alloc (.cells #[.int .i64 k2, .int .i64 l2, .string nm2, .slice A n c, .slice B m d] 26)).drewN 1) w.heap.size 26 #[.int .i64 k, .int .i64 l, .string nm, v3, v4]) := (K1.out.later hb2).later (below_drewN (below_alloc w2 (.cells #[.int .i64 k2, .int .i64 l2, .string nm2, .slice A n c, .slice B m d] 26)) 1)
      have S3 : Hid (Blk ((w2.alloc (.cells #[.int .i64 k2, .int .i64 l2, .string nm2, .slice A n c, .slice B m d] 26)).drewN 1) w2.heap.size 26 #[.int .i64 k2, .int .i64 l2, .string nm2, .slice A n c, .slice B m d]) := box1 w2 26 #[.int .i64 k2, .int .i64 l2, .string nm2, .slice A n c, .slice B m d]
      have T3 : Hid (TyC ((w2.alloc (.cells #[.int .i64 k2, .int .i64 l2, .string nm2, .slice A n c, .slice B m d] 26)).drewN 1) (.mk k2 l2 nm2 ns2 es2) [.int .i64 k2, .int .i64 l2, .string nm2, .slice A n c, .slice B m d]) := TyC.later (below_drewN (below_alloc w2 (.cells #[.int .i64 k2, .int .i64 l2, .string nm2, .slice A n c, .slice B m d] 26)) 1) _ _ hty
      have N0 := K3.out.lt
      have q := fives (K1.out.later hb2)
      have q' := fives ((K1.out.later hb2).later (below_alloc w2 (.cells #[.int .i64 k2, .int .i64 l2, .string nm2, .slice A n c, .slice B m d] 26)))
      obtain ⟨q0, q1, q2, q3, q4⟩ := q
      obtain ⟨q5, q6, q7, q8, q9⟩ := q'
      clear hb2 p0 p1 p2 p3 p4 hty N0
      go_wp2_with fail
      go_region_with (first
        | (go_at_call 71; refine (HCY.out _ (by first | exact HB5.out | exact H3.out)).mono ?_; rintro e w3 ⟨rfl, hb3⟩; have HB3 := Lib.hid (below_then (show Below w.heap.size w _ by first | exact HB5.out | exact H3.out) hb3); have K4 := Lib.hid (Blk.later (show Blk _ w.heap.size 26 #[.int .i64 k, .int .i64 l, .string nm, v3, v4] by first | exact K5.out | exact K3.out) hb3); have S4 := Lib.hid (Blk.later (show Blk _ w2.heap.size 26 #[.int .i64 k2, .int .i64 l2, .string nm2, .slice A n c, .slice B m d] by first | exact S5.out | exact S3.out) hb3); have T4 := Lib.hid (TyC.later hb3 _ _ (show TyC _ (.mk k2 l2 nm2 ns2 es2) [.int .i64 k2, .int .i64 l2, .string nm2, .slice A n c, .slice B m d] by first | exact T5.out | exact T3.out)); obtain ⟨r0, r1, r2, r3, r4⟩ := fives K4.out; obtain ⟨t0, t1, t2, t3, t4⟩ := fives S4.out; clear hb3)
        | (go_at_call 72; refine (HWY.out _ [.int .i64 k2, .int .i64 l2, .string nm2, .slice A n c, .slice B m d] (by first | exact T4.out | exact T3.out)).mono ?_; rintro e w5 ⟨rfl, hb5⟩; have HB5 := Lib.hid (below_then (show Below w.heap.size w _ by first | exact HB3.out | exact H3.out) hb5); have K5 := Lib.hid (Blk.later (show Blk _ w.heap.size 26 #[.int .i64 k, .int .i64 l, .string nm, v3, v4] by first | exact K4.out | exact K3.out) hb5); have S5 := Lib.hid (Blk.later (show Blk _ w2.heap.size 26 #[.int .i64 k2, .int .i64 l2, .string nm2, .slice A n c, .slice B m d] by first | exact S4.out | exact S3.out) hb5); have T5 := Lib.hid (TyC.later hb5 _ _ (show TyC _ (.mk k2 l2 nm2 ns2 es2) [.int .i64 k2, .int .i64 l2, .string nm2, .slice A n c, .slice B m d] by first | exact T4.out | exact T3.out)); obtain ⟨y0, y1, y2, y3, y4⟩ := fives K5.out; obtain ⟨z0, z1, z2, z3, z4⟩ := fives S5.out; clear hb5))
      all_goals
        go_wp2
        go_ret2
        first
          | exact ⟨rfl, HB5.out⟩
          | exact ⟨rfl, HB3.out⟩
theorem width_any (t : Ty) (cs : List Value) (w : World) (ht : smT t) (h : TyC w t cs) :
    Calls Tryz.prog 25 #[.agg cs.toArray] w fun e w' => e = .returned (.tuple #[.int .i64 (widR t : Nat), .int .i64 (widE t : Nat)]) ∧ Below w.heap.size w w' := by
  have h0 := h
  obtain ⟨A, n, c, B, m, d, rfl, _⟩ := tyC_open h
  unfold widR widE
  cases hv : validT isNameL t with
  | false => exact width_gen _ _ _ _ _ false (scalarT t) 0 0 (by omega) (by omega) w (fun u hu => hv ▸ pvalid_any t _ u ht (h0.later hu)) (fun h => by cases h) (fun h => by cases h) (fun h => by cases h)
  | true =>
    have hg := valid_good hv
    have := width_gen _ _ _ _ _ true (scalarT t) (countT t) (swT (scalarT t)) (good_count hg).2 (sw_le _).2 w (fun u hu => hv ▸ pvalid_any t _ u ht (h0.later hu)) (fun _ u hu => pscalar_any hg (h0.later hu)) (fun _ u hu => pcount_any hg (h0.later hu)) (fun _ u cs hT => swidth_any (good_scalar_names hg) hT)
    rcases good_width hg with ⟨a, b⟩ | ⟨a, b⟩
    · rw [b]
      rw [if_pos a, if_pos a] at this
      exact this
    · rw [b]
      rw [if_neg a, if_neg a] at this
      exact this
end Go.Proofs.YtdiagnhdigakpaaGreatDoor
/- The contracts of the program's between and bitsBetween. -/
namespace Go.Proofs.YtdiagnhdigakpaaGreatDoor.Lg
open Go.RowKit

set_option maxHeartbeats 1000000 in
theorem parse_own (s : ByteArray) (w : World) :
    Calls Tryz.prog 147 #[.string s] w fun e w' => ∃ u, e = .returned (.tuple #[u, .int .i64 (parE s.data.toList : Nat)]) ∧ Own w' w.heap.size u (parV s.data.toList) ∧ Below w.heap.size w w' := by
  have hl := byte_list s
  by_cases h1 : 1 ≤ s.size
  · by_cases h2 : s.size ≤ 64
    · have HF := Lib.hid (parB_fits (l := s.data.toList) (by omega) (by omega))
      have HL := Lib.hid hl
      clear hl
      go_enter Tryz.func147, Tryz.ntmps147
      go_wp2_with (refine wpList_make_bits rfl _ _ rfl s.size rfl rfl (by omega) ?_; intro w1 hown1 hb1)
      have HO1 := Lib.hid hown1
      have HB1 := Lib.hid hb1
      clear hown1 hb1
      go_loopw [20] (fun i wr => ∃ k : Nat, k ≤ s.size ∧ i = .int .i64 k ∧ Hid (lcB (s.data.toList.take k) = true) ∧ Own wr w.heap.size (.slice (some ⟨w.heap.size, 0, none⟩) s.size s.size) (fillB s.size k (revL s.data.toList k)) ∧ Below w.heap.size w wr) (fun i _ => s.size - (intOf i).toNat)
      case atStart => exact ⟨0, Nat.zero_le _, rfl, rfl, by simpa [fillB, revL] using HO1.out, HB1.out⟩
      case round =>
        obtain ⟨k, hk, rfl, hr, hown, hb⟩ := hrel
        have HO := Lib.hid hown
        have HB := Lib.hid hb
        clear hown hb
        by_cases hlt : k < s.size
        · have hlt' : k < s.data.toList.length := by rw [HL.out]; exact hlt
          have HX := Lib.hid (byte_get s k hlt hlt')
          by_cases h3 : lc s[k] ≤ 3
          · have HR := Lib.hid (lcB_take hlt' hr.out (by rw [HX.out]; exact h3))
            have HV := Lib.hid (revL_succ hlt')
            obtain ⟨z, hzz⟩ : ∃ z, lc s[k] = z := ⟨_, rfl⟩
            have HI := Lib.hid (fun w => idx_yes hzz (by omega) w)
            have HZ := Lib.hid hzz
            have hz3 : z ≤ 3 := by omega
            have hfl : (fillB s.size k (revL s.data.toList k)).length = s.size := by simp [fillB, revL]; omega
            obtain ⟨g, gf⟩ := HO.out.cell (s.size - 1 - k) (by rw [hfl]; omega)
            have HS := Lib.hid (HO.out.stored (s.size - 1 - k) z (by omega))
            generalize (fillB s.size k (revL s.data.toList k))[s.size - 1 - k] = y at g
            clear h3 hr hzz hfl
            go_wp2_with (go_at_call 165; refine (HI.out _).mono ?_; rintro e w' ⟨rfl, rfl⟩)
            go_roundw
            case rel => exact ⟨k + 1, by omega, by go_num, HR, by have := HS.out.1; rwa [fillB_set hlt, show z :: revL s.data.toList k = revL s.data.toList (k + 1) by rw [HV.out, HX.out, HZ.out]] at this, HB.out.trans (HS.out.2 _ (Nat.le_refl _))⟩
            case measure => simp [intOf]; omega
          · have HI := Lib.hid (fun w => idx_no h3 w)
            have HR : Hid (parB s.data.toList = false) := by
              have := lcB_no hlt' (by rw [HX.out]; exact h3)
              exact (HF.out).trans this
            clear h3 hr
            go_wp2_with (go_at_call 165; refine (HI.out _).mono ?_; rintro e w' ⟨rfl, rfl⟩)
            go_ret2
            exact ⟨_, ret_vi (by rw [(par_no HR.out).2]; rfl), by rw [(par_no HR.out).1]; exact Own.nil _ HB.out.size, HB.out⟩
        · have HR : Hid (parB s.data.toList = true) := (HF.out).trans (lcB_end (by rw [HL.out]; exact hlt) hr.out)
          clear hr
          go_wp2
          go_ret2
          exact ⟨_, ret_vi (by rw [(par_yes HR.out).2]; rfl), by rw [(par_yes HR.out).1, ← revL_end (k := k) (by rw [HL.out]; exact hlt)]; have := HO.out; rwa [fillB, show s.size - k = 0 by omega] at this, HB.out⟩
    · have HR := Lib.hid (par_no (parB_long (l := s.data.toList) (by omega)))
      clear hl
      go_enter Tryz.func147, Tryz.ntmps147
      go_wp2
      go_ret2
      exact ⟨_, ret_vi (by rw [HR.out.2]; rfl), by rw [HR.out.1]; exact Own.nil _ (Nat.le_refl _), Below.refl _ _⟩
  · have HR := Lib.hid (par_no (parB_none (l := s.data.toList) (by omega)))
    clear hl
    go_enter Tryz.func147, Tryz.ntmps147
    go_wp2
    go_ret2
    exact ⟨_, ret_vi (by rw [HR.out.2]; rfl), by rw [HR.out.1]; exact Own.nil _ (Nat.le_refl _), Below.refl _ _⟩
end Go.Proofs.YtdiagnhdigakpaaGreatDoor.Lg
namespace Go.Proofs.YtdiagnhdigakpaaGreatDoor
open Go.RowKit

/-- What stands between. -/
def midL (l p q : List UInt8) : List UInt8 := Lib.trimSuffix (Lib.trimPrefix l p) q
theorem trimP_len (l p : List UInt8) : (Lib.trimPrefix l p).length ≤ l.length := by
  unfold Lib.trimPrefix
  split
  · simp
  · exact Nat.le_refl _
theorem trimS_len (l p : List UInt8) : (Lib.trimSuffix l p).length ≤ l.length := by
  unfold Lib.trimSuffix
  split
  · simp
  · exact Nat.le_refl _
set_option maxRecDepth 100000 in
set_option maxHeartbeats 4000000 in
theorem between_any (s p q : ByteArray) (hs : s.size ≤ 140737488355328) (w : World) :
    Calls Tryz.prog 124 #[.string s, .string p, .string q] w fun e w' => e = .returned (.string (sb (midL (bl s) (bl p) (bl q)))) ∧ w = w' := by
  have HP := Lib.hid (fun (u : World) => trimPrefix_any s p u)
  have hz : (sb (Lib.trimPrefix (bl s) (bl p))).size ≤ 9223372036854775807 := by
    rw [sb_size]
    have := trimP_len (bl s) (bl p)
    rw [bl_len] at this
    omega
  have HS := Lib.hid (fun (u : World) => trimSuffix_any (sb (Lib.trimPrefix (bl s) (bl p))) q hz u)
  rw [bl_sb] at HS
  unfold midL
  generalize sb (Lib.trimPrefix (bl s) (bl p)) = x at *
  generalize sb (Lib.trimSuffix (Lib.trimPrefix (bl s) (bl p)) (bl q)) = y at *
  clear hz hs
  go_enter Tryz.func124, Tryz.ntmps124
  go_wp2_with fail
  refine (HP.out _).mono ?_
  rintro e w1 ⟨rfl, rfl⟩
  go_wp2_with fail
  refine (HS.out _).mono ?_
  rintro e w2 ⟨rfl, rfl⟩
  go_wp2
  go_ret
  exact ⟨rfl, rfl⟩
set_option maxRecDepth 100000 in
set_option maxHeartbeats 4000000 in
theorem bitsBetween_any (s p q : ByteArray) (hs : s.size ≤ 140737488355328) (w : World) :
    Calls Tryz.prog 120 #[.string s, .string p, .string q] w fun e w' => ∃ u, e = .returned u ∧ Lg.Own w' w.heap.size u (Lg.parV (midL (bl s) (bl p) (bl q))) ∧ Below w.heap.size w w' := by
  have HP := Lib.hid (fun (u : World) => between_any s p q hs u)
  have HS := Lib.hid (fun (u : World) => Lg.parse_own (sb (midL (bl s) (bl p) (bl q))) u)
  rw [show (sb (midL (bl s) (bl p) (bl q))).data.toList = midL (bl s) (bl p) (bl q) from bl_sb _] at HS
  generalize sb (midL (bl s) (bl p) (bl q)) = x at *
  clear hs
  go_enter Tryz.func120, Tryz.ntmps120
  go_wp2_with fail
  refine (HP.out _).mono ?_
  rintro e w1 ⟨rfl, rfl⟩
  go_wp2_with fail
  refine (HS.out _).mono ?_
  rintro e w2 ⟨u, rfl, ho, hb⟩
  have HO := Lib.hid ho
  have HB := Lib.hid hb
  clear ho hb
  go_wp2
  go_ret
  exact ⟨_, rfl, HO.out, HB.out⟩
end Go.Proofs.YtdiagnhdigakpaaGreatDoor
/- The contract of the program's read, for types that are no arrays. -/
namespace Go.Proofs.YtdiagnhdigakpaaGreatDoor
open Go.RowKit

theorem digits_big : ∀ (l : List UInt8) (acc : Nat), l.all digB = true → l.foldl (fun n c => 10 * n + (c.toNat - 48)) acc ≤ 2147483648 → Lib.parseUint10 acc l = .ok (l.foldl (fun n c => 10 * n + (c.toNat - 48)) acc)
  | [], _, _, _ => rfl
  | c :: r, acc, hd, h => by
    rw [List.all_cons, Bool.and_eq_true] at hd
    have hc : 48 ≤ c.toNat ∧ c.toNat ≤ 57 := of_decide_eq_true hd.1
    rw [List.foldl_cons] at h ⊢
    have h1 := fold_ge r (10 * acc + (c.toNat - 48))
    simp only [Lib.parseUint10]
    rw [if_pos hc, if_neg (by omega), if_neg (by omega), Nat.mul_comm acc 10]
    exact digits_big r _ hd.2 h
theorem mag_dec {m : Nat} (h : m ≤ 2147483648) : Lib.parseMag (decL m) = .ok m := by
  obtain ⟨h1, h2, h3⟩ := dec_facts m
  unfold Lib.parseMag
  rw [if_neg h1]
  have := digits_big (decL m) 0 h2 (by unfold valL at h3; omega)
  rw [this]
  unfold valL at h3
  rw [h3]
theorem atoi_ito {n : Int} (h1 : -2147483648 ≤ n) (h2 : n ≤ 2147483647) : Lib.atoiAll (itoL n) = .ok n := by
  rcases ito_cases n with ⟨m, hm, h⟩ | ⟨m, hm1, hm, h⟩
  · have hd := mag_dec (m := m) (by omega)
    obtain ⟨f1, f2, f3⟩ := dec_facts m
    rw [h]
    match hl : decL m, f1 with
    | c :: r, _ =>
      rw [hl, List.all_cons, Bool.and_eq_true] at f2
      have hc : 48 ≤ c.toNat ∧ c.toNat ≤ 57 := of_decide_eq_true f2.1
      rw [hl] at hd
      rw [Lib.atoiAll_plain c r (by omega) (by omega), hd]
      show (if 9223372036854775808 ≤ m then _ else _) = _
      rw [if_neg (by omega), hm]
  · rw [h, Lib.atoiAll_minus, mag_dec (by omega)]
    show (if 9223372036854775808 < m then _ else _) = _
    rw [if_neg (by omega), hm]
theorem copy_flat {w w1 : World} {k n x0 x1 : Int} {vb x2 x3 z : Value} {zs : List Nat} {base i : Nat} (HO : Lg.Own w1 base vb zs) (hb : w.heap.size + 3 ≤ base) (HB : Below w.heap.size w w1) :
    CopyOf w (.mk k n zs []) (.returned (.agg #[.int .i64 k, .int .i64 n, vb, .slice none 0 0]))
      (((((w1.setCell ⟨w.heap.size + 1 + 1, i, none⟩ z).setCell ⟨w.heap.size + 1, 0, none⟩ (.int .i64 x0)).setCell ⟨w.heap.size + 1, 1, none⟩ (.int .i64 x1)).setCell ⟨w.heap.size + 1, 2, none⟩ x2).setCell ⟨w.heap.size + 1, 3, none⟩ x3) := by
  have hs := HO.2.2.2
  have hs1 : w.heap.size + 1 < base := by omega
  have hs4 : w.heap.size ≤ w.heap.size + 1 := by omega
  have hs5 : w.heap.size ≤ w.heap.size + 1 + 1 := by omega
  refine ⟨vb, _, rfl, own_weak (own_setLow (a := ⟨_, _, none⟩) (own_setLow (a := ⟨_, _, none⟩) (own_setLow (a := ⟨_, _, none⟩) (own_setLow (a := ⟨_, _, none⟩) (own_setLow (a := ⟨_, _, none⟩) HO (show w.heap.size + 1 + 1 < base by omega) _) hs1 _) hs1 _) hs1 _) hs1 _) (by omega), OwnV.nil _ (by simp [World.setCell]; omega), ((((HB.setCell (p := ⟨_, _, none⟩) hs5 _).setCell (p := ⟨_, _, none⟩) hs4 _).setCell (p := ⟨_, _, none⟩) hs4 _).setCell (p := ⟨_, _, none⟩) hs4 _).setCell (p := ⟨_, _, none⟩) hs4 _⟩
theorem copy_plain {w w1 : World} {k n x0 x1 : Int} {x2 x3 : Value} (hb : w.heap.size + 3 ≤ w1.heap.size) (HB : Below w.heap.size w w1) :
    CopyOf w (.mk k n [] []) (.returned (.agg #[.int .i64 k, .int .i64 n, .slice none 0 0, .slice none 0 0]))
      ((((w1.setCell ⟨w.heap.size + 1, 0, none⟩ (.int .i64 x0)).setCell ⟨w.heap.size + 1, 1, none⟩ (.int .i64 x1)).setCell ⟨w.heap.size + 1, 2, none⟩ x2).setCell ⟨w.heap.size + 1, 3, none⟩ x3) :=
  ⟨_, _, rfl, Lg.Own.nil _ (by simp [World.setCell]; omega), OwnV.nil _ (by simp [World.setCell]; omega), set4_below HB (by omega) _ _ _ _⟩
set_option maxRecDepth 100000 in
set_option maxHeartbeats 8000000 in
theorem read_bit (l : Int) (nm : ByteArray) (v3 v4 : Value) (s : ByteArray) (hs : s.size ≤ 140737488355328) (w : World) :
    Calls Tryz.prog 86 #[.agg #[.int .i64 1, .int .i64 l, .string nm, v3, v4], .string s] w (CopyOf w (.mk 1 0 (Lg.parV (midL (bl s) [39] [39])) [])) := by
  have H3 := Lib.hid (boxes3 w 26 38 38 #[.int .i64 1, .int .i64 l, .string nm, v3, v4] #[.int .i64 0, .int .i64 0, .slice none 0 0, .slice none 0 0] #[.int .i64 1, .int .i64 0, .slice none 0 0, .slice none 0 0])
  have HL := Lib.hid (fun (u : World) => bitsBetween_any s ⟨#[39]⟩ ⟨#[39]⟩ hs u)
  rw [show midL (bl s) (bl ⟨#[39]⟩) (bl ⟨#[39]⟩) = midL (bl s) [39] [39] from rfl] at HL
  generalize Lg.parV (midL (bl s) [39] [39]) = zs at *
  clear hs
  go_enter Tryz.func86, Tryz.ntmps86
  go_wp2_with fail
  refine (HL.out _).mono ?_
  rintro e w1 ⟨u, rfl, ho, hb⟩
  obtain ⟨A, q, hv, -⟩ := ho.sl
  subst hv
  have HO := Lib.hid ho
  have K2 := Lib.hid (H3.out.2.2.1.later hb)
  have K1 := Lib.hid (H3.out.2.1.later hb)
  have HB := Lib.hid (below_then H3.out.2.2.2.1 hb)
  have HZ := Lib.hid H3.out.2.2.2.2
  obtain ⟨a0, a1, a2, a3⟩ := four K2.out
  have af := K2.out.free 2
  have K2' : Hid (Blk (w1.setCell ⟨w.heap.size + 1 + 1, 2, none⟩ (.slice A zs.length q)) (w.heap.size + 1 + 1) 38 #[.int .i64 1, .int .i64 0, .slice A zs.length q, .slice none 0 0]) := K2.out.set 2 _
  have K1' : Hid (Blk (w1.setCell ⟨w.heap.size + 1 + 1, 2, none⟩ (.slice A zs.length q)) (w.heap.size + 1) 38 #[.int .i64 0, .int .i64 0, .slice none 0 0, .slice none 0 0]) := K1.out.other (show w.heap.size + 1 + 1 ≠ w.heap.size + 1 by omega) _
  obtain ⟨b0, b1, b2, b3⟩ := four K2'.out
  obtain ⟨c0, c1, c2, c3⟩ := four K1'.out
  have f0 := K1'.out.free 0
  have f1 := K1'.out.free 1
  have f2 := K1'.out.free 2
  have f3 := K1'.out.free 3
  clear ho hb
  go_wp2
  refine bodyPost_ret (by simp [results, Tryz.results86, go_sem, c0, c1, c2, c3]; try rfl) rfl ?_
  exact copy_flat HO.out HZ.out HB.out
set_option maxRecDepth 100000 in
set_option maxHeartbeats 8000000 in
theorem read_vec (l : Int) (nm : ByteArray) (v3 v4 : Value) (s : ByteArray) (hs : s.size ≤ 140737488355328) (w : World) :
    Calls Tryz.prog 86 #[.agg #[.int .i64 4, .int .i64 l, .string nm, v3, v4], .string s] w (CopyOf w (.mk 4 0 (Lg.parV (midL (bl s) [98, 34] [34])) [])) := by
  have H3 := Lib.hid (boxes3 w 26 38 38 #[.int .i64 4, .int .i64 l, .string nm, v3, v4] #[.int .i64 0, .int .i64 0, .slice none 0 0, .slice none 0 0] #[.int .i64 4, .int .i64 0, .slice none 0 0, .slice none 0 0])
  have HL := Lib.hid (fun (u : World) => bitsBetween_any s ⟨#[98, 34]⟩ ⟨#[34]⟩ hs u)
  rw [show midL (bl s) (bl ⟨#[98, 34]⟩) (bl ⟨#[34]⟩) = midL (bl s) [98, 34] [34] from rfl] at HL
  generalize Lg.parV (midL (bl s) [98, 34] [34]) = zs at *
  clear hs
  go_enter Tryz.func86, Tryz.ntmps86
  go_wp2_with fail
  refine (HL.out _).mono ?_
  rintro e w1 ⟨u, rfl, ho, hb⟩
  obtain ⟨A, q, hv, -⟩ := ho.sl
  subst hv
  have HO := Lib.hid ho
  have K2 := Lib.hid (H3.out.2.2.1.later hb)
  have K1 := Lib.hid (H3.out.2.1.later hb)
  have HB := Lib.hid (below_then H3.out.2.2.2.1 hb)
  have HZ := Lib.hid H3.out.2.2.2.2
  obtain ⟨a0, a1, a2, a3⟩ := four K2.out
  have af := K2.out.free 2
  have K2' : Hid (Blk (w1.setCell ⟨w.heap.size + 1 + 1, 2, none⟩ (.slice A zs.length q)) (w.heap.size + 1 + 1) 38 #[.int .i64 4, .int .i64 0, .slice A zs.length q, .slice none 0 0]) := K2.out.set 2 _
  have K1' : Hid (Blk (w1.setCell ⟨w.heap.size + 1 + 1, 2, none⟩ (.slice A zs.length q)) (w.heap.size + 1) 38 #[.int .i64 0, .int .i64 0, .slice none 0 0, .slice none 0 0]) := K1.out.other (show w.heap.size + 1 + 1 ≠ w.heap.size + 1 by omega) _
  obtain ⟨b0, b1, b2, b3⟩ := four K2'.out
  obtain ⟨c0, c1, c2, c3⟩ := four K1'.out
  have f0 := K1'.out.free 0
  have f1 := K1'.out.free 1
  have f2 := K1'.out.free 2
  have f3 := K1'.out.free 3
  clear ho hb
  go_wp2
  refine bodyPost_ret (by simp [results, Tryz.results86, go_sem, c0, c1, c2, c3]; try rfl) rfl ?_
  exact copy_flat HO.out HZ.out HB.out
set_option maxRecDepth 100000 in
set_option maxHeartbeats 8000000 in
theorem read_enum (l n : Int) (nm : ByteArray) (v3 v4 : Value) (s : ByteArray) (w : World) 
    (HL : Hid (∀ u, Below w.heap.size w u → Calls Tryz.prog 122 #[v3, .string s] u fun e w' => e = .returned (.int .i64 n) ∧ Below u.heap.size u w')) :
    Calls Tryz.prog 86 #[.agg #[.int .i64 5, .int .i64 l, .string nm, v3, v4], .string s] w (CopyOf w (.mk 5 n [] [])) := by
  have H3 := Lib.hid (boxes3 w 26 38 38 #[.int .i64 5, .int .i64 l, .string nm, v3, v4] #[.int .i64 0, .int .i64 0, .slice none 0 0, .slice none 0 0] #[.int .i64 5, .int .i64 0, .slice none 0 0, .slice none 0 0])
  go_enter Tryz.func86, Tryz.ntmps86
  go_wp2_with fail
  refine (HL.out _ H3.out.2.2.2.1).mono ?_
  rintro e w1 ⟨rfl, hb⟩
  have K2 := Lib.hid (H3.out.2.2.1.later hb)
  have K1 := Lib.hid (H3.out.2.1.later hb)
  have HB := Lib.hid (below_then H3.out.2.2.2.1 hb)
  have HZ := Lib.hid (Nat.le_trans H3.out.2.2.2.2 hb.size)
  obtain ⟨a0, a1, a2, a3⟩ := four K2.out
  have af := K2.out.free 1
  have K2' : Hid (Blk (w1.setCell ⟨w.heap.size + 1 + 1, 1, none⟩ (.int .i64 n)) (w.heap.size + 1 + 1) 38 #[.int .i64 5, .int .i64 n, .slice none 0 0, .slice none 0 0]) := K2.out.set 1 _
  have K1' : Hid (Blk (w1.setCell ⟨w.heap.size + 1 + 1, 1, none⟩ (.int .i64 n)) (w.heap.size + 1) 38 #[.int .i64 0, .int .i64 0, .slice none 0 0, .slice none 0 0]) := K1.out.other (show w.heap.size + 1 + 1 ≠ w.heap.size + 1 by omega) _
  obtain ⟨b0, b1, b2, b3⟩ := four K2'.out
  obtain ⟨c0, c1, c2, c3⟩ := four K1'.out
  have f0 := K1'.out.free 0
  have f1 := K1'.out.free 1
  have f2 := K1'.out.free 2
  have f3 := K1'.out.free 3
  clear hb
  go_wp2
  refine bodyPost_ret (by simp [results, Tryz.results86, go_sem, c0, c1, c2, c3]; try rfl) rfl ?_
  exact copy_flat (Lg.Own.nil _ HZ.out) (Nat.le_refl _) HB.out
set_option maxRecDepth 100000 in
set_option maxHeartbeats 8000000 in
theorem read_int (l : Int) (nm : ByteArray) (v3 v4 : Value) (P : Int → Prop) (s : ByteArray) (w : World) 
    (HL : Hid (∀ u, Below w.heap.size w u → Calls Tryz.prog 121 #[.string s] u fun e w' => (∃ n x, e = .returned (.tuple #[.int .i64 n, x]) ∧ P n) ∧ Below u.heap.size u w')) :
    Calls Tryz.prog 86 #[.agg #[.int .i64 3, .int .i64 l, .string nm, v3, v4], .string s] w fun e w' => ∃ n, P n ∧ CopyOf w (.mk 3 n [] []) e w' := by
  have H3 := Lib.hid (boxes3 w 26 38 38 #[.int .i64 3, .int .i64 l, .string nm, v3, v4] #[.int .i64 0, .int .i64 0, .slice none 0 0, .slice none 0 0] #[.int .i64 3, .int .i64 0, .slice none 0 0, .slice none 0 0])
  go_enter Tryz.func86, Tryz.ntmps86
  go_wp2_with fail
  refine (HL.out _ H3.out.2.2.2.1).mono ?_
  rintro e w1 ⟨⟨n, x, rfl, hp⟩, hb⟩
  have HPn := Lib.hid hp
  clear hp
  have K2 := Lib.hid (H3.out.2.2.1.later hb)
  have K1 := Lib.hid (H3.out.2.1.later hb)
  have HB := Lib.hid (below_then H3.out.2.2.2.1 hb)
  have HZ := Lib.hid (Nat.le_trans H3.out.2.2.2.2 hb.size)
  obtain ⟨a0, a1, a2, a3⟩ := four K2.out
  have af := K2.out.free 1
  have K2' : Hid (Blk (w1.setCell ⟨w.heap.size + 1 + 1, 1, none⟩ (.int .i64 n)) (w.heap.size + 1 + 1) 38 #[.int .i64 3, .int .i64 n, .slice none 0 0, .slice none 0 0]) := K2.out.set 1 _
  have K1' : Hid (Blk (w1.setCell ⟨w.heap.size + 1 + 1, 1, none⟩ (.int .i64 n)) (w.heap.size + 1) 38 #[.int .i64 0, .int .i64 0, .slice none 0 0, .slice none 0 0]) := K1.out.other (show w.heap.size + 1 + 1 ≠ w.heap.size + 1 by omega) _
  obtain ⟨b0, b1, b2, b3⟩ := four K2'.out
  obtain ⟨c0, c1, c2, c3⟩ := four K1'.out
  have f0 := K1'.out.free 0
  have f1 := K1'.out.free 1
  have f2 := K1'.out.free 2
  have f3 := K1'.out.free 3
  clear hb
  go_wp2
  refine bodyPost_ret (by simp [results, Tryz.results86, go_sem, c0, c1, c2, c3]; try rfl) rfl ?_
  exact ⟨n, HPn.out, copy_flat (Lg.Own.nil _ HZ.out) (Nat.le_refl _) HB.out⟩
end Go.Proofs.YtdiagnhdigakpaaGreatDoor
/- The contract of the program's read: booleans. -/
namespace Go.Proofs.YtdiagnhdigakpaaGreatDoor
open Go.RowKit

theorem copy_boxes (w : World) (k n : Int) (t1 t2 t3 : TypeId) (a b c : Array Value) :
    CopyOf w (.mk k n [] []) (.returned (.agg #[.int .i64 k, .int .i64 n, .slice none 0 0, .slice none 0 0])) (((w.alloc (.cells a t1)).alloc (.cells b t2)).alloc (.cells c t3)) := by
  have h := boxes3 w t1 t2 t3 a b c
  exact ⟨_, _, rfl, Lg.Own.nil _ (by omega), OwnV.nil _ (by omega), h.2.2.2.1⟩
theorem str_lit {s : ByteArray} : (s.toList == [116, 114, 117, 101]) = decide (bl s = [116, 114, 117, 101]) := by
  rw [bl_toList]
  by_cases h : bl s = [116, 114, 117, 101]
  · rw [h]; simp
  · rw [decide_eq_false h, beq_eq_false_iff_ne]; exact h
set_option maxRecDepth 100000 in
set_option maxHeartbeats 4000000 in
theorem read_boolT (l : Int) (nm : ByteArray) (v3 v4 : Value) (s : ByteArray) (hs : bl s = [116, 114, 117, 101]) (w : World) :
    Calls Tryz.prog 86 #[.agg #[.int .i64 2, .int .i64 l, .string nm, v3, v4], .string s] w (CopyOf w (.mk 2 1 [] [])) := by
  have heq : (s.toList == [116, 114, 117, 101]) = true := by rw [str_lit, decide_eq_true hs]
  clear hs
  go_enter Tryz.func86, Tryz.ntmps86
  go_wp2
  refine bodyPost_ret (by simp [results, Tryz.results86, go_sem]; try rfl) rfl ?_
  exact copy_boxes _ _ _ _ _ _ _ _ _
set_option maxRecDepth 100000 in
set_option maxHeartbeats 4000000 in
theorem read_boolF (l : Int) (nm : ByteArray) (v3 v4 : Value) (s : ByteArray) (hs : ¬ bl s = [116, 114, 117, 101]) (w : World) :
    Calls Tryz.prog 86 #[.agg #[.int .i64 2, .int .i64 l, .string nm, v3, v4], .string s] w (CopyOf w (.mk 2 0 [] [])) := by
  have heq : (s.toList == [116, 114, 117, 101]) = false := by rw [str_lit, decide_eq_false hs]
  clear hs
  go_enter Tryz.func86, Tryz.ntmps86
  go_wp2
  refine bodyPost_ret (by simp [results, Tryz.results86, go_sem]; try rfl) rfl ?_
  exact copy_boxes _ _ _ _ _ _ _ _ _
end Go.Proofs.YtdiagnhdigakpaaGreatDoor
/- The contract of the program's read, flat types: the only value that is written so. -/
namespace Go.Proofs.YtdiagnhdigakpaaGreatDoor
open Go.RowKit

theorem mid_of (p l q : List UInt8) : midL (p ++ (l ++ q)) p q = l := by
  unfold midL Lib.trimPrefix
  rw [if_pos (by simp [Lib.hasPrefix]), List.drop_left]
  unfold Lib.trimSuffix
  rw [if_pos (by simp [Lib.hasSuffix])]
  simp
theorem par_letters {bs : List Nat} (h1 : 1 ≤ bs.length) (h2 : bs.length ≤ 64) (h3 : ∀ b ∈ bs, b ≤ 3) : Lg.parV (lettersL bs) = bs := by
  have hp : Lg.parB (lettersL bs) = true := by
    unfold Lg.parB Lg.lcB lettersL
    simp only [Bool.and_eq_true, decide_eq_true_eq, List.length_reverse, List.length_map, List.all_eq_true, List.mem_reverse, List.mem_map]
    refine ⟨⟨h1, h2⟩, ?_⟩
    rintro x ⟨b, hb, rfl⟩
    rw [lc_ltr (h3 b hb)]
    exact h3 b hb
  rw [(Lg.par_yes hp).1]
  unfold lettersL
  rw [List.map_reverse, List.reverse_reverse, List.map_map]
  refine (List.map_congr_left fun b hb => ?_).trans (List.map_id bs)
  exact lc_ltr (h3 b hb)
/-- What read returns: in blocks of the call's own the only value of the type that is written so, if there is one. -/
def ReadOf (t : Ty) (s : List UInt8) (w : World) (e : Ending) (w' : World) : Prop :=
  ∃ v, CopyOf w v e w' ∧ ∀ x, hasV t x = true → textV t x = s → v = x
theorem pread_flat {t : Ty} {s : ByteArray} {w : World} {cs : List Value} (ht : Flat isNameL t) (hw : Std w) (hs : s.size ≤ 140737488355328) (h : TyC w t cs) :
    Calls Tryz.prog 86 #[.agg cs.toArray, .string s] w (ReadOf t (bl s) w) := by
  obtain ⟨A, n, c, B, m, d, rfl, hn, -, hst, -⟩ := tyC_open h
  have hF : ∀ x, hasV t x = true → HasF t x := fun x hx => hasF_of ht hx
  cases ht with
  | sc k hk =>
    rcases hk with rfl | rfl | rfl
    · refine (read_bit 0 noName _ _ s hs w).mono ?_
      intro e w' hc
      refine ⟨_, hc, fun x hx he => ?_⟩
      cases hF x hx with
      | bit _ _ _ _ b hb =>
      rw [textV_bit] at he
      rw [← he, show (39 :: (lettersL [b] ++ [39]) : List UInt8) = [39] ++ (lettersL [b] ++ [39]) from rfl, mid_of, par_letters (by simp) (by simp) (by simpa using hb)]
    · by_cases h1 : bl s = [116, 114, 117, 101]
      · refine (read_boolT 0 noName _ _ s h1 w).mono ?_
        intro e w' hc
        refine ⟨_, hc, fun x hx he => ?_⟩
        cases hF x hx with
        | bool _ _ _ _ b hb =>
        rw [textV_bool] at he
        rcases hb with rfl | rfl
        · exact absurd (show falseL = [116, 114, 117, 101] from he.trans h1) (by decide)
        · rfl
      · refine (read_boolF 0 noName _ _ s h1 w).mono ?_
        intro e w' hc
        refine ⟨_, hc, fun x hx he => ?_⟩
        cases hF x hx with
        | bool _ _ _ _ b hb =>
        rw [textV_bool] at he
        rcases hb with rfl | rfl
        · rfl
        · exact absurd (show bl s = [116, 114, 117, 101] from he.symm) h1
    · refine (read_int 0 noName _ _ (fun n => ∀ m : Int, -2147483648 ≤ m → m ≤ 2147483647 → itoL m = bl s → n = m) s w (fun u hu => ?_)).mono ?_
      · by_cases hg : ∃ v, Lib.atoiAll (bl s) = .ok v
        · obtain ⟨v, hg⟩ := hg
          refine (atoi_good s hs v hg u).mono ?_
          rintro e w' ⟨rfl, hb⟩
          refine ⟨⟨v, _, rfl, fun m h1 h2 h3 => ?_⟩, hb⟩
          rw [← h3, atoi_ito h1 h2] at hg
          injection hg with hg
          exact hg.symm
        · have hg' : ∀ v, Lib.atoiAll (bl s) ≠ .ok v := fun v e => hg ⟨v, e⟩
          refine (atoi_bad s hs hg' u (hw.later hu)).mono ?_
          rintro e w' ⟨⟨n, t, p, rfl⟩, hb⟩
          refine ⟨⟨n, _, rfl, fun m h1 h2 h3 => ?_⟩, hb⟩
          rw [← h3] at hg'
          exact absurd (atoi_ito h1 h2) (hg' m)
      · rintro e w' ⟨n, hp, hc⟩
        refine ⟨_, hc, fun x hx he => ?_⟩
        cases hF x hx with
        | int _ _ _ _ b h1 h2 =>
        rw [textV_int] at he
        rw [hp b h1 h2 he]
  | vec l h1 h2 =>
    refine (read_vec (l : Int) noName _ _ s hs w).mono ?_
    intro e w' hc
    refine ⟨_, hc, fun x hx he => ?_⟩
    cases hF x hx with
    | vec _ _ _ _ bs hl hb =>
    rw [textV_vec] at he
    rw [← he, show (98 :: 34 :: (lettersL bs ++ [34]) : List UInt8) = [98, 34] ++ (lettersL bs ++ [34]) from rfl, mid_of, par_letters (by omega) (by omega) hb]
  | en nm ns hp hns =>
    refine (read_enum 0 (Lib.idxOfS ns s) nm _ _ s w (fun u hu => ?_)).mono ?_
    · refine (indexS_any _ ns s u (hst.later hu)).mono ?_
      rintro e w' ⟨rfl, rfl⟩
      exact ⟨rfl, Below.refl _ _⟩
    · intro e w' hc
      refine ⟨_, hc, fun x hx he => ?_⟩
      cases hF x hx with
      | en _ _ _ _ i hi =>
      rw [textV_enum, Int.toNat_natCast, List.getD_eq_getElem?_getD, List.getElem?_eq_getElem hi] at he
      have he : ns[i] = s := bl_inj he
      have hd := (names_at hns).2.2
      have := Lib.idxOfS_hit ns ns.length i s hi (Nat.le_refl _) (by rw [getD_at hi]; exact he) (fun j hj hjs => by
        have hj' : j < ns.length := by omega
        rw [getD_at hj'] at hjs
        have := nodup_inj hd hj' hi (hjs.trans he.symm)
        omega)
      rw [List.take_length] at this
      rw [this]
end Go.Proofs.YtdiagnhdigakpaaGreatDoor
/- The contract of the program's read: arrays. -/
namespace Go.Proofs.YtdiagnhdigakpaaGreatDoor
open Go.RowKit

theorem index_com {x : List UInt8} (h : 44 ∉ x) (r : List UInt8) : Lib.index (x ++ 44 :: r) [44] = x.length := by
  induction x with
  | nil => simp [Lib.index]
  | cons c y ih =>
    have h1 : (44 : UInt8) ≠ c := fun e => h (by simp [e])
    have ih := ih (fun hm => h (by simp [hm]))
    rw [List.cons_append, Lib.index, if_neg (by simp [h1]), ih, if_neg (by rw [beq_iff_eq]; omega), List.length_cons]
    omega
theorem splitK_join : ∀ (k : Nat) (xs : List (List UInt8)), xs.length = k + 1 → (∀ x ∈ xs, 44 ∉ x) → Lib.splitK [44] 0 k ([44].intercalate xs) = xs
  | 0, [x], _, _ => by rw [join_one]; rfl
  | 0, [], h, _ => by simp at h
  | 0, _ :: _ :: _, h, _ => by simp at h
  | k + 1, [], h, _ => by simp at h
  | k + 1, [x], h, _ => by simp at h
  | k + 1, x :: y :: r, h, hc => by
    have hi := index_com (hc x (by simp)) ([44].intercalate (y :: r))
    have hd : (x ++ 44 :: [44].intercalate (y :: r)).drop (x.length + [(44 : UInt8)].length) = [44].intercalate (y :: r) := by
      rw [List.length_singleton, List.drop_append]
      simp
    rw [join_two, Lib.splitK, hi, if_neg (by rw [beq_iff_eq]; omega), Int.toNat_natCast, Nat.add_zero, List.take_left, hd, splitK_join k (y :: r) (by simpa using h) (fun z hz => hc z (by simp only [List.mem_cons] at hz ⊢; exact .inr hz))]
theorem splitK_le (sep : List UInt8) : ∀ (k : Nat) (s p : List UInt8), p ∈ Lib.splitK sep 0 k s → p.length ≤ s.length
  | 0, s, p, h => by
    rw [Lib.splitK, List.mem_singleton] at h
    rw [h]
    exact Nat.le_refl _
  | k + 1, s, p, h => by
    rw [Lib.splitK] at h
    split at h
    · rw [List.mem_singleton] at h
      rw [h]
      exact Nat.le_refl _
    · rcases List.mem_cons.1 h with rfl | h
      · rw [List.length_take]; omega
      · have := splitK_le sep k _ p h
        rw [List.length_drop] at this
        omega
theorem join_ge : ∀ xs : List (List UInt8), xs.length ≤ ([44].intercalate xs).length + 1
  | [] => by simp
  | [x] => by simp
  | x :: y :: r => by
    rw [join_two, List.length_append]
    have := join_ge (y :: r)
    simp only [List.length_cons] at this ⊢
    omega
/-- The pieces of an array's text. -/
def piecesB (l : Nat) (m : ByteArray) : List ByteArray := Lib.splitB ⟨#[44]⟩ 0 (min l (m.size + 1) - 1) m
theorem pieces_le (l : Nat) (h : 1 ≤ l) (m : ByteArray) : (piecesB l m).length ≤ l ∧ ∀ p ∈ piecesB l m, p.size ≤ m.size := by
  unfold piecesB
  refine ⟨?_, fun p hp => ?_⟩
  · have := Lib.splitB_length_le ⟨#[44]⟩ 0 (min l (m.size + 1) - 1) m
    omega
  · have h1 : bl p ∈ Lib.splitK [44] 0 (min l (m.size + 1) - 1) (bl m) := by
      rw [show Lib.splitK [44] 0 (min l (m.size + 1) - 1) (bl m) = (Lib.splitB ⟨#[44]⟩ 0 (min l (m.size + 1) - 1) m).map (·.data.toList) from (Lib.splitB_data ⟨#[44]⟩ 0 _ m).symm]
      exact List.mem_map.2 ⟨p, hp, rfl⟩
    have := splitK_le _ _ _ _ h1
    rwa [bl_len, bl_len] at this
theorem pieces_join {l : Nat} {xs : List (List UInt8)} (h1 : 1 ≤ l) (hl : xs.length = l) (hc : ∀ x ∈ xs, 44 ∉ x) {m : ByteArray} (hm : bl m = [44].intercalate xs) : (piecesB l m).map bl = xs := by
  unfold piecesB
  have hj := join_ge xs
  rw [← hm, bl_len] at hj
  have hk : min l (m.size + 1) - 1 = l - 1 := by omega
  rw [hk]
  have := Lib.splitB_data ⟨#[44]⟩ 0 (l - 1) m
  rw [show (Lib.splitB ⟨#[44]⟩ 0 (l - 1) m).map bl = Lib.splitK [44] 0 (l - 1) (bl m) from this, hm]
  exact splitK_join _ _ (by omega) hc
/-- Block g holds these strings. -/
def StrRow (w : World) (g : Nat) (ps : List ByteArray) : Prop := ∀ (j : Nat) (h : j < ps.length), w.cell? ⟨g, j, none⟩ = some (.string ps[j])
theorem StrRow.turn {w w' : World} {g : Nat} {ps : List ByteArray} (h : StrRow w g ps) (hk : w'.heap[g]? = w.heap[g]?) : StrRow w' g ps := fun j hj => cell_turn hk (h j hj)
theorem splitN_any (m : ByteArray) (hm : m.size < 4294967281) (l : Nat) (h1 : 1 ≤ l) (h64 : l ≤ 64) (w : World) (hw : Std w) :
    Calls Tryz.prog 123 #[.string m, .string ⟨#[44]⟩, .int .i64 (l : Nat)] w fun e w' => ∃ g q, e = .returned (.slice (some ⟨g, 0, none⟩) (piecesB l m).length q) ∧ StrRow w' g (piecesB l m) ∧ w.heap.size ≤ g ∧ g < w'.heap.size ∧ Below w.heap.size w w' := by
  obtain ⟨x, hx⟩ := hw.mlen
  refine (Tryz.strings_SplitN m ⟨#[44]⟩ l x w hm hx (by decide) h1 (by omega)).mono ?_
  rintro e w' ⟨rfl, rfl⟩
  refine ⟨_, _, rfl, ?_, Nat.le_refl _, by rw [World.size_alloc]; omega, below_alloc _ _⟩
  intro j hj
  rw [(Blk.new w _ _).cell j]
  have hj' : j < (Lib.splitB ⟨#[44]⟩ 0 (min l (m.size + 1) - 1) m).length := hj
  unfold Lib.cellsOf
  rw [List.getElem?_toArray, List.getElem?_append_left (by rw [List.length_map]; exact hj'), List.getElem?_map, List.getElem?_eq_getElem hj']
  rfl
/-- Each value is the only one that is written as its piece. -/
def Uq (et : Ty) (vs : List Va) (ps : List ByteArray) : Prop := ∀ (j : Nat) (h : j < vs.length) (h' : j < ps.length) (x : Va), hasV et x = true → textV et x = bl ps[j] → vs[j] = x
theorem Uq.more {et : Ty} {vs : List Va} {ps : List ByteArray} (h : Uq et vs ps) {v : Va} {k : Nat} (hk : vs.length = k) (hp : k < ps.length) (hv : ∀ x, hasV et x = true → textV et x = bl ps[k] → v = x) : Uq et (vs ++ [v]) ps := by
  intro j hj hj' x hx ht
  by_cases hjk : j < vs.length
  · rw [List.getElem_append_left hjk]
    exact h j hjk hj' x hx ht
  · have : j = k := by rw [List.length_append, List.length_singleton] at hj; omega
    subst this
    rw [List.getElem_append_right (by omega)]
    simpa using hv x hx ht
end Go.Proofs.YtdiagnhdigakpaaGreatDoor
/- The contract of the program's read: arrays, the walk. -/
namespace Go.Proofs.YtdiagnhdigakpaaGreatDoor
open Go.RowKit

set_option maxRecDepth 100000 in
set_option maxHeartbeats 8000000 in
theorem read_arr (l : Nat) (h1 : 1 ≤ l) (h64 : l ≤ 64) (nm : ByteArray) (v3 : Value) (b off d : Nat) (k1 l1 : Int) (nm1 : ByteArray) (A1 A2 : Option Addr) (n1 c1 n2 c2 : Nat) (s : ByteArray) (hs : s.size < 4294967281) (et : Ty) (w : World) (hw : Std w)
    (h5 : Hid (Ty5 w b off k1 l1 nm1 (.slice A1 n1 c1) (.slice A2 n2 c2)))
    (HS : Hid (∀ (u : World) (x : ByteArray), Below w.heap.size w u → x.size ≤ s.size → Calls Tryz.prog 86 #[.agg #[.int .i64 k1, .int .i64 l1, .string nm1, .slice A1 n1 c1, .slice A2 n2 c2], .string x] u (ReadOf et (bl x) u))) :
    Calls Tryz.prog 86 #[.agg #[.int .i64 6, .int .i64 (l : Nat), .string nm, v3, .slice (some ⟨b, off, none⟩) 1 d], .string s] w fun e w' => ∃ vs : List Va, CopyOf w (.mk 6 0 [] vs) e w' ∧ vs.length = (piecesB l (sb (midL (bl s) [91] [93]))).length ∧ Uq et vs (piecesB l (sb (midL (bl s) [91] [93]))) := by
  have hmz : (sb (midL (bl s) [91] [93])).size ≤ s.size := by
    rw [sb_size]
    unfold midL
    have a1 := trimS_len (Lib.trimPrefix (bl s) [91]) [93]
    have a2 := trimP_len (bl s) [91]
    rw [bl_len] at a2
    omega
  have H3 := Lib.hid (boxes3 w 26 38 38 #[.int .i64 6, .int .i64 (l : Nat), .string nm, v3, .slice (some ⟨b, off, none⟩) 1 d] #[.int .i64 0, .int .i64 0, .slice none 0 0, .slice none 0 0] #[.int .i64 6, .int .i64 0, .slice none 0 0, .slice none 0 0])
  have HB := Lib.hid (fun (u : World) => between_any s ⟨#[91]⟩ ⟨#[93]⟩ (by omega) u)
  rw [show midL (bl s) (bl ⟨#[91]⟩) (bl ⟨#[93]⟩) = midL (bl s) [91] [93] from rfl] at HB
  have hp := pieces_le l h1 (sb (midL (bl s) [91] [93]))
  have HSp := Lib.hid (fun (u : World) (hu : Std u) => splitN_any (sb (midL (bl s) [91] [93])) (by omega) l h1 h64 u hu)
  have HW := Lib.hid (hw.later (below_drewN H3.out.2.2.2.1 1))
  have hps : ∀ p ∈ piecesB l (sb (midL (bl s) [91] [93])), p.size ≤ s.size := fun p hp1 => Nat.le_trans (hp.2 p hp1) hmz
  have hpl : (piecesB l (sb (midL (bl s) [91] [93]))).length ≤ 64 := by omega
  generalize piecesB l (sb (midL (bl s) [91] [93])) = ps at *
  generalize sb (midL (bl s) [91] [93]) = m at *
  have HPS := Lib.hid hps
  clear hps hp hmz hs hw
  go_enter Tryz.func86, Tryz.ntmps86
  go_wp2_with fail
  go_region_with (first
    | (go_at_call 124; refine (HB.out _).mono ?_; rintro e w1 ⟨rfl, rfl⟩)
    | (go_at_call 123; refine (HSp.out _ HW.out).mono ?_; rintro e w2 ⟨g, q, rfl, hsr, hg1, hg2, hb2⟩; have R2 := Lib.hid ((H3.out.2.2.1.later (below_drewN (Below.refl _ _) 1)).later hb2); have R1 := Lib.hid ((H3.out.2.1.later (below_drewN (Below.refl _ _) 1)).later hb2); have R0 := Lib.hid ((H3.out.1.later (below_drewN (Below.refl _ _) 1)).later hb2); have RB := Lib.hid (below_then (below_drewN H3.out.2.2.2.1 1) hb2); have RG1 := Lib.hid (Nat.le_trans H3.out.2.2.2.2 hg1); have RG2 := Lib.hid hg2; have RS := Lib.hid hsr; clear hb2 hg1 hg2 hsr))
  all_goals
    obtain ⟨G, hG⟩ : ∃ G, G = w2.heap.size := ⟨_, rfl⟩
    rw [← hG] at RG2
    have HG := Lib.hid hG
    have hG3 : w.heap.size + 3 ≤ g ∧ g < G := ⟨RG1.out, RG2.out⟩
    clear hG
    go_wp2
    go_simp
    go_loopw [51] (fun i wr => ∃ (k : Nat) (vs : List Va) (vl : Value), k ≤ ps.length ∧ i = .int .i64 k ∧ Hid (vs.length = k) ∧ Hid (Uq et vs ps) ∧ Hid (Blk wr (w.heap.size + 1 + 1) 38 #[.int .i64 6, .int .i64 0, .slice none 0 0, vl]) ∧ Hid (Blk wr (w.heap.size + 1) 38 #[.int .i64 0, .int .i64 0, .slice none 0 0, .slice none 0 0]) ∧ Hid (Blk wr w.heap.size 26 #[.int .i64 6, .int .i64 (l : Nat), .string nm, v3, .slice (some ⟨b, off, none⟩) 1 d]) ∧ Hid (StrRow wr g ps) ∧ Hid (OwnV (fun b => w.heap.size + 3 ≤ b) wr G vl vs) ∧ Hid (Below w.heap.size w wr)) (fun i _ => ps.length - (intOf i).toNat)
    case atStart =>
      refine ⟨0, [], .slice none 0 0, Nat.zero_le _, rfl, rfl, ?_, R2, R1, R0, RS, OwnV.nil _ (by rw [HG.out]; exact Nat.le_refl _), RB⟩
      intro j hj
      exact absurd hj (Nat.not_lt_zero _)
    case round =>
      obtain ⟨k, vs, vl, hk, rfl, HN, HU, P2, P1, P0, PS, PV, PB⟩ := hrel
      clear R2 R1 R0 RS RB RG1 RG2 HB HSp HW H3
      by_cases hlt : k < ps.length
      · have hpk := PS.out k hlt
        obtain ⟨y0, y1, y2, y3, y4⟩ := fives P0.out
        obtain ⟨e0, e1, e2, e3⟩ := four P2.out
        obtain ⟨h0, h2, h3, h4, h6⟩ := h5.out.later PB.out
        have hbb := Lib.hid (below_drewN (Below.refl wr.heap.size wr) 1)
        have HX := Lib.hid (HS.out (wr.drewN 1) ps[k] (below_drewN PB.out 1) (HPS.out _ (List.getElem_mem hlt)))
        unfold ReadOf CopyOf at HX
        have d1 : decide ((k : Int) < (ps.length : Int)) = true := by rw [decide_eq_true_eq]; omega
        have d2 : decide (k < ps.length) = true := by rw [decide_eq_true_eq]; omega
        have hki : (k : Int) < (ps.length : Int) := by omega
        have hk0 : (0 : Int) ≤ (k : Int) := by omega
        have HL := Lib.hid (show vs.length < 100000 by have := HN.out; omega)
        have HGl := Lib.hid (show w.heap.size + 1 + 1 < G by omega)
        have HS3 := Lib.hid (show ∀ b, wr.heap.size ≤ b → w.heap.size + 3 ≤ b from fun b hb => by have := PV.out.2.2; omega)
        have HL5 := Lib.hid (show ∀ x : Va, (vs ++ [x]).length = k + 1 from fun x => by rw [List.length_append, List.length_singleton, HN.out])
        have HUm := Lib.hid (show ∀ v : Va, (∀ x, hasV et x = true → textV et x = bl ps[k] → v = x) → Uq et (vs ++ [v]) ps from fun v hv => HU.out.more HN.out hlt hv)
        obtain ⟨pk, hpke⟩ : ∃ pk, ps[k] = pk := ⟨_, rfl⟩
        rw [hpke] at hpk HX HUm
        clear hpke h5 HS HPS
        go_wp2_with fail
        go_region_law (first | (refine step_append_va rfl _ _ rfl G vl vs x _ _ _ _ rfl rfl (PV.out.kept HB4.out) HP4.out (new_cells _ _ _ _ _ _) HL.out ?_; intro v5 w5 hown5 hb5 hg5 ho5; obtain ⟨A5, q5, hv5⟩ := hown5.shape; rw [HL5.out x] at hv5; subst hv5; have R5 := Lib.hid ((P2.out.later HB4.out).keep (hb5 _ (Nat.le_refl _)) HGl.out); obtain ⟨s0, s1, s2, s3⟩ := four R5.out; have sf := R5.out.free 3; have HV5 := Lib.hid hown5; have HB5 := Lib.hid (hb5 _ (Nat.le_refl _)); clear hown5 hb5 hg5 ho5) | (go_simp; go_at_call 86; refine (HX.out).mono ?_; rintro e w3 ⟨x, ⟨vb3, vl3, rfl, ho3, hv3, hb3⟩, hux⟩; have HUx := Lib.hid (HUm.out x hux); have HP4 := Lib.hid (VaP.later (fresh_part (S := fun b => w.heap.size + 3 ≤ b) PV.out hbb.out ho3 hv3 HS3.out) (below_alloc w3 (.cells #[.int .i64 x.kind, .int .i64 x.n, vb3, vl3] 38))); have HB4 := Lib.hid (below_then (below_then hbb.out hb3) (below_alloc w3 (.cells #[.int .i64 x.kind, .int .i64 x.n, vb3, vl3] 38))); obtain ⟨t0, t1, t2, t3⟩ := four (P2.out.later (below_then hbb.out hb3)); obtain ⟨z0, z1, z2, z3⟩ := four (P2.out.later HB4.out); clear ho3 hv3 hb3 hux))
        all_goals
          go_wp2
          go_roundw
          case rel =>
            refine ⟨k + 1, vs ++ [x], _, by omega, by go_num, HL5.out x, HUx, R5.out.set 3 _, ((P1.out.later HB4.out).keep HB5.out (by omega)).other (show w.heap.size + 1 + 1 ≠ w.heap.size + 1 by omega) _, ((P0.out.later HB4.out).keep HB5.out (by omega)).other (show w.heap.size + 1 + 1 ≠ w.heap.size by omega) _, ?_, ?_, ((PB.out.trans (HB4.out.mono PB.out.size)).trans (HB5.out.mono (by omega))).setCell (show w.heap.size ≤ w.heap.size + 1 + 1 by omega) _⟩
            · exact ((PS.out.turn (HB4.out.block g (by have := PV.out.2.2; omega))).turn (HB5.out.block g hG3.2)).turn (Below.heap_setCell _ _ _ _ (show g ≠ w.heap.size + 1 + 1 by omega))
            · exact HV5.out.setLow (a := ⟨w.heap.size + 1 + 1, 3, none⟩) (show w.heap.size + 1 + 1 < G by omega) (fun b hb => show b ≠ w.heap.size + 1 + 1 by omega) _
          case measure => simp [intOf]; omega
      · have d1 : decide ((k : Int) < (ps.length : Int)) = false := by rw [decide_eq_false_iff_not]; omega
        have d2 : decide (k < ps.length) = false := by rw [decide_eq_false_iff_not]; omega
        have HK := Lib.hid (show vs.length = ps.length by have := HN.out; omega)
        have hlk := PV.out
        obtain ⟨A6, q6, hv6⟩ := hlk.shape
        subst hv6
        have HV6 := Lib.hid hlk
        obtain ⟨e0, e1, e2, e3⟩ := four P2.out
        obtain ⟨c0, c1, c2, c3⟩ := four P1.out
        have f0 := P1.out.free 0
        have f1 := P1.out.free 1
        have f2 := P1.out.free 2
        have f3 := P1.out.free 3
        clear hlk h5 HS HPS
        go_wp2
        refine bodyPost_ret (by simp [results, Tryz.results86, go_sem, c0, c1, c2, c3]; try rfl) rfl ?_
        have hs2 : ∀ b, w.heap.size + 3 ≤ b → b ≠ w.heap.size + 1 := fun b hb => by omega
        have hs3 : w.heap.size + 1 < G := by omega
        have hs4 : w.heap.size ≤ w.heap.size + 1 := by omega
        have hs5 := PB.out.size
        refine ⟨vs, ⟨_, _, rfl, Lg.Own.nil _ (by simpa [World.setCell] using hs5), OwnV.weak (OwnV.setLow (a := ⟨_, _, none⟩) (OwnV.setLow (a := ⟨_, _, none⟩) (OwnV.setLow (a := ⟨_, _, none⟩) (OwnV.setLow (a := ⟨_, _, none⟩) HV6.out hs3 hs2 _) hs3 hs2 _) hs3 hs2 _) hs3 hs2 _) (by omega) (fun b hb => by omega), (((PB.out.setCell (p := ⟨_, _, none⟩) hs4 _).setCell (p := ⟨_, _, none⟩) hs4 _).setCell (p := ⟨_, _, none⟩) hs4 _).setCell (p := ⟨_, _, none⟩) hs4 _⟩, HK.out, HU.out⟩
end Go.Proofs.YtdiagnhdigakpaaGreatDoor
