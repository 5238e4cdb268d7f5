/- A row of strings of the call's own; the contract of the program's Text. -/
import Derived.Test.YtfjeljehodbbmaaDoorPu
import Derived.Lib.Join
namespace Go.Proofs.YtfjeljehodbbmaaDoor
open Go.RowKit

theorem Tryd.infoStr : (Tryd.prog.info? 9).map (fun i => (i.zero, i.size, i.bytes)) = some (some (.string ⟨#[]⟩), 1, 16) := by kernel_rfl
def strCells (xs : List ByteArray) : List Value := xs.map fun x => .string x
/-- The block g is a row of these strings. -/
def OwnP (w : World) (g : Nat) (n : Nat) (xs : List ByteArray) : Prop :=
  w.ownsRow g 9 1 (.slice (some ⟨g, 0, none⟩) n n) n (strCells xs) ∧ xs.length = n
theorem OwnP.made {w w' : World} {n : Nat} (h : w'.ownsRow w.heap.size 9 1 (.slice (some ⟨w.heap.size, 0, none⟩) n n) n (madeCells (Value.cells (.string ⟨#[]⟩)) (n * 1)).toList) : OwnP w' w.heap.size n (List.replicate n ⟨#[]⟩) := by
  refine ⟨?_, by simp⟩
  rw [show (madeCells (Value.cells (.string ⟨#[]⟩)) (n * 1)).toList = List.replicate (n * 1) (.string ⟨#[]⟩) from toList_madeCells_one _ _, Nat.mul_one] at h
  simpa [strCells] using h
theorem OwnP.cell {w : World} {g n : Nat} {xs : List ByteArray} (h : OwnP w g n xs) (j : Nat) (hj : j < n) : w.cell? ⟨g, j, none⟩ = some (.string (xs[j]'(by rw [h.2]; exact hj))) ∧ w.frozen? ⟨g, j, none⟩ = false := by
  obtain ⟨ho, hl⟩ := h
  refine ⟨?_, ho.frozenAt j⟩
  rw [ho.cellAt j (by omega)]
  unfold strCells
  rw [List.getElem?_map, List.getElem?_eq_getElem (by omega)]
  rfl
theorem OwnP.stored {w : World} {g n : Nat} {xs : List ByteArray} (h : OwnP w g n xs) (j : Nat) (y : ByteArray) : OwnP (w.setCell ⟨g, j, none⟩ (.string y)) g n (xs.set j y) := by
  obtain ⟨ho, hl⟩ := h
  obtain ⟨h1, _⟩ := ho.stored j (.string y)
  refine ⟨?_, by simpa using hl⟩
  rw [show strCells (xs.set j y) = (strCells xs).set j (.string y) by simp [strCells]]
  exact h1
theorem OwnP.kept {w w' : World} {g n : Nat} {xs : List ByteArray} (h : OwnP w g n xs) (hb : Below w.heap.size w w') : OwnP w' g n xs := by
  obtain ⟨ho, hl⟩ := h
  have hg : w.grownBy w' none := ⟨hb.os, hb.tape, hb.output, hb.size, fun k hk _ => hb.block k hk⟩
  exact ⟨ho.kept hg (.inr (by simp [Value.ownBlock])), hl⟩
theorem OwnP.lt {w : World} {g n : Nat} {xs : List ByteArray} (h : OwnP w g n xs) : g < w.heap.size := (h.1.lt g rfl).2
theorem wpList_make_strs {ops : Array Oper} {rest : List Oper} {o : Oper} {a : Act} {Q : Exit → Act → World → Prop} {w : World} (hg : o.guard = none) (l c : Operand) (hop : o.op = Op.makeSlice 42 l c)
    (n : Nat) (hl : a.eval l = .int .i64 (n : Int)) (hc : a.eval c = .int .i64 (n : Int)) (hn : n ≤ 20000)
    (hK : ∀ w', OwnP w' w.heap.size n (List.replicate n ⟨#[]⟩) → Below w.heap.size w w' → wpList Tryd.prog ops Q rest (a.put o.dst (.slice (some ⟨w.heap.size, 0, none⟩) n n)) w') :
    wpList Tryd.prog ops Q (o :: rest) a w := by
  obtain ⟨i, hi, hz, hsize, hby⟩ := info_parts Tryd.infoStr
  refine wpList_make_full _ hg l c 42 hop w.heap.size 9 i (.string ⟨#[]⟩) 1 Tryd.underlying42 hi hz hsize _ _ _ _ n hl hc rfl rfl (by rw [hby]; omega) (by unfold maxLen; omega) (Nat.le_refl _) ?_
  intro w1 hown hg1
  exact hK w1 (OwnP.made hown) ((Below.refl _ _).grown hg1 (Nat.le_refl _) (fun k hk => by cases hk))
/-- The parts after k rounds. -/
def rowS (l : List TokA) (k : Nat) : List ByteArray := ((l.take k).map fun a => sb (wriL (tokOf a))) ++ List.replicate (l.length - k) ⟨#[]⟩
theorem rowS_zero (l : List TokA) : rowS l 0 = List.replicate l.length ⟨#[]⟩ := by simp [rowS]
theorem rowS_set {l : List TokA} {k : Nat} (h : k < l.length) : (rowS l k).set k (sb (wriL (tokOf l[k]))) = rowS l (k + 1) := by
  unfold rowS
  have hl : ((l.take k).map fun a => sb (wriL (tokOf a))).length = k := by rw [List.length_map, List.length_take]; omega
  rw [List.set_append_right _ _ (by omega), hl, Nat.sub_self, List.take_succ_eq_append_getElem h, List.map_append, List.append_assoc]
  congr 1
  rw [show l.length - k = (l.length - (k + 1)) + 1 by omega, List.replicate_succ]
  rfl
theorem rowS_end {l : List TokA} {k : Nat} (h : ¬ k < l.length) : rowS l k = l.map fun a => sb (wriL (tokOf a)) := by
  unfold rowS
  rw [List.take_of_length_le (by omega), show l.length - k = 0 by omega]
  simp
theorem join_toks (ts : List Tok) : Lib.join (ts.map wriL) [32] = joinL ts := by
  cases ts with
  | nil => rfl
  | cons t r =>
    rw [List.map_cons, Lib.join_cons, joinL]
    congr 1
    unfold Lib.joinTail
    induction r with
    | nil => rfl
    | cons a r ih => rw [List.map_cons, List.map_cons, List.flatten_cons, tailL, ih]; simp
theorem join_max {l : List TokA} (hp : allP l = true) : (joinL (l.map tokOf)).length ≤ 68 * l.length := by
  have h := join_len (l.map tokOf)
  have hw : wsum (l.map tokOf) ≤ 67 * l.length := by
    unfold allP at hp
    clear h
    induction l with
    | nil => exact Nat.le_refl _
    | cons a l ih =>
      rw [List.all_cons, Bool.and_eq_true] at hp
      have := wri_len (poss_posL hp.1)
      have := ih hp.2
      rw [List.map_cons, wsum, List.length_cons]
      omega
  rw [List.length_map] at h
  omega
set_option maxRecDepth 100000 in
set_option maxHeartbeats 8000000 in
theorem text_any (v : Value) (l : List TokA) (w : World) (hv : Tls w v l) (hsm : ∀ a ∈ l, Small a) (hw : Std w) :
    Calls Tryd.prog 18 #[v] w fun e w' => e = .returned (.tuple #[.string (txtS l), .int .i64 (txtE l : Nat)]) ∧ Below w.heap.size w w' := by
  obtain ⟨A, c, rfl, hq, hn, hc⟩ := hv
  by_cases hl : l.length ≤ 20000
  · have d1 : decide ((20000 : Int) < (l.length : Int)) = false := by rw [decide_eq_false_iff_not]; omega
    have d2 : decide (20000 < l.length) = false := by rw [decide_eq_false_iff_not]; omega
    have HSm := Lib.hid hsm
    have HW := Lib.hid hw
    clear hsm hw
    go_enter Tryd.func18, Tryd.ntmps18
    go_wp2_with (refine wpList_make_strs rfl _ _ rfl l.length rfl rfl hl ?_; intro w1 hown1 hb1)
    have HO1 := Lib.hid hown1
    have HB1 := Lib.hid hb1
    clear hown1 hb1
    go_loopw [15] (fun i wr => ∃ k : Nat, k ≤ l.length ∧ i = .int .i64 k ∧ Hid (OwnP wr w.heap.size l.length (rowS l k)) ∧ Hid (allP (l.take k) = true) ∧ Hid (Below w.heap.size w wr)) (fun i _ => l.length - (intOf i).toNat)
    case atStart => exact ⟨0, Nat.zero_le _, rfl, by rw [rowS_zero]; exact HO1, by show _ = _; rw [List.take_zero]; rfl, HB1⟩
    case round =>
      obtain ⟨k, hk, rfl, HO, hp, HB⟩ := hrel
      clear HO1 HB1
      by_cases hlt : k < l.length
      · rcases hc with rfl | ⟨B, off, rfl, hc⟩
        · exact absurd hlt (by simp)
        obtain ⟨p0, p1, p2, p3, p4⟩ := hc k hlt
        have hlb := block_lt_of_cell p0
        have hb := HB.out
        have g0 := (hb.cell hlb).trans p0
        have g1 := (hb.cell (p := ⟨B, off + k * 5 + 1, none⟩) hlb).trans p1
        have g2 := (hb.cell (p := ⟨B, off + k * 5 + 2, none⟩) hlb).trans p2
        have g3 := (hb.cell (p := ⟨B, off + k * 5 + 3, none⟩) hlb).trans p3
        have g4 := (hb.cell (p := ⟨B, off + k * 5 + 4, none⟩) hlb).trans p4
        have hStd : ∀ u, Below wr.heap.size wr u → Std u := fun u hu => (HW.out.later hb).later hu
        have hAl : ∀ o u, Below (wr.alloc o).heap.size (wr.alloc o) u → ∀ u', Below u.heap.size u u' → Std u' := fun o u hu u' hu' => hStd u' (below_then (below_then (below_alloc wr o) hu) hu')
        have hsa := HSm.out l[k] (List.getElem_mem hlt)
        have HP := Lib.hid (fun u h => isPossible_any l[k] hsa u h)
        have HWr := Lib.hid (fun u h => written_all l[k] hsa u h)
        have hki : (k : Int) < (l.length : Int) := by omega
        have hk0 : (0 : Int) ≤ (k : Int) := by omega
        have hblk : B < wr.heap.size := block_lt_of_cell g0
        obtain ⟨b, hbb⟩ : ∃ b, possA l[k] = b := ⟨_, rfl⟩
        rw [hbb] at HP
        have HNo : Hid (b = false → allP l = false) := fun e => allP_no hlt (hbb.trans e)
        have HMo : Hid (b = true → allP (l.take (k + 1)) = true) := fun e => allP_more hlt hp.out (hbb.trans e)
        have HWe : Hid (b = true → wrA l[k] = wriL (tokOf l[k])) := fun e => by
          have hq := hbb.trans e
          unfold possA at hq
          rw [Bool.and_eq_true, Bool.and_eq_true, decide_eq_true_eq, decide_eq_true_eq] at hq
          exact wrA_wri hq.1 hq.2.1
        have HSet := Lib.hid (rowS_set hlt)
        have HAl := Lib.hid hAl
        obtain ⟨y, hy⟩ : ∃ y, sb (wrA l[k]) = y := ⟨_, rfl⟩
        rw [hy] at HWr
        have HY := Lib.hid hy
        have ho := HO.out.cell k hlt
        obtain ⟨u, hu⟩ : ∃ u, (rowS l k)[k]'(by rw [HO.out.2]; exact hlt) = u := ⟨_, rfl⟩
        rw [hu] at ho
        have HOc := Lib.hid ho
        have hgl := HO.out.lt
        generalize tokOf l[k] = t at *
        generalize wrA l[k] = wa at *
        generalize l[k].op = o0 at *
        generalize l[k].text = o1 at *
        generalize l[k].n = o2 at *
        generalize l[k].line = o3 at *
        generalize l[k].col = o4 at *
        clear hc p0 p1 p2 p3 p4 hlb hb hbb hp hStd hAl hsa hy ho hu
        have HG := Lib.hid hgl
        clear hgl
        cases b with
        | false =>
          have HNx := Lib.hid (HNo.out rfl)
          clear HNo HMo HWe HWr HSet HY HOc HG
          go_wp2_with fail
          refine (HP.out _ (HAl.out _ _ (Below.refl _ _))).mono ?_
          rintro e w1 ⟨rfl, hb1⟩
          have HB1 := Lib.hid ((HB.out.alloc HB.out.size _).trans (hb1.mono (Nat.le_trans HB.out.size (below_alloc _ _).size)))
          clear hb1
          have HR := Lib.hid (txt_no (l := l) (fun h => by rw [HNx.out] at h; cases h.2))
          go_wp2
          go_ret2
          exact ⟨ret_si HR.out.1.symm (by rw [HR.out.2]; rfl), HB1.out⟩
        | true =>
          have HMx := Lib.hid (HMo.out rfl)
          have HWx := Lib.hid (HWe.out rfl)
          clear HWe HMo HNo
          go_wp2_with fail
          refine (HP.out _ (HAl.out _ _ (Below.refl _ _))).mono ?_
          rintro e w1 ⟨rfl, hb1⟩
          have hl1 : wr.heap.size < (wr.alloc (.cells #[.int .i64 o0, .string o1, .int .i64 o2, .int .i64 o3, .int .i64 o4] 40)).heap.size := by rw [World.size_alloc]; omega
          have q0 : w1.cell? ⟨wr.heap.size, 0, none⟩ = some (.int .i64 o0) := (hb1.cell (by exact hl1)).trans (by rw [World.cell?_alloc_at _ _ _ _ rfl]; rfl)
          have q1 : w1.cell? ⟨wr.heap.size, 1, none⟩ = some (.string o1) := (hb1.cell (by exact hl1)).trans (by rw [World.cell?_alloc_at _ _ _ _ rfl]; rfl)
          have q2 : w1.cell? ⟨wr.heap.size, 2, none⟩ = some (.int .i64 o2) := (hb1.cell (by exact hl1)).trans (by rw [World.cell?_alloc_at _ _ _ _ rfl]; rfl)
          have q3 : w1.cell? ⟨wr.heap.size, 3, none⟩ = some (.int .i64 o3) := (hb1.cell (by exact hl1)).trans (by rw [World.cell?_alloc_at _ _ _ _ rfl]; rfl)
          have q4 : w1.cell? ⟨wr.heap.size, 4, none⟩ = some (.int .i64 o4) := (hb1.cell (by exact hl1)).trans (by rw [World.cell?_alloc_at _ _ _ _ rfl]; rfl)
          have HB1 := Lib.hid ((HB.out.alloc HB.out.size _).trans (hb1.mono (Nat.le_trans HB.out.size (below_alloc _ _).size)))
          have HBs := Lib.hid (Nat.le_trans (Nat.le_trans HB.out.size (Nat.le_of_lt hl1)) hb1.size)
          have HO2 := Lib.hid (HO.out.kept (below_then (below_alloc wr _) hb1))
          have HS2 := Lib.hid (HAl.out _ _ hb1)
          clear hb1 hl1 HO HOc HAl
          go_wp2_with fail
          refine (HWr.out _ HS2.out).mono ?_
          rintro e w2 ⟨rfl, hb2⟩
          have HB2 := Lib.hid (HB1.out.trans (hb2.mono HBs.out))
          have HO3 := Lib.hid (HO2.out.kept hb2)
          obtain ⟨k0, k1⟩ := HO3.out.cell k hlt
          have HO4 := Lib.hid (HO3.out.stored k y)
          have HBf : Hid (Below w.heap.size w (w2.setCell ⟨w.heap.size, k, none⟩ (.string y))) := HB2.out.setCell (by exact Nat.le_refl _) _
          clear hb2 q0 q1 q2 q3 q4
          generalize (rowS l k)[k]'(by rw [HO3.out.2]; exact hlt) = u0 at k0
          have hfin := HO4.out
          rw [← HY.out, HWx.out, HSet.out] at hfin
          have HFin := Lib.hid hfin
          rw [← HWx.out, HY.out] at HFin
          clear hfin
          go_wp2
          go_roundw
          case rel => exact ⟨k + 1, by omega, by go_num, HFin, HMx, HBf⟩
          case measure => simp [intOf]; omega
      · have hpl : allP l = true := by have := hp.out; rwa [List.take_of_length_le (by omega)] at this
        have HR := Lib.hid (txt_yes (l := l) hl hpl)
        have hmx := join_max hpl
        have HJ : Hid (Calls Tryd.prog 33 #[.slice (some ⟨w.heap.size, 0, none⟩) l.length l.length, .string ⟨#[32]⟩] wr fun e w' => e = .returned (.string (txtS l)) ∧ Below wr.heap.size wr w') := by
          have hlen : (rowS l k).length = l.length := HO.out.2
          have hb : (rowS l k).map bl = (l.map tokOf).map wriL := by
            rw [rowS_end hlt, List.map_map, List.map_map]
            apply List.map_congr_left
            intro a _
            exact bl_sb _
          have hj : Lib.join ((rowS l k).map bl) (bl ⟨#[32]⟩) = joinL (l.map tokOf) := by rw [hb]; exact join_toks _
          have := join_any w.heap.size 0 l.length (rowS l k) ⟨#[32]⟩ wr (fun j x hx => by
            have hj : j < l.length := by
              rcases Nat.lt_or_ge j l.length with h | h
              · exact h
              · rw [List.getElem?_eq_none (by omega)] at hx; cases hx
            rw [Nat.zero_add, (HO.out.cell j hj).1]
            rw [List.getElem?_eq_getElem (by omega)] at hx
            injection hx with hx
            rw [hx]) HO.out.lt (by omega) (by omega) (by rw [hj]; omega)
          rw [hlen, hj, ← HR.out.1] at this
          exact this
        clear hc hp hpl hmx
        go_wp2_with fail
        refine HJ.out.mono ?_
        rintro e w2 ⟨rfl, hb2⟩
        have HB2 := Lib.hid (below_then HB.out hb2)
        clear hb2
        go_wp2
        go_ret2
        exact ⟨ret_si rfl (by rw [HR.out.2]; rfl), HB2.out⟩
  · have d1 : decide ((20000 : Int) < (l.length : Int)) = true := by rw [decide_eq_true_eq]; omega
    have d2 : decide (20000 < l.length) = true := by rw [decide_eq_true_eq]; omega
    have HR := Lib.hid (txt_no (l := l) (fun h => hl h.1))
    clear hc hl
    go_enter Tryd.func18, Tryd.ntmps18
    go_wp2
    go_ret2
    exact ⟨ret_si HR.out.1.symm (by rw [HR.out.2]; rfl), Below.refl _ _⟩
end Go.Proofs.YtfjeljehodbbmaaDoor
