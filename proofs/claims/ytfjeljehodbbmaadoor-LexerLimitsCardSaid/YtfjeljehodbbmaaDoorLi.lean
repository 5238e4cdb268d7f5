/- The walk of LexerLimits, with the program's contracts given. -/
import Derived.Test.YtfjeljehodbbmaaDoorAw
import Derived.Test.YtfjeljehodbbmaaDoorLf
import Derived.OwnWalk
namespace Go.Proofs.YtfjeljehodbbmaaDoor
open Go.RowKit

def byteCells (l : List UInt8) : List Value := l.map fun x => .int .u8 (x.toNat : Nat)
def fillB (n k : Nat) : List UInt8 := List.replicate k 32 ++ List.replicate (n - k) 0
theorem fillB_set {n k : Nat} (h : k < n) : (byteCells (fillB n k)).set k (.int .u8 ((32 : UInt8).toNat : Nat)) = byteCells (fillB n (k + 1)) := by
  unfold byteCells fillB
  rw [← List.map_set]
  congr 1
  rw [List.set_append_right _ _ (by simp), List.length_replicate, Nat.sub_self, show n - k = (n - (k + 1)) + 1 by omega, List.replicate_succ, List.set_cons_zero, List.replicate_succ', List.append_assoc]
  rfl
theorem Tryd.infoByte : (Tryd.prog.info? 5).map (fun i => (i.zero, i.size, i.bytes)) = some (some (.int .u8 0), 1, 1) := by kernel_rfl
theorem wpList_make_bytes {ops : Array Oper} {rest : List Oper} {o : Oper} {a : Act} {Q : Exit → Act → World → Prop} {w : World} (hg : o.guard = none) (l c : Operand) (hop : o.op = Op.makeSlice 32 l c)
    (n : Nat) (hl : a.eval l = .int .i64 (n : Int)) (hc : a.eval c = .int .i64 (n : Int)) (hn : n ≤ 140737488355328)
    (hK : ∀ w', w'.ownsRow w.heap.size 5 1 (.slice (some ⟨w.heap.size, 0, none⟩) n n) n (byteCells (List.replicate n 0)) → Below w.heap.size w w' → wpList Tryd.prog ops Q rest (a.put o.dst (.slice (some ⟨w.heap.size, 0, none⟩) n n)) w') :
    wpList Tryd.prog ops Q (o :: rest) a w := by
  obtain ⟨i, hi, hz, hsize, hby⟩ := info_parts Tryd.infoByte
  refine wpList_make_full _ hg l c 32 hop w.heap.size 5 i (.int .u8 0) 1 Tryd.underlying32 hi hz hsize _ _ _ _ n hl hc rfl rfl (by rw [hby]; omega) (by unfold maxLen; omega) (Nat.le_refl _) ?_
  intro w1 hown hg1
  refine hK w1 ?_ ((Below.refl _ _).grown hg1 (Nat.le_refl _) (fun k hk => by cases hk))
  rw [show (madeCells (Value.cells (.int .u8 0)) (n * 1)).toList = List.replicate (n * 1) (.int .u8 0) from toList_madeCells_one _ _, Nat.mul_one] at hown
  simpa [byteCells] using hown
theorem blank_cells {w : World} {b n : Nat} (h : w.ownsRow b 5 1 (.slice (some ⟨b, 0, none⟩) n n) n (byteCells (fillB n n))) : ∀ j, j < n → w.cell? ⟨b, j, none⟩ = some (.int .u8 32) := by
  intro j hj
  rw [h.cellAt j (by omega)]
  simp only [byteCells, fillB, Nat.sub_self, List.replicate_zero, List.append_nil, List.getElem?_map]
  rw [List.getElem?_eq_getElem (by rw [List.length_replicate]; exact hj), List.getElem_replicate]
  rfl
theorem conv_blanks {w : World} {b n : Nat} (h : ∀ j, j < n → w.cell? ⟨b, j, none⟩ = some (.int .u8 32)) : (convert 32 9 (.slice (some ⟨b, 0, none⟩) n n)).run Tryd.prog w = .ok (.string (sb (List.replicate n 32))) w := by
  have := run_convert_bytes_back (P := Tryd.prog) w 32 9 5 ⟨b, 0, none⟩ n (List.replicate n 32) Tryd.underlying32 Tryd.underlying5 Tryd.underlying9 (fun j hj => by
    rw [List.length_replicate] at hj
    have : (Addr.mk b 0 none).add j = ⟨b, j, none⟩ := by unfold Addr.add; by_cases h0 : j = 0 <;> simp [h0]
    rw [this, h j hj, List.getElem_replicate]
    rfl)
  rw [List.length_replicate] at this
  exact this
set_option maxHeartbeats 4000000 in
theorem limits_of (HL : LexC 14) (HT : TextC 18) (HN : NameC 20) (HW : WordC 21) (s : ByteArray) (m : Nat) (w : World) (hs : s.size ≤ 140737488355328) (hm : m ≤ 255) (hw : Std w) :
    Calls Tryd.prog 4 #[.string s, .int .u8 m] w fun e w' => e = .returned (.bool true) ∧ Below w.heap.size w w' := by
  have HStd := Lib.hid hw
  clear hw
  have HA := Lib.hid (awake_of HL HT HN HW)
  have hLo := long_any s (.slice none 0 0) [] w hs (tls_nil w)
  cases hb : longB s [] with
  | true =>
    rw [hb] at hLo
    have HLo := Lib.hid hLo
    clear hLo hb HL HT HN HW
    go_enter Tryd.func4, Tryd.ntmps4
    go_wp2_with fail
    refine (HLo.out).mono ?_
    rintro e w' ⟨rfl, rfl⟩
    go_wp2_with fail
    refine (HA.out _ (by first | exact HStd.out)).mono ?_
    rintro e w9 ⟨rfl, hb9⟩
    have HB9 := Lib.hid (hb9)
    clear hb9
    go_wp2
    go_ret
    exact ⟨rfl, HB9.out⟩
  | false =>
    rw [hb] at hLo
    have HLo := Lib.hid hLo
    have h3 := long_no hb
    obtain ⟨d, hd⟩ : ∃ d, d = m % 3 := ⟨_, rfl⟩
    have hd3 : d ≤ 2 := by omega
    have hmd : (m : Int) % 3 = (d : Int) := by omega
    obtain ⟨a, ha⟩ : ∃ a, a = 20000 - s.size := ⟨_, rfl⟩
    have hsa : (20000 : Int) - (s.size : Int) = (a : Int) := by omega
    obtain ⟨n, hn⟩ : ∃ n, n = a + d := ⟨_, rfl⟩
    have had : (a : Int) + (d : Int) = (n : Int) := by omega
    have hn2 : n ≤ 20002 := by omega
    have ha2 : a ≤ 20000 := by omega
    have hz : (s ++ sb (List.replicate n 32)).size = 20000 + d := by rw [ByteArray.size_append, sb_size, List.length_replicate]; omega
    have hbz : (sb (List.replicate n 32)).size = n := by rw [sb_size, List.length_replicate]
    have hssz : s.size ≤ 3000 := h3
    have hL1 := fun w => HL (s ++ sb (List.replicate n 32)) w (by omega)
    have hL2 := fun w => refLex_c (s ++ sb (List.replicate n 32)) w (by omega)
    have HCv : Hid (∀ (w : World) (b : Nat), (∀ j, j < n → w.cell? ⟨b, j, none⟩ = some (.int .u8 32)) → (convert 32 9 (.slice (some ⟨b, 0, none⟩) n n)).run Tryd.prog w = .ok (.string (sb (List.replicate n 32))) w) := fun w b h => conv_blanks h
    have hlim : 0 < d → lexC (s ++ sb (List.replicate n 32)) = 3 ∧ lexN (s ++ sb (List.replicate n 32)) = ⟨#[]⟩ ∧ lexP (s ++ sb (List.replicate n 32)) = (0, 0) ∧ lexT (s ++ sb (List.replicate n 32)) = [] := by
      intro h0
      have hno : ¬ (s ++ sb (List.replicate n 32)).size ≤ 20000 := by omega
      have hc : lexC (s ++ sb (List.replicate n 32)) = 3 := by unfold lexC; rw [if_neg hno]
      refine ⟨hc, ?_, ?_, ?_⟩
      · unfold lexN; rw [if_neg hno]
      · unfold lexP; rw [if_neg hno]
      · unfold lexT; rw [if_neg (by rw [hc]; decide)]
    clear hLo hb HL HT HN HW hd ha hn
    go_enter Tryd.func4, Tryd.ntmps4
    go_wp2_with fail
    refine (HLo.out).mono ?_
    rintro e w' ⟨rfl, rfl⟩
    go_wp2_with (refine wpList_make_bytes rfl _ _ rfl n rfl rfl (by omega) ?_; intro w1 hown1 hb1)
    have HO1 := Lib.hid hown1
    have HB1 := Lib.hid hb1
    clear hown1 hb1
    go_loopw [24] (fun i wr => ∃ k : Nat, k ≤ n ∧ i = .int .i64 k ∧ wr.ownsRow w.heap.size 5 1 (.slice (some ⟨w.heap.size, 0, none⟩) n n) n (byteCells (fillB n k)) ∧ Below w.heap.size w wr) (fun i _ => n - (intOf i).toNat)
    case atStart => exact ⟨0, Nat.zero_le _, rfl, by simpa [fillB] using HO1.out, HB1.out⟩
    case round =>
      obtain ⟨k, hk, rfl, hown, hb⟩ := hrel
      have HO := Lib.hid hown
      have HB := Lib.hid hb
      clear hown hb
      by_cases hlt : k < n
      · have hfl : (byteCells (fillB n k)).length = n := by simp [byteCells, fillB]; omega
        obtain ⟨y, gc⟩ : ∃ y, wr.cell? ⟨w.heap.size, k, none⟩ = some y := ⟨_, (HO.out.cellAt k (by omega)).trans (List.getElem?_eq_getElem (by rw [hfl]; omega))⟩
        have gf := HO.out.frozenAt k
        have HS := Lib.hid (HO.out.stored k (.int .u8 ((32 : UInt8).toNat : Nat)))
        rw [fillB_set hlt] at HS
        have HBn : Hid (Below w.heap.size w (wr.setCell ⟨w.heap.size, k, none⟩ (.int .u8 ((32 : UInt8).toNat : Nat)))) := HB.out.setCell (Nat.le_refl _) _
        clear hfl hlim hL1 hL2 hsa had hmd hz hbz
        have hki : (k : Int) < (n : Int) := by omega
        have hk0 : (0 : Int) ≤ (k : Int) := by omega
        go_wp2
        go_roundw
        case rel => exact ⟨k + 1, by omega, by go_num, HS.out.1, HBn.out⟩
        case measure => simp [intOf]; omega
      · have hkn : k = n := by omega
        subst hkn
        have hcells := blank_cells HO.out
        have hcv := HCv.out _ _ hcells
        clear HO HO1 HB1
        by_cases h0 : 0 < d
        · obtain ⟨hc, hnm, hp, ht⟩ := hlim h0
          rw [hc, hnm, hp, ht] at hL1
          unfold faultV at hL1
          have HL1 := Lib.hid hL1
          have d1 : decide ((0 : Int) < (d : Int)) = true := by rw [decide_eq_true_eq]; omega
          have d1' : decide (0 < d) = true := by rw [decide_eq_true_eq]; omega
          clear hlim hL1 hL2 hc hnm hp ht hz hcells HCv
          generalize sb (List.replicate k 32) = t at *
          go_wp2_with fail
          refine (HL1.out _ (by first | exact HStd.out.later HB.out | exact HStd.out.later HB1.out | exact HStd.out.later HB9.out | exact HStd.out)).mono ?_
          rintro e w5 ⟨v5, rfl, t5, hb5⟩
          have hal2 := below_alloc w5 (.cells #[.int .i64 3, .string ⟨#[]⟩, .int .i64 0, .int .i64 0] 27)
          obtain ⟨f0, f1, f2, f3⟩ := Flt.new w5 3 ⟨#[]⟩ 0 0
          obtain ⟨A, c1, rfl, _⟩ := t5
          have HB5 := Lib.hid (below_then HB.out (below_then hb5 hal2))
          clear hal2 hb5
          rw [List.length_nil]
          go_wp2_with fail
          refine (HA.out _ (by first | exact HStd.out.later HB5.out | exact HStd.out.later HB9.out | exact HStd.out.later HB.out | exact HStd.out.later HB1.out | exact HStd.out)).mono ?_
          rintro e w9 ⟨rfl, hb9⟩
          have HB9 := Lib.hid (below_then HB5.out hb9)
          clear hb9
          go_wp2
          go_ret
          exact ⟨rfl, HB9.out⟩
        · have d1 : decide ((0 : Int) < (d : Int)) = false := by rw [decide_eq_false_iff_not]; omega
          have d1' : decide (0 < d) = false := by rw [decide_eq_false_iff_not]; omega
          clear hlim hz
          generalize sb (List.replicate k 32) = t at *
          unfold faultV at hL1 hL2
          generalize lexC (s ++ t) = c at *
          generalize lexN (s ++ t) = nm at *
          generalize (lexP (s ++ t)).1 = x at *
          generalize (lexP (s ++ t)).2 = y at *
          generalize lexT (s ++ t) = l at *
          have HL1 := Lib.hid hL1
          have HL2 := Lib.hid hL2
          clear hL1 hL2
          go_wp2_with fail
          refine (HL1.out _ (by first | exact HStd.out.later HB.out | exact HStd.out.later HB5.out | exact HStd.out.later HB1.out | exact HStd.out.later HB9.out | exact HStd.out)).mono ?_
          rintro e w5 ⟨v5, rfl, t5, hb5⟩
          have hal := below_alloc w5 (.cells #[.int .i64 (c : Nat), .string nm, .int .i64 (x : Nat), .int .i64 (y : Nat)] 27)
          have HF5 := Lib.hid (Flt.new w5 c nm x y)
          have HT5 := Lib.hid (t5.later hal)
          have HB5 := Lib.hid (below_then HB.out (below_then hb5 hal))
          have hcv2 := HCv.out _ _ (fun j hj => ((below_then hb5 hal).cell (p := ⟨w.heap.size, j, none⟩) (block_lt_of_cell (hcells j hj))).trans (hcells j hj))
          clear hal t5 hb5 hcells HCv
          go_wp2_with fail
          refine (HL2.out _ (by first | exact HStd.out.later HB5.out | exact HStd.out.later HB.out | exact HStd.out.later HB1.out | exact HStd.out.later HB9.out | exact HStd.out)).mono ?_
          rintro e w6 ⟨v6, rfl, t6, hb6⟩
          have hal := below_alloc w6 (.cells #[.int .i64 (c : Nat), .string nm, .int .i64 (x : Nat), .int .i64 (y : Nat)] 27)
          have hb6a := below_then hb6 hal
          obtain ⟨f0, f1, f2, f3⟩ := HF5.out.later hb6a
          have HT6 := Lib.hid (t6.later hal)
          have HT56 := Lib.hid (HT5.out.later hb6a)
          have HB6 := Lib.hid (below_then HB5.out hb6a)
          clear hal t6 hb6 hb6a HF5 HT5 HB5
          go_wp2_with fail
          refine (tsame_at _ _ l _ HT56.out HT6.out).mono ?_
          rintro e w7 ⟨rfl, hb7⟩
          have HB7 := Lib.hid (below_then HB6.out hb7)
          clear hb7 HT56 HT6 HB6
          go_wp2_with fail
          refine (HA.out _ (by first | exact HStd.out.later HB7.out | exact HStd.out.later HB9.out | exact HStd.out.later HB6.out | exact HStd.out.later HB5.out | exact HStd.out.later HB.out | exact HStd.out.later HB1.out | exact HStd.out)).mono ?_
          rintro e w9 ⟨rfl, hb9⟩
          have HB9 := Lib.hid (below_then HB7.out hb9)
          clear hb9
          go_wp2
          go_ret
          exact ⟨rfl, HB9.out⟩
end Go.Proofs.YtfjeljehodbbmaaDoor
