/- LogicOrders: its walk. -/
import Derived.Test.YtaeehejnifhaaaaDoorOrd1
namespace Go.Proofs.YtaeehejnifhaaaaDoor
open Go.RowKit

def ops6 : Array Value := #[.string ⟨#[97, 110, 100]⟩, .string ⟨#[111, 114]⟩, .string ⟨#[120, 111, 114]⟩, .string ⟨#[110, 97, 110, 100]⟩, .string ⟨#[110, 111, 114]⟩, .string ⟨#[120, 110, 111, 114]⟩]
def ops2 : Array Value := #[.string ⟨#[97, 110, 100]⟩, .string ⟨#[111, 114]⟩]

theorem rot_at (k : Int) {n : Nat} (hpos : 0 < n) (hn : n ≤ 200) : ∃ t : Nat, t < n ∧ (wrap64 (k.tmod (n : Int) + (n : Int))).tmod (n : Int) = (t : Int) := by
  have h1 := Int.tmod_lt_of_pos k (show (0 : Int) < n by omega)
  have h2 : -(n : Int) < k.tmod (n : Int) := by
    have := Int.lt_tmod_of_pos k (show (0 : Int) < n by omega)
    exact this
  rw [IntWalk.wrap64_in _ ⟨by omega, by omega⟩]
  have h3 : 0 ≤ (k.tmod (n : Int) + (n : Int)).tmod (n : Int) := Int.tmod_nonneg _ (by omega)
  have h4 := Int.tmod_lt_of_pos (k.tmod (n : Int) + (n : Int)) (show (0 : Int) < n by omega)
  exact ⟨((k.tmod (n : Int) + (n : Int)).tmod (n : Int)).toNat, by omega, by omega⟩
theorem resolve_perm {v : Value} {xs ys : List Nat} (h : xs.Perm ys) {w : World} (hT : Tabs w) (hs : Sl w v xs) :
    Calls Tryd.prog 22 #[v] w fun e w' => e = .returned (.tuple #[.int .u8 (resV ys : Nat), .int .i64 (resE ys : Nat)]) ∧ w = w' := by
  have := resolve_any v xs w hT hs
  rwa [(res_perm h).1, (res_perm h).2] at this
theorem ord_two {s : ByteArray} {k : Nat} (hs : nameK s = k) (hk : k ∈ [0, 1, 2, 3, 4, 5]) {a b : Nat} (ha : a ≤ 3) (hb : b ≤ 3) :
    ∃ r : Nat, (∀ w, Tabs w → Calls Tryd.prog 13 #[.string s, .int .u8 a, .int .u8 b] w fun e w' => e = .returned (.tuple #[.int .u8 (r : Nat), .int .i64 0]) ∧ w = w') ∧
      (∀ w, Tabs w → Calls Tryd.prog 13 #[.string s, .int .u8 b, .int .u8 a] w fun e w' => e = .returned (.tuple #[.int .u8 (r : Nat), .int .i64 0]) ∧ w = w') := by
  have h5 : k ≤ 5 := by simp at hk; omega
  exact ⟨opN k a b, fun w hT => op_set hs h5 ha hb rfl w hT, fun w hT => op_set hs h5 hb ha (op_comm k hk b (mem4 hb) a (mem4 ha)) w hT⟩
theorem ord_three {s : ByteArray} {k : Nat} (hs : nameK s = k) (hk : k ∈ [0, 1]) {a b c : Nat} (ha : a ≤ 3) (hb : b ≤ 3) (hc : c ≤ 3) :
    ∃ r1 r2 r3 : Nat, (∀ w, Tabs w → Calls Tryd.prog 13 #[.string s, .int .u8 a, .int .u8 b] w fun e w' => e = .returned (.tuple #[.int .u8 (r1 : Nat), .int .i64 0]) ∧ w = w') ∧
      (∀ w, Tabs w → Calls Tryd.prog 13 #[.string s, .int .u8 r1, .int .u8 c] w fun e w' => e = .returned (.tuple #[.int .u8 (r2 : Nat), .int .i64 0]) ∧ w = w') ∧
      (∀ w, Tabs w → Calls Tryd.prog 13 #[.string s, .int .u8 b, .int .u8 c] w fun e w' => e = .returned (.tuple #[.int .u8 (r3 : Nat), .int .i64 0]) ∧ w = w') ∧
      (∀ w, Tabs w → Calls Tryd.prog 13 #[.string s, .int .u8 a, .int .u8 r3] w fun e w' => e = .returned (.tuple #[.int .u8 (r2 : Nat), .int .i64 0]) ∧ w = w') := by
  have h5 : k ≤ 5 := by simp at hk; omega
  have l1 := opN_le k a b
  have l3 := opN_le k b c
  exact ⟨opN k a b, opN k (opN k a b) c, opN k b c, fun w hT => op_set hs h5 ha hb rfl w hT, fun w hT => op_set hs h5 (by omega) hc rfl w hT, fun w hT => op_set hs h5 hb hc rfl w hT,
    fun w hT => op_set hs h5 ha (by omega) (op_assoc k hk a (mem4 ha) b (mem4 hb) c (mem4 hc)).symm w hT⟩

set_option maxRecDepth 100000 in
set_option maxHeartbeats 4000000 in
theorem orders_good (a b c : Nat) (v : Value) (zs : List Nat) (k : Int) (w : World) (hT : Tabs w) (h : Sl w v zs) (hcap : ∃ A cp, v = .slice A zs.length cp ∧ zs.length ≤ cp) (ha : a ≤ 3) (hb : b ≤ 3) (hc : c ≤ 3) (hl : zs.length ≤ 200) :
    Calls Tryd.prog 9 #[.agg #[.int .u8 a, .int .u8 b, .int .u8 c], v, .int .i64 k] w fun e w' => e = .returned (.bool true) ∧ Below w.heap.size w w' := by
  have HT := Lib.hid hT
  have HS := Lib.hid h
  have HC := Lib.hid hcap
  have HL := Lib.hid hl
  obtain ⟨A, cp, rfl, hn, hz, hcell⟩ := h
  have HZ := Lib.hid hz
  have HCe := Lib.hid hcell
  have hb0 := fun q => below_drewN (below_alloc w (.cells #[.int .u8 (a : Nat), .int .u8 (b : Nat), .int .u8 (c : Nat)] 50)) q
  have HB0 := Lib.hid hb0
  clear hT hl hz hcell hcap hb0
  go_enter Tryd.func9, Tryd.ntmps9
  go_wp2_with fail
  go_quiet (fail)
  go_wp2_with fail
  refine (bit_yes _ _ ha).mono ?_
  rintro e w' ⟨rfl, rfl⟩
  go_wp2_with fail
  refine (bit_yes _ _ hb).mono ?_
  rintro e w' ⟨rfl, rfl⟩
  go_wp2_with fail
  refine (bit_yes _ _ hc).mono ?_
  rintro e w' ⟨rfl, rfl⟩
  go_wp2_with fail
  refine (HS.out.long_no HL.out _).mono ?_
  rintro e w' ⟨rfl, rfl⟩
  have HBW := Lib.hid (HB0.out nq)
  generalize (w.alloc (.cells #[.int .u8 (a : Nat), .int .u8 (b : Nat), .int .u8 (c : Nat)] 50)).drewN nq = W0 at HBW
  go_wp2_with fail
  change Code.wp _ _ _ _ (W0.alloc (.cells ops6 9))
  have c0 : (W0.alloc (.cells ops6 9)).cell? ⟨W0.heap.size, 0, none⟩ = some (.string ⟨#[97, 110, 100]⟩) := (Row.new W0 _ _).cell 0
  have c1 : (W0.alloc (.cells ops6 9)).cell? ⟨W0.heap.size, 1, none⟩ = some (.string ⟨#[111, 114]⟩) := (Row.new W0 _ _).cell 1
  have c2 : (W0.alloc (.cells ops6 9)).cell? ⟨W0.heap.size, 2, none⟩ = some (.string ⟨#[120, 111, 114]⟩) := (Row.new W0 _ _).cell 2
  have c3 : (W0.alloc (.cells ops6 9)).cell? ⟨W0.heap.size, 3, none⟩ = some (.string ⟨#[110, 97, 110, 100]⟩) := (Row.new W0 _ _).cell 3
  have c4 : (W0.alloc (.cells ops6 9)).cell? ⟨W0.heap.size, 4, none⟩ = some (.string ⟨#[110, 111, 114]⟩) := (Row.new W0 _ _).cell 4
  have c5 : (W0.alloc (.cells ops6 9)).cell? ⟨W0.heap.size, 5, none⟩ = some (.string ⟨#[120, 110, 111, 114]⟩) := (Row.new W0 _ _).cell 5
  have HB1 := Lib.hid (HBW.out.alloc HBW.out.size (.cells ops6 9))
  generalize hg0 : W0.heap.size = g0 at c0 c1 c2 c3 c4 c5
  clear hg0
  generalize W0.alloc (.cells ops6 9) = W1 at c0 c1 c2 c3 c4 c5 HB1
  have HT1 := Lib.hid (HT.out.later HB1.out)
  go_loop [58] (fun i => ∃ j : Nat, j ≤ 6 ∧ i = .int .i64 j) (fun i => 6 - (intOf i).toNat)
  case atStart => exact ⟨0, Nat.zero_le _, rfl⟩
  case round =>
    obtain ⟨j, hj, rfl⟩ := hrel
    obtain rfl | rfl | rfl | rfl | rfl | rfl | rfl : j = 0 ∨ j = 1 ∨ j = 2 ∨ j = 3 ∨ j = 4 ∨ j = 5 ∨ j = 6 := by omega
    · have M := ord_two (s := ⟨#[97, 110, 100]⟩) (k := 0) (by kernel_rfl) (by simp) ha hb
      obtain ⟨r, M1, M2⟩ := M
      have N1 := Lib.hid M1
      have N2 := Lib.hid M2
      clear M1 M2
      go_wp2_with fail
      refine (N1.out _ HT1.out).mono ?_
      rintro e w' ⟨rfl, rfl⟩
      go_wp2_with fail
      refine (N2.out _ HT1.out).mono ?_
      rintro e w' ⟨rfl, rfl⟩
      go_wp2
      go_round
      case rel => exact ⟨1, by omega, rfl⟩
      case measure => simp [intOf]
    · have M := ord_two (s := ⟨#[111, 114]⟩) (k := 1) (by kernel_rfl) (by simp) ha hb
      obtain ⟨r, M1, M2⟩ := M
      have N1 := Lib.hid M1
      have N2 := Lib.hid M2
      clear M1 M2
      go_wp2_with fail
      refine (N1.out _ HT1.out).mono ?_
      rintro e w' ⟨rfl, rfl⟩
      go_wp2_with fail
      refine (N2.out _ HT1.out).mono ?_
      rintro e w' ⟨rfl, rfl⟩
      go_wp2
      go_round
      case rel => exact ⟨2, by omega, rfl⟩
      case measure => simp [intOf]
    · have M := ord_two (s := ⟨#[120, 111, 114]⟩) (k := 2) (by kernel_rfl) (by simp) ha hb
      obtain ⟨r, M1, M2⟩ := M
      have N1 := Lib.hid M1
      have N2 := Lib.hid M2
      clear M1 M2
      go_wp2_with fail
      refine (N1.out _ HT1.out).mono ?_
      rintro e w' ⟨rfl, rfl⟩
      go_wp2_with fail
      refine (N2.out _ HT1.out).mono ?_
      rintro e w' ⟨rfl, rfl⟩
      go_wp2
      go_round
      case rel => exact ⟨3, by omega, rfl⟩
      case measure => simp [intOf]
    · have M := ord_two (s := ⟨#[110, 97, 110, 100]⟩) (k := 3) (by kernel_rfl) (by simp) ha hb
      obtain ⟨r, M1, M2⟩ := M
      have N1 := Lib.hid M1
      have N2 := Lib.hid M2
      clear M1 M2
      go_wp2_with fail
      refine (N1.out _ HT1.out).mono ?_
      rintro e w' ⟨rfl, rfl⟩
      go_wp2_with fail
      refine (N2.out _ HT1.out).mono ?_
      rintro e w' ⟨rfl, rfl⟩
      go_wp2
      go_round
      case rel => exact ⟨4, by omega, rfl⟩
      case measure => simp [intOf]
    · have M := ord_two (s := ⟨#[110, 111, 114]⟩) (k := 4) (by kernel_rfl) (by simp) ha hb
      obtain ⟨r, M1, M2⟩ := M
      have N1 := Lib.hid M1
      have N2 := Lib.hid M2
      clear M1 M2
      go_wp2_with fail
      refine (N1.out _ HT1.out).mono ?_
      rintro e w' ⟨rfl, rfl⟩
      go_wp2_with fail
      refine (N2.out _ HT1.out).mono ?_
      rintro e w' ⟨rfl, rfl⟩
      go_wp2
      go_round
      case rel => exact ⟨5, by omega, rfl⟩
      case measure => simp [intOf]
    · have M := ord_two (s := ⟨#[120, 110, 111, 114]⟩) (k := 5) (by kernel_rfl) (by simp) ha hb
      obtain ⟨r, M1, M2⟩ := M
      have N1 := Lib.hid M1
      have N2 := Lib.hid M2
      clear M1 M2
      go_wp2_with fail
      refine (N1.out _ HT1.out).mono ?_
      rintro e w' ⟨rfl, rfl⟩
      go_wp2_with fail
      refine (N2.out _ HT1.out).mono ?_
      rintro e w' ⟨rfl, rfl⟩
      go_wp2
      go_round
      case rel => exact ⟨6, by omega, rfl⟩
      case measure => simp [intOf]
    · clear c0 c1 c2 c3 c4 c5
      go_wp2_with fail
      change Code.wp _ _ _ _ (W1.alloc (.cells ops2 9))
      have c0 : (W1.alloc (.cells ops2 9)).cell? ⟨W1.heap.size, 0, none⟩ = some (.string ⟨#[97, 110, 100]⟩) := (Row.new W1 _ _).cell 0
      have c1 : (W1.alloc (.cells ops2 9)).cell? ⟨W1.heap.size, 1, none⟩ = some (.string ⟨#[111, 114]⟩) := (Row.new W1 _ _).cell 1
      have HB2 := Lib.hid (HB1.out.alloc HB1.out.size (.cells ops2 9))
      generalize hg1 : W1.heap.size = g1 at c0 c1
      clear hg1
      generalize W1.alloc (.cells ops2 9) = W2 at c0 c1 HB2
      have HT2 := Lib.hid (HT.out.later HB2.out)
      go_loop [90] (fun i => ∃ j : Nat, j ≤ 2 ∧ i = .int .i64 j) (fun i => 2 - (intOf i).toNat)
      case atStart => exact ⟨0, Nat.zero_le _, rfl⟩
      case round =>
        obtain ⟨j, hj, rfl⟩ := hrel
        obtain rfl | rfl | rfl : j = 0 ∨ j = 1 ∨ j = 2 := by omega
        · obtain ⟨r1, r2, r3, M1, M2, M3, M4⟩ := ord_three (s := ⟨#[97, 110, 100]⟩) (k := 0) (by kernel_rfl) (by simp) ha hb hc
          have N1 := Lib.hid M1
          have N2 := Lib.hid M2
          have N3 := Lib.hid M3
          have N4 := Lib.hid M4
          clear M1 M2 M3 M4
          go_wp2_with fail
          refine (N1.out _ HT2.out).mono ?_
          rintro e w' ⟨rfl, rfl⟩
          go_wp2_with fail
          refine (N2.out _ HT2.out).mono ?_
          rintro e w' ⟨rfl, rfl⟩
          go_wp2_with fail
          refine (N3.out _ HT2.out).mono ?_
          rintro e w' ⟨rfl, rfl⟩
          go_wp2_with fail
          refine (N4.out _ HT2.out).mono ?_
          rintro e w' ⟨rfl, rfl⟩
          go_wp2
          go_round
          case rel => exact ⟨1, by omega, rfl⟩
          case measure => simp [intOf]
        · obtain ⟨r1, r2, r3, M1, M2, M3, M4⟩ := ord_three (s := ⟨#[111, 114]⟩) (k := 1) (by kernel_rfl) (by simp) ha hb hc
          have N1 := Lib.hid M1
          have N2 := Lib.hid M2
          have N3 := Lib.hid M3
          have N4 := Lib.hid M4
          clear M1 M2 M3 M4
          go_wp2_with fail
          refine (N1.out _ HT2.out).mono ?_
          rintro e w' ⟨rfl, rfl⟩
          go_wp2_with fail
          refine (N2.out _ HT2.out).mono ?_
          rintro e w' ⟨rfl, rfl⟩
          go_wp2_with fail
          refine (N3.out _ HT2.out).mono ?_
          rintro e w' ⟨rfl, rfl⟩
          go_wp2_with fail
          refine (N4.out _ HT2.out).mono ?_
          rintro e w' ⟨rfl, rfl⟩
          go_wp2
          go_round
          case rel => exact ⟨2, by omega, rfl⟩
          case measure => simp [intOf]
        · clear c0 c1
          by_cases hpos : 0 < zs.length
          · have hne : ((zs.length : Int) == 0) = false := by rw [beq_eq_false_iff_ne]; omega
            obtain ⟨t, ht, hat⟩ := rot_at k hpos (by have := HL.out; omega)
            obtain ⟨A', cp', hAc, hcpl⟩ := HC.out
            obtain rfl : cp' = cp := by injection hAc with _ _ h; exact h.symm
            obtain ⟨b, off, rfl, hcell⟩ := HCe.out.resolve_left (fun h => by rw [h] at hpos; exact absurd hpos (by simp))
            have HAt := Lib.hid hat
            have P1 : Hid (Sl w (.slice (some ⟨b, off + t, none⟩) (zs.length - t) (cp' - t)) (zs.drop t)) := by
              have := Sl.part (c := cp' - t) hn HZ.out hcell t zs.length (by omega) (Nat.le_refl _)
              rwa [List.take_length] at this
            have P2 : Hid (Sl w (.slice (some ⟨b, off, none⟩) t cp') (zs.take t)) := by
              have := Sl.part (c := cp') hn HZ.out hcell 0 t (Nat.zero_le _) (by omega)
              rwa [List.drop_zero, Nat.sub_zero, Nat.add_zero] at this
            have PL : Hid ((zs.drop t).length + (zs.take t).length ≤ 140737488355328) := by
              show (zs.drop t).length + (zs.take t).length ≤ 140737488355328
              simp; omega
            have ht1 : t ≤ zs.length := by omega
            have ht2 : ¬ cp' = t := by omega
            have ht3 : t ≤ cp' := by omega
            clear hAc hat hcell
            go_wp2_with fail
            rw [HAt.out]
            go_region_law (first | (refine step_append_sl rfl _ _ rfl _ _ _ _ _ rfl rfl HM1.out (P2.out.later HB3.out) PL.out ?_; intro v4 w4 hown4 hb4; have HM4 := Lib.hid hown4; have HB4 := Lib.hid (HB3.out.trans (hb4 _ HB2.out.size)); clear hown4 hb4) | (go_simp; go_at_call 21; refine (copied_any _ _ _ (P1.out.later HB2.out.drew)).mono ?_; rintro e w3 ⟨u3, rfl, hown3, hb3⟩; have HM1 := Lib.hid hown3; have HB3 := Lib.hid (below_then HB2.out.drew hb3); clear hown3 hb3))
            clear ht1 ht2 ht3
            go_wp2_with fail
            clear hne
            go_loopw [24, 150] (fun x i wr => ∃ j : Nat, j ≤ zs.length ∧ i = .int .i64 j ∧ Own wr w4.heap.size x (zs.reverse.take j) ∧ Below w4.heap.size w4 wr) (fun _ i _ => zs.length - (intOf i).toNat)
            case atStart => exact ⟨0, Nat.zero_le _, rfl, Own.nil w4 (Nat.le_refl _), Below.refl _ _⟩
            case round =>
              obtain ⟨j, hj, rfl, hown, hbl⟩ := hrel
              have HO := Lib.hid hown
              have HBr := Lib.hid (below_then HB4.out hbl)
              have HBl := Lib.hid hbl
              clear hown hbl
              by_cases hlt : j < zs.length
              · obtain ⟨b2, off2, hA2, hcell⟩ := HCe.out.resolve_left (fun h => by rw [h] at hpos; exact absurd hpos (by simp))
                obtain ⟨rfl, rfl⟩ : b2 = b ∧ off2 = off := by injection hA2 with h; injection h with h1 h2; exact ⟨h1.symm, h2.symm⟩
                have hi : zs.length - 1 - j < zs.length := by omega
                have g := (HBr.out.cell (block_lt_of_cell (hcell _ hi))).trans (hcell _ hi)
                have h256 := HZ.out _ (List.getElem_mem hi)
                have hr0 : zs.reverse.take (j + 1) = zs.reverse.take j ++ [zs[zs.length - 1 - j]] := by
                  rw [List.take_succ_eq_append_getElem (by simpa using hlt), List.getElem_reverse]
                have HR := Lib.hid hr0
                have HLen : Hid ((zs.reverse.take j).length + 1 ≤ 140737488355328) := by
                  show (zs.reverse.take j).length + 1 ≤ 140737488355328
                  simp; omega
                clear hcell hA2 hr0
                generalize zs[zs.length - 1 - j] = z at g h256 HR
                go_wp2_with (at_builtin; refine wpList_append_sl rfl _ _ rfl w4.heap.size _ _ _ [z] rfl rfl (HO.out.alloc _) (Sl.one _ _ h256) HLen.out ?_; intro v5 w5 hown5 hb5)
                have HO5 := Lib.hid hown5
                have HB5 := Lib.hid (hb5 _ (Nat.le_refl _))
                clear hown5 hb5
                go_wp2
                go_roundw
                case rel => exact ⟨j + 1, by omega, by go_num, by rw [HR.out]; exact HO5.out, (HBl.out.alloc HO.out.2.2.2 _).trans HB5.out⟩
                case measure => simp [intOf]; omega
              · have hN : Sl wr u24 zs.reverse := by
                  have := HO.out.sl
                  rwa [List.take_of_length_le (by simp; omega)] at this
                have HN := Lib.hid hN
                have HM := Lib.hid (HM4.out.sl.later HBl.out)
                clear hN
                go_wp2_with fail
                refine (copied_any _ _ _ (HS.out.later HBr.out)).mono ?_
                rintro e w6 ⟨u6', rfl, hown6, hb6⟩
                have HB6 := Lib.hid (below_then HBr.out hb6)
                have HT6 := Lib.hid (HT.out.later HB6.out)
                have HU6 := Lib.hid hown6.sl
                have HM6 := Lib.hid (HM.out.later hb6)
                have HN6 := Lib.hid (HN.out.later hb6)
                clear hown6 hb6
                go_wp2_with fail
                refine (resolve_any _ _ _ HT6.out HU6.out).mono ?_
                rintro e w' ⟨rfl, rfl⟩
                go_wp2_with fail
                refine (resolve_perm (rot_perm zs t) HT6.out HM6.out).mono ?_
                rintro e w' ⟨rfl, rfl⟩
                go_wp2_with fail
                refine (resolve_perm (List.reverse_perm zs) HT6.out HN6.out).mono ?_
                rintro e w' ⟨rfl, rfl⟩
                go_wp2_with fail
                refine (awake_any _ HT6.out).mono ?_
                rintro e w9 ⟨rfl, hb9⟩
                have HB9 := Lib.hid (below_then HB6.out hb9)
                clear hb9
                go_wp2
                go_ret
                exact ⟨rfl, HB9.out⟩
          · have hne : ((zs.length : Int) == 0) = true := by rw [beq_iff_eq]; omega
            go_wp2_with fail
            refine (awake_any _ HT2.out).mono ?_
            rintro e w9 ⟨rfl, hb9⟩
            have HB9 := Lib.hid (below_then HB2.out hb9)
            clear hb9
            go_wp2
            go_ret
            exact ⟨rfl, HB9.out⟩
set_option maxRecDepth 100000 in
set_option maxHeartbeats 2000000 in
theorem orders_bad0 (a b c : Nat) (v : Value) (zs : List Nat) (k : Int) (w : World) (hT : Tabs w) (h : Sl w v zs)  (ha : ¬ a ≤ 3) :
    Calls Tryd.prog 9 #[.agg #[.int .u8 a, .int .u8 b, .int .u8 c], v, .int .i64 k] w fun e w' => e = .returned (.bool true) ∧ Below w.heap.size w w' := by
  have HT := Lib.hid hT
  have HS := Lib.hid h
  obtain ⟨A, cp, rfl, _⟩ := h
  have hb0 := fun q => below_drewN (below_alloc w (.cells #[.int .u8 (a : Nat), .int .u8 (b : Nat), .int .u8 (c : Nat)] 50)) q
  have HB0 := Lib.hid hb0
  clear hT hb0
  go_enter Tryd.func9, Tryd.ntmps9
  go_wp2_with fail
  go_quiet (fail)
  go_wp2_with fail
  refine (bit_no _ _ (by omega)).mono ?_
  rintro e w' ⟨rfl, rfl⟩
  go_wp2_with fail
  refine (awake_any _ (HT.out.later (HB0.out _))).mono ?_
  rintro e w9 ⟨rfl, hb9⟩
  have HB9 := Lib.hid (below_then (HB0.out _) hb9)
  clear hb9
  go_wp2
  go_ret
  exact ⟨rfl, HB9.out⟩

set_option maxRecDepth 100000 in
set_option maxHeartbeats 2000000 in
theorem orders_bad1 (a b c : Nat) (v : Value) (zs : List Nat) (k : Int) (w : World) (hT : Tabs w) (h : Sl w v zs) (ha : a ≤ 3) (hb : ¬ b ≤ 3) :
    Calls Tryd.prog 9 #[.agg #[.int .u8 a, .int .u8 b, .int .u8 c], v, .int .i64 k] w fun e w' => e = .returned (.bool true) ∧ Below w.heap.size w w' := by
  have HT := Lib.hid hT
  have HS := Lib.hid h
  obtain ⟨A, cp, rfl, _⟩ := h
  have hb0 := fun q => below_drewN (below_alloc w (.cells #[.int .u8 (a : Nat), .int .u8 (b : Nat), .int .u8 (c : Nat)] 50)) q
  have HB0 := Lib.hid hb0
  clear hT hb0
  go_enter Tryd.func9, Tryd.ntmps9
  go_wp2_with fail
  go_quiet (fail)
  go_wp2_with fail
  refine (bit_yes _ _ ha).mono ?_
  rintro e w' ⟨rfl, rfl⟩
  go_wp2_with fail
  refine (bit_no _ _ (by omega)).mono ?_
  rintro e w' ⟨rfl, rfl⟩
  go_wp2_with fail
  refine (awake_any _ (HT.out.later (HB0.out _))).mono ?_
  rintro e w9 ⟨rfl, hb9⟩
  have HB9 := Lib.hid (below_then (HB0.out _) hb9)
  clear hb9
  go_wp2
  go_ret
  exact ⟨rfl, HB9.out⟩

set_option maxRecDepth 100000 in
set_option maxHeartbeats 2000000 in
theorem orders_bad2 (a b c : Nat) (v : Value) (zs : List Nat) (k : Int) (w : World) (hT : Tabs w) (h : Sl w v zs) (ha : a ≤ 3) (hb : b ≤ 3) (hc : ¬ c ≤ 3) :
    Calls Tryd.prog 9 #[.agg #[.int .u8 a, .int .u8 b, .int .u8 c], v, .int .i64 k] w fun e w' => e = .returned (.bool true) ∧ Below w.heap.size w w' := by
  have HT := Lib.hid hT
  have HS := Lib.hid h
  obtain ⟨A, cp, rfl, _⟩ := h
  have hb0 := fun q => below_drewN (below_alloc w (.cells #[.int .u8 (a : Nat), .int .u8 (b : Nat), .int .u8 (c : Nat)] 50)) q
  have HB0 := Lib.hid hb0
  clear hT hb0
  go_enter Tryd.func9, Tryd.ntmps9
  go_wp2_with fail
  go_quiet (fail)
  go_wp2_with fail
  refine (bit_yes _ _ ha).mono ?_
  rintro e w' ⟨rfl, rfl⟩
  go_wp2_with fail
  refine (bit_yes _ _ hb).mono ?_
  rintro e w' ⟨rfl, rfl⟩
  go_wp2_with fail
  refine (bit_no _ _ (by omega)).mono ?_
  rintro e w' ⟨rfl, rfl⟩
  go_wp2_with fail
  refine (awake_any _ (HT.out.later (HB0.out _))).mono ?_
  rintro e w9 ⟨rfl, hb9⟩
  have HB9 := Lib.hid (below_then (HB0.out _) hb9)
  clear hb9
  go_wp2
  go_ret
  exact ⟨rfl, HB9.out⟩

set_option maxRecDepth 100000 in
set_option maxHeartbeats 2000000 in
theorem orders_bad3 (a b c : Nat) (v : Value) (zs : List Nat) (k : Int) (w : World) (hT : Tabs w) (h : Sl w v zs) (ha : a ≤ 3) (hb : b ≤ 3) (hc : c ≤ 3) (hl : ¬ zs.length ≤ 200) :
    Calls Tryd.prog 9 #[.agg #[.int .u8 a, .int .u8 b, .int .u8 c], v, .int .i64 k] w fun e w' => e = .returned (.bool true) ∧ Below w.heap.size w w' := by
  have HT := Lib.hid hT
  have HS := Lib.hid h
  obtain ⟨A, cp, rfl, _⟩ := h
  have hb0 := fun q => below_drewN (below_alloc w (.cells #[.int .u8 (a : Nat), .int .u8 (b : Nat), .int .u8 (c : Nat)] 50)) q
  have HB0 := Lib.hid hb0
  have HL := Lib.hid hl
  clear hl
  clear hT hb0
  go_enter Tryd.func9, Tryd.ntmps9
  go_wp2_with fail
  go_quiet (fail)
  go_wp2_with fail
  refine (bit_yes _ _ ha).mono ?_
  rintro e w' ⟨rfl, rfl⟩
  go_wp2_with fail
  refine (bit_yes _ _ hb).mono ?_
  rintro e w' ⟨rfl, rfl⟩
  go_wp2_with fail
  refine (bit_yes _ _ hc).mono ?_
  rintro e w' ⟨rfl, rfl⟩
  go_wp2_with fail
  refine (HS.out.long_yes HL.out _).mono ?_
  rintro e w' ⟨rfl, rfl⟩
  go_wp2_with fail
  refine (awake_any _ (HT.out.later (HB0.out _))).mono ?_
  rintro e w9 ⟨rfl, hb9⟩
  have HB9 := Lib.hid (below_then (HB0.out _) hb9)
  clear hb9
  go_wp2
  go_ret
  exact ⟨rfl, HB9.out⟩

theorem logicOrders_walk (a b c : Nat) (v : Value) (zs : List Nat) (k : Int) (w : World) (hT : Tabs w) (h : Sl w v zs) (hcap : ∃ A cp, v = .slice A zs.length cp ∧ zs.length ≤ cp) :
    Calls Tryd.prog 9 #[.agg #[.int .u8 a, .int .u8 b, .int .u8 c], v, .int .i64 k] w fun e w' => e = .returned (.bool true) ∧ Below w.heap.size w w' := by
  by_cases ha : a ≤ 3
  case neg => exact orders_bad0 a b c v zs k w hT h ha
  by_cases hb : b ≤ 3
  case neg => exact orders_bad1 a b c v zs k w hT h ha hb
  by_cases hc : c ≤ 3
  case neg => exact orders_bad2 a b c v zs k w hT h ha hb hc
  by_cases hl : zs.length ≤ 200
  case neg => exact orders_bad3 a b c v zs k w hT h ha hb hc hl
  exact orders_good a b c v zs k w hT h hcap ha hb hc hl

open Go.ChangeShapes Go.WideShapes Go.ChangeAt Go.WideMaps Go.WideElems in
theorem cThree : Tryd.prog.cellsOf 50 = 3 := by kernel_rfl

open Go.ChangeShapes Go.WideShapes Go.ChangeAt Go.WideMaps Go.WideElems in
/-- An array of three bits, opened. -/
theorem three_open {H : Type} {enc : TypeId × Value → H} {W : World} {base : Nat} {r : Reach} {v : Value} {d : DataW H} {ps : List MemPlace} (hv : Value.okWide Tryd.prog W r base 50 v)
    (h : DataW.Trod enc Tryd.prog W 0 (fun _ => true) true 50 v d ps) : ∃ a b c : Nat, v = .agg #[.int .u8 a, .int .u8 b, .int .u8 c] := by
  obtain ⟨cs, rfl, hcs⟩ : ∃ cs, v = .agg cs ∧ cs.size = 3 := by
    simp only [Value.okWide, Tryd.underlying50] at hv
    obtain ⟨cs, h1, h2, _⟩ := hv
    exact ⟨cs, h1, h2.trans cThree⟩
  obtain ⟨v0, v1, v2, rfl⟩ : ∃ v0 v1 v2, cs = #[v0, v1, v2] := by
    obtain ⟨l⟩ := cs
    match l, hcs with
    | [a, b, c], _ => exact ⟨a, b, c, rfl⟩
  obtain ⟨fuel, hf⟩ := h
  obtain ⟨xs, m, rfl, hx, _, hn, hel⟩ := DataW.trod_array Tryd.underlying50 hf
  rw [cBit] at hel
  match xs, hn, hel with
  | [x0, x1, x2], _, hel =>
    have e0 := hel 0 (by decide)
    have e1 := hel 1 (by decide)
    have e2 := hel 2 (by decide)
    simp [Value.cells] at e0 e1 e2
    obtain ⟨i, k0, _, w0⟩ := DataW.trod_int Tryd.underlying22 e0
    obtain ⟨j, k1, _, w1⟩ := DataW.trod_int Tryd.underlying22 e1
    obtain ⟨l, k2, _, w2⟩ := DataW.trod_int Tryd.underlying22 e2
    simp at k0 k1 k2
    subst k0 k1 k2
    obtain ⟨a, rfl, _⟩ := u8_nat w0
    obtain ⟨b, rfl, _⟩ := u8_nat w1
    obtain ⟨c, rfl, _⟩ := u8_nat w2
    exact ⟨a, b, c, rfl⟩

open Go.ChangeShapes Go.WideShapes Go.ChangeAt Go.WideMaps Go.WideElems in
/-- The capacity of a slice that can be read. -/
theorem sl_cap {H : Type} {enc : TypeId × Value → H} {W : World} {v : Value} {d : DataW H} {ps : List MemPlace} {zs : List Nat} (hs : Sl W v zs)
    (h : DataW.Trod enc Tryd.prog W 0 (fun _ => true) true 31 v d ps) : ∃ A cp, v = .slice A zs.length cp ∧ zs.length ≤ cp := by
  obtain ⟨A, c, rfl, _⟩ := hs
  obtain ⟨fuel, hf⟩ := h
  rcases open_ints Tryd.underlying31 Tryd.underlying22 cBit hf with ⟨hcs, hx⟩ | ⟨a, len', cap', ys, hcs, _, hl, hm, hz, hx, hcell, hwz⟩
  · simp [Value.cells] at hcs
    exact ⟨A, c, rfl, by simp [hcs.2.1]⟩
  · simp [Value.cells] at hcs
    exact ⟨A, c, rfl, by omega⟩
end Go.Proofs.YtaeehejnifhaaaaDoor
