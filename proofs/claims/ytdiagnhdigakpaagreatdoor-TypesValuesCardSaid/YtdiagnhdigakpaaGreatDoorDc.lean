/- The contracts of the reference's Decimal and Written. -/
import Derived.Test.YtdiagnhdigakpaaGreatDoorKb
import Derived.Laws.IdiomStrings
namespace Go.Proofs.YtdiagnhdigakpaaGreatDoor
open Go.RowKit

def decP (k : Nat) : List UInt8 := if k = 0 then [] else decL k
theorem decP_step (k : Nat) : decL k = decP (k / 10) ++ [UInt8.ofNat (48 + k % 10)] := by
  unfold decP
  by_cases h : k < 10
  · rw [dec_small h, if_pos (by omega), Nat.mod_eq_of_lt h]; rfl
  · rw [dec_big h, if_neg (by omega)]
theorem conv_one (w : World) (c : Nat) (hc : c < 256) : (convert 110 9 (.slice (some ⟨w.heap.size, 0, none⟩) 1 1)).run Tryz.prog (w.alloc (.cells #[.int .u8 (c : Int)] 5)) = .ok (.string (sb [UInt8.ofNat c])) (w.alloc (.cells #[.int .u8 (c : Int)] 5)) := by
  refine run_convert_bytes_back (P := Tryz.prog) _ 110 9 5 ⟨w.heap.size, 0, none⟩ 1 [UInt8.ofNat c] Tryz.underlying110 Tryz.underlying5 Tryz.underlying9 ?_
  intro j hj
  have h0 : j = 0 := by simpa using hj
  subst h0
  have e : (⟨w.heap.size, 0, none⟩ : Addr).add 0 = ⟨w.heap.size, 0, none⟩ := rfl
  rw [e, World.cell?_alloc_at _ _ _ _ rfl]
  simp [Nat.mod_eq_of_lt hc]
theorem sb_add (a b : List UInt8) : sb a ++ sb b = sb (a ++ b) := bl_inj (by rw [bl_append, bl_sb, bl_sb, bl_sb])
set_option maxHeartbeats 1000000 in
theorem decimal_any (n : Nat) (hn : n ≤ 2147483648) (w : World) :
    Calls Tryz.prog 65 #[.int .i64 n] w fun e w' => e = .returned (.string (sb (decL n))) ∧ Below w.heap.size w w' := by
  obtain ⟨d, hd⟩ : ∃ d, d = n % 10 := ⟨_, rfl⟩
  have hm : (n : Int) % 10 = (d : Int) := by omega
  obtain ⟨c, hc⟩ : ∃ c, c = 48 + d := ⟨_, rfl⟩
  have hs : (48 : Int) + (d : Int) = (c : Int) := by omega
  obtain ⟨q, hq⟩ : ∃ q, q = n / 10 := ⟨_, rfl⟩
  have hqt : (n : Int) / 10 = (q : Int) := by omega
  have hc57 : c ≤ 57 := by omega
  have hd9 : d ≤ 9 := by omega
  have hqb : q ≤ 2147483648 := by omega
  have hcv := conv_one w c (by omega)
  have HS : Hid (decL n = decP q ++ [UInt8.ofNat c]) := by show _ = _; rw [decP_step, hq, hc, hd]
  clear hd hc hq
  go_enter Tryz.func65, Tryz.ntmps65
  go_wp2_with fail
  go_loopw [0, 3] (fun a b wr => ∃ (k : Nat) (l : List UInt8), k ≤ 2147483648 ∧ a = .int .i64 k ∧ b = .string (sb l) ∧ Hid (decL n = decP k ++ l) ∧ Below w.heap.size w wr) (fun a _ _ => (intOf a).toNat)
  case atStart => exact ⟨q, _, hqb, rfl, rfl, HS, below_alloc _ _⟩
  case round =>
    obtain ⟨k, l, hk, rfl, rfl, hr, hb⟩ := hrel
    have HB := Lib.hid hb
    clear hb hcv HS
    by_cases h0 : 0 < k
    · have d1 : decide ((0 : Int) < (k : Int)) = true := by rw [decide_eq_true_eq]; omega
      obtain ⟨d', hd⟩ : ∃ d, d = k % 10 := ⟨_, rfl⟩
      have hm' : (k : Int) % 10 = (d' : Int) := by omega
      obtain ⟨c', hc⟩ : ∃ c, c = 48 + d' := ⟨_, rfl⟩
      have hs' : (48 : Int) + (d' : Int) = (c' : Int) := by omega
      obtain ⟨q', hq⟩ : ∃ q, q = k / 10 := ⟨_, rfl⟩
      have hqt' : (k : Int) / 10 = (q' : Int) := by omega
      have hc57' : c' ≤ 57 := by omega
      have hd9' : d' ≤ 9 := by omega
      have hqb' : q' ≤ 2147483648 := by omega
      have hlt : q' < k := by omega
      have hcv' := conv_one wr c' (by omega)
      have hadd := sb_add [UInt8.ofNat c'] l
      have HS : Hid (decL n = decP q' ++ ([UInt8.ofNat c'] ++ l)) := by
        show _ = _
        rw [hr.out, show decP k = decL k by unfold decP; rw [if_neg (by omega)], decP_step k, ← hq, ← hd, ← hc, List.append_assoc]
      clear hd hc hq hm hs hqt hr
      have hxs : (sb [UInt8.ofNat c']).size = 1 := sb_size _
      have hys : (sb l).size ≤ 10 := by
        have h1 := congrArg List.length HS.out
        rw [List.length_append, List.length_append, List.length_singleton] at h1
        have h2 := dec_len (k := 10) (n := n) (by omega) (by omega)
        rw [sb_size]
        omega
      generalize hx : sb [UInt8.ofNat c'] = x at hcv' hadd hxs
      generalize hy : sb l = y at hadd hys ⊢
      clear hx hy
      go_wp2
      go_roundw
      case rel => exact ⟨q', [UInt8.ofNat c'] ++ l, hqb', rfl, rfl, HS, HB.out.alloc HB.out.size _⟩
      case measure => simp [intOf]; omega
    · have d1 : decide ((0 : Int) < (k : Int)) = false := by rw [decide_eq_false_iff_not]; omega
      have HR : Hid (decL n = l) := by
        have := hr.out
        rw [show decP k = [] by unfold decP; rw [if_pos (by omega)], List.nil_append] at this
        exact this
      clear hr
      go_wp2
      go_ret
      exact ⟨by rw [HR.out]; rfl, HB.out⟩
theorem viaS {P : Program} {f : FuncId} {args : Array Value} {w : World} {b b2 : ByteArray} (h : Calls P f args w fun e w' => e = .returned (.string b) ∧ Below w.heap.size w w') (he : b = b2) : Calls P f args w fun e w' => e = .returned (.string b2) ∧ Below w.heap.size w w' := by subst he; exact h
end Go.Proofs.YtdiagnhdigakpaaGreatDoor
