/- The contract of the reference's quoted. -/
import Derived.Test.YtfjeljehodbbmaaDoorSq
namespace Go.Proofs.YtfjeljehodbbmaaDoor
open Go.RowKit

def kB (k : Nat) (c : UInt8) : Bool := kindN k c.toNat
/-- What quoted returns of what stands behind the quote. -/
def quoI (k least most : Nat) (d : List UInt8) : Int := match quoL (kB k) least most d with | some q => (q.length : Int) | none => -1
theorem drop_tw (p : UInt8 → Bool) (d : List UInt8) : d.dropWhile p = d.drop (d.takeWhile p).length := by
  have h := tw_split p d
  generalize d.takeWhile p = a at *
  generalize d.dropWhile p = b at *
  rw [h, List.drop_left']
  rfl
theorem quo_eq (k least most : Nat) (d : List UInt8) : quoI k least most d = if least ≤ runN k d ∧ runN k d ≤ most ∧ (d.drop (runN k d)).head? = some 34 then (runN k d : Int) else -1 := by
  unfold quoI quoL
  rw [drop_tw]
  have e : (d.takeWhile (kB k)).length = runN k d := rfl
  rw [e]
  split
  · rename_i h
    split at h
    · rename_i hc
      injection h with h
      rw [if_pos hc, ← h, e]
    · cases h
  · rename_i h
    split at h
    · cases h
    · rename_i hc
      rw [if_neg hc]
theorem head_drop {s : ByteArray} {j : Nat} : ((bl s).drop j).head? = if h : j < s.size then some (s[j]'h) else none := by
  split
  · rename_i h
    rw [List.drop_eq_getElem_cons (by rw [bl_len]; exact h), List.head?_cons, bl_get s j h]
  · rename_i h
    rw [List.drop_of_length_le (by rw [bl_len]; omega)]
    rfl
theorem run_le (k : Nat) (l : List UInt8) : runN k l ≤ l.length := tw_len _ _
theorem u8_lit {c : UInt8} {n : Nat} (hn : n < 256) : (c = UInt8.ofNat n) ↔ c.toNat = n := by
  constructor
  · intro h; subst h; simp [Nat.mod_eq_of_lt hn]
  · intro h; apply UInt8.toNat_inj.1; rw [h]; simp [Nat.mod_eq_of_lt hn]
set_option maxHeartbeats 2000000 in
theorem quoted_any (s : ByteArray) (i k least most : Nat) (hs : s.size ≤ 140737488355328) (hi : i < s.size) (hq : (s[i]'hi).toNat = 34) (hk : k ≤ 4) (hl : least ≤ 100) (hm : most ≤ 100) (w : World) :
    Calls Tryd.prog 67 #[.string s, .int .i64 i, .int .i64 k, .int .i64 least, .int .i64 most] w fun e w' => e = .returned (.int .i64 (quoI k least most ((bl s).drop (i + 1)))) ∧ w = w' := by
  have q1 : (((s[i]'hi).toNat : Int) != 34) = false := by rw [bne_eq_false_iff_eq]; omega
  have q2 : (((s[i]'hi).toNat : Int) == 34) = true := by rw [beq_iff_eq]; omega
  have q3 : decide ((s.size : Int) ≤ (i : Int)) = false := by rw [decide_eq_false_iff_not]; omega
  have q4 : decide (s.size ≤ i) = false := by rw [decide_eq_false_iff_not]; omega
  obtain ⟨j, hj⟩ : ∃ j, j = i + 1 := ⟨_, rfl⟩
  have hij : (i : Int) + 1 = (j : Int) := by omega
  have HR := Lib.hid (fun w => run_any s j k hs (by omega) hk w)
  have hle := run_le k ((bl s).drop j)
  rw [List.length_drop, bl_len] at hle
  have he := quo_eq k least most ((bl s).drop j)
  rw [List.drop_drop, head_drop] at he
  rw [← hj]
  generalize quoI k least most ((bl s).drop j) = r at *
  generalize runN k ((bl s).drop j) = n at *
  obtain ⟨t, ht⟩ : ∃ t, t = j + n := ⟨_, rfl⟩
  have hjt : (j : Int) + (n : Int) = (t : Int) := by omega
  have htb : t ≤ 281474976710656 := by omega
  rw [← ht] at he
  clear hq
  by_cases h1 : least ≤ n
  · have d1 : decide ((n : Int) < (least : Int)) = false := by rw [decide_eq_false_iff_not]; omega
    have d1' : decide (n < least) = false := by rw [decide_eq_false_iff_not]; omega
    by_cases h2 : n ≤ most
    · have d2 : decide ((most : Int) < (n : Int)) = false := by rw [decide_eq_false_iff_not]; omega
      have d2' : decide (most < n) = false := by rw [decide_eq_false_iff_not]; omega
      by_cases h3 : t < s.size
      · have d3 : decide ((s.size : Int) ≤ (t : Int)) = false := by rw [decide_eq_false_iff_not]; omega
        have d3' : decide (s.size ≤ t) = false := by rw [decide_eq_false_iff_not]; omega
        rw [dif_pos h3] at he
        by_cases h4 : (s[t]'h3).toNat = 34
        · have d4 : (((s[t]'h3).toNat : Int) != 34) = false := by rw [bne_eq_false_iff_eq]; omega
          rw [if_pos ⟨h1, h2, by rw [(u8_lit (n := 34) (by omega)).2 h4]; rfl⟩] at he
          subst he
          clear h1 h2 h4 hj ht hle
          go_enter Tryd.func67, Tryd.ntmps67
          go_wp2_with fail
          refine (HR.out _).mono ?_
          rintro e w' ⟨rfl, rfl⟩
          go_wp2
          go_ret
          exact ⟨rfl, rfl⟩
        · have d4 : (((s[t]'h3).toNat : Int) != 34) = true := by rw [bne_iff_ne]; omega
          rw [if_neg (fun h => h4 ((u8_lit (n := 34) (by omega)).1 (by have := h.2.2; injection this)))] at he
          subst he
          clear h1 h2 h4 hj ht hle
          go_enter Tryd.func67, Tryd.ntmps67
          go_wp2_with fail
          refine (HR.out _).mono ?_
          rintro e w' ⟨rfl, rfl⟩
          go_wp2
          go_ret
          exact ⟨rfl, rfl⟩
      · have d3 : decide ((s.size : Int) ≤ (t : Int)) = true := by rw [decide_eq_true_eq]; omega
        have d3' : decide (s.size ≤ t) = true := by rw [decide_eq_true_eq]; omega
        rw [dif_neg h3, if_neg (fun h => by cases h.2.2)] at he
        subst he
        clear h1 h2 h3 hj ht hle
        go_enter Tryd.func67, Tryd.ntmps67
        go_wp2_with fail
        refine (HR.out _).mono ?_
        rintro e w' ⟨rfl, rfl⟩
        go_wp2
        go_ret
        exact ⟨rfl, rfl⟩
    · have d2 : decide ((most : Int) < (n : Int)) = true := by rw [decide_eq_true_eq]; omega
      have d2' : decide (most < n) = true := by rw [decide_eq_true_eq]; omega
      rw [if_neg (fun h => h2 h.2.1)] at he
      subst he
      clear h1 h2 hj ht hle
      go_enter Tryd.func67, Tryd.ntmps67
      go_wp2_with fail
      refine (HR.out _).mono ?_
      rintro e w' ⟨rfl, rfl⟩
      go_wp2
      go_ret
      exact ⟨rfl, rfl⟩
  · have d1 : decide ((n : Int) < (least : Int)) = true := by rw [decide_eq_true_eq]; omega
    have d1' : decide (n < least) = true := by rw [decide_eq_true_eq]; omega
    rw [if_neg (fun h => h1 h.1)] at he
    subst he
    clear h1 hj ht hle
    go_enter Tryd.func67, Tryd.ntmps67
    go_wp2_with fail
    refine (HR.out _).mono ?_
    rintro e w' ⟨rfl, rfl⟩
    go_wp2
    go_ret
    exact ⟨rfl, rfl⟩
end Go.Proofs.YtfjeljehodbbmaaDoor
