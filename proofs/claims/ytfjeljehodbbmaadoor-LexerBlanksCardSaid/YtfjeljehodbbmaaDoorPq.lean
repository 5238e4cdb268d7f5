/- The contracts of the program's quoted and first. -/
import Derived.Test.YtfjeljehodbbmaaDoorPb
namespace Go.Proofs.YtfjeljehodbbmaaDoor
open Go.RowKit

theorem ext_drop (s : ByteArray) (k : Nat) : bl (s.extract k s.size) = (bl s).drop k := by
  rw [bl_extract, List.take_of_length_le]
  rw [List.length_drop, bl_len]; omega
set_option maxRecDepth 100000 in
set_option maxHeartbeats 4000000 in
theorem quoted_open (s before behind : ByteArray) (x : UInt8) (o : Nat) (fv : FuncId) (d : List UInt8) (hx : behind = ⟨#[x]⟩) (hs : s.size ≤ 140737488355328) (hb : before.size ≤ s.size) (hd : (bl s).drop before.size = d) (hn : ¬ x ∈ d) (w : World) :
    Calls Tryd.prog 45 #[.string s, .string before, .string behind, .int .i64 (o : Nat), .func (.func fv) #[] #[]] w fun e w' => e = .returned (.tuple #[tkV 0 ⟨#[]⟩ 0, .int .i64 0]) ∧ Below w.heap.size w w' := by
  have HC := Lib.hid (fun w => cut_any (s.extract before.size s.size) x (by rw [ByteArray.size_extract]; omega) w)
  rw [ext_drop, hd, decide_eq_false hn, ← hx] at HC
  generalize sb (befL x d) = c at *
  clear hd hn hx
  unfold tkV
  go_enter Tryd.func45, Tryd.ntmps45
  go_wp2_with fail
  refine (HC.out _).mono ?_
  rintro e w1 HH
  obtain ⟨⟨t, he⟩, hb1⟩ := HH
  subst he
  obtain ⟨q0, q1, q2, q3, q4, qf, hBw⟩ := tok_cells hb1
  obtain ⟨r0, r1, r2, r3, r4, hbs, hcs⟩ := tok_store q0 q1 q2 q3 q4 (.int .i64 0) (.string ⟨#[]⟩) (.int .i64 0) (.int .i64 0) (.int .i64 0)
  have HBf := Lib.hid (hBw.trans hbs)
  clear hbs hcs hBw hb1
  go_wp2
  (try simp only [Exit.inBlock, Exit.then])
  refine bodyPost_ret (by simp [results, Tryd.results45, go_sem, r0, r1, r2, r3, r4]; try rfl) rfl ?_
  exact ⟨rfl, HBf.out⟩
set_option maxRecDepth 100000 in
set_option maxHeartbeats 4000000 in
theorem quoted_bad (s before behind : ByteArray) (x : UInt8) (o : Nat) (fv : FuncId) (d : List UInt8) (hx : behind = ⟨#[x]⟩) (hs : s.size ≤ 140737488355328) (hb : before.size ≤ s.size) (hd : (bl s).drop before.size = d) (hn : x ∈ d) (HE : ∀ args w, (callFunc fv args).run Tryd.prog w = .ok (.enter fv args) w) (HV : Hid (∀ w, Calls Tryd.prog fv #[.string (sb (befL x d))] w fun e w' => e = .returned (.bool false) ∧ w = w')) (w : World) :
    Calls Tryd.prog 45 #[.string s, .string before, .string behind, .int .i64 (o : Nat), .func (.func fv) #[] #[]] w fun e w' => e = .returned (.tuple #[tkV 0 ⟨#[]⟩ 0, .int .i64 0]) ∧ Below w.heap.size w w' := by
  have HC := Lib.hid (fun w => cut_any (s.extract before.size s.size) x (by rw [ByteArray.size_extract]; omega) w)
  rw [ext_drop, hd, decide_eq_true hn, ← hx] at HC
  generalize sb (befL x d) = c at *
  clear hd hn hx
  unfold tkV
  go_enter Tryd.func45, Tryd.ntmps45
  go_wp2_with fail
  refine (HC.out _).mono ?_
  rintro e w1 HH
  obtain ⟨⟨t, he⟩, hb1⟩ := HH
  subst he
  have HB1 := Lib.hid hb1
  clear hb1
  go_wp2_with fail
  refine (HV.out _).mono ?_
  rintro e w' ⟨rfl, rfl⟩
  have hb1 := HB1.out
  obtain ⟨q0, q1, q2, q3, q4, qf, hBw⟩ := tok_cells hb1
  obtain ⟨r0, r1, r2, r3, r4, hbs, hcs⟩ := tok_store q0 q1 q2 q3 q4 (.int .i64 0) (.string ⟨#[]⟩) (.int .i64 0) (.int .i64 0) (.int .i64 0)
  have HBf := Lib.hid (hBw.trans hbs)
  clear hbs hcs hBw hb1
  go_wp2
  (try simp only [Exit.inBlock, Exit.then])
  refine bodyPost_ret (by simp [results, Tryd.results45, go_sem, r0, r1, r2, r3, r4]; try rfl) rfl ?_
  exact ⟨rfl, HBf.out⟩
set_option maxRecDepth 100000 in
set_option maxHeartbeats 4000000 in
theorem quoted_good (s before behind : ByteArray) (x : UInt8) (o : Nat) (fv : FuncId) (d : List UInt8) (hx : behind = ⟨#[x]⟩) (hs : s.size ≤ 140737488355328) (hb : before.size ≤ s.size) (hd : (bl s).drop before.size = d) (hn : x ∈ d) (HE : ∀ args w, (callFunc fv args).run Tryd.prog w = .ok (.enter fv args) w) (HV : Hid (∀ w, Calls Tryd.prog fv #[.string (sb (befL x d))] w fun e w' => e = .returned (.bool true) ∧ w = w')) (n : Nat) (hN : before.size + (befL x d).length + 1 = n) (hN2 : n ≤ s.size) (w : World) :
    Calls Tryd.prog 45 #[.string s, .string before, .string behind, .int .i64 (o : Nat), .func (.func fv) #[] #[]] w fun e w' => e = .returned (.tuple #[tkV o (sb (befL x d)) 0, .int .i64 (n : Nat)]) ∧ Below w.heap.size w w' := by
  have HC := Lib.hid (fun w => cut_any (s.extract before.size s.size) x (by rw [ByteArray.size_extract]; omega) w)
  rw [ext_drop, hd, decide_eq_true hn, ← hx] at HC
  have z1 : behind.size = 1 := by rw [hx]; rfl
  have z2 : (sb (befL x d)).size = (befL x d).length := sb_size _
  rw [← z2] at hN
  have z3 : ∀ c : ByteArray, before.size + c.size + 1 = n → (before.size : Int) + (c.size : Int) + 1 = (n : Int) := fun c h => by omega
  obtain ⟨m, hm⟩ : ∃ m, m = before.size + (sb (befL x d)).size := ⟨_, rfl⟩
  have hm1 : (before.size : Int) + ((sb (befL x d)).size : Int) = (m : Int) := by omega
  have hm2 : (m : Int) + 1 = (n : Int) := by omega
  have hm3 : m ≤ s.size := by omega
  clear z2 z3 hN hm
  generalize sb (befL x d) = c at *
  clear hd hn hx
  unfold tkV
  go_enter Tryd.func45, Tryd.ntmps45
  go_wp2_with fail
  refine (HC.out _).mono ?_
  rintro e w1 HH
  obtain ⟨⟨t, he⟩, hb1⟩ := HH
  subst he
  have HB1 := Lib.hid hb1
  clear hb1
  go_wp2_with fail
  refine (HV.out _).mono ?_
  rintro e w' ⟨rfl, rfl⟩
  have hb1 := HB1.out
  obtain ⟨q0, q1, q2, q3, q4, qf, hBw⟩ := tok_cells hb1
  obtain ⟨r0, r1, r2, r3, r4, hbs, hcs⟩ := tok_store q0 q1 q2 q3 q4 (.int .i64 (o : Nat)) (.string c) (.int .i64 0) (.int .i64 0) (.int .i64 0)
  have HBf := Lib.hid (hBw.trans hbs)
  clear hbs hcs hBw hb1
  go_wp2
  (try simp only [Exit.inBlock, Exit.then])
  refine bodyPost_ret (by simp [results, Tryd.results45, go_sem, r0, r1, r2, r3, r4]; try rfl) rfl ?_
  exact ⟨rfl, HBf.out⟩
theorem tok_none : ∀ r : Option (Tok × Nat), r = none → fO r = 0 ∧ fT r = [] ∧ fN r = 0 ∧ fL r = 0 := fun r h => by subst h; exact ⟨rfl, rfl, rfl, rfl⟩
end Go.Proofs.YtfjeljehodbbmaaDoor
