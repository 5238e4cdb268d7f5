/- The contract of the reference's Lex. -/
import Derived.Test.YtfjeljehodbbmaaDoorMs
namespace Go.Proofs.YtfjeljehodbbmaaDoor
open Go.RowKit

/-- What Lex returns: the fault's four parts, and the tokens. -/
def lexC (s : ByteArray) : Nat := if s.size ≤ 20000 then fltC s else 3
def lexN (s : ByteArray) : ByteArray := if s.size ≤ 20000 then fltN s else ⟨#[]⟩
def lexP (s : ByteArray) : Nat × Nat := if s.size ≤ 20000 then fltP s else (0, 0)
def lexT (s : ByteArray) : List TokA := if lexC s = 0 then (lexM (bl s)).1.map (mstA s) else []
theorem tls_nil (w : World) : Tls w (.slice none 0 0) [] := ⟨none, 0, rfl, by simp, by simp, .inl rfl⟩
theorem flt_two (s : ByteArray) : fltC s = 0 ∨ fltC s = 10 := by
  unfold fltC
  cases (lexM (bl s)).2 with
  | none => exact .inl rfl
  | some r => exact .inr rfl
set_option maxHeartbeats 2000000 in
theorem refLex_long (s : ByteArray) (hs : ¬ s.size ≤ 20000) (hs2 : s.size ≤ 140737488355328) (w : World) :
    Calls Tryd.prog 15 #[.string s] w fun e w' => e = .returned (.tuple #[.slice none 0 0, faultV 3 ⟨#[]⟩ 0 0]) ∧ Below w.heap.size w w' := by
  have d1 : decide ((20000 : Int) < (s.size : Int)) = true := by rw [decide_eq_true_eq]; omega
  have d2 : decide (20000 < s.size) = true := by rw [decide_eq_true_eq]; omega
  clear hs
  go_enter Tryd.func15, Tryd.ntmps15
  go_wp2
  go_returns
  exact ⟨rfl, below_alloc _ _⟩
set_option maxHeartbeats 2000000 in
theorem refLex_fault (s : ByteArray) (hs : s.size ≤ 20000) (hc : fltC s = 10) (w : World) :
    Calls Tryd.prog 15 #[.string s] w fun e w' => e = .returned (.tuple #[.slice none 0 0, faultV 10 (fltN s) (fltP s).1 (fltP s).2]) ∧ Below w.heap.size w w' := by
  have d1 : decide ((20000 : Int) < (s.size : Int)) = false := by rw [decide_eq_false_iff_not]; omega
  have d2 : decide (20000 < s.size) = false := by rw [decide_eq_false_iff_not]; omega
  have hM := most_any s hs
  rw [hc] at hM
  unfold faultV at hM ⊢
  generalize fltN s = nm at *
  generalize (fltP s).1 = x at *
  generalize (fltP s).2 = y at *
  have HM := Lib.hid hM
  clear hM hc
  go_enter Tryd.func15, Tryd.ntmps15
  go_wp2_with fail
  refine (HM.out _).mono ?_
  rintro e w1 ⟨v, rfl, _, _, hb1⟩
  have hbx := hb1.alloc hb1.size (.cells #[.int .i64 10, .string nm, .int .i64 (x : Nat), .int .i64 (y : Nat)] 27)
  obtain ⟨q0, q1, q2, q3, qf, hBw⟩ := flt_cells hbx
  obtain ⟨r0, r1, r2, r3, hbs, hcs⟩ := flt_store q0 q1 q2 q3 (.int .i64 10) (.string nm) (.int .i64 (x : Nat)) (.int .i64 (y : Nat))
  have HBf := Lib.hid (hBw.trans hbs)
  clear hbs hcs hBw hb1 hbx
  go_wp2_with fail
  go_region
  go_wp2
  (try simp only [Exit.inBlock, Exit.then])
  refine bodyPost_ret (by simp [results, Tryd.results15, go_sem, r0, r1, r2, r3]; try rfl) rfl ?_
  exact ⟨rfl, below_drewN HBf.out 1⟩
set_option maxHeartbeats 2000000 in
theorem refLex_good (s : ByteArray) (hs : s.size ≤ 20000) (hc : fltC s = 0) (hn : fltN s = ⟨#[]⟩) (hp : fltP s = (0, 0)) (w : World) :
    Calls Tryd.prog 15 #[.string s] w fun e w' => ∃ v, e = .returned (.tuple #[v, faultV 0 ⟨#[]⟩ 0 0]) ∧ Tls w' v ((lexM (bl s)).1.map (mstA s)) ∧ Below w.heap.size w w' := by
  have d1 : decide ((20000 : Int) < (s.size : Int)) = false := by rw [decide_eq_false_iff_not]; omega
  have d2 : decide (20000 < s.size) = false := by rw [decide_eq_false_iff_not]; omega
  have hM := most_any s hs
  rw [hc, hn, hp] at hM
  unfold faultV at hM ⊢
  generalize (lexM (bl s)).1.map (mstA s) = l at *
  have HM := Lib.hid hM
  clear hM hc hn hp
  go_enter Tryd.func15, Tryd.ntmps15
  go_wp2_with fail
  refine (HM.out _).mono ?_
  rintro e w1 ⟨v, rfl, htl, hfar, hb1⟩
  have hbx := hb1.alloc hb1.size (.cells #[.int .i64 0, .string ⟨#[]⟩, .int .i64 0, .int .i64 0] 27)
  have hne : v.ownBlock ≠ some w.heap.size := by
    intro e
    have := hfar _ e
    rw [World.size_alloc] at this
    omega
  obtain ⟨q0, q1, q2, q3, qf, hBw⟩ := flt_cells hbx
  obtain ⟨r0, r1, r2, r3, hbs, hcs⟩ := flt_store q0 q1 q2 q3 (.int .i64 0) (.string ⟨#[]⟩) (.int .i64 0) (.int .i64 0)
  have HBf := Lib.hid (hBw.trans hbs)
  have HTl := Lib.hid ((htl.later (below_alloc w1 (.cells #[.int .i64 0, .string ⟨#[]⟩, .int .i64 0, .int .i64 0] 27))).same hne hcs)
  clear hbs hcs hBw hb1 hbx htl hfar hne
  go_wp2_with fail
  go_region
  go_wp2
  (try simp only [Exit.inBlock, Exit.then])
  refine bodyPost_ret (by simp [results, Tryd.results15, go_sem, r0, r1, r2, r3]; try rfl) rfl ?_
  exact ⟨_, rfl, HTl.out.later (below_drewN (Below.refl _ _) 1), below_drewN HBf.out 1⟩
end Go.Proofs.YtfjeljehodbbmaaDoor
