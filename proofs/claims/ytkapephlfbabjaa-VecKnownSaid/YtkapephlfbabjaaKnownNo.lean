/- The cases in which VecKnown is true at once. -/
import Derived.Test.YtkapephlfbabjaaMore
namespace Go.Proofs.Ytkapephlfbabjaa
open Go.RowKit

set_option maxRecDepth 100000 in
set_option maxHeartbeats 2000000 in
theorem known_na (A0 A1 A2 A3 : Option Addr) (n n1 n2 n3 c0 c1 c2 c3 _m : Nat) (w : World) (a b c e : List Nat) (Ha : Hid (Sl w (.slice A0 n c0) a)) (Hb : Hid (Sl w (.slice A1 n1 c1) b)) (Hc : Hid (Sl w (.slice A2 n2 c2) c)) (He : Hid (Sl w (.slice A3 n3 c3) e))
    (HIa : Hid (∀ v w, Sl w v a → Calls Try.prog 53 #[v] w fun e w' => e = .returned (.bool false) ∧ w = w'))  :
    Calls Try.prog 12 #[.agg #[.slice A0 n c0, .slice A1 n1 c1, .slice A2 n2 c2, .slice A3 n3 c3]] w fun e w' => e = .returned (.bool true) ∧ Below w.heap.size w w' := by
  skip
  have hbN : Hid (∀ q, Below w.heap.size w ((w.alloc (.cells #[.slice A0 n c0, .slice A1 n1 c1, .slice A2 n2 c2, .slice A3 n3 c3] 52)).drewN q)) := fun q => below_drewN (below_alloc w (.cells #[.slice A0 n c0, .slice A1 n1 c1, .slice A2 n2 c2, .slice A3 n3 c3] 52)) q
  go_enter Try.func12, Try.ntmps12
  go_wp2_with fail
  go_quiet (fail)
  generalize hW1 : World.drewN _ _ = W1
  have hb0 : Below w.heap.size w W1 := hW1 ▸ hbN.out _
  have HB0 := Lib.hid hb0
  have Ha0 := Lib.hid (Ha.out.later hb0)
  have Hb0 := Lib.hid (Hb.out.later hb0)
  have Hc0 := Lib.hid (Hc.out.later hb0)
  have He0 := Lib.hid (He.out.later hb0)
  clear hb0 Ha Hb Hc He
  clear hW1 hbN
  go_wp2_with fail
  refine (HIa.out _ _ Ha0.out).mono ?_
  rintro e w' ⟨rfl, rfl⟩
  go_wp2_with fail
  refine (awake_any _).mono ?_
  rintro e v1 ⟨rfl, hb1⟩
  have HB1 := Lib.hid (below_then HB0.out hb1)
  have Ha1 := Lib.hid (Ha0.out.later hb1)
  have Hb1 := Lib.hid (Hb0.out.later hb1)
  have Hc1 := Lib.hid (Hc0.out.later hb1)
  have He1 := Lib.hid (He0.out.later hb1)
  clear hb1 Ha0 Hb0 Hc0 He0 HB0
  go_wp2
  go_ret
  exact ⟨rfl, HB1.out⟩
set_option maxRecDepth 100000 in
set_option maxHeartbeats 2000000 in
theorem known_nb (A0 A1 A2 A3 : Option Addr) (n n1 n2 n3 c0 c1 c2 c3 _m : Nat) (w : World) (a b c e : List Nat) (Ha : Hid (Sl w (.slice A0 n c0) a)) (Hb : Hid (Sl w (.slice A1 n1 c1) b)) (Hc : Hid (Sl w (.slice A2 n2 c2) c)) (He : Hid (Sl w (.slice A3 n3 c3) e))
    (HIa : Hid (∀ v w, Sl w v a → Calls Try.prog 53 #[v] w fun e w' => e = .returned (.bool true) ∧ w = w')) (HIb : Hid (∀ v w, Sl w v b → Calls Try.prog 53 #[v] w fun e w' => e = .returned (.bool false) ∧ w = w'))  :
    Calls Try.prog 12 #[.agg #[.slice A0 n c0, .slice A1 n1 c1, .slice A2 n2 c2, .slice A3 n3 c3]] w fun e w' => e = .returned (.bool true) ∧ Below w.heap.size w w' := by
  skip
  have hbN : Hid (∀ q, Below w.heap.size w ((w.alloc (.cells #[.slice A0 n c0, .slice A1 n1 c1, .slice A2 n2 c2, .slice A3 n3 c3] 52)).drewN q)) := fun q => below_drewN (below_alloc w (.cells #[.slice A0 n c0, .slice A1 n1 c1, .slice A2 n2 c2, .slice A3 n3 c3] 52)) q
  go_enter Try.func12, Try.ntmps12
  go_wp2_with fail
  go_quiet (fail)
  generalize hW1 : World.drewN _ _ = W1
  have hb0 : Below w.heap.size w W1 := hW1 ▸ hbN.out _
  have HB0 := Lib.hid hb0
  have Ha0 := Lib.hid (Ha.out.later hb0)
  have Hb0 := Lib.hid (Hb.out.later hb0)
  have Hc0 := Lib.hid (Hc.out.later hb0)
  have He0 := Lib.hid (He.out.later hb0)
  clear hb0 Ha Hb Hc He
  clear hW1 hbN
  go_wp2_with fail
  refine (HIa.out _ _ Ha0.out).mono ?_
  rintro e w' ⟨rfl, rfl⟩
  go_wp2_with fail
  refine (HIb.out _ _ Hb0.out).mono ?_
  rintro e w' ⟨rfl, rfl⟩
  go_wp2_with fail
  refine (awake_any _).mono ?_
  rintro e v1 ⟨rfl, hb1⟩
  have HB1 := Lib.hid (below_then HB0.out hb1)
  have Ha1 := Lib.hid (Ha0.out.later hb1)
  have Hb1 := Lib.hid (Hb0.out.later hb1)
  have Hc1 := Lib.hid (Hc0.out.later hb1)
  have He1 := Lib.hid (He0.out.later hb1)
  clear hb1 Ha0 Hb0 Hc0 He0 HB0
  go_wp2
  go_ret
  exact ⟨rfl, HB1.out⟩
set_option maxRecDepth 100000 in
set_option maxHeartbeats 2000000 in
theorem known_nc (A0 A1 A2 A3 : Option Addr) (n n1 n2 n3 c0 c1 c2 c3 _m : Nat) (w : World) (a b c e : List Nat) (Ha : Hid (Sl w (.slice A0 n c0) a)) (Hb : Hid (Sl w (.slice A1 n1 c1) b)) (Hc : Hid (Sl w (.slice A2 n2 c2) c)) (He : Hid (Sl w (.slice A3 n3 c3) e))
    (HIa : Hid (∀ v w, Sl w v a → Calls Try.prog 53 #[v] w fun e w' => e = .returned (.bool true) ∧ w = w')) (HIb : Hid (∀ v w, Sl w v b → Calls Try.prog 53 #[v] w fun e w' => e = .returned (.bool true) ∧ w = w')) (HIc : Hid (∀ v w, Sl w v c → Calls Try.prog 53 #[v] w fun e w' => e = .returned (.bool false) ∧ w = w'))  :
    Calls Try.prog 12 #[.agg #[.slice A0 n c0, .slice A1 n1 c1, .slice A2 n2 c2, .slice A3 n3 c3]] w fun e w' => e = .returned (.bool true) ∧ Below w.heap.size w w' := by
  skip
  have hbN : Hid (∀ q, Below w.heap.size w ((w.alloc (.cells #[.slice A0 n c0, .slice A1 n1 c1, .slice A2 n2 c2, .slice A3 n3 c3] 52)).drewN q)) := fun q => below_drewN (below_alloc w (.cells #[.slice A0 n c0, .slice A1 n1 c1, .slice A2 n2 c2, .slice A3 n3 c3] 52)) q
  go_enter Try.func12, Try.ntmps12
  go_wp2_with fail
  go_quiet (fail)
  generalize hW1 : World.drewN _ _ = W1
  have hb0 : Below w.heap.size w W1 := hW1 ▸ hbN.out _
  have HB0 := Lib.hid hb0
  have Ha0 := Lib.hid (Ha.out.later hb0)
  have Hb0 := Lib.hid (Hb.out.later hb0)
  have Hc0 := Lib.hid (Hc.out.later hb0)
  have He0 := Lib.hid (He.out.later hb0)
  clear hb0 Ha Hb Hc He
  clear hW1 hbN
  go_wp2_with fail
  refine (HIa.out _ _ Ha0.out).mono ?_
  rintro e w' ⟨rfl, rfl⟩
  go_wp2_with fail
  refine (HIb.out _ _ Hb0.out).mono ?_
  rintro e w' ⟨rfl, rfl⟩
  go_wp2_with fail
  refine (HIc.out _ _ Hc0.out).mono ?_
  rintro e w' ⟨rfl, rfl⟩
  go_wp2_with fail
  refine (awake_any _).mono ?_
  rintro e v1 ⟨rfl, hb1⟩
  have HB1 := Lib.hid (below_then HB0.out hb1)
  have Ha1 := Lib.hid (Ha0.out.later hb1)
  have Hb1 := Lib.hid (Hb0.out.later hb1)
  have Hc1 := Lib.hid (Hc0.out.later hb1)
  have He1 := Lib.hid (He0.out.later hb1)
  clear hb1 Ha0 Hb0 Hc0 He0 HB0
  go_wp2
  go_ret
  exact ⟨rfl, HB1.out⟩
set_option maxRecDepth 100000 in
set_option maxHeartbeats 2000000 in
theorem known_ne (A0 A1 A2 A3 : Option Addr) (n n1 n2 n3 c0 c1 c2 c3 _m : Nat) (w : World) (a b c e : List Nat) (Ha : Hid (Sl w (.slice A0 n c0) a)) (Hb : Hid (Sl w (.slice A1 n1 c1) b)) (Hc : Hid (Sl w (.slice A2 n2 c2) c)) (He : Hid (Sl w (.slice A3 n3 c3) e))
    (HIa : Hid (∀ v w, Sl w v a → Calls Try.prog 53 #[v] w fun e w' => e = .returned (.bool true) ∧ w = w')) (HIb : Hid (∀ v w, Sl w v b → Calls Try.prog 53 #[v] w fun e w' => e = .returned (.bool true) ∧ w = w')) (HIc : Hid (∀ v w, Sl w v c → Calls Try.prog 53 #[v] w fun e w' => e = .returned (.bool true) ∧ w = w')) (HIe : Hid (∀ v w, Sl w v e → Calls Try.prog 53 #[v] w fun e w' => e = .returned (.bool false) ∧ w = w'))  :
    Calls Try.prog 12 #[.agg #[.slice A0 n c0, .slice A1 n1 c1, .slice A2 n2 c2, .slice A3 n3 c3]] w fun e w' => e = .returned (.bool true) ∧ Below w.heap.size w w' := by
  skip
  have hbN : Hid (∀ q, Below w.heap.size w ((w.alloc (.cells #[.slice A0 n c0, .slice A1 n1 c1, .slice A2 n2 c2, .slice A3 n3 c3] 52)).drewN q)) := fun q => below_drewN (below_alloc w (.cells #[.slice A0 n c0, .slice A1 n1 c1, .slice A2 n2 c2, .slice A3 n3 c3] 52)) q
  go_enter Try.func12, Try.ntmps12
  go_wp2_with fail
  go_quiet (fail)
  generalize hW1 : World.drewN _ _ = W1
  have hb0 : Below w.heap.size w W1 := hW1 ▸ hbN.out _
  have HB0 := Lib.hid hb0
  have Ha0 := Lib.hid (Ha.out.later hb0)
  have Hb0 := Lib.hid (Hb.out.later hb0)
  have Hc0 := Lib.hid (Hc.out.later hb0)
  have He0 := Lib.hid (He.out.later hb0)
  clear hb0 Ha Hb Hc He
  clear hW1 hbN
  go_wp2_with fail
  refine (HIa.out _ _ Ha0.out).mono ?_
  rintro e w' ⟨rfl, rfl⟩
  go_wp2_with fail
  refine (HIb.out _ _ Hb0.out).mono ?_
  rintro e w' ⟨rfl, rfl⟩
  go_wp2_with fail
  refine (HIc.out _ _ Hc0.out).mono ?_
  rintro e w' ⟨rfl, rfl⟩
  go_wp2_with fail
  refine (HIe.out _ _ He0.out).mono ?_
  rintro e w' ⟨rfl, rfl⟩
  go_wp2_with fail
  refine (awake_any _).mono ?_
  rintro e v1 ⟨rfl, hb1⟩
  have HB1 := Lib.hid (below_then HB0.out hb1)
  have Ha1 := Lib.hid (Ha0.out.later hb1)
  have Hb1 := Lib.hid (Hb0.out.later hb1)
  have Hc1 := Lib.hid (Hc0.out.later hb1)
  have He1 := Lib.hid (He0.out.later hb1)
  clear hb1 Ha0 Hb0 Hc0 He0 HB0
  go_wp2
  go_ret
  exact ⟨rfl, HB1.out⟩
set_option maxRecDepth 100000 in
set_option maxHeartbeats 2000000 in
theorem known_l1 (A0 A1 A2 A3 : Option Addr) (n n1 n2 n3 c0 c1 c2 c3 _m : Nat) (w : World) (a b c e : List Nat) (Ha : Hid (Sl w (.slice A0 n c0) a)) (Hb : Hid (Sl w (.slice A1 n1 c1) b)) (Hc : Hid (Sl w (.slice A2 n2 c2) c)) (He : Hid (Sl w (.slice A3 n3 c3) e))
    (HIa : Hid (∀ v w, Sl w v a → Calls Try.prog 53 #[v] w fun e w' => e = .returned (.bool true) ∧ w = w')) (HIb : Hid (∀ v w, Sl w v b → Calls Try.prog 53 #[v] w fun e w' => e = .returned (.bool true) ∧ w = w')) (HIc : Hid (∀ v w, Sl w v c → Calls Try.prog 53 #[v] w fun e w' => e = .returned (.bool true) ∧ w = w')) (HIe : Hid (∀ v w, Sl w v e → Calls Try.prog 53 #[v] w fun e w' => e = .returned (.bool true) ∧ w = w')) (hl : ¬ n1 = n) :
    Calls Try.prog 12 #[.agg #[.slice A0 n c0, .slice A1 n1 c1, .slice A2 n2 c2, .slice A3 n3 c3]] w fun e w' => e = .returned (.bool true) ∧ Below w.heap.size w w' := by
  have h1 : ((n : Int) != (n1 : Int)) = true := by rw [bne_iff_ne]; omega
  have h2 : ((n : Int) == (n1 : Int)) = false := by rw [beq_eq_false_iff_ne]; omega
  clear hl
  have hbN : Hid (∀ q, Below w.heap.size w ((w.alloc (.cells #[.slice A0 n c0, .slice A1 n1 c1, .slice A2 n2 c2, .slice A3 n3 c3] 52)).drewN q)) := fun q => below_drewN (below_alloc w (.cells #[.slice A0 n c0, .slice A1 n1 c1, .slice A2 n2 c2, .slice A3 n3 c3] 52)) q
  go_enter Try.func12, Try.ntmps12
  go_wp2_with fail
  go_quiet (fail)
  generalize hW1 : World.drewN _ _ = W1
  have hb0 : Below w.heap.size w W1 := hW1 ▸ hbN.out _
  have HB0 := Lib.hid hb0
  have Ha0 := Lib.hid (Ha.out.later hb0)
  have Hb0 := Lib.hid (Hb.out.later hb0)
  have Hc0 := Lib.hid (Hc.out.later hb0)
  have He0 := Lib.hid (He.out.later hb0)
  clear hb0 Ha Hb Hc He
  clear hW1 hbN
  go_wp2_with fail
  refine (HIa.out _ _ Ha0.out).mono ?_
  rintro e w' ⟨rfl, rfl⟩
  go_wp2_with fail
  refine (HIb.out _ _ Hb0.out).mono ?_
  rintro e w' ⟨rfl, rfl⟩
  go_wp2_with fail
  refine (HIc.out _ _ Hc0.out).mono ?_
  rintro e w' ⟨rfl, rfl⟩
  go_wp2_with fail
  refine (HIe.out _ _ He0.out).mono ?_
  rintro e w' ⟨rfl, rfl⟩
  go_wp2_with fail
  refine (awake_any _).mono ?_
  rintro e v1 ⟨rfl, hb1⟩
  have HB1 := Lib.hid (below_then HB0.out hb1)
  have Ha1 := Lib.hid (Ha0.out.later hb1)
  have Hb1 := Lib.hid (Hb0.out.later hb1)
  have Hc1 := Lib.hid (Hc0.out.later hb1)
  have He1 := Lib.hid (He0.out.later hb1)
  clear hb1 Ha0 Hb0 Hc0 He0 HB0
  go_wp2
  go_ret
  exact ⟨rfl, HB1.out⟩
set_option maxRecDepth 100000 in
set_option maxHeartbeats 2000000 in
theorem known_l2 (A0 A1 A2 A3 : Option Addr) (n _n1 n2 n3 c0 c1 c2 c3 _m : Nat) (w : World) (a b c e : List Nat) (Ha : Hid (Sl w (.slice A0 n c0) a)) (Hb : Hid (Sl w (.slice A1 n c1) b)) (Hc : Hid (Sl w (.slice A2 n2 c2) c)) (He : Hid (Sl w (.slice A3 n3 c3) e))
    (HIa : Hid (∀ v w, Sl w v a → Calls Try.prog 53 #[v] w fun e w' => e = .returned (.bool true) ∧ w = w')) (HIb : Hid (∀ v w, Sl w v b → Calls Try.prog 53 #[v] w fun e w' => e = .returned (.bool true) ∧ w = w')) (HIc : Hid (∀ v w, Sl w v c → Calls Try.prog 53 #[v] w fun e w' => e = .returned (.bool true) ∧ w = w')) (HIe : Hid (∀ v w, Sl w v e → Calls Try.prog 53 #[v] w fun e w' => e = .returned (.bool true) ∧ w = w')) (hl : ¬ n2 = n) :
    Calls Try.prog 12 #[.agg #[.slice A0 n c0, .slice A1 n c1, .slice A2 n2 c2, .slice A3 n3 c3]] w fun e w' => e = .returned (.bool true) ∧ Below w.heap.size w w' := by
  have h1 : ((n : Int) != (n2 : Int)) = true := by rw [bne_iff_ne]; omega
  have h2 : ((n : Int) == (n2 : Int)) = false := by rw [beq_eq_false_iff_ne]; omega
  clear hl
  have hbN : Hid (∀ q, Below w.heap.size w ((w.alloc (.cells #[.slice A0 n c0, .slice A1 n c1, .slice A2 n2 c2, .slice A3 n3 c3] 52)).drewN q)) := fun q => below_drewN (below_alloc w (.cells #[.slice A0 n c0, .slice A1 n c1, .slice A2 n2 c2, .slice A3 n3 c3] 52)) q
  go_enter Try.func12, Try.ntmps12
  go_wp2_with fail
  go_quiet (fail)
  generalize hW1 : World.drewN _ _ = W1
  have hb0 : Below w.heap.size w W1 := hW1 ▸ hbN.out _
  have HB0 := Lib.hid hb0
  have Ha0 := Lib.hid (Ha.out.later hb0)
  have Hb0 := Lib.hid (Hb.out.later hb0)
  have Hc0 := Lib.hid (Hc.out.later hb0)
  have He0 := Lib.hid (He.out.later hb0)
  clear hb0 Ha Hb Hc He
  clear hW1 hbN
  go_wp2_with fail
  refine (HIa.out _ _ Ha0.out).mono ?_
  rintro e w' ⟨rfl, rfl⟩
  go_wp2_with fail
  refine (HIb.out _ _ Hb0.out).mono ?_
  rintro e w' ⟨rfl, rfl⟩
  go_wp2_with fail
  refine (HIc.out _ _ Hc0.out).mono ?_
  rintro e w' ⟨rfl, rfl⟩
  go_wp2_with fail
  refine (HIe.out _ _ He0.out).mono ?_
  rintro e w' ⟨rfl, rfl⟩
  go_wp2_with fail
  refine (awake_any _).mono ?_
  rintro e v1 ⟨rfl, hb1⟩
  have HB1 := Lib.hid (below_then HB0.out hb1)
  have Ha1 := Lib.hid (Ha0.out.later hb1)
  have Hb1 := Lib.hid (Hb0.out.later hb1)
  have Hc1 := Lib.hid (Hc0.out.later hb1)
  have He1 := Lib.hid (He0.out.later hb1)
  clear hb1 Ha0 Hb0 Hc0 He0 HB0
  go_wp2
  go_ret
  exact ⟨rfl, HB1.out⟩
set_option maxRecDepth 100000 in
set_option maxHeartbeats 2000000 in
theorem known_l3 (A0 A1 A2 A3 : Option Addr) (n _n1 _n2 n3 c0 c1 c2 c3 _m : Nat) (w : World) (a b c e : List Nat) (Ha : Hid (Sl w (.slice A0 n c0) a)) (Hb : Hid (Sl w (.slice A1 n c1) b)) (Hc : Hid (Sl w (.slice A2 n c2) c)) (He : Hid (Sl w (.slice A3 n3 c3) e))
    (HIa : Hid (∀ v w, Sl w v a → Calls Try.prog 53 #[v] w fun e w' => e = .returned (.bool true) ∧ w = w')) (HIb : Hid (∀ v w, Sl w v b → Calls Try.prog 53 #[v] w fun e w' => e = .returned (.bool true) ∧ w = w')) (HIc : Hid (∀ v w, Sl w v c → Calls Try.prog 53 #[v] w fun e w' => e = .returned (.bool true) ∧ w = w')) (HIe : Hid (∀ v w, Sl w v e → Calls Try.prog 53 #[v] w fun e w' => e = .returned (.bool true) ∧ w = w')) (hl : ¬ n3 = n) :
    Calls Try.prog 12 #[.agg #[.slice A0 n c0, .slice A1 n c1, .slice A2 n c2, .slice A3 n3 c3]] w fun e w' => e = .returned (.bool true) ∧ Below w.heap.size w w' := by
  have h1 : ((n : Int) != (n3 : Int)) = true := by rw [bne_iff_ne]; omega
  have h2 : ((n : Int) == (n3 : Int)) = false := by rw [beq_eq_false_iff_ne]; omega
  clear hl
  have hbN : Hid (∀ q, Below w.heap.size w ((w.alloc (.cells #[.slice A0 n c0, .slice A1 n c1, .slice A2 n c2, .slice A3 n3 c3] 52)).drewN q)) := fun q => below_drewN (below_alloc w (.cells #[.slice A0 n c0, .slice A1 n c1, .slice A2 n c2, .slice A3 n3 c3] 52)) q
  go_enter Try.func12, Try.ntmps12
  go_wp2_with fail
  go_quiet (fail)
  generalize hW1 : World.drewN _ _ = W1
  have hb0 : Below w.heap.size w W1 := hW1 ▸ hbN.out _
  have HB0 := Lib.hid hb0
  have Ha0 := Lib.hid (Ha.out.later hb0)
  have Hb0 := Lib.hid (Hb.out.later hb0)
  have Hc0 := Lib.hid (Hc.out.later hb0)
  have He0 := Lib.hid (He.out.later hb0)
  clear hb0 Ha Hb Hc He
  clear hW1 hbN
  go_wp2_with fail
  refine (HIa.out _ _ Ha0.out).mono ?_
  rintro e w' ⟨rfl, rfl⟩
  go_wp2_with fail
  refine (HIb.out _ _ Hb0.out).mono ?_
  rintro e w' ⟨rfl, rfl⟩
  go_wp2_with fail
  refine (HIc.out _ _ Hc0.out).mono ?_
  rintro e w' ⟨rfl, rfl⟩
  go_wp2_with fail
  refine (HIe.out _ _ He0.out).mono ?_
  rintro e w' ⟨rfl, rfl⟩
  go_wp2_with fail
  refine (awake_any _).mono ?_
  rintro e v1 ⟨rfl, hb1⟩
  have HB1 := Lib.hid (below_then HB0.out hb1)
  have Ha1 := Lib.hid (Ha0.out.later hb1)
  have Hb1 := Lib.hid (Hb0.out.later hb1)
  have Hc1 := Lib.hid (Hc0.out.later hb1)
  have He1 := Lib.hid (He0.out.later hb1)
  clear hb1 Ha0 Hb0 Hc0 He0 HB0
  go_wp2
  go_ret
  exact ⟨rfl, HB1.out⟩
end Go.Proofs.Ytkapephlfbabjaa
