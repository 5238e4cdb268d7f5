/- VecRing: sums and products of vectors go in any order, and together in any way, products over sums, and what was added is taken away again; no condition. -/
import Derived.Test.YtkapephlfbabjaaLaw
import Derived.Test.YtkapephlfbabjaaAwake
import Derived.Test.YtkapephlfbabjaaSure
namespace Go.Proofs.Ytkapephlfbabjaa
open Go.ChangeShapes Go.WideShapes Go.ChangeAt Go.WideMaps Go.WideElems Go.RowKit
open Go.ChangeMaps (open_string)

set_option maxRecDepth 100000 in
set_option maxHeartbeats 8000000 in
theorem ring_at (A A' A'' : Option Addr) (n c0 c1 c2 : Nat) (w : World) (a b c AB P X BC X2 B2 D R S Z : List Nat) (ka kb kc : Bool) (_hn : n ≤ 140737488355328)
    (Ha : Hid (Sl w (.slice A n c0) a)) (Hb : Hid (Sl w (.slice A' n c1) b)) (Hc : Hid (Sl w (.slice A'' n c2) c))
    (HIa : Hid (∀ v w, Sl w v a → Calls Try.prog 53 #[v] w fun e w' => e = .returned (.bool true) ∧ w = w')) (HIb : Hid (∀ v w, Sl w v b → Calls Try.prog 53 #[v] w fun e w' => e = .returned (.bool true) ∧ w = w')) (HIc : Hid (∀ v w, Sl w v c → Calls Try.prog 53 #[v] w fun e w' => e = .returned (.bool true) ∧ w = w'))
    (HKa : Hid (∀ v w, Sl w v a → Calls Try.prog 54 #[v] w fun e w' => e = .returned (.bool ka) ∧ w = w')) (HKb : Hid (∀ v w, Sl w v b → Calls Try.prog 54 #[v] w fun e w' => e = .returned (.bool kb) ∧ w = w')) (HKc : Hid (∀ v w, Sl w v c → Calls Try.prog 54 #[v] w fun e w' => e = .returned (.bool kc) ∧ w = w'))
    (HAB : Hid (∀ u v w, Sl w u a → Sl w v b → Calls Try.prog 29 #[u, v] w fun e w' => ∃ x, e = .returned (.tuple #[x, .int .i64 0]) ∧ Sl w' x AB ∧ Below w.heap.size w w')) (HBA : Hid (∀ u v w, Sl w u b → Sl w v a → Calls Try.prog 29 #[u, v] w fun e w' => ∃ x, e = .returned (.tuple #[x, .int .i64 0]) ∧ Sl w' x AB ∧ Below w.heap.size w w'))
    (HP : Hid (∀ u v w, Sl w u a → Sl w v b → Calls Try.prog 33 #[u, v] w fun e w' => ∃ x, e = .returned (.tuple #[x, .int .i64 0]) ∧ Sl w' x P ∧ Below w.heap.size w w')) (HQ : Hid (∀ u v w, Sl w u b → Sl w v a → Calls Try.prog 33 #[u, v] w fun e w' => ∃ x, e = .returned (.tuple #[x, .int .i64 0]) ∧ Sl w' x P ∧ Below w.heap.size w w'))
    (HX : Hid (∀ u v w, Sl w u AB → Sl w v c → Calls Try.prog 29 #[u, v] w fun e w' => ∃ x, e = .returned (.tuple #[x, .int .i64 0]) ∧ Sl w' x X ∧ Below w.heap.size w w')) (HBC : Hid (∀ u v w, Sl w u b → Sl w v c → Calls Try.prog 29 #[u, v] w fun e w' => ∃ x, e = .returned (.tuple #[x, .int .i64 0]) ∧ Sl w' x BC ∧ Below w.heap.size w w')) (HY : Hid (∀ u v w, Sl w u a → Sl w v BC → Calls Try.prog 29 #[u, v] w fun e w' => ∃ x, e = .returned (.tuple #[x, .int .i64 0]) ∧ Sl w' x X ∧ Below w.heap.size w w'))
    (HX2 : Hid (∀ u v w, Sl w u P → Sl w v c → Calls Try.prog 33 #[u, v] w fun e w' => ∃ x, e = .returned (.tuple #[x, .int .i64 0]) ∧ Sl w' x X2 ∧ Below w.heap.size w w')) (HB2 : Hid (∀ u v w, Sl w u b → Sl w v c → Calls Try.prog 33 #[u, v] w fun e w' => ∃ x, e = .returned (.tuple #[x, .int .i64 0]) ∧ Sl w' x B2 ∧ Below w.heap.size w w')) (HY2 : Hid (∀ u v w, Sl w u a → Sl w v B2 → Calls Try.prog 33 #[u, v] w fun e w' => ∃ x, e = .returned (.tuple #[x, .int .i64 0]) ∧ Sl w' x X2 ∧ Below w.heap.size w w'))
    (HD : Hid (∀ u v w, Sl w u a → Sl w v BC → Calls Try.prog 33 #[u, v] w fun e w' => ∃ x, e = .returned (.tuple #[x, .int .i64 0]) ∧ Sl w' x D ∧ Below w.heap.size w w')) (HR : Hid (∀ u v w, Sl w u a → Sl w v c → Calls Try.prog 33 #[u, v] w fun e w' => ∃ x, e = .returned (.tuple #[x, .int .i64 0]) ∧ Sl w' x R ∧ Below w.heap.size w w')) (HS : Hid (∀ u v w, Sl w u P → Sl w v R → Calls Try.prog 29 #[u, v] w fun e w' => ∃ x, e = .returned (.tuple #[x, .int .i64 0]) ∧ Sl w' x S ∧ Below w.heap.size w w')) (HZ : Hid (∀ u v w, Sl w u AB → Sl w v b → Calls Try.prog 31 #[u, v] w fun e w' => ∃ x, e = .returned (.tuple #[x, .int .i64 0]) ∧ Sl w' x Z ∧ Below w.heap.size w w'))
    (HE : Ends (ka && kb && kc) (D = S ∧ Z = a)) :
    Calls Try.prog 8 #[.slice A n c0, .slice A' n c1, .slice A'' n c2] w fun e w' => e = .returned (.bool true) ∧ Below w.heap.size w w' := by
  go_enter Try.func8, Try.ntmps8
  go_wp2_with fail
  refine (HIa.out _ _ Ha.out).mono ?_
  rintro e w' ⟨rfl, rfl⟩
  go_wp2_with fail
  refine (HIb.out _ _ Hb.out).mono ?_
  rintro e w' ⟨rfl, rfl⟩
  go_wp2_with fail
  refine (HIc.out _ _ Hc.out).mono ?_
  rintro e w' ⟨rfl, rfl⟩
  go_wp2_with fail
  refine (HAB.out _ _ _ Ha.out Hb.out).mono ?_
  rintro e v1 ⟨ab1, rfl, sab, hb1⟩
  have HB1 := Lib.hid hb1
  have Ha1 := Lib.hid (Ha.out.later hb1)
  have Hb1 := Lib.hid (Hb.out.later hb1)
  have Hc1 := Lib.hid (Hc.out.later hb1)
  have Hab1 := Lib.hid sab
  clear hb1 sab Ha Hb Hc
  go_wp2_with fail
  refine (HBA.out _ _ _ Hb1.out Ha1.out).mono ?_
  rintro e v2 ⟨ba2, rfl, sba, hb2⟩
  have HB2 := Lib.hid (below_then HB1.out hb2)
  have Ha2 := Lib.hid (Ha1.out.later hb2)
  have Hb2 := Lib.hid (Hb1.out.later hb2)
  have Hc2 := Lib.hid (Hc1.out.later hb2)
  have Hab2 := Lib.hid (Hab1.out.later hb2)
  have Hba2 := Lib.hid sba
  clear hb2 sba Ha1 Hb1 Hc1 Hab1 HB1
  go_wp2_with fail
  refine (HP.out _ _ _ Ha2.out Hb2.out).mono ?_
  rintro e v3 ⟨p3, rfl, sp, hb3⟩
  have HB3 := Lib.hid (below_then HB2.out hb3)
  have Ha3 := Lib.hid (Ha2.out.later hb3)
  have Hb3 := Lib.hid (Hb2.out.later hb3)
  have Hc3 := Lib.hid (Hc2.out.later hb3)
  have Hab3 := Lib.hid (Hab2.out.later hb3)
  have Hba3 := Lib.hid (Hba2.out.later hb3)
  have Hp3 := Lib.hid sp
  clear hb3 sp Ha2 Hb2 Hc2 Hab2 Hba2 HB2
  go_wp2_with fail
  refine (HQ.out _ _ _ Hb3.out Ha3.out).mono ?_
  rintro e v4 ⟨q4, rfl, sq, hb4⟩
  have HB4 := Lib.hid (below_then HB3.out hb4)
  have Ha4 := Lib.hid (Ha3.out.later hb4)
  have Hb4 := Lib.hid (Hb3.out.later hb4)
  have Hc4 := Lib.hid (Hc3.out.later hb4)
  have Hab4 := Lib.hid (Hab3.out.later hb4)
  have Hba4 := Lib.hid (Hba3.out.later hb4)
  have Hp4 := Lib.hid (Hp3.out.later hb4)
  have Hq4 := Lib.hid sq
  clear hb4 sq Ha3 Hb3 Hc3 Hab3 Hba3 Hp3 HB3
  go_wp2_with fail
  refine (same_at _ _ _ _ Hab4.out Hba4.out).mono ?_
  rintro e v5 ⟨rfl, hb5⟩
  have HB5 := Lib.hid (below_then HB4.out hb5)
  have Ha5 := Lib.hid (Ha4.out.later hb5)
  have Hb5 := Lib.hid (Hb4.out.later hb5)
  have Hc5 := Lib.hid (Hc4.out.later hb5)
  have Hab5 := Lib.hid (Hab4.out.later hb5)
  have Hba5 := Lib.hid (Hba4.out.later hb5)
  have Hp5 := Lib.hid (Hp4.out.later hb5)
  have Hq5 := Lib.hid (Hq4.out.later hb5)
  clear hb5 Ha4 Hb4 Hc4 Hab4 Hba4 Hp4 Hq4 HB4
  go_wp2_with fail
  refine (same_at _ _ _ _ Hp5.out Hq5.out).mono ?_
  rintro e v6 ⟨rfl, hb6⟩
  have HB6 := Lib.hid (below_then HB5.out hb6)
  have Ha6 := Lib.hid (Ha5.out.later hb6)
  have Hb6 := Lib.hid (Hb5.out.later hb6)
  have Hc6 := Lib.hid (Hc5.out.later hb6)
  have Hab6 := Lib.hid (Hab5.out.later hb6)
  have Hba6 := Lib.hid (Hba5.out.later hb6)
  have Hp6 := Lib.hid (Hp5.out.later hb6)
  have Hq6 := Lib.hid (Hq5.out.later hb6)
  clear hb6 Ha5 Hb5 Hc5 Hab5 Hba5 Hp5 Hq5 HB5
  go_wp2_with fail
  refine (HX.out _ _ _ Hab6.out Hc6.out).mono ?_
  rintro e v7 ⟨x7, rfl, sx, hb7⟩
  have HB7 := Lib.hid (below_then HB6.out hb7)
  have Ha7 := Lib.hid (Ha6.out.later hb7)
  have Hb7 := Lib.hid (Hb6.out.later hb7)
  have Hc7 := Lib.hid (Hc6.out.later hb7)
  have Hab7 := Lib.hid (Hab6.out.later hb7)
  have Hp7 := Lib.hid (Hp6.out.later hb7)
  have Hx7 := Lib.hid sx
  clear hb7 sx Ha6 Hb6 Hc6 Hab6 Hp6 HB6
  go_wp2_with fail
  refine (HBC.out _ _ _ Hb7.out Hc7.out).mono ?_
  rintro e v8 ⟨bc8, rfl, sbc, hb8⟩
  have HB8 := Lib.hid (below_then HB7.out hb8)
  have Ha8 := Lib.hid (Ha7.out.later hb8)
  have Hb8 := Lib.hid (Hb7.out.later hb8)
  have Hc8 := Lib.hid (Hc7.out.later hb8)
  have Hab8 := Lib.hid (Hab7.out.later hb8)
  have Hp8 := Lib.hid (Hp7.out.later hb8)
  have Hx8 := Lib.hid (Hx7.out.later hb8)
  have Hbc8 := Lib.hid sbc
  clear hb8 sbc Ha7 Hb7 Hc7 Hab7 Hp7 Hx7 HB7
  go_wp2_with fail
  refine (HY.out _ _ _ Ha8.out Hbc8.out).mono ?_
  rintro e v9 ⟨y9, rfl, sy, hb9⟩
  have HB9 := Lib.hid (below_then HB8.out hb9)
  have Ha9 := Lib.hid (Ha8.out.later hb9)
  have Hb9 := Lib.hid (Hb8.out.later hb9)
  have Hc9 := Lib.hid (Hc8.out.later hb9)
  have Hab9 := Lib.hid (Hab8.out.later hb9)
  have Hp9 := Lib.hid (Hp8.out.later hb9)
  have Hx9 := Lib.hid (Hx8.out.later hb9)
  have Hbc9 := Lib.hid (Hbc8.out.later hb9)
  have Hy9 := Lib.hid sy
  clear hb9 sy Ha8 Hb8 Hc8 Hab8 Hp8 Hx8 Hbc8 HB8
  go_wp2_with fail
  refine (same_at _ _ _ _ Hx9.out Hy9.out).mono ?_
  rintro e v10 ⟨rfl, hb10⟩
  have HB10 := Lib.hid (below_then HB9.out hb10)
  have Ha10 := Lib.hid (Ha9.out.later hb10)
  have Hb10 := Lib.hid (Hb9.out.later hb10)
  have Hc10 := Lib.hid (Hc9.out.later hb10)
  have Hab10 := Lib.hid (Hab9.out.later hb10)
  have Hp10 := Lib.hid (Hp9.out.later hb10)
  have Hx10 := Lib.hid (Hx9.out.later hb10)
  have Hbc10 := Lib.hid (Hbc9.out.later hb10)
  have Hy10 := Lib.hid (Hy9.out.later hb10)
  clear hb10 Ha9 Hb9 Hc9 Hab9 Hp9 Hx9 Hbc9 Hy9 HB9
  go_wp2_with fail
  refine (HX2.out _ _ _ Hp10.out Hc10.out).mono ?_
  rintro e v11 ⟨x11, rfl, sx, hb11⟩
  have HB11 := Lib.hid (below_then HB10.out hb11)
  have Ha11 := Lib.hid (Ha10.out.later hb11)
  have Hb11 := Lib.hid (Hb10.out.later hb11)
  have Hc11 := Lib.hid (Hc10.out.later hb11)
  have Hab11 := Lib.hid (Hab10.out.later hb11)
  have Hp11 := Lib.hid (Hp10.out.later hb11)
  have Hbc11 := Lib.hid (Hbc10.out.later hb11)
  have Hx11 := Lib.hid sx
  clear hb11 sx Ha10 Hb10 Hc10 Hab10 Hp10 Hbc10 HB10
  go_wp2_with fail
  refine (HB2.out _ _ _ Hb11.out Hc11.out).mono ?_
  rintro e v12 ⟨yy12, rfl, syy, hb12⟩
  have HB12 := Lib.hid (below_then HB11.out hb12)
  have Ha12 := Lib.hid (Ha11.out.later hb12)
  have Hb12 := Lib.hid (Hb11.out.later hb12)
  have Hc12 := Lib.hid (Hc11.out.later hb12)
  have Hab12 := Lib.hid (Hab11.out.later hb12)
  have Hp12 := Lib.hid (Hp11.out.later hb12)
  have Hbc12 := Lib.hid (Hbc11.out.later hb12)
  have Hx12 := Lib.hid (Hx11.out.later hb12)
  have Hyy12 := Lib.hid syy
  clear hb12 syy Ha11 Hb11 Hc11 Hab11 Hp11 Hbc11 Hx11 HB11
  go_wp2_with fail
  refine (HY2.out _ _ _ Ha12.out Hyy12.out).mono ?_
  rintro e v13 ⟨y13, rfl, sy, hb13⟩
  have HB13 := Lib.hid (below_then HB12.out hb13)
  have Ha13 := Lib.hid (Ha12.out.later hb13)
  have Hb13 := Lib.hid (Hb12.out.later hb13)
  have Hc13 := Lib.hid (Hc12.out.later hb13)
  have Hab13 := Lib.hid (Hab12.out.later hb13)
  have Hp13 := Lib.hid (Hp12.out.later hb13)
  have Hbc13 := Lib.hid (Hbc12.out.later hb13)
  have Hx13 := Lib.hid (Hx12.out.later hb13)
  have Hyy13 := Lib.hid (Hyy12.out.later hb13)
  have Hy13 := Lib.hid sy
  clear hb13 sy Ha12 Hb12 Hc12 Hab12 Hp12 Hbc12 Hx12 Hyy12 HB12
  go_wp2_with fail
  refine (same_at _ _ _ _ Hx13.out Hy13.out).mono ?_
  rintro e v14 ⟨rfl, hb14⟩
  have HB14 := Lib.hid (below_then HB13.out hb14)
  have Ha14 := Lib.hid (Ha13.out.later hb14)
  have Hb14 := Lib.hid (Hb13.out.later hb14)
  have Hc14 := Lib.hid (Hc13.out.later hb14)
  have Hab14 := Lib.hid (Hab13.out.later hb14)
  have Hp14 := Lib.hid (Hp13.out.later hb14)
  have Hbc14 := Lib.hid (Hbc13.out.later hb14)
  have Hx14 := Lib.hid (Hx13.out.later hb14)
  have Hyy14 := Lib.hid (Hyy13.out.later hb14)
  have Hy14 := Lib.hid (Hy13.out.later hb14)
  clear hb14 Ha13 Hb13 Hc13 Hab13 Hp13 Hbc13 Hx13 Hyy13 Hy13 HB13
  rcases ka with _ | _
  · skip
    go_wp2_with fail
    refine (HKa.out _ _ Ha14.out).mono ?_
    rintro e w' ⟨rfl, rfl⟩
    go_wp2_with fail
    refine (awake_any _).mono ?_
    rintro e v15 ⟨rfl, hb15⟩
    have HB15 := Lib.hid (below_then HB14.out hb15)
    have Ha15 := Lib.hid (Ha14.out.later hb15)
    have Hb15 := Lib.hid (Hb14.out.later hb15)
    have Hc15 := Lib.hid (Hc14.out.later hb15)
    have Hab15 := Lib.hid (Hab14.out.later hb15)
    have Hp15 := Lib.hid (Hp14.out.later hb15)
    have Hbc15 := Lib.hid (Hbc14.out.later hb15)
    clear hb15 Ha14 Hb14 Hc14 Hab14 Hp14 Hbc14 HB14
    go_wp2
    go_ret
    exact ⟨rfl, HB15.out⟩
  · skip
    go_wp2_with fail
    refine (HKa.out _ _ Ha14.out).mono ?_
    rintro e w' ⟨rfl, rfl⟩
    rcases kb with _ | _
    · skip
      go_wp2_with fail
      refine (HKb.out _ _ Hb14.out).mono ?_
      rintro e w' ⟨rfl, rfl⟩
      go_wp2_with fail
      refine (awake_any _).mono ?_
      rintro e v15 ⟨rfl, hb15⟩
      have HB15 := Lib.hid (below_then HB14.out hb15)
      have Ha15 := Lib.hid (Ha14.out.later hb15)
      have Hb15 := Lib.hid (Hb14.out.later hb15)
      have Hc15 := Lib.hid (Hc14.out.later hb15)
      have Hab15 := Lib.hid (Hab14.out.later hb15)
      have Hp15 := Lib.hid (Hp14.out.later hb15)
      have Hbc15 := Lib.hid (Hbc14.out.later hb15)
      clear hb15 Ha14 Hb14 Hc14 Hab14 Hp14 Hbc14 HB14
      go_wp2
      go_ret
      exact ⟨rfl, HB15.out⟩
    · skip
      go_wp2_with fail
      refine (HKb.out _ _ Hb14.out).mono ?_
      rintro e w' ⟨rfl, rfl⟩
      rcases kc with _ | _
      · skip
        go_wp2_with fail
        refine (HKc.out _ _ Hc14.out).mono ?_
        rintro e w' ⟨rfl, rfl⟩
        go_wp2_with fail
        refine (awake_any _).mono ?_
        rintro e v15 ⟨rfl, hb15⟩
        have HB15 := Lib.hid (below_then HB14.out hb15)
        have Ha15 := Lib.hid (Ha14.out.later hb15)
        have Hb15 := Lib.hid (Hb14.out.later hb15)
        have Hc15 := Lib.hid (Hc14.out.later hb15)
        have Hab15 := Lib.hid (Hab14.out.later hb15)
        have Hp15 := Lib.hid (Hp14.out.later hb15)
        have Hbc15 := Lib.hid (Hbc14.out.later hb15)
        clear hb15 Ha14 Hb14 Hc14 Hab14 Hp14 Hbc14 HB14
        go_wp2
        go_ret
        exact ⟨rfl, HB15.out⟩
      · skip
        go_wp2_with fail
        refine (HKc.out _ _ Hc14.out).mono ?_
        rintro e w' ⟨rfl, rfl⟩
        obtain ⟨rfl, rfl⟩ := HE rfl
        go_wp2_with fail
        refine (HD.out _ _ _ Ha14.out Hbc14.out).mono ?_
        rintro e v15 ⟨x15, rfl, sx, hb15⟩
        have HB15 := Lib.hid (below_then HB14.out hb15)
        have Ha15 := Lib.hid (Ha14.out.later hb15)
        have Hb15 := Lib.hid (Hb14.out.later hb15)
        have Hc15 := Lib.hid (Hc14.out.later hb15)
        have Hab15 := Lib.hid (Hab14.out.later hb15)
        have Hp15 := Lib.hid (Hp14.out.later hb15)
        have Hbc15 := Lib.hid (Hbc14.out.later hb15)
        have Hx15 := Lib.hid sx
        clear hb15 sx Ha14 Hb14 Hc14 Hab14 Hp14 Hbc14 HB14
        go_wp2_with fail
        refine (HR.out _ _ _ Ha15.out Hc15.out).mono ?_
        rintro e v16 ⟨r16, rfl, sr, hb16⟩
        have HB16 := Lib.hid (below_then HB15.out hb16)
        have Ha16 := Lib.hid (Ha15.out.later hb16)
        have Hb16 := Lib.hid (Hb15.out.later hb16)
        have Hc16 := Lib.hid (Hc15.out.later hb16)
        have Hab16 := Lib.hid (Hab15.out.later hb16)
        have Hp16 := Lib.hid (Hp15.out.later hb16)
        have Hbc16 := Lib.hid (Hbc15.out.later hb16)
        have Hx16 := Lib.hid (Hx15.out.later hb16)
        have Hr16 := Lib.hid sr
        clear hb16 sr Ha15 Hb15 Hc15 Hab15 Hp15 Hbc15 Hx15 HB15
        go_wp2_with fail
        refine (HS.out _ _ _ Hp16.out Hr16.out).mono ?_
        rintro e v17 ⟨y17, rfl, sy, hb17⟩
        have HB17 := Lib.hid (below_then HB16.out hb17)
        have Ha17 := Lib.hid (Ha16.out.later hb17)
        have Hb17 := Lib.hid (Hb16.out.later hb17)
        have Hc17 := Lib.hid (Hc16.out.later hb17)
        have Hab17 := Lib.hid (Hab16.out.later hb17)
        have Hp17 := Lib.hid (Hp16.out.later hb17)
        have Hbc17 := Lib.hid (Hbc16.out.later hb17)
        have Hx17 := Lib.hid (Hx16.out.later hb17)
        have Hr17 := Lib.hid (Hr16.out.later hb17)
        have Hy17 := Lib.hid sy
        clear hb17 sy Ha16 Hb16 Hc16 Hab16 Hp16 Hbc16 Hx16 Hr16 HB16
        go_wp2_with fail
        refine (HZ.out _ _ _ Hab17.out Hb17.out).mono ?_
        rintro e v18 ⟨z18, rfl, sz, hb18⟩
        have HB18 := Lib.hid (below_then HB17.out hb18)
        have Ha18 := Lib.hid (Ha17.out.later hb18)
        have Hb18 := Lib.hid (Hb17.out.later hb18)
        have Hc18 := Lib.hid (Hc17.out.later hb18)
        have Hab18 := Lib.hid (Hab17.out.later hb18)
        have Hp18 := Lib.hid (Hp17.out.later hb18)
        have Hbc18 := Lib.hid (Hbc17.out.later hb18)
        have Hx18 := Lib.hid (Hx17.out.later hb18)
        have Hr18 := Lib.hid (Hr17.out.later hb18)
        have Hy18 := Lib.hid (Hy17.out.later hb18)
        have Hz18 := Lib.hid sz
        clear hb18 sz Ha17 Hb17 Hc17 Hab17 Hp17 Hbc17 Hx17 Hr17 Hy17 HB17
        go_wp2_with fail
        refine (same_at _ _ _ _ Hx18.out Hy18.out).mono ?_
        rintro e v19 ⟨rfl, hb19⟩
        have HB19 := Lib.hid (below_then HB18.out hb19)
        have Ha19 := Lib.hid (Ha18.out.later hb19)
        have Hb19 := Lib.hid (Hb18.out.later hb19)
        have Hc19 := Lib.hid (Hc18.out.later hb19)
        have Hab19 := Lib.hid (Hab18.out.later hb19)
        have Hp19 := Lib.hid (Hp18.out.later hb19)
        have Hbc19 := Lib.hid (Hbc18.out.later hb19)
        have Hx19 := Lib.hid (Hx18.out.later hb19)
        have Hr19 := Lib.hid (Hr18.out.later hb19)
        have Hy19 := Lib.hid (Hy18.out.later hb19)
        have Hz19 := Lib.hid (Hz18.out.later hb19)
        clear hb19 Ha18 Hb18 Hc18 Hab18 Hp18 Hbc18 Hx18 Hr18 Hy18 Hz18 HB18
        go_wp2_with fail
        refine (same_at _ _ _ _ Hz19.out Ha19.out).mono ?_
        rintro e v20 ⟨rfl, hb20⟩
        have HB20 := Lib.hid (below_then HB19.out hb20)
        have Ha20 := Lib.hid (Ha19.out.later hb20)
        have Hb20 := Lib.hid (Hb19.out.later hb20)
        have Hc20 := Lib.hid (Hc19.out.later hb20)
        have Hab20 := Lib.hid (Hab19.out.later hb20)
        have Hp20 := Lib.hid (Hp19.out.later hb20)
        have Hbc20 := Lib.hid (Hbc19.out.later hb20)
        have Hx20 := Lib.hid (Hx19.out.later hb20)
        have Hr20 := Lib.hid (Hr19.out.later hb20)
        have Hy20 := Lib.hid (Hy19.out.later hb20)
        have Hz20 := Lib.hid (Hz19.out.later hb20)
        clear hb20 Ha19 Hb19 Hc19 Hab19 Hp19 Hbc19 Hx19 Hr19 Hy19 Hz19 HB19
        go_wp2_with fail
        refine (awake_any _).mono ?_
        rintro e v21 ⟨rfl, hb21⟩
        have HB21 := Lib.hid (below_then HB20.out hb21)
        have Ha21 := Lib.hid (Ha20.out.later hb21)
        have Hb21 := Lib.hid (Hb20.out.later hb21)
        have Hc21 := Lib.hid (Hc20.out.later hb21)
        have Hab21 := Lib.hid (Hab20.out.later hb21)
        have Hp21 := Lib.hid (Hp20.out.later hb21)
        have Hbc21 := Lib.hid (Hbc20.out.later hb21)
        have Hx21 := Lib.hid (Hx20.out.later hb21)
        have Hr21 := Lib.hid (Hr20.out.later hb21)
        have Hy21 := Lib.hid (Hy20.out.later hb21)
        have Hz21 := Lib.hid (Hz20.out.later hb21)
        clear hb21 Ha20 Hb20 Hc20 Hab20 Hp20 Hbc20 Hx20 Hr20 Hy20 Hz20 HB20
        go_wp2
        go_ret
        exact ⟨rfl, HB21.out⟩
set_option maxRecDepth 100000 in
set_option maxHeartbeats 2000000 in
theorem ring_na (A A' A'' : Option Addr) (c0 c1 c2 : Nat) (w : World) (n m k : Nat) (a b c : List Nat)
    (Ha : Hid (Sl w (.slice A n c0) a)) (Hb : Hid (Sl w (.slice A' m c1) b)) (Hc : Hid (Sl w (.slice A'' k c2) c)) (HIa : Hid (∀ v w, Sl w v a → Calls Try.prog 53 #[v] w fun e w' => e = .returned (.bool false) ∧ w = w')) :
    Calls Try.prog 8 #[.slice A n c0, .slice A' m c1, .slice A'' k c2] w fun e w' => e = .returned (.bool true) ∧ Below w.heap.size w w' := by
  skip
  go_enter Try.func8, Try.ntmps8
  go_wp2_with fail
  refine (HIa.out _ _ Ha.out).mono ?_
  rintro e w' ⟨rfl, rfl⟩
  go_wp2_with fail
  refine (awake_any _).mono ?_
  rintro e v1 ⟨rfl, hb1⟩
  have HB1 := Lib.hid hb1
  have Ha1 := Lib.hid (Ha.out.later hb1)
  have Hb1 := Lib.hid (Hb.out.later hb1)
  have Hc1 := Lib.hid (Hc.out.later hb1)
  clear hb1 Ha Hb Hc
  go_wp2
  go_ret
  exact ⟨rfl, HB1.out⟩
set_option maxRecDepth 100000 in
set_option maxHeartbeats 2000000 in
theorem ring_nb (A A' A'' : Option Addr) (c0 c1 c2 : Nat) (w : World) (n m k : Nat) (a b c : List Nat)
    (Ha : Hid (Sl w (.slice A n c0) a)) (Hb : Hid (Sl w (.slice A' m c1) b)) (Hc : Hid (Sl w (.slice A'' k c2) c)) (HIa : Hid (∀ v w, Sl w v a → Calls Try.prog 53 #[v] w fun e w' => e = .returned (.bool true) ∧ w = w')) (HIb : Hid (∀ v w, Sl w v b → Calls Try.prog 53 #[v] w fun e w' => e = .returned (.bool false) ∧ w = w')) :
    Calls Try.prog 8 #[.slice A n c0, .slice A' m c1, .slice A'' k c2] w fun e w' => e = .returned (.bool true) ∧ Below w.heap.size w w' := by
  skip
  go_enter Try.func8, Try.ntmps8
  go_wp2_with fail
  refine (HIa.out _ _ Ha.out).mono ?_
  rintro e w' ⟨rfl, rfl⟩
  go_wp2_with fail
  refine (HIb.out _ _ Hb.out).mono ?_
  rintro e w' ⟨rfl, rfl⟩
  go_wp2_with fail
  refine (awake_any _).mono ?_
  rintro e v1 ⟨rfl, hb1⟩
  have HB1 := Lib.hid hb1
  have Ha1 := Lib.hid (Ha.out.later hb1)
  have Hb1 := Lib.hid (Hb.out.later hb1)
  have Hc1 := Lib.hid (Hc.out.later hb1)
  clear hb1 Ha Hb Hc
  go_wp2
  go_ret
  exact ⟨rfl, HB1.out⟩
set_option maxRecDepth 100000 in
set_option maxHeartbeats 2000000 in
theorem ring_nc (A A' A'' : Option Addr) (c0 c1 c2 : Nat) (w : World) (n m k : Nat) (a b c : List Nat)
    (Ha : Hid (Sl w (.slice A n c0) a)) (Hb : Hid (Sl w (.slice A' m c1) b)) (Hc : Hid (Sl w (.slice A'' k c2) c)) (HIa : Hid (∀ v w, Sl w v a → Calls Try.prog 53 #[v] w fun e w' => e = .returned (.bool true) ∧ w = w')) (HIb : Hid (∀ v w, Sl w v b → Calls Try.prog 53 #[v] w fun e w' => e = .returned (.bool true) ∧ w = w')) (HIc : Hid (∀ v w, Sl w v c → Calls Try.prog 53 #[v] w fun e w' => e = .returned (.bool false) ∧ w = w')) :
    Calls Try.prog 8 #[.slice A n c0, .slice A' m c1, .slice A'' k c2] w fun e w' => e = .returned (.bool true) ∧ Below w.heap.size w w' := by
  skip
  go_enter Try.func8, Try.ntmps8
  go_wp2_with fail
  refine (HIa.out _ _ Ha.out).mono ?_
  rintro e w' ⟨rfl, rfl⟩
  go_wp2_with fail
  refine (HIb.out _ _ Hb.out).mono ?_
  rintro e w' ⟨rfl, rfl⟩
  go_wp2_with fail
  refine (HIc.out _ _ Hc.out).mono ?_
  rintro e w' ⟨rfl, rfl⟩
  go_wp2_with fail
  refine (awake_any _).mono ?_
  rintro e v1 ⟨rfl, hb1⟩
  have HB1 := Lib.hid hb1
  have Ha1 := Lib.hid (Ha.out.later hb1)
  have Hb1 := Lib.hid (Hb.out.later hb1)
  have Hc1 := Lib.hid (Hc.out.later hb1)
  clear hb1 Ha Hb Hc
  go_wp2
  go_ret
  exact ⟨rfl, HB1.out⟩
set_option maxRecDepth 100000 in
set_option maxHeartbeats 2000000 in
theorem ring_nl (A A' A'' : Option Addr) (c0 c1 c2 : Nat) (w : World) (n m k : Nat) (a b c : List Nat)
    (Ha : Hid (Sl w (.slice A n c0) a)) (Hb : Hid (Sl w (.slice A' m c1) b)) (Hc : Hid (Sl w (.slice A'' k c2) c)) (HIa : Hid (∀ v w, Sl w v a → Calls Try.prog 53 #[v] w fun e w' => e = .returned (.bool true) ∧ w = w')) (HIb : Hid (∀ v w, Sl w v b → Calls Try.prog 53 #[v] w fun e w' => e = .returned (.bool true) ∧ w = w')) (HIc : Hid (∀ v w, Sl w v c → Calls Try.prog 53 #[v] w fun e w' => e = .returned (.bool true) ∧ w = w')) (hl : ¬ m = n) :
    Calls Try.prog 8 #[.slice A n c0, .slice A' m c1, .slice A'' k c2] w fun e w' => e = .returned (.bool true) ∧ Below w.heap.size w w' := by
  have h1 : ((n : Int) != (m : Int)) = true := by rw [bne_iff_ne]; omega
  have h2 : ((n : Int) == (m : Int)) = false := by rw [beq_eq_false_iff_ne]; omega
  clear hl
  go_enter Try.func8, Try.ntmps8
  go_wp2_with fail
  refine (HIa.out _ _ Ha.out).mono ?_
  rintro e w' ⟨rfl, rfl⟩
  go_wp2_with fail
  refine (HIb.out _ _ Hb.out).mono ?_
  rintro e w' ⟨rfl, rfl⟩
  go_wp2_with fail
  refine (HIc.out _ _ Hc.out).mono ?_
  rintro e w' ⟨rfl, rfl⟩
  go_wp2_with fail
  refine (awake_any _).mono ?_
  rintro e v1 ⟨rfl, hb1⟩
  have HB1 := Lib.hid hb1
  have Ha1 := Lib.hid (Ha.out.later hb1)
  have Hb1 := Lib.hid (Hb.out.later hb1)
  have Hc1 := Lib.hid (Hc.out.later hb1)
  clear hb1 Ha Hb Hc
  go_wp2
  go_ret
  exact ⟨rfl, HB1.out⟩
set_option maxRecDepth 100000 in
set_option maxHeartbeats 2000000 in
theorem ring_nm (A A' A'' : Option Addr) (c0 c1 c2 : Nat) (w : World) (n _m k : Nat) (a b c : List Nat)
    (Ha : Hid (Sl w (.slice A n c0) a)) (Hb : Hid (Sl w (.slice A' n c1) b)) (Hc : Hid (Sl w (.slice A'' k c2) c)) (HIa : Hid (∀ v w, Sl w v a → Calls Try.prog 53 #[v] w fun e w' => e = .returned (.bool true) ∧ w = w')) (HIb : Hid (∀ v w, Sl w v b → Calls Try.prog 53 #[v] w fun e w' => e = .returned (.bool true) ∧ w = w')) (HIc : Hid (∀ v w, Sl w v c → Calls Try.prog 53 #[v] w fun e w' => e = .returned (.bool true) ∧ w = w')) (hm : ¬ k = n) :
    Calls Try.prog 8 #[.slice A n c0, .slice A' n c1, .slice A'' k c2] w fun e w' => e = .returned (.bool true) ∧ Below w.heap.size w w' := by
  have h1 : ((n : Int) != (k : Int)) = true := by rw [bne_iff_ne]; omega
  have h2 : ((n : Int) == (k : Int)) = false := by rw [beq_eq_false_iff_ne]; omega
  clear hm
  go_enter Try.func8, Try.ntmps8
  go_wp2_with fail
  refine (HIa.out _ _ Ha.out).mono ?_
  rintro e w' ⟨rfl, rfl⟩
  go_wp2_with fail
  refine (HIb.out _ _ Hb.out).mono ?_
  rintro e w' ⟨rfl, rfl⟩
  go_wp2_with fail
  refine (HIc.out _ _ Hc.out).mono ?_
  rintro e w' ⟨rfl, rfl⟩
  go_wp2_with fail
  refine (awake_any _).mono ?_
  rintro e v1 ⟨rfl, hb1⟩
  have HB1 := Lib.hid hb1
  have Ha1 := Lib.hid (Ha.out.later hb1)
  have Hb1 := Lib.hid (Hb.out.later hb1)
  have Hc1 := Lib.hid (Hc.out.later hb1)
  clear hb1 Ha Hb Hc
  go_wp2
  go_ret
  exact ⟨rfl, HB1.out⟩
theorem vecRing_walk (u v x : Value) (a b c : List Nat) (w : World) (hu : Sl w u a) (hv : Sl w v b) (hx : Sl w x c) :
    Calls Try.prog 8 #[u, v, x] w fun e w' => e = .returned (.bool true) ∧ Below w.heap.size w w' := by
  have hu0 := hu
  have hv0 := hv
  have hx0 := hx
  obtain ⟨A, c0, rfl, hn, _⟩ := hu0
  obtain ⟨A', c1, rfl, _, _⟩ := hv0
  obtain ⟨A'', c2, rfl, _, _⟩ := hx0
  cases va : isV a
  · exact ring_na A A' A'' c0 c1 c2 w _ _ _ a b c hu hv hx (isF va)
  cases vb : isV b
  · exact ring_nb A A' A'' c0 c1 c2 w _ _ _ a b c hu hv hx (isF va) (isF vb)
  cases vc : isV c
  · exact ring_nc A A' A'' c0 c1 c2 w _ _ _ a b c hu hv hx (isF va) (isF vb) (isF vc)
  by_cases hl : b.length = a.length
  · by_cases hm : c.length = a.length
    · have tb := two_of va vb hl
      have tc := two_of va vc hm
      have tbc := two_snd tb tc
      obtain ⟨_, _, h64⟩ := isV_bits va
      rw [hl] at hv ⊢
      rw [hm] at hx ⊢
      refine ring_at A A' A'' a.length c0 c1 c2 w a b c (calV addO a b) (calV mulO a b) (calV addO (calV addO a b) c) (calV addO b c) (calV mulO (calV mulO a b) c) (calV mulO b c) (calV mulO a (calV addO b c)) (calV mulO a c)
        (calV addO (calV mulO a b) (calV mulO a c)) (calV subO (calV addO a b) b) (knV a) (knV b) (knV c) hn hu hv hx (isF va) (isF vb) (isF vc) (fun v w h => sure_any v a w h) (fun v w h => sure_any v b w h) (fun v w h => sure_any v c w h)
        (addF tb rfl) (addF (two_comm tb) (cal_comm (two_comm tb) addO_comm)) (mulF tb rfl) (mulF (two_comm tb) (cal_comm (two_comm tb) mulO_comm))
        (addF (two_cal tb tc) rfl) (addF tbc rfl) (addF (cal_two tb tc) (cal_turn tb tc (addO_turn h64)).symm) (mulF (two_cal tb tc) rfl) (mulF tbc rfl) (mulF (cal_two tb tc) (cal_turn tb tc (mulO_turn h64)).symm)
        (mulF (cal_two tb tc) rfl) (mulF tc rfl) (addF (two_of (cal_isV tb) (cal_isV tc) (by rw [cal_len tb, cal_len tc])) rfl) (subF (two_cal tb tb) rfl) ?_
      rw [knV_of va, knV_of vb, knV_of vc]
      intro hk
      rw [Bool.and_eq_true, Bool.and_eq_true] at hk
      exact ⟨cal_over tb tc hk.1.1 hk.1.2 hk.2, cal_away tb hk.1.1 hk.1.2⟩
    · rw [hl] at hv ⊢
      exact ring_nm A A' A'' c0 c1 c2 w a.length 0 c.length a b c hu hv hx (isF va) (isF vb) (isF vc) hm
  · exact ring_nl A A' A'' c0 c1 c2 w _ _ _ a b c hu hv hx (isF va) (isF vb) (isF vc) hl

set_option maxRecDepth 100000 in
theorem vecRing_lifted (os : Os) (started : os.Started) (H : Type) (enc : TypeId × Value → H) :
    ReturnsInHanded {} Try.checked os 8 .any (Rows.vecRingSpec.pre6 enc Try.prog Try.f8 [] false) (Rows.vecRingSpec.post enc Try.prog Try.f8 false true false false) := by
  refine returnsInHanded_of_change_sized (C := Try.checked) own started (by kernel_rfl) Try.func8
    (ChangeSpec.witness6 (enc := enc) (C := Try.checked) false ⟨#[], #[.slice none 0 0, .slice none 0 0, .slice none 0 0], []⟩ 8 (by kernel_rfl) (by kernel_rfl) (by kernel_rfl) (by kernel_rfl)) ?_
  intro W base args ds gs before hval0 hW _ hsz0 _
  have hval : ∀ (j : Nat) t v, Try.f8.params[j]? = some t → args[j]? = some v → Value.okWide Try.prog W .any base t v := hval0
  have hsz : (DataW.weightsEach Try.prog (Try.f8.params.toList ++ Rows.vecRingSpec.plain.varTypes Try.prog) (ds ++ gs)).all (· ≤ reachBytes) = true := hsz0
  have hW' := hW
  obtain ⟨p, q, hA0, hV, rfl, hfz, hnd⟩ := hW
  have hA1 := hA0
  have hA : DataW.TrodAll enc Try.prog W 0 (fun _ => true) true Try.f8.params.toList args.toList ds p := hA0
  rw [Try.params8] at hA hval hsz
  obtain ⟨v0, v1, v2, d0, d1, d2, p0, p1, p2, rfl, rfl, rfl, h0, h1, h2⟩ := trodAll_three hA
  obtain ⟨rfl, rfl⟩ := trodVars_none hV
  obtain ⟨a, ha⟩ := sl_open (hval 0 22 v0 rfl rfl) h0 (fun elems spare hd => sized_slice hsz (j := 0) rfl (by rw [hd]; rfl) Try.underlying22)
  obtain ⟨b, hb⟩ := sl_open (hval 1 22 v1 rfl rfl) h1 (fun elems spare hd => sized_slice hsz (j := 1) rfl (by rw [hd]; rfl) Try.underlying22)
  obtain ⟨c, hc⟩ := sl_open (hval 2 22 v2 rfl rfl) h2 (fun elems spare hd => sized_slice hsz (j := 2) rfl (by rw [hd]; rfl) Try.underlying22)

  clear hval0 hsz0
  simp only [List.append_nil] at hW' hA1
  refine (vecRing_walk v0 v1 v2 a b c W ha hb hc).mono fun e W' ⟨he, hb⟩ => ?_
  subst he
  exact ⟨_, rfl, law_post (by rw [Try.params8]; exact types_ok [22, 22, 22] (by kernel_rfl)) (by kernel_rfl) rfl rfl hA1 hW' hb⟩

theorem vecRing_holds : Rows.VecRingSaid :=
  OpenClaim.holds_of_wide 8 Try.f8 rfl rfl rfl rfl rfl rfl rfl ⟨rfl, rfl, rfl, rfl, rfl⟩ rfl rfl rfl rfl rfl (by kernel_rfl) Try.func8 (by kernel_rfl)
    (of_decide_eq_true (by kernel_rfl)) (by unfold Func.isWrapper; first | (rw [if_pos (by decide +kernel)]; kernel_rfl) | (rw [if_neg (by decide +kernel)]; exact ⟨rfl, rfl⟩))
    (fun os started H enc _ => vecRing_lifted os started H enc)
#print axioms vecRing_holds
end Go.Proofs.Ytkapephlfbabjaa
