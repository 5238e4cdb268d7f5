/- The contract of the reference's Parse, types that are no arrays. -/
import Derived.Test.YtdiagnhdigakpaaGreatDoorRa
import Derived.Test.YtdiagnhdigakpaaGreatDoorRb
import Derived.Test.YtdiagnhdigakpaaGreatDoorKj
import Derived.Test.YtdiagnhdigakpaaGreatDoorZr
import Derived.Deep.DeepCutAuto
import Derived.Deep.CutBlock
namespace Go.Proofs.YtdiagnhdigakpaaGreatDoor
open Go.RowKit

/-- What the reference's Parse returns: in blocks of the call's own. -/
def ParsePostP (a : Bool) (t : Ty) (s : List UInt8) (w : World) (e : Ending) (w' : World) : Prop :=
  ∃ (v : Va) (E : Nat) (A : Option Addr) (n c : Nat) (B : Option Addr) (m d : Nat), e = .returned (.tuple #[.agg #[.int .i64 v.kind, .int .i64 v.n, .slice A n c, .slice B m d], .int .i64 (E : Nat)]) ∧ VaP (fun b => w.heap.size ≤ b) w' v [.int .i64 v.kind, .int .i64 v.n, .slice A n c, .slice B m d] ∧ ParsedAs a t s v E ∧ Below w.heap.size w w'
/-- What stands behind the switch: in the box p the only value that could be meant. -/
def ParMid (w : World) (p : Nat) (t : Ty) (s : List UInt8) (tcs : Array Value) (wx : World) : Prop :=
  ∃ (v : Va) (A : Option Addr) (n c : Nat) (B : Option Addr) (m d : Nat), Blk wx p 38 #[.int .i64 v.kind, .int .i64 v.n, .slice A n c, .slice B m d] ∧ VaP (fun b => p < b) wx v [.int .i64 v.kind, .int .i64 v.n, .slice A n c, .slice B m d] ∧ Blk wx w.heap.size 26 tcs ∧ Blk wx (w.heap.size + 1) 38 #[.int .i64 0, .int .i64 0, .slice none 0 0, .slice none 0 0] ∧ Below w.heap.size w wx ∧ ∀ x, hasV t x = true → textV t x = s → v = x
theorem none_p (S : Nat → Prop) (w : World) (k n : Int) : VaP S w (.mk k n [] []) [.int .i64 k, .int .i64 n, .slice none 0 0, .slice none 0 0] := vaP_iff.2 ⟨_, _, rfl, bitP_nil w, vasP_nil w⟩
section
variable {w wx : World} {p : Nat} {t : Ty} {s : List UInt8} {tcs : Array Value} {k : Int}
theorem parMid_none {n : Int} (hV : Blk wx p 38 #[.int .i64 k, .int .i64 n, .slice none 0 0, .slice none 0 0]) (hT : Blk wx w.heap.size 26 tcs) (hK : Blk wx (w.heap.size + 1) 38 #[.int .i64 0, .int .i64 0, .slice none 0 0, .slice none 0 0]) (hB : Below w.heap.size w wx)
    (hu : ∀ x, hasV t x = true → textV t x = s → .mk k n [] [] = x) : ParMid w p t s tcs wx :=
  ⟨.mk k n [] [], none, 0, 0, none, 0, 0, hV, none_p _ _ _ _, hT, hK, hB, hu⟩
theorem parMid_num {n n0 : Int} (hp : w.heap.size + 1 < p) (hV : Blk wx p 38 #[.int .i64 k, .int .i64 n0, .slice none 0 0, .slice none 0 0]) (hT : Blk wx w.heap.size 26 tcs) (hK : Blk wx (w.heap.size + 1) 38 #[.int .i64 0, .int .i64 0, .slice none 0 0, .slice none 0 0]) (hB : Below w.heap.size w wx)
    (hu : ∀ x, hasV t x = true → textV t x = s → .mk k n [] [] = x) : ParMid w p t s tcs (wx.setCell ⟨p, 1, none⟩ (.int .i64 n)) :=
  ⟨.mk k n [] [], none, 0, 0, none, 0, 0, hV.set 1 _, none_p _ _ _ _, hT.other (show p ≠ w.heap.size by omega) _, hK.other (show p ≠ w.heap.size + 1 by omega) _, hB.setCell (p := ⟨p, 1, none⟩) (show w.heap.size ≤ p by omega) _, hu⟩
theorem parMid_bits {bs : List Nat} {A : Option Addr} {c base : Nat} (hp : w.heap.size + 1 < p) (hV : Blk wx p 38 #[.int .i64 k, .int .i64 0, .slice none 0 0, .slice none 0 0]) (hT : Blk wx w.heap.size 26 tcs) (hK : Blk wx (w.heap.size + 1) 38 #[.int .i64 0, .int .i64 0, .slice none 0 0, .slice none 0 0]) (hB : Below w.heap.size w wx)
    (ho : Lg.Own wx base (.slice A bs.length c) bs) (hb : p < base) (hu : ∀ x, hasV t x = true → textV t x = s → .mk k 0 bs [] = x) : ParMid w p t s tcs (wx.setCell ⟨p, 2, none⟩ (.slice A bs.length c)) :=
  ⟨.mk k 0 bs [], A, bs.length, c, none, 0, 0, hV.set 2 _, VaP.set (S := fun b => p < b) (a := ⟨p, 2, none⟩) (vaP_iff.2 ⟨_, _, rfl, own_bitP ho (fun b h _ => by omega), vasP_nil _⟩) (fun b (h : p < b) => show b ≠ p by omega) _, hT.other (show p ≠ w.heap.size by omega) _, hK.other (show p ≠ w.heap.size + 1 by omega) _, hB.setCell (p := ⟨p, 2, none⟩) (show w.heap.size ≤ p by omega) _, hu⟩
end
theorem uq_bit {s : List UInt8} : ∀ x, hasV (.mk 1 0 noName [] []) x = true → textV (.mk 1 0 noName [] []) x = s → Va.mk 1 0 (Lg.parV ((s.drop 1).take 1)) [] = x := by
  intro x hx he
  cases hasF_of (f := isNameL) (.sc 1 (by omega)) hx with
  | bit _ _ _ _ b hb =>
  rw [textV_bit] at he
  have : (s.drop 1).take 1 = lettersL [b] := by rw [← he]; simp [lettersL]
  rw [this, par_letters (by simp) (by simp) (by simpa using hb)]
theorem uq_bit_no {s : List UInt8} {v : Va} (h : s.length ≠ 3) : ∀ x, hasV (.mk 1 0 noName [] []) x = true → textV (.mk 1 0 noName [] []) x = s → v = x := by
  intro x hx he
  cases hasF_of (f := isNameL) (.sc 1 (by omega)) hx with
  | bit _ _ _ _ b hb =>
  rw [textV_bit] at he
  exact absurd (by rw [← he]; simp [lettersL]) h
theorem uq_vec {l : Nat} (h1 : 1 ≤ l) (h2 : l ≤ 64) {s : List UInt8} : ∀ x, hasV (.mk 4 l noName [] []) x = true → textV (.mk 4 l noName [] []) x = s → Va.mk 4 0 (Lg.parV ((s.drop 2).take l)) [] = x := by
  intro x hx he
  cases hasF_of (f := isNameL) (.vec l h1 h2) hx with
  | vec _ _ _ _ bs hl hb =>
  rw [textV_vec] at he
  have hl : bs.length = l := by omega
  have : (s.drop 2).take l = lettersL bs := by
    rw [← he, List.drop_succ_cons, List.drop_succ_cons, List.drop_zero, List.take_append_of_le_length (by simp [lettersL, hl]), List.take_of_length_le (by simp [lettersL, hl])]
  rw [this, par_letters (by omega) (by omega) hb]
theorem uq_vec_no {l : Nat} (h1 : 1 ≤ l) (h2 : l ≤ 64) {s : List UInt8} {v : Va} (h : s.length ≠ l + 3) : ∀ x, hasV (.mk 4 l noName [] []) x = true → textV (.mk 4 l noName [] []) x = s → v = x := by
  intro x hx he
  cases hasF_of (f := isNameL) (.vec l h1 h2) hx with
  | vec _ _ _ _ bs hl hb =>
  rw [textV_vec] at he
  exact absurd (by rw [← he]; simp [lettersL]; omega) h
theorem uq_boolT {s : List UInt8} (h : s = [116, 114, 117, 101]) : ∀ x, hasV (.mk 2 0 noName [] []) x = true → textV (.mk 2 0 noName [] []) x = s → Va.mk 2 1 [] [] = x := by
  intro x hx he
  cases hasF_of (f := isNameL) (.sc 2 (by omega)) hx with
  | bool _ _ _ _ b hb =>
  rw [textV_bool] at he
  rcases hb with rfl | rfl
  · exact absurd (show falseL = [116, 114, 117, 101] from he.trans h) (by decide)
  · rfl
theorem uq_boolF {s : List UInt8} (h : s ≠ [116, 114, 117, 101]) : ∀ x, hasV (.mk 2 0 noName [] []) x = true → textV (.mk 2 0 noName [] []) x = s → Va.mk 2 0 [] [] = x := by
  intro x hx he
  cases hasF_of (f := isNameL) (.sc 2 (by omega)) hx with
  | bool _ _ _ _ b hb =>
  rw [textV_bool] at he
  rcases hb with rfl | rfl
  · rfl
  · exact absurd (show s = [116, 114, 117, 101] from he.symm) h
theorem uq_int {s : List UInt8} {n : Int} (h : NumOf s n) : ∀ x, hasV (.mk 3 0 noName [] []) x = true → textV (.mk 3 0 noName [] []) x = s → Va.mk 3 n [] [] = x := by
  intro x hx he
  cases hasF_of (f := isNameL) (.sc 3 (by omega)) hx with
  | int _ _ _ _ b h1 h2 =>
  rw [textV_int] at he
  rw [h b h1 h2 he]
theorem uq_enum {nm : ByteArray} {ns : List ByteArray} (hp : pathB nm = true) (hn : namesOk isNameL ns = true) {s : ByteArray} {n : Int} (h : ∀ (i : Nat) (hi : i < ns.length), ns[i] = s → n = i) : ∀ x, hasV (.mk 5 0 nm ns []) x = true → textV (.mk 5 0 nm ns []) x = bl s → Va.mk 5 n [] [] = x := by
  intro x hx he
  cases hasF_of (.en nm ns hp hn) hx with
  | en _ _ _ _ i hi =>
  rw [textV_enum, Int.toNat_natCast, List.getD_eq_getElem?_getD, List.getElem?_eq_getElem hi] at he
  rw [h i hi (bl_inj he)]
set_option maxRecDepth 100000 in
set_option maxHeartbeats 16000000 in
theorem rpar_bad (k l : Int) (nm : ByteArray) (v3 v4 : Value) (t : Ty) (s : ByteArray) (w : World)
    (HA : Hid (∀ u, Below w.heap.size w u → Calls Tryz.prog 17 #[.agg #[.int .i64 k, .int .i64 l, .string nm, v3, v4]] u fun e w' => e = .returned (.bool false) ∧ Below u.heap.size u w')) :
    Calls Tryz.prog 43 #[.agg #[.int .i64 k, .int .i64 l, .string nm, v3, v4], .string s] w (ParsePostP false t (bl s) w) := by
  have H2 := Lib.hid (boxes2 w 26 38 #[.int .i64 k, .int .i64 l, .string nm, v3, v4] #[.int .i64 0, .int .i64 0, .slice none 0 0, .slice none 0 0])
  have H0 := Lib.hid H2.out.2.2.1
  have hs4 : w.heap.size ≤ w.heap.size + 1 := by omega
  go_enter Tryz.func43, Tryz.ntmps43
  go_wp2_with fail
  refine (HA.out _ H0.out).mono ?_
  rintro e w1 ⟨rfl, hb1⟩
  have H1 := Lib.hid (below_then H0.out hb1)
  have K1 := Lib.hid (H2.out.2.1.later hb1)
  obtain ⟨c0, c1, c2, c3⟩ := four K1.out
  have f0 := K1.out.free 0
  have f1 := K1.out.free 1
  have f2 := K1.out.free 2
  have f3 := K1.out.free 3
  clear hb1
  go_wp2
  refine bodyPost_ret (by simp [results, Tryz.results43, go_sem, c0, c1, c2, c3]; try rfl) rfl ?_
  exact ⟨zeroV, 2, none, 0, 0, none, 0, 0, rfl, none_p _ _ _ _, .inl ⟨rfl, rfl, rfl⟩, set4_below H1.out hs4 _ _ _ _⟩
set_option maxRecDepth 100000 in
set_option maxHeartbeats 16000000 in
theorem rpar_flat (k l : Int) (nm : ByteArray) (ns : List ByteArray) (ht : Flat isNameL (.mk k l nm ns [])) (TA TB : Option Addr) (tn tc tm td : Nat) (s : ByteArray) (hsz : s.size ≤ 20000) (w : World) (hs : StrS w (.slice TA tn tc) ns)
    (HA : Hid (∀ u, Below w.heap.size w u → Calls Tryz.prog 17 #[.agg #[.int .i64 k, .int .i64 l, .string nm, .slice TA tn tc, .slice TB tm td]] u fun e w' => e = .returned (.bool true) ∧ Below u.heap.size u w'))
    (HF : Hid (∀ u v cs, Below w.heap.size w u → VaC u v cs → Calls Tryz.prog 31 #[.agg #[.int .i64 k, .int .i64 l, .string nm, .slice TA tn tc, .slice TB tm td], .agg cs.toArray] u fun e w' => e = .returned (.bool (hasV (.mk k l nm ns []) v)) ∧ Below u.heap.size u w'))
    (HW : Hid (∀ u v cs, Below w.heap.size w u → hasV (.mk k l nm ns []) v = true → VaC u v cs → Calls Tryz.prog 79 #[.agg #[.int .i64 k, .int .i64 l, .string nm, .slice TA tn tc, .slice TB tm td], .agg cs.toArray] u (WriPost (textV (.mk k l nm ns []) v) u))) :
    Calls Tryz.prog 43 #[.agg #[.int .i64 k, .int .i64 l, .string nm, .slice TA tn tc, .slice TB tm td], .string s] w (ParsePostP true (.mk k l nm ns []) (bl s) w) := by
  have H2 := Lib.hid (boxes2 w 26 38 #[.int .i64 k, .int .i64 l, .string nm, .slice TA tn tc, .slice TB tm td] #[.int .i64 0, .int .i64 0, .slice none 0 0, .slice none 0 0])
  have H0 := Lib.hid H2.out.2.2.1
  have hs4 : w.heap.size ≤ w.heap.size + 1 := by omega
  go_enter Tryz.func43, Tryz.ntmps43
  go_wp2_with fail
  refine (HA.out _ H0.out).mono ?_
  rintro e w1 ⟨rfl, hb1⟩
  have H1 := Lib.hid (below_then H0.out hb1)
  have K1 := Lib.hid (H2.out.2.1.later hb1)
  have T1 := Lib.hid (H2.out.1.later hb1)
  have hp1 := K1.out.lt
  have HZ := Lib.hid (below_alloc w1 (.cells #[.int .i64 k, .int .i64 0, .slice none 0 0, .slice none 0 0] 38))
  obtain ⟨p0, p1, p2, p3, p4⟩ := fives T1.out
  have T2 := Lib.hid (T1.out.later HZ.out)
  have K2 := Lib.hid (K1.out.later HZ.out)
  have B2 := Lib.hid (below_then H1.out HZ.out)
  have V2 := Lib.hid (Blk.new w1 38 #[.int .i64 k, .int .i64 0, .slice none 0 0, .slice none 0 0])
  have hz2 := World.size_alloc w1 (.cells #[.int .i64 k, .int .i64 0, .slice none 0 0, .slice none 0 0] 38)
  clear hb1 H2 H0 H1 K1 T1 HA HZ
  obtain ⟨r0, r1, r2, r3, r4⟩ := fives T2.out
  go_upto_block 0 with fail
  clear p0 p1 p2 p3 p4 r0 r1 r2 r3 r4
  generalize w1.alloc (.cells #[.int .i64 k, .int .i64 0, .slice none 0 0, .slice none 0 0] 38) = W at *
  generalize w1.heap.size = p at *
  go_cut [7, 8, 10, 11, 12] (fun s7 s8 s10 s11 s12 wx => ParMid w p (.mk k l nm ns []) (bl s) #[.int .i64 k, .int .i64 l, .string nm, .slice TA tn tc, .slice TB tm td] wx)
  case first =>
    clear HF HW
    obtain ⟨t0, t1, t2, t3, t4⟩ := fives T2.out
    obtain ⟨v0, v1, v2, v3⟩ := four V2.out
    cases ht with
    | sc k hk =>
      rcases hk with rfl | rfl | rfl
      · by_cases h3 : s.size = 3
        · have d3 : ((s.size : Int) == 3) = true := by rw [beq_iff_eq]; omega
          have s1 : (2 : Int) ≤ (s.size : Int) := by omega
          have HP := Lib.hid (fun (u : World) => Lg.refParse_own (s.extract 1 2) u)
          have hbs : bl (s.extract 1 2) = ((bl s).drop 1).take 1 := by rw [bl_extract]
          rw [show (s.extract 1 2).data.toList = ((bl s).drop 1).take 1 from hbs] at HP
          have HU := Lib.hid (uq_bit (s := bl s))
          generalize Lg.parV (((bl s).drop 1).take 1) = bs at HP HU
          clear hbs h3
          go_wp2_with fail
          refine (HP.out _).mono ?_
          rintro e w3 ⟨u, rfl, ho, hb⟩
          obtain ⟨A, c, rfl, -⟩ := ho.sl
          have HO := Lib.hid ho
          have T3 := Lib.hid (T2.out.later hb)
          have K3 := Lib.hid (K2.out.later hb)
          have V3 := Lib.hid (V2.out.later hb)
          have B3 := Lib.hid (below_then B2.out hb)
          clear t0 t1 t2 t3 t4 v0 v1 v2 v3 ho hb
          obtain ⟨v0, v1, v2, v3⟩ := four V3.out
          have f2 := V3.out.free 2
          go_wp2
          go_meet
          exact parMid_bits (by omega) V3.out T3.out K3.out B3.out HO.out (by omega) HU.out
        · have d3 : ((s.size : Int) == 3) = false := by rw [beq_eq_false_iff_ne]; omega
          have HU := Lib.hid (uq_bit_no (s := bl s) (v := .mk 1 0 [] []) (by rw [bl_len]; exact h3))
          clear h3
          go_wp2
          go_meet
          exact parMid_none V2.out T2.out K2.out B2.out HU.out
      · by_cases h3 : bl s = [116, 114, 117, 101]
        · have d3 : (s.toList == [116, 114, 117, 101]) = true := by rw [bl_toList, h3]; rfl
          have HU := Lib.hid (uq_boolT h3)
          have f1 := V2.out.free 1
          clear h3
          go_wp2
          go_meet
          exact parMid_num (by omega) V2.out T2.out K2.out B2.out HU.out
        · have d3 : (s.toList == [116, 114, 117, 101]) = false := by rw [bl_toList, beq_eq_false_iff_ne]; exact h3
          have HU := Lib.hid (uq_boolF h3)
          clear h3
          go_wp2
          go_meet
          exact parMid_none V2.out T2.out K2.out B2.out HU.out
      · have HP := Lib.hid (fun (u : World) => rnum_any s (by omega) u)
        go_wp2_with fail
        refine (HP.out _).mono ?_
        rintro e w3 ⟨n, rfl, hn, hb⟩
        have HU := Lib.hid (uq_int hn)
        have T3 := Lib.hid (T2.out.later hb)
        have K3 := Lib.hid (K2.out.later hb)
        have V3 := Lib.hid (V2.out.later hb)
        have B3 := Lib.hid (below_then B2.out hb)
        clear t0 t1 t2 t3 t4 v0 v1 v2 v3 hn hb
        obtain ⟨v0, v1, v2, v3⟩ := four V3.out
        have f1 := V3.out.free 1
        go_wp2
        go_meet
        exact parMid_num (by omega) V3.out T3.out K3.out B3.out HU.out
    | vec l h1 h2 =>
      obtain ⟨m, hm⟩ : ∃ m, m = l + 3 := ⟨_, rfl⟩
      have hl3 : (l : Int) + 3 = (m : Int) := by omega
      by_cases h3 : s.size = m
      · have d3 : ((s.size : Int) == (m : Int)) = true := by rw [beq_iff_eq]; omega
        obtain ⟨q, hq⟩ : ∃ q, q = s.size - 1 := ⟨_, rfl⟩
        have hq1 : (s.size : Int) - 1 = (q : Int) := by omega
        have hq2 : (2 : Int) ≤ (q : Int) := by omega
        have hq3 : (q : Int) ≤ (s.size : Int) := by omega
        have HP := Lib.hid (fun (u : World) => Lg.refParse_own (s.extract 2 q) u)
        have hbs : bl (s.extract 2 q) = ((bl s).drop 2).take l := by rw [bl_extract]; congr 1; omega
        rw [show (s.extract 2 q).data.toList = ((bl s).drop 2).take l from hbs] at HP
        have HU := Lib.hid (uq_vec h1 h2 (s := bl s))
        generalize Lg.parV (((bl s).drop 2).take l) = bs at HP HU
        clear hbs h3 hq hm
        go_wp2_with fail
        refine (HP.out _).mono ?_
        rintro e w3 ⟨u, rfl, ho, hb⟩
        obtain ⟨A, c, rfl, -⟩ := ho.sl
        have HO := Lib.hid ho
        have T3 := Lib.hid (T2.out.later hb)
        have K3 := Lib.hid (K2.out.later hb)
        have V3 := Lib.hid (V2.out.later hb)
        have B3 := Lib.hid (below_then B2.out hb)
        clear t0 t1 t2 t3 t4 v0 v1 v2 v3 ho hb
        obtain ⟨v0, v1, v2, v3⟩ := four V3.out
        have f2 := V3.out.free 2
        go_wp2
        go_meet
        exact parMid_bits (by omega) V3.out T3.out K3.out B3.out HO.out (by omega) HU.out
      · have d3 : ((s.size : Int) == (m : Int)) = false := by rw [beq_eq_false_iff_ne]; omega
        have HU := Lib.hid (uq_vec_no h1 h2 (s := bl s) (v := .mk 4 0 [] []) (by rw [bl_len]; omega))
        clear h3 hm
        go_wp2
        go_meet
        exact parMid_none V2.out T2.out K2.out B2.out HU.out
    | en nm ns hp hn =>
      have HU := Lib.hid (fun (n : Int) => uq_enum hp hn (s := s) (n := n))
      obtain ⟨A', c', e', hc1, hc2, hc⟩ := hs
      injection e' with e1 e2 e3
      subst e1
      subst e2
      subst e3
      have hnd := (names_at hn).2.2
      have HND := Lib.hid hnd
      have hn1 := (names_at hn).1
      rcases hc with hc | ⟨b, off, rfl, hc⟩
      · subst hc
        simp at hn1
      have HC := Lib.hid hc
      clear hc hnd hp hn
      go_wp2_with fail
      clear t0 t1 t2 t3 t4 v0 v1 v2 v3
      go_loopw [67] (fun i wr => ∃ (j : Nat) (n : Int), j ≤ ns.length ∧ i = .int .i64 j ∧ Hid (∀ (i : Nat) (hi : i < ns.length), i < j → ns[i] = s → n = i) ∧ Hid (Blk wr p 38 #[.int .i64 5, .int .i64 n, .slice none 0 0, .slice none 0 0]) ∧ Hid (Blk wr w.heap.size 26 #[.int .i64 5, .int .i64 0, .string nm, .slice (some ⟨b, off, none⟩) ns.length tc, .slice TB tm td]) ∧ Hid (Blk wr (w.heap.size + 1) 38 #[.int .i64 0, .int .i64 0, .slice none 0 0, .slice none 0 0]) ∧ Hid (Below w.heap.size w wr)) (fun i _ => ns.length - (intOf i).toNat)
      case atStart => exact ⟨0, 0, Nat.zero_le _, rfl, fun i _ h => absurd h (Nat.not_lt_zero _), V2, T2, K2, B2⟩
      case round =>
        obtain ⟨j, n, hj, rfl, HJ, NV, NT, NK, NB⟩ := hrel
        clear V2 T2 K2 B2
        by_cases hlt : j < ns.length
        · have g := cell_stays NB.out (HC.out j hlt)
          have dk : decide ((j : Int) < (ns.length : Int)) = true := by rw [decide_eq_true_eq]; omega
          have dk2 : decide (j < ns.length) = true := by rw [decide_eq_true_eq]; omega
          have hki : (j : Int) < (ns.length : Int) := by omega
          have hk0 : (0 : Int) ≤ (j : Int) := by omega
          obtain ⟨x, hx⟩ : ∃ x, x = ns[j] := ⟨_, rfl⟩
          rw [← hx] at g
          have HXs := Lib.hid hx
          obtain ⟨v0, v1, v2, v3⟩ := four NV.out
          by_cases he : x = s
          · have d1 : (x.toList == s.toList) = true := by rw [he]; exact beq_self_eq_true _
            have HJ2 : Hid (∀ (i : Nat) (hi : i < ns.length), i < j + 1 → ns[i] = s → (j : Int) = i) := fun i hi _ h => by
              have := nodup_inj HND.out hi hlt (h.trans (he.symm.trans hx))
              rw [this]
            have f1 := NV.out.free 1
            have NV2 := Lib.hid (NV.out.set 1 (.int .i64 (j : Int)))
            have NT2 := Lib.hid (NT.out.other (a := ⟨p, 1, none⟩) (show p ≠ w.heap.size by omega) (.int .i64 (j : Int)))
            have NK2 := Lib.hid (NK.out.other (a := ⟨p, 1, none⟩) (show p ≠ w.heap.size + 1 by omega) (.int .i64 (j : Int)))
            have NB2 := Lib.hid (NB.out.setCell (p := ⟨p, 1, none⟩) (show w.heap.size ≤ p by omega) (.int .i64 (j : Int)))
            clear he hx
            go_wp2
            go_roundw
            case rel => exact ⟨j + 1, _, by omega, by go_num, HJ2, NV2, NT2, NK2, NB2⟩
            case measure => simp [intOf]; omega
          · have d1 : (x.toList == s.toList) = false := str_ne he
            have HJ2 : Hid (∀ (i : Nat) (hi : i < ns.length), i < j + 1 → ns[i] = s → n = i) := fun i hi h h2 => by
              by_cases hij : i < j
              · exact HJ.out i hi hij h2
              · obtain rfl : i = j := by omega
                exact absurd (hx.trans h2) he
            clear he hx
            go_wp2
            go_roundw
            case rel => exact ⟨j + 1, _, by omega, by go_num, HJ2, NV, NT, NK, NB⟩
            case measure => simp [intOf]; omega
        · have dk : decide ((j : Int) < (ns.length : Int)) = false := by rw [decide_eq_false_iff_not]; omega
          have dk2 : decide (j < ns.length) = false := by rw [decide_eq_false_iff_not]; omega
          have HUn := Lib.hid (HU.out n (fun i hi h => HJ.out i hi (by omega) h))
          go_wp2
          go_meet
          exact parMid_none NV.out NT.out NK.out NB.out HUn.out
  case rest =>
    clear V2 T2 K2 B2
    obtain ⟨v, A, n, c, B, m, d, hV, hP, hT, hK, hB, hU⟩ := hcut
    have V3 := Lib.hid hV
    have VP := Lib.hid hP
    have T3 := Lib.hid hT
    have K3 := Lib.hid hK
    have H3 := Lib.hid hB
    have HU := Lib.hid hU
    have HFv := Lib.hid (HF.out _ v _ H3.out (VaP.toC _ _ VP.out))
    have HWv := Lib.hid (fun (hh : hasV (.mk k l nm ns []) v = true) (u : World) (hbu : Below wc.heap.size wc u) => HW.out u v _ (below_then H3.out hbu) hh (VaP.toC _ _ (VP.out.later hbu)))
    clear hV hP hT hK hB hU HF HW
    obtain ⟨p0, p1, p2, p3, p4⟩ := fives T3.out
    obtain ⟨q0, q1, q2, q3⟩ := four V3.out
    cases hf : hasV (.mk k l nm ns []) v with
    | false =>
      rw [hf] at HFv
      have HNo : Hid (∀ x, hasV (.mk k l nm ns []) x = true → textV (.mk k l nm ns []) x ≠ bl s) := fun x hx he => by
        rw [HU.out x hx he, hx] at hf
        cases hf
      clear hf HU HWv
      go_wp2_with fail
      refine (HFv.out).mono ?_
      rintro e w4 ⟨rfl, hb4⟩
      have H4 := Lib.hid (below_then H3.out hb4)
      have K4 := Lib.hid (K3.out.later hb4)
      obtain ⟨c0, c1, c2, c3⟩ := four K4.out
      have f0 := K4.out.free 0
      have f1 := K4.out.free 1
      have f2 := K4.out.free 2
      have f3 := K4.out.free 3
      clear hb4 p0 p1 p2 p3 p4 q0 q1 q2 q3
      go_wp2
      refine bodyPost_ret (by simp [results, Tryz.results43, go_sem, c0, c1, c2, c3]; try rfl) rfl ?_
      exact ⟨zeroV, 44, none, 0, 0, none, 0, 0, rfl, none_p _ _ _ _, .inr (.inr ⟨rfl, HNo.out, rfl, rfl⟩), set4_below H4.out hs4 _ _ _ _⟩
    | true =>
      rw [hf] at HFv
      have HWw := Lib.hid (HWv.out hf)
      have HV := Lib.hid hf
      unfold WriPost at HWw
      clear hf HWv
      by_cases he : textV (.mk k l nm ns []) v = bl s
      · have HE := Lib.hid he
        rw [he, sb_bl] at HWw
        have heq : (s.toList == s.toList) = true := beq_self_eq_true _
        clear he
        go_wp2_with fail
        refine (HFv.out).mono ?_
        rintro e w4 ⟨rfl, hb4⟩
        have H4 := Lib.hid (below_then H3.out hb4)
        have HB4 := Lib.hid hb4
        have K4 := Lib.hid (K3.out.later hb4)
        have T4 := Lib.hid (T3.out.later hb4)
        have V4 := Lib.hid (V3.out.later hb4)
        clear hb4 p0 p1 p2 p3 p4 q0 q1 q2 q3
        obtain ⟨p0, p1, p2, p3, p4⟩ := fives T4.out
        obtain ⟨q0, q1, q2, q3⟩ := four V4.out
        go_wp2_with fail
        refine (HWw.out _ HB4.out).mono ?_
        rintro e w5 ⟨rfl, hb5⟩
        have H5 := Lib.hid (below_then H4.out hb5)
        have K5 := Lib.hid (K4.out.later hb5)
        have V5 := Lib.hid (V4.out.later hb5)
        have VP5 := Lib.hid ((VP.out.later HB4.out).later hb5)
        clear hb5 p0 p1 p2 p3 p4 q0 q1 q2 q3
        obtain ⟨q0, q1, q2, q3⟩ := four V5.out
        obtain ⟨c0, c1, c2, c3⟩ := four K5.out
        have f0 := K5.out.free 0
        have f1 := K5.out.free 1
        have f2 := K5.out.free 2
        have f3 := K5.out.free 3
        go_wp2
        refine bodyPost_ret (by simp [results, Tryz.results43, go_sem, c0, c1, c2, c3]; try rfl) rfl ?_
        exact ⟨v, 0, A, n, c, B, m, d, rfl, VaP.mono (VP5.out.set4 (fun b (hb : p < b) => by omega) _ _ _ _) (fun b (hb : p < b) _ => by omega), .inr (.inl ⟨rfl, HV.out, HE.out, rfl⟩), set4_below H5.out hs4 _ _ _ _⟩
      · have HNo : Hid (∀ x, hasV (.mk k l nm ns []) x = true → textV (.mk k l nm ns []) x ≠ bl s) := fun x hx h2 => by
          rw [HU.out x hx h2] at he
          exact he h2
        have hne : ((sb (textV (.mk k l nm ns []) v)).toList == s.toList) = false := str_ne (fun h => he (by rw [← h, bl_sb]))
        generalize sb (textV (.mk k l nm ns []) v) = y at HWw hne
        clear he
        go_wp2_with fail
        refine (HFv.out).mono ?_
        rintro e w4 ⟨rfl, hb4⟩
        have H4 := Lib.hid (below_then H3.out hb4)
        have HB4 := Lib.hid hb4
        have K4 := Lib.hid (K3.out.later hb4)
        have T4 := Lib.hid (T3.out.later hb4)
        have V4 := Lib.hid (V3.out.later hb4)
        clear hb4 p0 p1 p2 p3 p4 q0 q1 q2 q3
        obtain ⟨p0, p1, p2, p3, p4⟩ := fives T4.out
        obtain ⟨q0, q1, q2, q3⟩ := four V4.out
        go_wp2_with fail
        refine (HWw.out _ HB4.out).mono ?_
        rintro e w5 ⟨rfl, hb5⟩
        have H5 := Lib.hid (below_then H4.out hb5)
        have K5 := Lib.hid (K4.out.later hb5)
        clear hb5 p0 p1 p2 p3 p4 q0 q1 q2 q3
        obtain ⟨c0, c1, c2, c3⟩ := four K5.out
        have f0 := K5.out.free 0
        have f1 := K5.out.free 1
        have f2 := K5.out.free 2
        have f3 := K5.out.free 3
        go_wp2
        refine bodyPost_ret (by simp [results, Tryz.results43, go_sem, c0, c1, c2, c3]; try rfl) rfl ?_
        exact ⟨zeroV, 44, none, 0, 0, none, 0, 0, rfl, none_p _ _ _ _, .inr (.inr ⟨rfl, HNo.out, rfl, rfl⟩), set4_below H5.out hs4 _ _ _ _⟩
end Go.Proofs.YtdiagnhdigakpaaGreatDoor
