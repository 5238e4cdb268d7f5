/- The contracts of the program's bitValue, scalarType, countScalars. -/
import Derived.Test.YtdiagnhdigakpaaGreatDoorKg
import Derived.Handy
import Derived.IntWalk
namespace Go.Proofs.YtdiagnhdigakpaaGreatDoor
open Go.RowKit

set_option maxRecDepth 100000 in
set_option maxHeartbeats 4000000 in
theorem bitValue_any (b : Nat) (w : World) :
    Calls Tryz.prog 69 #[.int .u8 b] w fun e w' => e = .returned (.agg #[.int .i64 1, .int .i64 0, .slice (some ⟨w.heap.size + 1, 0, none⟩) 1 1, .slice none 0 0]) ∧ Blk w' (w.heap.size + 1) 72 #[.int .u8 b] ∧ Below w.heap.size w w' := by
  have H2 := Lib.hid (boxes2 w 38 72 #[.int .i64 1, .int .i64 0, .slice (some ⟨w.heap.size + 1, 0, none⟩) 1 1, .slice none 0 0] #[.int .u8 b])
  go_enter Tryz.func69, Tryz.ntmps69
  go_wp2
  go_returns
  exact ⟨rfl, H2.out.2.1, H2.out.2.2.1⟩
theorem set5_below {w w1 : World} {g : Nat} (h : Below w.heap.size w w1) (hg : w.heap.size ≤ g) (a b c d e : Value) : Below w.heap.size w (((((w1.setCell ⟨g, 0, none⟩ a).setCell ⟨g, 1, none⟩ b).setCell ⟨g, 2, none⟩ c).setCell ⟨g, 3, none⟩ d).setCell ⟨g, 4, none⟩ e) :=
  ((((h.setCell (p := ⟨_, _, none⟩) hg _).setCell (p := ⟨_, _, none⟩) hg _).setCell (p := ⟨_, _, none⟩) hg _).setCell (p := ⟨_, _, none⟩) hg _).setCell (p := ⟨_, _, none⟩) hg _
theorem set4_below {w w1 : World} {g : Nat} (h : Below w.heap.size w w1) (hg : w.heap.size ≤ g) (a b c d : Value) : Below w.heap.size w ((((w1.setCell ⟨g, 0, none⟩ a).setCell ⟨g, 1, none⟩ b).setCell ⟨g, 2, none⟩ c).setCell ⟨g, 3, none⟩ d) :=
  (((h.setCell (p := ⟨_, _, none⟩) hg _).setCell (p := ⟨_, _, none⟩) hg _).setCell (p := ⟨_, _, none⟩) hg _).setCell (p := ⟨_, _, none⟩) hg _
/-- The type that all scalars of a valid type have. -/
def scalarT : Ty → Ty
  | .mk k _ nm ns es => if k = 4 then bitT else if k = 6 then (match es with | [e] => scalarT e | _ => bitT) else .mk k 0 nm ns []
theorem scalarT_vec (l : Int) (nm : ByteArray) (ns : List ByteArray) (es : List Ty) : scalarT (.mk 4 l nm ns es) = bitT := by
  match es with
  | [] => simp [scalarT]
  | [e] => simp [scalarT]
  | e :: e2 :: r => simp [scalarT]
theorem scalarT_mk (k l : Int) (nm : ByteArray) (ns : List ByteArray) (es : List Ty) (h4 : ¬ k = 4) (h6 : ¬ k = 6) : scalarT (.mk k l nm ns es) = .mk k 0 nm ns [] := by
  match es with
  | [] => simp [scalarT, h4, h6]
  | [e] => simp [scalarT, h4, h6]
  | e :: e2 :: r => simp [scalarT, h4, h6]
theorem scalarT_else {t : Ty} (h4 : ¬ t.kind = 4) (h6 : ¬ t.kind = 6) : scalarT t = .mk t.kind 0 t.name t.names [] := by
  obtain ⟨k, l, nm, ns, es⟩ := t
  exact scalarT_mk k l nm ns es h4 h6
theorem scalarT_four {t : Ty} (h4 : t.kind = 4) : scalarT t = bitT := by
  obtain ⟨k, l, nm, ns, es⟩ := t
  obtain rfl : k = 4 := h4
  exact scalarT_vec l nm ns es
theorem scalarT_arr (l : Int) (nm : ByteArray) (ns : List ByteArray) (e : Ty) : scalarT (.mk 6 l nm ns [e]) = scalarT e := by simp [scalarT]
set_option maxRecDepth 100000 in
set_option maxHeartbeats 4000000 in
theorem scalar_vec (l : Int) (nm : ByteArray) (v3 v4 : Value) (w : World) :
    Calls Tryz.prog 66 #[.agg #[.int .i64 4, .int .i64 l, .string nm, v3, v4]] w fun e w' => e = .returned (.agg #[.int .i64 1, .int .i64 0, .string noName, .slice none 0 0, .slice none 0 0]) ∧ Below w.heap.size w w' := by
  have H2 := Lib.hid (boxes2 w 26 26 #[.int .i64 4, .int .i64 l, .string nm, v3, v4] #[.int .i64 1, .int .i64 0, .string ⟨#[]⟩, .slice none 0 0, .slice none 0 0]).2.2.1
  go_enter Tryz.func66, Tryz.ntmps66
  go_wp2
  go_returns
  exact ⟨rfl, H2.out⟩
set_option maxRecDepth 100000 in
set_option maxHeartbeats 4000000 in
theorem scalar_flat (k l : Int) (h4 : (k == 4) = false) (h6 : (k == 6) = false) (nm : ByteArray) (A : Option Addr) (n c : Nat) (v4 : Value) (w : World) :
    Calls Tryz.prog 66 #[.agg #[.int .i64 k, .int .i64 l, .string nm, .slice A n c, v4]] w fun e w' => e = .returned (.agg #[.int .i64 k, .int .i64 0, .string nm, .slice A n c, .slice none 0 0]) ∧ Below w.heap.size w w' := by
  have H2 := Lib.hid (boxes2 w 26 26 #[.int .i64 k, .int .i64 l, .string nm, .slice A n c, v4] #[.int .i64 k, .int .i64 0, .string nm, .slice A n c, .slice none 0 0]).2.2.1
  go_enter Tryz.func66, Tryz.ntmps66
  go_wp2
  go_returns
  exact ⟨rfl, H2.out⟩
set_option maxRecDepth 100000 in
set_option maxHeartbeats 4000000 in
theorem scalar_arr (l : Int) (nm : ByteArray) (v3 : Value) (b off d : Nat) (k1 l1 : Int) (nm1 : ByteArray) (A1 A2 A3 A4 : Option Addr) (n1 c1 n2 c2 n3 c3 n4 c4 : Nat) (k2 l2 : Int) (nm2 : ByteArray) (w : World)
    (h5 : Hid (Ty5 w b off k1 l1 nm1 (.slice A1 n1 c1) (.slice A2 n2 c2)))
    (HX : Hid (∀ u, Below w.heap.size w u → Calls Tryz.prog 66 #[.agg #[.int .i64 k1, .int .i64 l1, .string nm1, .slice A1 n1 c1, .slice A2 n2 c2]] u fun e w' => e = .returned (.agg #[.int .i64 k2, .int .i64 l2, .string nm2, .slice A3 n3 c3, .slice A4 n4 c4]) ∧ Below u.heap.size u w')) :
    Calls Tryz.prog 66 #[.agg #[.int .i64 6, .int .i64 l, .string nm, v3, .slice (some ⟨b, off, none⟩) 1 d]] w fun e w' => e = .returned (.agg #[.int .i64 k2, .int .i64 l2, .string nm2, .slice A3 n3 c3, .slice A4 n4 c4]) ∧ Below w.heap.size w w' := by
  have H2 := Lib.hid (boxes2 w 26 26 #[.int .i64 6, .int .i64 l, .string nm, v3, .slice (some ⟨b, off, none⟩) 1 d] #[.int .i64 0, .int .i64 0, .string ⟨#[]⟩, .slice none 0 0, .slice none 0 0])
  obtain ⟨e0, e1, e2, e3, e4⟩ := h5.out.later H2.out.2.2.1
  go_enter Tryz.func66, Tryz.ntmps66
  go_wp2_with fail
  refine (HX.out _ H2.out.2.2.1).mono ?_
  rintro e w1 ⟨rfl, hb1⟩
  have H1 := Lib.hid (below_then H2.out.2.2.1 hb1)
  obtain ⟨p0, p1, p2, p3, p4⟩ := fives (H2.out.2.1.later hb1)
  have kf := H2.out.2.1.later hb1
  have f0 := kf.free 0
  have f1 := kf.free 1
  have f2 := kf.free 2
  have f3 := kf.free 3
  have f4 := kf.free 4
  clear kf hb1 e0 e1 e2 e3 e4
  go_wp2
  refine bodyPost_ret (by simp [results, Tryz.results66, go_sem, p0, p1, p2, p3, p4]; try rfl) rfl ?_
  exact ⟨rfl, set5_below H1.out (by omega) _ _ _ _ _⟩
/-- The type of the scalars, in memory. -/
def ScalarPost (w : World) (t : Ty) (e : Ending) (w' : World) : Prop := ∃ A n c B m d, e = .returned (.agg #[.int .i64 t.kind, .int .i64 t.len, .string t.name, .slice A n c, .slice B m d]) ∧ TyC w' t [.int .i64 t.kind, .int .i64 t.len, .string t.name, .slice A n c, .slice B m d] ∧ Below w.heap.size w w'
theorem pscalar_flat {t : Ty} {cs : List Value} {w : World} (ht : Flat isNameL t) (h : TyC w t cs) :
    Calls Tryz.prog 66 #[.agg cs.toArray] w (ScalarPost w (scalarT t)) := by
  obtain ⟨A, n, c, B, m, d, rfl, hn, _, hs, _⟩ := tyC_open h
  by_cases hk : t.kind = 4
  · obtain ⟨k, l, nm, ns, es⟩ := t
    have hk : k = 4 := hk
    subst hk
    refine (scalar_vec l nm _ _ w).mono ?_
    rintro e w' ⟨rfl, hb⟩
    rw [scalarT_vec]
    refine ⟨none, 0, 0, none, 0, 0, rfl, ?_, hb⟩
    unfold bitT
    rw [TyC]
    exact ⟨_, none, 0, rfl, ⟨none, 0, rfl, by simp, by simp, .inl rfl⟩, by simp, by simp, .inl rfl⟩
  · have h6 := (flat_kind ht).1
    refine (scalar_flat t.kind t.len (by rw [beq_eq_false_iff_ne]; exact hk) (by rw [beq_eq_false_iff_ne]; exact h6) t.name A n c _ w).mono ?_
    rintro e w' ⟨rfl, hb⟩
    rw [scalarT_else hk h6]
    refine ⟨A, n, c, none, 0, 0, rfl, ?_, hb⟩
    show TyC w' (.mk t.kind 0 t.name t.names []) [.int .i64 t.kind, .int .i64 0, .string t.name, .slice A n c, .slice none 0 0]
    rw [TyC]
    exact ⟨_, none, 0, rfl, hs.later hb, by simp, by simp, .inl rfl⟩
theorem pscalar_any {t : Ty} {cs : List Value} {w : World} (ht : Good isNameL t) (h : TyC w t cs) :
    Calls Tryz.prog 66 #[.agg cs.toArray] w (ScalarPost w (scalarT t)) := by
  cases ht with
  | flat t ht => exact pscalar_flat ht h
  | arr l e h1 h2 he =>
    obtain ⟨A, n, c, B, m, d, rfl, hn, rfl, hs, hT⟩ := tyC_open h
    rcases hT with hT | ⟨b, off, rfl, hT⟩
    · cases hT
    obtain ⟨A1, n1, c1, A2, n2, c2, k1, k5⟩ := one_open hT
    rw [scalarT_arr]
    by_cases hk : e.kind = 4
    · rw [scalarT_four hk]
      refine (scalar_arr l noName _ b off d e.kind e.len e.name A1 A2 none none n1 c1 n2 c2 0 0 0 0 1 0 noName w k5 (fun u hu => ?_)).mono ?_
      · have := scalar_vec e.len e.name (.slice A1 n1 c1) (.slice A2 n2 c2) u
        rwa [← hk] at this
      · rintro ee w' ⟨rfl, hb⟩
        refine ⟨none, 0, 0, none, 0, 0, rfl, ?_, hb⟩
        unfold bitT
        rw [TyC]
        exact ⟨_, none, 0, rfl, ⟨none, 0, rfl, by simp, by simp, .inl rfl⟩, by simp, by simp, .inl rfl⟩
    · have h6 := (flat_kind he).1
      rw [scalarT_else hk h6]
      refine (scalar_arr l noName _ b off d e.kind e.len e.name A1 A2 A1 none n1 c1 n2 c2 n1 c1 0 0 e.kind 0 e.name w k5 (fun u _ => scalar_flat e.kind e.len (by rw [beq_eq_false_iff_ne]; exact hk) (by rw [beq_eq_false_iff_ne]; exact h6) e.name A1 n1 c1 _ u)).mono ?_
      rintro ee w' ⟨rfl, hb⟩
      obtain ⟨A5, n5, c5, B5, m5, d5, hcs, _, _, hs5, _⟩ := tyC_open k1
      simp only [List.cons.injEq, and_true, true_and] at hcs
      obtain ⟨hc1, _⟩ := hcs
      refine ⟨A1, n1, c1, none, 0, 0, rfl, ?_, hb⟩
      show TyC w' (.mk e.kind 0 e.name e.names []) [.int .i64 e.kind, .int .i64 0, .string e.name, .slice A1 n1 c1, .slice none 0 0]
      rw [TyC]
      exact ⟨_, none, 0, rfl, (hc1 ▸ hs5).later hb, by simp, by simp, .inl rfl⟩
end Go.Proofs.YtdiagnhdigakpaaGreatDoor
/- Texts of values: none but an array's has a comma; what is written says one value alone; names of types. No program stands here. -/
namespace Go.Proofs.YtdiagnhdigakpaaGreatDoor

theorem join_one (x : List UInt8) : [44].intercalate [x] = x := by simp [List.intercalate]
theorem join_two (x y : List UInt8) (r : List (List UInt8)) : [44].intercalate (x :: y :: r) = x ++ 44 :: [44].intercalate (y :: r) := by simp [List.intercalate]
/-- The pieces between commas. -/
def splitC : List UInt8 → List (List UInt8)
  | [] => [[]]
  | c :: r => if c = 44 then [] :: splitC r else match splitC r with | [] => [[c]] | p :: q => (c :: p) :: q
theorem splitC_end {x : List UInt8} (h : 44 ∉ x) : splitC x = [x] := by
  induction x with
  | nil => rfl
  | cons c r ih =>
    have h1 : c ≠ 44 := fun e => h (by simp [e])
    rw [splitC, if_neg h1, ih (fun hm => h (by simp [hm]))]
theorem splitC_cut {x : List UInt8} (h : 44 ∉ x) (r : List UInt8) : splitC (x ++ 44 :: r) = x :: splitC r := by
  induction x with
  | nil => rw [List.nil_append, splitC, if_pos rfl]
  | cons c y ih =>
    have h1 : c ≠ 44 := fun e => h (by simp [e])
    rw [List.cons_append, splitC, if_neg h1, ih (fun hm => h (by simp [hm]))]
theorem splitC_join : ∀ {xs : List (List UInt8)}, xs ≠ [] → (∀ x ∈ xs, 44 ∉ x) → splitC ([44].intercalate xs) = xs
  | [], h, _ => absurd rfl h
  | [x], _, h => by rw [join_one, splitC_end (h x (by simp))]
  | x :: y :: r, _, h => by
    rw [join_two, splitC_cut (h x (by simp)), splitC_join (by simp) (fun z hz => h z (by simp only [List.mem_cons] at hz ⊢; exact .inr hz))]
theorem splitC_none (l : List UInt8) : splitC l ≠ [] := by
  cases l with
  | nil => simp [splitC]
  | cons c r =>
    rw [splitC]
    split
    · simp
    · split <;> simp
theorem join_split : ∀ l : List UInt8, [44].intercalate (splitC l) = l
  | [] => by simp [splitC]
  | c :: r => by
    have ih := join_split r
    rw [splitC]
    split
    · rename_i h
      have := splitC_none r
      cases hs : splitC r with
      | nil => exact absurd hs this
      | cons p q => rw [join_two, ← hs, ih, h]; rfl
    · cases hs : splitC r with
      | nil => exact absurd hs (splitC_none r)
      | cons p q =>
        rw [hs] at ih
        cases q with
        | nil => rw [join_one] at ih ⊢; rw [ih]
        | cons p2 q2 => rw [join_two] at ih ⊢; rw [List.cons_append, ih]
theorem join_inj {xs ys : List (List UInt8)} (hx : xs ≠ []) (hy : ys ≠ []) (h1 : ∀ x ∈ xs, 44 ∉ x) (h2 : ∀ x ∈ ys, 44 ∉ x) (h : [44].intercalate xs = [44].intercalate ys) : xs = ys := by
  rw [← splitC_join hx h1, h, splitC_join hy h2]
theorem dec_inj {n m : Nat} (h : decL n = decL m) : n = m := by
  rw [← (dec_facts n).2.2, h, (dec_facts m).2.2]
theorem dec_byte {n : Nat} {c : UInt8} (h : c ∈ decL n) : 48 ≤ c.toNat ∧ c.toNat ≤ 57 := by
  have := List.all_eq_true.1 (dec_facts n).2.1 c h
  unfold digB digN at this
  exact of_decide_eq_true this
theorem ito_cases (n : Int) : (∃ m : Nat, n = m ∧ itoL n = decL m) ∨ (∃ m : Nat, 1 ≤ m ∧ n = -(m : Int) ∧ itoL n = 45 :: decL m) := by
  unfold itoL Lib.itoa
  by_cases h : n < 0
  · right
    rw [if_pos h]
    exact ⟨n.natAbs, by omega, by omega, by rw [dec_same]⟩
  · left
    rw [if_neg h]
    exact ⟨n.toNat, by omega, by rw [dec_same]⟩
theorem ito_inj {n m : Int} (h : itoL n = itoL m) : n = m := by
  rcases ito_cases n with ⟨a, rfl, ha⟩ | ⟨a, ha0, rfl, ha⟩ <;> rcases ito_cases m with ⟨b, rfl, hb⟩ | ⟨b, hb0, rfl, hb⟩
  · rw [ha, hb] at h
    rw [dec_inj h]
  · rw [ha, hb] at h
    have : (45 : UInt8) ∈ decL a := by rw [h]; simp
    have h45 := (dec_byte this).1
    exact absurd h45 (by decide)
  · rw [ha, hb] at h
    have : (45 : UInt8) ∈ decL b := by rw [← h]; simp
    have h45 := (dec_byte this).1
    exact absurd h45 (by decide)
  · rw [ha, hb] at h
    rw [dec_inj (List.cons.inj h).2]
theorem ito_byte {n : Int} {c : UInt8} (h : c ∈ itoL n) : c = 45 ∨ (48 ≤ c.toNat ∧ c.toNat ≤ 57) := by
  rcases ito_cases n with ⟨a, rfl, ha⟩ | ⟨a, ha0, rfl, ha⟩
  · rw [ha] at h
    exact .inr (dec_byte h)
  · rw [ha] at h
    rcases List.mem_cons.1 h with h | h
    · exact .inl h
    · exact .inr (dec_byte h)
theorem ltr_byte (b : Nat) : ltr b = 48 ∨ ltr b = 49 ∨ ltr b = 120 ∨ ltr b = 122 := by
  unfold ltr
  split
  · simp
  · split
    · simp
    · split <;> simp
theorem letters_byte {bs : List Nat} {c : UInt8} (h : c ∈ lettersL bs) : c = 48 ∨ c = 49 ∨ c = 120 ∨ c = 122 := by
  unfold lettersL at h
  rw [List.mem_reverse, List.mem_map] at h
  obtain ⟨b, _, rfl⟩ := h
  exact ltr_byte b
theorem letters_inj {bs cs : List Nat} (h1 : ∀ b ∈ bs, b ≤ 3) (h2 : ∀ b ∈ cs, b ≤ 3) (h : lettersL bs = lettersL cs) : bs = cs := by
  unfold lettersL at h
  have h := List.reverse_inj.1 h
  have hb : bs.map (fun b => lc (ltr b)) = cs.map (fun b => lc (ltr b)) := by
    have := congrArg (List.map lc) h
    rw [List.map_map, List.map_map] at this
    exact this
  have e1 : bs.map (fun b => lc (ltr b)) = bs := by
    exact (List.map_congr_left (g := id) (fun b hb => lc_ltr (h1 b hb))).trans (List.map_id _)
  have e2 : cs.map (fun b => lc (ltr b)) = cs := by
    exact (List.map_congr_left (g := id) (fun b hb => lc_ltr (h2 b hb))).trans (List.map_id _)
  rw [e1, e2] at hb
  exact hb
theorem names_at {f : List UInt8 → Bool} {ns : List ByteArray} (h : namesOk f ns = true) : (1 ≤ ns.length ∧ ns.length ≤ 16) ∧ (∀ s ∈ ns, f (bl s) = true) ∧ ns.Nodup := by
  unfold namesOk at h
  simp only [Bool.and_eq_true, decide_eq_true_eq, List.all_eq_true] at h
  exact ⟨⟨h.1, h.2.1⟩, h.2.2.1, h.2.2.2⟩
theorem name_byte {l : List UInt8} (h : isNameL l = true) : ∀ c ∈ l, innB c = true := by
  unfold isNameL at h
  simp only [Bool.and_eq_true, List.all_eq_true] at h
  exact h.2.2.1
theorem flat_comma {t : Ty} {v : Va} (ht : Flat isNameL t) (hv : HasF t v) : (44 : UInt8) ∉ textV t v := by
  cases hv with
  | bit nm ns es l b h =>
    rw [textV_bit]
    intro hc
    simp only [List.mem_cons, List.mem_append, List.not_mem_nil, or_false] at hc
    rcases hc with hc | hc | hc
    · exact absurd hc (by decide)
    · rcases letters_byte hc with h | h | h | h <;> exact absurd h (by decide)
    · exact absurd hc (by decide)
  | bool nm ns es l n h =>
    rcases h with rfl | rfl
    · rw [textV_bool]
      decide
    · rw [textV_bool]
      decide
  | int nm ns es l n h1 h2 =>
    rw [textV_int]
    intro hc
    rcases ito_byte hc with h | h
    · exact absurd h (by decide)
    · exact absurd h.1 (by decide)
  | vec nm ns es l bs hl hb =>
    rw [textV_vec]
    intro hc
    simp only [List.mem_cons, List.mem_append, List.not_mem_nil, or_false] at hc
    rcases hc with hc | hc | hc | hc
    · exact absurd hc (by decide)
    · exact absurd hc (by decide)
    · rcases letters_byte hc with h | h | h | h <;> exact absurd h (by decide)
    · exact absurd hc (by decide)
  | en nm ns es l i h =>
    cases ht with
    | sc k hk => omega
    | en _ _ hp hn =>
      rw [textV_enum, Int.toNat_natCast, List.getD_eq_getElem?_getD, List.getElem?_eq_getElem h]
      intro hc
      have := name_byte ((names_at hn).2.1 _ (List.getElem_mem h)) _ hc
      exact absurd this (by decide)
theorem nodup_inj {α : Type} {l : List α} (h : l.Nodup) {i j : Nat} (hi : i < l.length) (hj : j < l.length) (e : l[i] = l[j]) : i = j := by
  rcases Nat.lt_trichotomy i j with hlt | heq | hgt
  · exact absurd e (List.pairwise_iff_getElem.1 h i j hi hj hlt)
  · exact heq
  · exact absurd e.symm (List.pairwise_iff_getElem.1 h j i hj hi hgt)
theorem flat_text_inj {t : Ty} {v w : Va} (ht : Flat isNameL t) (hv : HasF t v) (hw : HasF t w) (h : textV t v = textV t w) : v = w := by
  cases hv with
  | bit nm ns es l b hb =>
    cases hw with
    | bit _ _ _ _ b' hb' =>
      have h' : 39 :: (lettersL [b] ++ [39]) = 39 :: (lettersL [b'] ++ [39]) := by rwa [textV_bit, textV_bit] at h
      have := letters_inj (by simpa using hb) (by simpa using hb') (List.append_inj_left' (List.cons.inj h').2 rfl)
      rw [this]
  | bool nm ns es l n hn =>
    cases hw with
    | bool _ _ _ _ n' hn' =>
      rcases hn with rfl | rfl <;> rcases hn' with rfl | rfl
      · rfl
      · exact absurd (show falseL = trueL by rwa [textV_bool, textV_bool] at h) (by decide)
      · exact absurd (show trueL = falseL by rwa [textV_bool, textV_bool] at h) (by decide)
      · rfl
  | int nm ns es l n h1 h2 =>
    cases hw with
    | int _ _ _ _ n' h1' h2' =>
      have h' : itoL n = itoL n' := by rwa [textV_int, textV_int] at h
      rw [ito_inj h']
  | vec nm ns es l bs hl hb =>
    cases hw with
    | vec _ _ _ _ bs' hl' hb' =>
      have h' : 98 :: 34 :: (lettersL bs ++ [34]) = 98 :: 34 :: (lettersL bs' ++ [34]) := by rwa [textV_vec, textV_vec] at h
      rw [letters_inj hb hb' (List.append_inj_left' (List.cons.inj (List.cons.inj h').2).2 rfl)]
  | en nm ns es l i hi =>
    cases hw with
    | en _ _ _ _ j hj =>
      cases ht with
      | sc k hk => omega
      | en _ _ hp hn =>
        have h' : bl (ns.getD (i : Int).toNat noName) = bl (ns.getD (j : Int).toNat noName) := by rwa [textV_enum, textV_enum] at h
        rw [Int.toNat_natCast, Int.toNat_natCast, List.getD_eq_getElem?_getD, List.getD_eq_getElem?_getD, List.getElem?_eq_getElem hi, List.getElem?_eq_getElem hj] at h'
        have e : ns[i] = ns[j] := bl_inj h'
        have := nodup_inj (names_at hn).2.2 hi hj e
        rw [this]
theorem map_inj_on {α β : Type} {g : α → β} : ∀ {xs ys : List α}, (∀ x ∈ xs, ∀ y ∈ ys, g x = g y → x = y) → xs.map g = ys.map g → xs = ys
  | [], [], _, _ => rfl
  | [], _ :: _, _, h => by cases h
  | _ :: _, [], _, h => by cases h
  | x :: xs, y :: ys, hi, h => by
    rw [List.map_cons, List.map_cons, List.cons.injEq] at h
    rw [hi x (by simp) y (by simp) h.1, map_inj_on (fun a ha b hb => hi a (by simp [ha]) b (by simp [hb])) h.2]
theorem text_inj {t : Ty} {v w : Va} (ht : Good isNameL t) (hv : HasG t v) (hw : HasG t w) (h : textV t v = textV t w) : v = w := by
  cases ht with
  | flat t ht =>
    cases hv with
    | flat _ _ hv =>
      cases hw with
      | flat _ _ hw => exact flat_text_inj ht hv hw h
      | arr l nm ns e ls hl hh => exact absurd rfl (flat_kind ht).1
    | arr l nm ns e ls hl hh => exact absurd rfl (flat_kind ht).1
  | arr l e h1 h2 he =>
    cases hv with
    | flat _ _ hv => cases hv
    | arr _ _ _ _ ls hl hh =>
      cases hw with
      | flat _ _ hw => cases hw
      | arr _ _ _ _ ls' hl' hh' =>
        rw [textV_arr, textV_arr] at h
        have h := List.append_inj_left' (List.cons.inj h).2 rfl
        have hn : ls ≠ [] := by intro e; subst e; simp at hl; omega
        have hn' : ls' ≠ [] := by intro e; subst e; simp at hl'; omega
        have := join_inj (by simpa using hn) (by simpa using hn') (by intro x hx; obtain ⟨w, hw, rfl⟩ := List.mem_map.1 hx; exact flat_comma he (hh w hw)) (by intro x hx; obtain ⟨w, hw, rfl⟩ := List.mem_map.1 hx; exact flat_comma he (hh' w hw)) h
        rw [map_inj_on (fun x hx y hy hxy => flat_text_inj he (hh x hx) (hh' y hy) hxy) this]
end Go.Proofs.YtdiagnhdigakpaaGreatDoor
/- The contracts of the program's countScalars, Places, nameOf and Name. -/
namespace Go.Proofs.YtdiagnhdigakpaaGreatDoor
open Go.RowKit

/-- How many scalar places a type has. -/
def countT : Ty → Nat
  | .mk k l _ _ es => if k = 4 then l.toNat else if k = 6 then (match es with | [e] => l.toNat * countT e | _ => 0) else 1
theorem countT_arr (l : Int) (nm : ByteArray) (ns : List ByteArray) (e : Ty) : countT (.mk 6 l nm ns [e]) = l.toNat * countT e := by simp [countT]
theorem countT_vec (l : Int) (nm : ByteArray) (ns : List ByteArray) (es : List Ty) : countT (.mk 4 l nm ns es) = l.toNat := by
  match es with
  | [] => simp [countT]
  | [e] => simp [countT]
  | e :: e2 :: r => simp [countT]
theorem countT_mk (k l : Int) (nm : ByteArray) (ns : List ByteArray) (es : List Ty) (h4 : ¬ k = 4) (h6 : ¬ k = 6) : countT (.mk k l nm ns es) = 1 := by
  match es with
  | [] => simp [countT, h4, h6]
  | [e] => simp [countT, h4, h6]
  | e :: e2 :: r => simp [countT, h4, h6]
theorem flat_count {f : List UInt8 → Bool} {t : Ty} (h : Flat f t) : 1 ≤ countT t ∧ countT t ≤ 64 := by
  cases h with
  | sc k hk => rw [countT_mk _ _ _ _ _ (by omega) (by omega)]; omega
  | vec l h1 h2 => rw [countT_vec]; omega
  | en nm ns hp hn => rw [countT_mk _ _ _ _ _ (by omega) (by omega)]; omega
theorem good_count {f : List UInt8 → Bool} {t : Ty} (h : Good f t) : 1 ≤ countT t ∧ countT t ≤ 4096 := by
  cases h with
  | flat t h => have := flat_count h; omega
  | arr l e h1 h2 h =>
    have := flat_count h
    rw [countT_arr, Int.toNat_natCast]
    refine ⟨Nat.mul_pos (by omega) (by omega), ?_⟩
    calc l * countT e ≤ 64 * 64 := Nat.mul_le_mul h2 this.2
      _ = 4096 := rfl
set_option maxRecDepth 100000 in
set_option maxHeartbeats 4000000 in
theorem count_vec (l : Int) (nm : ByteArray) (v3 v4 : Value) (w : World) :
    Calls Tryz.prog 71 #[.agg #[.int .i64 4, .int .i64 l, .string nm, v3, v4]] w fun e w' => e = .returned (.int .i64 l) ∧ Below w.heap.size w w' := by
  have H0 := Lib.hid (below_alloc w (.cells #[.int .i64 4, .int .i64 l, .string nm, v3, v4] 26))
  go_enter Tryz.func71, Tryz.ntmps71
  go_wp2
  go_ret
  exact ⟨rfl, H0.out⟩
set_option maxRecDepth 100000 in
set_option maxHeartbeats 4000000 in
theorem count_other (k l : Int) (h4 : (k == 4) = false) (h6 : (k == 6) = false) (nm : ByteArray) (v3 v4 : Value) (w : World) :
    Calls Tryz.prog 71 #[.agg #[.int .i64 k, .int .i64 l, .string nm, v3, v4]] w fun e w' => e = .returned (.int .i64 1) ∧ Below w.heap.size w w' := by
  have H0 := Lib.hid (below_alloc w (.cells #[.int .i64 k, .int .i64 l, .string nm, v3, v4] 26))
  go_enter Tryz.func71, Tryz.ntmps71
  go_wp2
  go_ret
  exact ⟨rfl, H0.out⟩
set_option maxRecDepth 100000 in
set_option maxHeartbeats 4000000 in
theorem count_arr (l m : Nat) (hl : l ≤ 64) (hm : m ≤ 64) (nm : ByteArray) (v3 : Value) (b off d : Nat) (k1 l1 : Int) (nm1 : ByteArray) (A1 A2 : Option Addr) (n1 c1 n2 c2 : Nat) (w : World)
    (h5 : Hid (Ty5 w b off k1 l1 nm1 (.slice A1 n1 c1) (.slice A2 n2 c2)))
    (HX : Hid (∀ u, Below w.heap.size w u → Calls Tryz.prog 71 #[.agg #[.int .i64 k1, .int .i64 l1, .string nm1, .slice A1 n1 c1, .slice A2 n2 c2]] u fun e w' => e = .returned (.int .i64 (m : Nat)) ∧ Below u.heap.size u w')) :
    Calls Tryz.prog 71 #[.agg #[.int .i64 6, .int .i64 (l : Nat), .string nm, v3, .slice (some ⟨b, off, none⟩) 1 d]] w fun e w' => e = .returned (.int .i64 (l * m : Nat)) ∧ Below w.heap.size w w' := by
  have hba := below_alloc w (.cells #[.int .i64 6, .int .i64 (l : Nat), .string nm, v3, .slice (some ⟨b, off, none⟩) 1 d] 26)
  have H0 := Lib.hid (below_drewN hba 1)
  have HK := Lib.hid (box1 w 26 #[.int .i64 6, .int .i64 (l : Nat), .string nm, v3, .slice (some ⟨b, off, none⟩) 1 d])
  obtain ⟨e0, e1, e2, e3, e4⟩ := h5.out.later hba
  have HY := Lib.hid (HX.out _ H0.out)
  have hlm : l * m ≤ 4096 := Nat.mul_le_mul hl hm
  have hmul : IntKind.i64.wrap ((l : Int) * (m : Int)) = ((l * m : Nat) : Int) := by
    rw [← Int.natCast_mul]
    exact IntWalk.i64_in _ (by omega)
  have HM := Lib.hid hmul
  have HZ := Lib.hid hba
  clear hba HX h5 hl hm hlm
  go_enter Tryz.func71, Tryz.ntmps71
  go_wp2_with fail
  go_region_with (go_at_call 71; refine (HY.out).mono ?_; rintro e w3 ⟨rfl, hb3⟩; have HB3 := Lib.hid (below_then H0.out hb3); obtain ⟨p0, p1, p2, p3, p4⟩ := fives ((HK.out.turn (w' := (w.alloc (.cells #[.int .i64 6, .int .i64 (l : Nat), .string nm, v3, .slice (some ⟨b, off, none⟩) 1 d] 26)).drewN 1) rfl).later hb3); clear hb3)
  all_goals
    go_wp2
    go_ret
    exact ⟨rfl, HB3.out⟩
theorem flat_four {f : List UInt8 → Bool} {t : Ty} (h : Flat f t) (hk : t.kind = 4) : ∃ l : Nat, t.len = l ∧ 1 ≤ l ∧ l ≤ 64 ∧ countT t = l := by
  cases h with
  | sc k h =>
    have hk : k = 4 := hk
    omega
  | vec l h1 h2 => exact ⟨l, rfl, h1, h2, by rw [countT_vec, Int.toNat_natCast]⟩
  | en nm ns hp hn =>
    have hk : (5 : Int) = 4 := hk
    omega
theorem flat_one {f : List UInt8 → Bool} {t : Ty} (h : Flat f t) (hk : ¬ t.kind = 4) : countT t = 1 := by
  obtain ⟨k, l, nm, ns, es⟩ := t
  exact countT_mk k l nm ns es hk (flat_kind h).1
theorem pcount_flat {t : Ty} {w : World} (ht : Flat isNameL t) (v3 v4 : Value) :
    Calls Tryz.prog 71 #[.agg #[.int .i64 t.kind, .int .i64 t.len, .string t.name, v3, v4]] w fun e w' => e = .returned (.int .i64 (countT t : Nat)) ∧ Below w.heap.size w w' := by
  by_cases hk : t.kind = 4
  · obtain ⟨l, hl, h1, h2, hc⟩ := flat_four ht hk
    rw [hk, hl, hc]
    exact count_vec l t.name v3 v4 w
  · rw [flat_one ht hk]
    exact count_other t.kind t.len (by rw [beq_eq_false_iff_ne]; exact hk) (by rw [beq_eq_false_iff_ne]; exact (flat_kind ht).1) t.name v3 v4 w
theorem pcount_any {t : Ty} {cs : List Value} {w : World} (ht : Good isNameL t) (h : TyC w t cs) :
    Calls Tryz.prog 71 #[.agg cs.toArray] w fun e w' => e = .returned (.int .i64 (countT t : Nat)) ∧ Below w.heap.size w w' := by
  cases ht with
  | flat t ht =>
    obtain ⟨A, n, c, B, m, d, rfl, _⟩ := tyC_open h
    exact pcount_flat ht _ _
  | arr l e h1 h2 he =>
    obtain ⟨A, n, c, B, m, d, rfl, hn, rfl, hs, hT⟩ := tyC_open h
    rcases hT with hT | ⟨b, off, rfl, hT⟩
    · cases hT
    obtain ⟨A1, n1, c1, A2, n2, c2, k1, k5⟩ := one_open hT
    rw [countT_arr, Int.toNat_natCast]
    exact count_arr l (countT e) h2 (flat_count he).2 noName _ b off d e.kind e.len e.name A1 A2 n1 c1 n2 c2 w k5 (fun u _ => pcount_flat he _ _)
/-- The number of scalar places, or an error. -/
def plcV (t : Ty) : Nat := if validT isNameL t then countT t else 0
def valE (t : Ty) : Nat := if validT isNameL t then 0 else 2
set_option maxRecDepth 100000 in
set_option maxHeartbeats 4000000 in
theorem places_gen (k l : Int) (nm : ByteArray) (v3 v4 : Value) (a : Bool) (m : Nat) (w : World)
    (HA : Hid (∀ u, Below w.heap.size w u → Calls Tryz.prog 16 #[.agg #[.int .i64 k, .int .i64 l, .string nm, v3, v4]] u fun e w' => e = .returned (.bool a) ∧ Below u.heap.size u w'))
    (HX : Hid (a = true → ∀ u, Below w.heap.size w u → Calls Tryz.prog 71 #[.agg #[.int .i64 k, .int .i64 l, .string nm, v3, v4]] u fun e w' => e = .returned (.int .i64 (m : Nat)) ∧ Below u.heap.size u w')) :
    Calls Tryz.prog 27 #[.agg #[.int .i64 k, .int .i64 l, .string nm, v3, v4]] w fun e w' => e = .returned (.tuple #[.int .i64 (if a then m else 0 : Nat), .int .i64 (if a then 0 else 2 : Nat)]) ∧ Below w.heap.size w w' := by
  have H0 := Lib.hid (below_alloc w (.cells #[.int .i64 k, .int .i64 l, .string nm, v3, v4] 26))
  have HK := Lib.hid (box1 w 26 #[.int .i64 k, .int .i64 l, .string nm, v3, v4])
  cases a
  · clear HX
    go_enter Tryz.func27, Tryz.ntmps27
    go_wp2_with fail
    refine (HA.out _ H0.out).mono ?_
    rintro e w1 ⟨rfl, hb1⟩
    have H1 := Lib.hid (below_then H0.out hb1)
    clear hb1
    go_wp2
    go_ret2
    exact ⟨rfl, H1.out⟩
  · have HY := Lib.hid (HX.out rfl)
    clear HX
    go_enter Tryz.func27, Tryz.ntmps27
    go_wp2_with fail
    refine (HA.out _ H0.out).mono ?_
    rintro e w1 ⟨rfl, hb1⟩
    have H1 := Lib.hid (below_then H0.out hb1)
    obtain ⟨p0, p1, p2, p3, p4⟩ := fives (HK.out.later hb1)
    clear hb1
    go_wp2_with fail
    refine (HY.out _ H1.out).mono ?_
    rintro e w2 ⟨rfl, hb2⟩
    have H2 := Lib.hid (below_then H1.out hb2)
    clear hb2 p0 p1 p2 p3 p4
    go_wp2
    go_ret2
    exact ⟨rfl, H2.out⟩
theorem places_any (t : Ty) (cs : List Value) (w : World) (ht : smT t) (h : TyC w t cs) :
    Calls Tryz.prog 27 #[.agg cs.toArray] w fun e w' => e = .returned (.tuple #[.int .i64 (plcV t : Nat), .int .i64 (valE t : Nat)]) ∧ Below w.heap.size w w' := by
  have h0 := h
  obtain ⟨A, n, c, B, m, d, rfl, _⟩ := tyC_open h
  exact places_gen _ _ _ _ _ (validT isNameL t) (countT t) w (fun u hu => pvalid_any t _ u ht (h0.later hu)) (fun hv u hu => pcount_any (valid_good hv) (h0.later hu))
/-- What nameOf returns. -/
def NamePost (l : List UInt8) (w : World) (e : Ending) (w' : World) : Prop := e = .returned (.string (sb l)) ∧ Below w.heap.size w w'
set_option maxRecDepth 100000 in
set_option maxHeartbeats 4000000 in
theorem nameOf_basic (k l : Int) (nm : ByteArray) (v3 v4 : Value) (w : World) (s : ByteArray) (hk : (k = 1 ∧ s = ⟨#[98, 105, 116]⟩) ∨ (k = 2 ∧ s = ⟨#[98, 111, 111, 108]⟩) ∨ (k = 3 ∧ s = ⟨#[105, 110, 116]⟩) ∨ (k = 5 ∧ s = nm)) :
    Calls Tryz.prog 64 #[.agg #[.int .i64 k, .int .i64 l, .string nm, v3, v4]] w (NamePost (bl s) w) := by
  have H0 := Lib.hid (below_alloc w (.cells #[.int .i64 k, .int .i64 l, .string nm, v3, v4] 26))
  unfold NamePost
  rw [sb_bl]
  rcases hk with ⟨rfl, rfl⟩ | ⟨rfl, rfl⟩ | ⟨rfl, rfl⟩ | ⟨rfl, rfl⟩
  all_goals
    go_enter Tryz.func64, Tryz.ntmps64
    go_wp2
    go_ret
    exact ⟨rfl, H0.out⟩
theorem ito_len {n : Int} (h0 : 0 ≤ n) (h1 : n ≤ 64) : (itoL n).length ≤ 2 := by
  obtain ⟨m, rfl⟩ : ∃ m : Nat, n = m := ⟨n.toNat, by omega⟩
  rw [ito_nat]
  exact dec_len (by omega) (by omega)
set_option maxRecDepth 100000 in
set_option maxHeartbeats 4000000 in
theorem nameOf_vec (l : Int) (h0 : 0 ≤ l) (h64 : l ≤ 64) (nm : ByteArray) (v3 v4 : Value) (w : World) (hw : Std w) :
    Calls Tryz.prog 64 #[.agg #[.int .i64 4, .int .i64 l, .string nm, v3, v4]] w (NamePost (118 :: 101 :: 99 :: 40 :: (itoL l ++ [41])) w) := by
  have H0 := Lib.hid (below_alloc w (.cells #[.int .i64 4, .int .i64 l, .string nm, v3, v4] 26))
  have HI := Lib.hid (itoa_any l (by omega) (by omega) _ (hw.later H0.out))
  have hz : (sb (itoL l)).size ≤ 2 := by rw [sb_size]; exact ito_len h0 h64
  have HR : Hid ((⟨#[118, 101, 99, 40]⟩ : ByteArray) ++ sb (itoL l) ++ ⟨#[41]⟩ = sb (118 :: 101 :: 99 :: 40 :: (itoL l ++ [41]))) := by
    show _ = _
    apply bl_inj
    rw [bl_append, bl_append, bl_sb, bl_sb]
    rfl
  have hz1 : (⟨#[118, 101, 99, 40]⟩ : ByteArray).size = 4 := rfl
  have hz2 : (⟨#[41]⟩ : ByteArray).size = 1 := rfl
  generalize sb (itoL l) = x at *
  clear hw h0 h64
  unfold NamePost
  go_enter Tryz.func64, Tryz.ntmps64
  go_wp2_with fail
  refine (HI.out).mono ?_
  rintro e w1 ⟨rfl, hb1⟩
  have H1 := Lib.hid (below_then H0.out hb1)
  clear hb1
  go_wp2
  go_ret
  exact ⟨by rw [← HR.out]; rfl, H1.out⟩
set_option maxRecDepth 100000 in
set_option maxHeartbeats 8000000 in
theorem nameOf_arr (l : Int) (h0 : 0 ≤ l) (h64 : l ≤ 64) (nm : ByteArray) (v3 : Value) (b off d : Nat) (k1 l1 : Int) (nm1 : ByteArray) (A1 A2 : Option Addr) (n1 c1 n2 c2 : Nat) (s : List UInt8) (hs : s.length ≤ 1000) (w : World) (hw : Std w)
    (h5 : Hid (Ty5 w b off k1 l1 nm1 (.slice A1 n1 c1) (.slice A2 n2 c2)))
    (HX : Hid (∀ u, Below w.heap.size w u → Calls Tryz.prog 64 #[.agg #[.int .i64 k1, .int .i64 l1, .string nm1, .slice A1 n1 c1, .slice A2 n2 c2]] u (NamePost s u))) :
    Calls Tryz.prog 64 #[.agg #[.int .i64 6, .int .i64 l, .string nm, v3, .slice (some ⟨b, off, none⟩) 1 d]] w (NamePost (97 :: 114 :: 114 :: 97 :: 121 :: 40 :: (itoL l ++ 41 :: 32 :: 111 :: 102 :: 32 :: s)) w) := by
  have hba := below_alloc w (.cells #[.int .i64 6, .int .i64 l, .string nm, v3, .slice (some ⟨b, off, none⟩) 1 d] 26)
  have H0 := Lib.hid (below_drewN hba 1)
  have K0 := Lib.hid (show Blk ((w.alloc (.cells #[.int .i64 6, .int .i64 l, .string nm, v3, .slice (some ⟨b, off, none⟩) 1 d] 26)).drewN 1) w.heap.size 26 #[.int .i64 6, .int .i64 l, .string nm, v3, .slice (some ⟨b, off, none⟩) 1 d] from box1 w 26 _)
  have E0 := Lib.hid (h5.out.later H0.out)
  obtain ⟨e0, e1, e2, e3, e4⟩ := h5.out.later hba
  have HI := Lib.hid (fun (u : World) (hu : Below w.heap.size w u) => itoa_any l (by omega) (by omega) u (hw.later hu))
  have hz : (sb (itoL l)).size ≤ 2 := by rw [sb_size]; exact ito_len h0 h64
  have hz' : (sb s).size ≤ 1000 := by rw [sb_size]; exact hs
  have HR : Hid ((⟨#[97, 114, 114, 97, 121, 40]⟩ : ByteArray) ++ sb (itoL l) ++ ⟨#[41, 32, 111, 102, 32]⟩ ++ sb s = sb (97 :: 114 :: 114 :: 97 :: 121 :: 40 :: (itoL l ++ 41 :: 32 :: 111 :: 102 :: 32 :: s))) := by
    show _ = _
    apply bl_inj
    rw [bl_append, bl_append, bl_append, bl_sb, bl_sb, bl_sb]
    show 97 :: 114 :: 114 :: 97 :: 121 :: 40 :: ((itoL l ++ [41, 32, 111, 102, 32]) ++ s) = _
    rw [List.append_assoc]
    rfl
  unfold NamePost at *
  generalize sb (itoL l) = x at *
  generalize sb s = y at *
  clear hw h0 h64 hba hs h5
  go_enter Tryz.func64, Tryz.ntmps64
  go_wp2_with fail
  go_region_with (first
    | (go_at_call 106; refine (HI.out _ (by first | exact HB5.out | exact H0.out)).mono ?_; rintro e w3 ⟨rfl, hb3⟩; have HB3 := Lib.hid (below_then (show Below w.heap.size w _ by first | exact HB5.out | exact H0.out) hb3); have K3 := Lib.hid (Blk.later (show Blk _ w.heap.size 26 #[.int .i64 6, .int .i64 l, .string nm, v3, .slice (some ⟨b, off, none⟩) 1 d] by first | exact K5.out | exact K0.out) hb3); have E3 := Lib.hid (Ty5.later (show Ty5 _ b off k1 l1 nm1 (.slice A1 n1 c1) (.slice A2 n2 c2) by first | exact E5.out | exact E0.out) hb3); obtain ⟨p0, p1, p2, p3, p4⟩ := fives K3.out; obtain ⟨q0, q1, q2, q3, q4⟩ := E3.out; clear hb3)
    | (go_at_call 64; refine (HX.out _ (by first | exact HB3.out | exact H0.out)).mono ?_; rintro e w5 ⟨rfl, hb5⟩; have HB5 := Lib.hid (below_then (show Below w.heap.size w _ by first | exact HB3.out | exact H0.out) hb5); have K5 := Lib.hid (Blk.later (show Blk _ w.heap.size 26 #[.int .i64 6, .int .i64 l, .string nm, v3, .slice (some ⟨b, off, none⟩) 1 d] by first | exact K3.out | exact K0.out) hb5); have E5 := Lib.hid (Ty5.later (show Ty5 _ b off k1 l1 nm1 (.slice A1 n1 c1) (.slice A2 n2 c2) by first | exact E3.out | exact E0.out) hb5); obtain ⟨r0, r1, r2, r3, r4⟩ := fives K5.out; obtain ⟨t0, t1, t2, t3, t4⟩ := E5.out; clear hb5))
  all_goals
    go_wp2
    go_ret
    first
      | exact ⟨by rw [← HR.out]; rfl, HB5.out⟩
      | exact ⟨by rw [← HR.out]; rfl, HB3.out⟩
end Go.Proofs.YtdiagnhdigakpaaGreatDoor
/- The contract of the program's Name. -/
namespace Go.Proofs.YtdiagnhdigakpaaGreatDoor
open Go.RowKit

theorem nameT_vec (l : Int) (nm : ByteArray) (ns : List ByteArray) (es : List Ty) : nameT (.mk 4 l nm ns es) = 118 :: 101 :: 99 :: 40 :: (itoL l ++ [41]) := by
  match es with
  | [] => simp [nameT]
  | [e] => simp [nameT]
  | e :: e2 :: r => simp [nameT]
theorem nameT_enum (l : Int) (nm : ByteArray) (ns : List ByteArray) (es : List Ty) : nameT (.mk 5 l nm ns es) = bl nm := by
  match es with
  | [] => simp [nameT]
  | [e] => simp [nameT]
  | e :: e2 :: r => simp [nameT]
theorem nameT_bit (l : Int) (nm : ByteArray) (ns : List ByteArray) (es : List Ty) : nameT (.mk 1 l nm ns es) = [98, 105, 116] := by
  match es with
  | [] => simp [nameT]
  | [e] => simp [nameT]
  | e :: e2 :: r => simp [nameT]
theorem nameT_bool (l : Int) (nm : ByteArray) (ns : List ByteArray) (es : List Ty) : nameT (.mk 2 l nm ns es) = [98, 111, 111, 108] := by
  match es with
  | [] => simp [nameT]
  | [e] => simp [nameT]
  | e :: e2 :: r => simp [nameT]
theorem nameT_int (l : Int) (nm : ByteArray) (ns : List ByteArray) (es : List Ty) : nameT (.mk 3 l nm ns es) = [105, 110, 116] := by
  match es with
  | [] => simp [nameT]
  | [e] => simp [nameT]
  | e :: e2 :: r => simp [nameT]
theorem pname_flat {t : Ty} {w : World} (ht : Flat isNameL t) (hw : Std w) (v3 v4 : Value) :
    Calls Tryz.prog 64 #[.agg #[.int .i64 t.kind, .int .i64 t.len, .string t.name, v3, v4]] w (NamePost (nameT t) w) := by
  cases ht with
  | sc k hk =>
    rcases hk with rfl | rfl | rfl
    · rw [nameT_bit]
      exact nameOf_basic 1 0 noName v3 v4 w ⟨#[98, 105, 116]⟩ (.inl ⟨rfl, rfl⟩)
    · rw [nameT_bool]
      exact nameOf_basic 2 0 noName v3 v4 w ⟨#[98, 111, 111, 108]⟩ (.inr (.inl ⟨rfl, rfl⟩))
    · rw [nameT_int]
      exact nameOf_basic 3 0 noName v3 v4 w ⟨#[105, 110, 116]⟩ (.inr (.inr (.inl ⟨rfl, rfl⟩)))
  | vec l h1 h2 =>
    rw [nameT_vec]
    exact nameOf_vec (l : Int) (by omega) (by omega) noName v3 v4 w hw
  | en nm ns hp hn =>
    rw [nameT_enum]
    exact nameOf_basic 5 0 nm v3 v4 w nm (.inr (.inr (.inr ⟨rfl, rfl⟩)))
theorem flat_name_len {t : Ty} (ht : Flat isNameL t) : (nameT t).length ≤ 200 := by
  cases ht with
  | sc k hk =>
    rcases hk with rfl | rfl | rfl
    · rw [nameT_bit]; simp
    · rw [nameT_bool]; simp
    · rw [nameT_int]; simp
  | vec l h1 h2 =>
    rw [nameT_vec]
    have := ito_len (n := (l : Int)) (by omega) (by omega)
    simp
    omega
  | en nm ns hp hn =>
    rw [nameT_enum, bl_len]
    unfold pathB at hp
    simp only [Bool.and_eq_true, decide_eq_true_eq] at hp
    omega
theorem pname_any {t : Ty} {cs : List Value} {w : World} (ht : Good isNameL t) (hw : Std w) (h : TyC w t cs) :
    Calls Tryz.prog 64 #[.agg cs.toArray] w (NamePost (nameT t) w) := by
  cases ht with
  | flat t ht =>
    obtain ⟨A, n, c, B, m, d, rfl, _⟩ := tyC_open h
    exact pname_flat ht hw _ _
  | arr l e h1 h2 he =>
    obtain ⟨A, n, c, B, m, d, rfl, hn, rfl, hs, hT⟩ := tyC_open h
    rcases hT with hT | ⟨b, off, rfl, hT⟩
    · cases hT
    obtain ⟨A1, n1, c1, A2, n2, c2, k1, k5⟩ := one_open hT
    rw [nameT_arr]
    exact nameOf_arr (l : Int) (by omega) (by omega) noName _ b off d e.kind e.len e.name A1 A2 n1 c1 n2 c2 (nameT e) (by have := flat_name_len he; omega) w hw k5 (fun u hu => pname_flat he (hw.later hu) _ _)
/-- What Name returns. -/
def nameR (t : Ty) : List UInt8 := if validT isNameL t then nameT t else []
set_option maxRecDepth 100000 in
set_option maxHeartbeats 4000000 in
theorem name_gen (k l : Int) (nm : ByteArray) (v3 v4 : Value) (a : Bool) (s : List UInt8) (w : World)
    (HA : Hid (∀ u, Below w.heap.size w u → Calls Tryz.prog 16 #[.agg #[.int .i64 k, .int .i64 l, .string nm, v3, v4]] u fun e w' => e = .returned (.bool a) ∧ Below u.heap.size u w'))
    (HX : Hid (a = true → ∀ u, Below w.heap.size w u → Calls Tryz.prog 64 #[.agg #[.int .i64 k, .int .i64 l, .string nm, v3, v4]] u (NamePost s u))) :
    Calls Tryz.prog 20 #[.agg #[.int .i64 k, .int .i64 l, .string nm, v3, v4]] w fun e w' => e = .returned (.tuple #[.string (sb (if a then s else [])), .int .i64 (if a then 0 else 2 : Nat)]) ∧ Below w.heap.size w w' := by
  have H0 := Lib.hid (below_alloc w (.cells #[.int .i64 k, .int .i64 l, .string nm, v3, v4] 26))
  have HK := Lib.hid (box1 w 26 #[.int .i64 k, .int .i64 l, .string nm, v3, v4])
  cases a
  · clear HX
    go_enter Tryz.func20, Tryz.ntmps20
    go_wp2_with fail
    refine (HA.out _ H0.out).mono ?_
    rintro e w1 ⟨rfl, hb1⟩
    have H1 := Lib.hid (below_then H0.out hb1)
    clear hb1
    go_wp2
    go_ret2
    exact ⟨rfl, H1.out⟩
  · have HY := Lib.hid (HX.out rfl)
    clear HX
    rw [if_pos rfl, if_pos rfl]
    unfold NamePost at HY
    generalize sb s = x at *
    go_enter Tryz.func20, Tryz.ntmps20
    go_wp2_with fail
    refine (HA.out _ H0.out).mono ?_
    rintro e w1 ⟨rfl, hb1⟩
    have H1 := Lib.hid (below_then H0.out hb1)
    obtain ⟨p0, p1, p2, p3, p4⟩ := fives (HK.out.later hb1)
    clear hb1
    go_wp2_with fail
    refine (HY.out _ H1.out).mono ?_
    rintro e w2 ⟨rfl, hb2⟩
    have H2 := Lib.hid (below_then H1.out hb2)
    clear hb2 p0 p1 p2 p3 p4
    go_wp2
    go_ret2
    exact ⟨rfl, H2.out⟩
theorem name_any (t : Ty) (cs : List Value) (w : World) (ht : smT t) (hw : Std w) (h : TyC w t cs) :
    Calls Tryz.prog 20 #[.agg cs.toArray] w fun e w' => e = .returned (.tuple #[.string (sb (nameR t)), .int .i64 (valE t : Nat)]) ∧ Below w.heap.size w w' := by
  have h0 := h
  obtain ⟨A, n, c, B, m, d, rfl, _⟩ := tyC_open h
  exact name_gen _ _ _ _ _ (validT isNameL t) (nameT t) w (fun u hu => pvalid_any t _ u ht (h0.later hu)) (fun hv u hu => pname_any (valid_good hv) (hw.later hu) (h0.later hu))
end Go.Proofs.YtdiagnhdigakpaaGreatDoor
