/- The contracts of the reference's Most and Lex. -/
import Derived.Test.YtfjeljehodbbmaaDoorNx
import Derived.Test.YtfjeljehodbbmaaDoorTo
import Derived.BigRegion
namespace Go.Proofs.YtfjeljehodbbmaaDoor
open Go.RowKit

theorem OwnT.alloc {w : World} {base : Nat} {v : Value} {l : List TokA} (h : OwnT w base v l) (o : Obj) : OwnT (w.alloc o) base v l := h.kept (below_alloc w o)
theorem Tls.one {w : World} {o n l c : Int} {x : ByteArray} {k : Nat} (hk : k = w.heap.size) : Tls (w.alloc (.cells #[.int .i64 o, .string x, .int .i64 n, .int .i64 l, .int .i64 c] 40)) (.slice (some ⟨k, 0, none⟩) 1 1) [⟨o, x, n, l, c⟩] := by
  subst hk
  refine ⟨_, 1, rfl, Nat.le_refl _, by simp, .inr ⟨w.heap.size, 0, rfl, fun k hk => ?_⟩⟩
  have h0 : k = 0 := by simpa using hk
  subst h0
  refine ⟨?_, ?_, ?_, ?_, ?_⟩ <;> (rw [World.cell?_alloc_at _ _ _ _ rfl]; rfl)
/-- A fault's value. -/
def faultV (code : Nat) (name : ByteArray) (line col : Nat) : Value := .agg #[.int .i64 (code : Nat), .string name, .int .i64 (line : Nat), .int .i64 (col : Nat)]
theorem flt_cells {w wr : World} (hb : Below (w.alloc (.cells #[.int .i64 0, .string ⟨#[]⟩, .int .i64 0, .int .i64 0] 27)).heap.size (w.alloc (.cells #[.int .i64 0, .string ⟨#[]⟩, .int .i64 0, .int .i64 0] 27)) wr) :
    wr.cell? ⟨w.heap.size, 0, none⟩ = some (.int .i64 0) ∧ wr.cell? ⟨w.heap.size, 1, none⟩ = some (.string ⟨#[]⟩) ∧ wr.cell? ⟨w.heap.size, 2, none⟩ = some (.int .i64 0) ∧ wr.cell? ⟨w.heap.size, 3, none⟩ = some (.int .i64 0)
    ∧ (∀ k, wr.frozen? ⟨w.heap.size, k, none⟩ = false) ∧ Below w.heap.size w wr := by
  have hl : w.heap.size < (w.alloc (.cells #[.int .i64 0, .string ⟨#[]⟩, .int .i64 0, .int .i64 0] 27)).heap.size := by rw [World.size_alloc]; omega
  refine ⟨?_, ?_, ?_, ?_, ?_, below_then (below_alloc w (.cells #[.int .i64 0, .string ⟨#[]⟩, .int .i64 0, .int .i64 0] 27)) hb⟩
  · rw [hb.cell (by exact hl), World.cell?_alloc_at _ _ _ _ rfl]; rfl
  · rw [hb.cell (by exact hl), World.cell?_alloc_at _ _ _ _ rfl]; rfl
  · rw [hb.cell (by exact hl), World.cell?_alloc_at _ _ _ _ rfl]; rfl
  · rw [hb.cell (by exact hl), World.cell?_alloc_at _ _ _ _ rfl]; rfl
  · intro k
    rw [hb.frozen (by exact hl), World.frozen?_alloc_at _ _ _ _ rfl]
theorem flt_store {w : World} {B : Nat} {u0 u1 u2 u3 : Value} (q0 : w.cell? ⟨B, 0, none⟩ = some u0) (q1 : w.cell? ⟨B, 1, none⟩ = some u1) (q2 : w.cell? ⟨B, 2, none⟩ = some u2) (q3 : w.cell? ⟨B, 3, none⟩ = some u3) (v0 v1 v2 v3 : Value) :
    (w.setCell ⟨B, 0, none⟩ v0).cell? ⟨B, 0, none⟩ = some v0 ∧ ((w.setCell ⟨B, 0, none⟩ v0).setCell ⟨B, 1, none⟩ v1).cell? ⟨B, 1, none⟩ = some v1 ∧ (((w.setCell ⟨B, 0, none⟩ v0).setCell ⟨B, 1, none⟩ v1).setCell ⟨B, 2, none⟩ v2).cell? ⟨B, 2, none⟩ = some v2
    ∧ ((((w.setCell ⟨B, 0, none⟩ v0).setCell ⟨B, 1, none⟩ v1).setCell ⟨B, 2, none⟩ v2).setCell ⟨B, 3, none⟩ v3).cell? ⟨B, 3, none⟩ = some v3
    ∧ Below B w ((((w.setCell ⟨B, 0, none⟩ v0).setCell ⟨B, 1, none⟩ v1).setCell ⟨B, 2, none⟩ v2).setCell ⟨B, 3, none⟩ v3)
    ∧ (∀ p : Addr, p.block ≠ B → ((((w.setCell ⟨B, 0, none⟩ v0).setCell ⟨B, 1, none⟩ v1).setCell ⟨B, 2, none⟩ v2).setCell ⟨B, 3, none⟩ v3).cell? p = w.cell? p) := by
  have ne : ∀ (i j : Nat), i ≠ j → (⟨B, i, none⟩ : Addr) ≠ ⟨B, j, none⟩ := fun i j h e => h (by injection e)
  have nb : ∀ (i : Nat) (p : Addr), p.block ≠ B → (⟨B, i, none⟩ : Addr) ≠ p := fun i p h e => h (by rw [← e])
  have st : ∀ (w : World) (k : Nat) (v : Value), Below B w (w.setCell ⟨B, k, none⟩ v) := fun w k v => (Below.refl B w).setCell (show B ≤ B from Nat.le_refl B) v
  refine ⟨World.cell?_setCell_same _ _ _ q0, World.cell?_setCell_same _ _ _ (u := u1) ?_, World.cell?_setCell_same _ _ _ (u := u2) ?_, World.cell?_setCell_same _ _ _ (u := u3) ?_, (((st _ _ _).trans (st _ _ _)).trans (st _ _ _)).trans (st _ _ _), ?_⟩
  · rw [World.cell?_setCell_other (h := ne _ _ (by decide))]; exact q1
  · rw [World.cell?_setCell_other (h := ne _ _ (by decide)), World.cell?_setCell_other (h := ne _ _ (by decide))]; exact q2
  · rw [World.cell?_setCell_other (h := ne _ _ (by decide)), World.cell?_setCell_other (h := ne _ _ (by decide)), World.cell?_setCell_other (h := ne _ _ (by decide))]; exact q3
  · intro p hp
    rw [World.cell?_setCell_other (h := nb _ p hp), World.cell?_setCell_other (h := nb _ p hp), World.cell?_setCell_other (h := nb _ p hp), World.cell?_setCell_other (h := nb _ p hp)]
theorem Tls.same {w w' : World} {v : Value} {l : List TokA} {B : Nat} (h : Tls w v l) (hB : v.ownBlock ≠ some B) (hc : ∀ p : Addr, p.block ≠ B → w'.cell? p = w.cell? p) : Tls w' v l := by
  obtain ⟨A, c, e, h1, h2, hcs⟩ := h
  refine ⟨A, c, e, h1, h2, ?_⟩
  rcases hcs with hcs | ⟨b, off, e', hcs⟩
  · exact .inl hcs
  · refine .inr ⟨b, off, e', fun k hk => ?_⟩
    have hne : b ≠ B := by
      rintro rfl
      apply hB
      rw [e, e']
      rfl
    obtain ⟨c0, c1, c2, c3, c4⟩ := hcs k hk
    exact ⟨(hc _ hne).trans c0, (hc _ hne).trans c1, (hc _ hne).trans c2, (hc _ hne).trans c3, (hc _ hne).trans c4⟩
theorem far {w wr : World} {v : Value} {l : List TokA} (h : OwnT wr (w.alloc (.cells #[.int .i64 0, .string ⟨#[]⟩, .int .i64 0, .int .i64 0] 27)).heap.size v l) (e : v.ownBlock = some w.heap.size) : False := by
  have := (h.1.lt _ e).1
  rw [World.size_alloc] at this
  omega
/-- A token that is read, with its position. -/
def mstA (s : ByteArray) (a : Tok × Nat) : TokA := ⟨a.1.op, sb a.1.text, a.1.n, (placeL ((bl s).take (s.size - a.2))).1, (placeL ((bl s).take (s.size - a.2))).2⟩
theorem skip_idem (l : List UInt8) : skipL (skipL l) = skipL l := by
  have key : ∀ (l : List UInt8) (m : Bool), skipL (skipM m l) = skipM m l := by
    intro l
    induction l with
    | nil => intro m; cases m <;> rfl
    | cons c r ih =>
      intro m
      cases m
      · by_cases hb : blkB c = true
        · rw [skipM, if_pos hb]; exact ih false
        · by_cases hc : c = 45 ∧ r.head? = some 45
          · rw [skipM, if_neg hb, if_pos hc]; exact ih true
          · rw [skipM, if_neg hb, if_neg hc]
            unfold skipL
            rw [skipM, if_neg hb, if_neg hc]
      · rw [skipM]
        split
        · exact ih false
        · exact ih true
  exact key l false
theorem lex_skip (l : List UInt8) : lexM (skipL l) = lexM l := by
  by_cases h : skipL l = []
  · rw [lex_end h, lex_end (by rw [skip_idem]; exact h)]
  · cases ht : tokL (skipL l) with
    | none => rw [lex_none h ht, lex_none (by rw [skip_idem]; exact h) (by rw [skip_idem]; exact ht), skip_idem]
    | some p =>
      obtain ⟨t, n⟩ := p
      rw [lex_some ht, lex_some (l := skipL l) (t := t) (n := n) (by rw [skip_idem]; exact ht), skip_idem]
theorem next_drop (s : ByteArray) (i : Nat) : (bl s).drop (nextN s i) = skipL ((bl s).drop i) ∧ nextN s i ≤ s.size := by
  obtain ⟨p, hp⟩ := skip_suffix false ((bl s).drop i)
  have hs : bl s = ((bl s).take i ++ p) ++ skipL ((bl s).drop i) := by
    rw [List.append_assoc]
    have : p ++ skipL ((bl s).drop i) = (bl s).drop i := hp.symm
    rw [this, List.take_append_drop]
  have := (end_of hs).1
  rw [bl_len] at this
  exact ⟨this, by unfold nextN; omega⟩
theorem token_yes {s : ByteArray} {i : Nat} {t : Tok} {n : Nat} (hs : s.size ≤ 20000) (h0 : i < s.size) (ht : tokL ((bl s).drop i) = some (t, n)) : Hid (∀ w, Calls Tryd.prog 54 #[.string s, .int .i64 i] w fun e w' => e = .returned (.tuple #[.agg #[.int .i64 (t.op : Nat), .string (sb t.text), .int .i64 (t.n : Nat), .int .i64 0, .int .i64 0], .int .i64 (n : Nat)]) ∧ Below w.heap.size w w') := by
  intro w
  have := token_any s i (by omega) h0 w
  rw [ht] at this
  exact this
theorem token_not {s : ByteArray} {i : Nat} (hs : s.size ≤ 20000) (h0 : i < s.size) (ht : tokL ((bl s).drop i) = none) : Hid (∀ w, Calls Tryd.prog 54 #[.string s, .int .i64 i] w fun e w' => e = .returned (.tuple #[.agg #[.int .i64 0, .string ⟨#[]⟩, .int .i64 0, .int .i64 0, .int .i64 0], .int .i64 0]) ∧ Below w.heap.size w w') := by
  intro w
  have := token_any s i (by omega) h0 w
  rw [ht] at this
  exact this
/-- What Most returns: the tokens, and the fault's four parts. -/
def fltC (s : ByteArray) : Nat := match (lexM (bl s)).2 with | some _ => 10 | none => 0
def fltN (s : ByteArray) : ByteArray := match (lexM (bl s)).2 with | some r => s.extract (s.size - r) (s.size - r + 1) | none => ⟨#[]⟩
def fltP (s : ByteArray) : Nat × Nat := match (lexM (bl s)).2 with | some r => placeL ((bl s).take (s.size - r)) | none => (0, 0)
theorem place_le (p : List UInt8) : (placeL p).1 ≤ p.length + 1 ∧ (placeL p).2 ≤ p.length + 1 := by
  obtain ⟨h1, h2, r, k, h3, h4⟩ := place_at p
  refine ⟨?_, by omega⟩
  have key : ∀ (l : List UInt8) (k : Nat), (startsF k l).length ≤ l.length := by
    intro l
    induction l with
    | nil => intro k; exact Nat.le_refl _
    | cons c r ih =>
      intro k
      rw [startsF]
      split
      · rw [List.length_cons, List.length_cons]; have := ih (k + 1); omega
      · rw [List.length_cons]; have := ih (k + 1); omega
  rw [h1]
  unfold startsL
  rw [List.length_cons]
  have := key p 0
  omega
set_option maxRecDepth 100000 in
set_option maxHeartbeats 4000000 in
theorem most_any (s : ByteArray) (hs : s.size ≤ 20000) (w : World) :
    Calls Tryd.prog 30 #[.string s] w fun e w' => ∃ v, e = .returned (.tuple #[v, faultV (fltC s) (fltN s) (fltP s).1 (fltP s).2]) ∧ Tls w' v ((lexM (bl s)).1.map (mstA s)) ∧ (∀ B, v.ownBlock = some B → w.heap.size ≤ B) ∧ Below w.heap.size w w' := by
  have HN := Lib.hid (fun i hi w => next_any s i (by omega) hi w)
  have HP := Lib.hid (fun i hi w => place_any s i (by omega) hi w)
  go_enter Tryd.func30, Tryd.ntmps30
  go_wp2_with fail
  refine (next_any s 0 (by omega) (Nat.zero_le _) _).mono ?_
  rintro e w' ⟨rfl, rfl⟩
  obtain ⟨j0, hj0⟩ : ∃ j, j = nextN s 0 := ⟨_, rfl⟩
  obtain ⟨n1, n2⟩ := next_drop s 0
  rw [← hj0] at n1 n2 ⊢
  rw [List.drop_zero] at n1
  have HL0 : Hid (skipL ((bl s).drop j0) = (bl s).drop j0 ∧ lexM (bl s) = ([] ++ (lexM ((bl s).drop j0)).1, (lexM ((bl s).drop j0)).2)) := by
    refine ⟨by rw [n1, skip_idem], ?_⟩
    rw [n1, lex_skip]; rfl
  clear hj0 n1
  go_wp2_with fail
  go_loopw [4, 5] (fun v i wr => ∃ (j : Nat) (pre : List (Tok × Nat)), j ≤ s.size ∧ i = .int .i64 j ∧ OwnT wr (w.alloc (.cells #[.int .i64 0, .string ⟨#[]⟩, .int .i64 0, .int .i64 0] 27)).heap.size v (pre.map (mstA s)) ∧ pre.length ≤ j ∧ Below (w.alloc (.cells #[.int .i64 0, .string ⟨#[]⟩, .int .i64 0, .int .i64 0] 27)).heap.size (w.alloc (.cells #[.int .i64 0, .string ⟨#[]⟩, .int .i64 0, .int .i64 0] 27)) wr ∧ Hid (skipL ((bl s).drop j) = (bl s).drop j ∧ lexM (bl s) = (pre ++ (lexM ((bl s).drop j)).1, (lexM ((bl s).drop j)).2))) (fun _ i _ => s.size - (intOf i).toNat)
  case atStart => exact ⟨j0, [], n2, rfl, OwnT.nil _ (Nat.le_refl _), Nat.zero_le _, Below.refl _ _, HL0⟩
  case round =>
    obtain ⟨j, pre, hj, rfl, hown, hpl, hb, hr⟩ := hrel
    have HO := Lib.hid hown
    have HB := Lib.hid hb
    have HBs := Lib.hid hb.size
    clear hown hb HL0
    by_cases hlt : j < s.size
    · cases ht : tokL ((bl s).drop j) with
      | none =>
        have HT := token_not hs hlt ht
        obtain ⟨x, y, hxy⟩ : ∃ x y, placeL ((bl s).take j) = (x, y) := ⟨_, _, rfl⟩
        have HPj := Lib.hid (HP.out j hj)
        rw [hxy] at HPj
        have HE : Hid (lexM (bl s) = (pre, some (s.size - j))) := by
          show _ = _
          obtain ⟨r1, r2⟩ := hr.out
          have hne : skipL ((bl s).drop j) ≠ [] := by rw [r1, drop_at hlt]; simp
          rw [r2, lex_none hne (by rw [r1]; exact ht), r1, List.length_drop, bl_len, List.append_nil]
        have HXY := Lib.hid hxy
        clear ht hxy hr
        obtain ⟨j1, hj1⟩ : ∃ j1, j1 = j + 1 := ⟨_, rfl⟩
        have hjj : (j : Int) + 1 = (j1 : Int) := by omega
        have hj1s : j1 ≤ s.size := by omega
        have hjle : j ≤ j1 := by omega
        have HJ1 := Lib.hid hj1
        clear hj1
        go_wp2_with fail
        refine (HT.out _).mono ?_
        rintro e w1 ⟨rfl, hb1⟩
        have hbx := ((HB.out.trans (hb1.mono HBs.out)).alloc (Nat.le_trans HBs.out hb1.size) (.cells #[.int .i64 0, .string ⟨#[]⟩, .int .i64 0, .int .i64 0, .int .i64 0] 40))
        have HOw := Lib.hid ((HO.out.kept hb1).alloc (.cells #[.int .i64 0, .string ⟨#[]⟩, .int .i64 0, .int .i64 0, .int .i64 0] 40))
        obtain ⟨q0, q1, q2, q3, qf, hBw⟩ := flt_cells hbx
        obtain ⟨r0, r1, r2, r3, hbs, hcs⟩ := flt_store q0 q1 q2 q3 (.int .i64 10) (.string (s.extract j j1)) (.int .i64 (x : Nat)) (.int .i64 (y : Nat))
        have HBf := Lib.hid (hBw.trans hbs)
        have HTl := Lib.hid (HOw.out.tls.same (fun e => far HOw.out e) hcs)
        clear hbs hcs hBw hb1 hbx
        go_wp2_with fail
        refine (HPj.out _).mono ?_
        rintro e w' ⟨rfl, rfl⟩
        go_wp2_with fail
        go_region
        go_wp2
        (try simp only [Exit.inBlock, Exit.then])
        refine bodyPost_ret (by simp [results, Tryd.results30, go_sem, r0, r1, r2, r3]; try rfl) rfl ?_
        refine ⟨_, by rw [show fltC s = 10 by unfold fltC; rw [HE.out], show fltN s = s.extract j j1 by unfold fltN; rw [HE.out]; simp only; rw [show s.size - (s.size - j) = j by omega, HJ1.out], show fltP s = (x, y) by unfold fltP; rw [HE.out]; simp only; rw [show s.size - (s.size - j) = j by omega, HXY.out]]; rfl, ?_, fun B hB => Nat.le_trans (below_alloc w _).size ((HO.out.1.lt B hB).1), below_drewN HBf.out 1⟩
        rw [show (lexM (bl s)).1 = pre by rw [HE.out]]
        exact HTl.out.later (below_drewN (Below.refl _ _) 1)
      | some p =>
        obtain ⟨t, n⟩ := p
        have HT := token_yes hs hlt ht
        obtain ⟨_, f1, f2, _⟩ := tok_facts ht
        rw [List.length_drop, bl_len] at f2
        obtain ⟨j2, hj2⟩ : ∃ j2, j2 = j + n := ⟨_, rfl⟩
        have hjn : (j : Int) + (n : Int) = (j2 : Int) := by omega
        have hj2s : j2 ≤ s.size := by omega
        obtain ⟨x, y, hxy⟩ : ∃ x y, placeL ((bl s).take j) = (x, y) := ⟨_, _, rfl⟩
        have HPj := Lib.hid (HP.out j hj)
        rw [hxy] at HPj
        have hpb := place_le ((bl s).take j)
        rw [hxy, List.length_take, bl_len] at hpb
        have hx : x ≤ 20001 := by have := hpb.1; simp only at this; omega
        have hy : y ≤ 20001 := by have := hpb.2; simp only at this; omega
        have HNj := Lib.hid (HN.out j2 hj2s)
        obtain ⟨m1, m2⟩ := next_drop s j2
        have hmono : j2 ≤ nextN s j2 := by
          have h1 := skip_len false ((bl s).drop j2)
          rw [List.length_drop, bl_len] at h1
          have : (skipL ((bl s).drop j2)).length ≤ s.size - j2 := h1
          unfold nextN
          omega
        generalize nextN s j2 = j3 at *
        have hA : mstA s (t, s.size - j) = ⟨t.op, sb t.text, t.n, x, y⟩ := by
          unfold mstA
          simp only
          rw [show s.size - (s.size - j) = j by omega, hxy]
        have HR : Hid (skipL ((bl s).drop j3) = (bl s).drop j3 ∧ lexM (bl s) = ((pre ++ [(t, s.size - j)]) ++ (lexM ((bl s).drop j3)).1, (lexM ((bl s).drop j3)).2)) := by
          refine ⟨by rw [m1, skip_idem], ?_⟩
          obtain ⟨r1, r2⟩ := hr.out
          have e := lex_some (l := (bl s).drop j) (t := t) (n := n) (by rw [r1]; exact ht)
          rw [r1, List.drop_drop, List.length_drop, bl_len] at e
          rw [r2, e, m1, lex_skip, hj2, List.append_assoc]
          rfl
        have HA := Lib.hid hA
        have hn0 : ((n : Int) == 0) = false := by rw [beq_eq_false_iff_ne]; omega
        have hopn : t.op ≤ 7 ∨ True := .inr trivial
        clear ht f2 hxy hpb m1 hA hj2 hr hopn
        go_wp2_with fail
        refine (HT.out _).mono ?_
        rintro e w1 ⟨rfl, hb1⟩
        have HB1 := Lib.hid hb1
        clear hb1
        go_wp2_with fail
        refine (HPj.out _).mono ?_
        rintro e w' ⟨rfl, rfl⟩
        go_wp2_with (at_builtin; refine wpList_append_tok rfl _ _ rfl (w.alloc (.cells #[.int .i64 0, .string ⟨#[]⟩, .int .i64 0, .int .i64 0] 27)).heap.size _ _ (pre.map (mstA s)) [⟨t.op, sb t.text, t.n, x, y⟩] rfl rfl (((HO.out.kept HB1.out).alloc _).alloc _) (Tls.one (by simp [World.size_alloc])) (by rw [List.length_map, List.length_singleton]; omega) ?_; intro v2 w2 hown2 hb2; have HO2 := Lib.hid hown2; have HB2 := Lib.hid hb2; clear hown2 hb2)
        refine (HNj.out _).mono ?_
        rintro e w' ⟨rfl, rfl⟩
        have hbx := (((HB.out.trans (HB1.out.mono HBs.out)).alloc (Nat.le_trans HBs.out HB1.out.size) (.cells #[.int .i64 t.op, .string (sb t.text), .int .i64 t.n, .int .i64 x, .int .i64 y] 40)).alloc (Nat.le_trans (Nat.le_trans HBs.out HB1.out.size) (below_alloc _ _).size) (.cells #[.int .i64 t.op, .string (sb t.text), .int .i64 t.n, .int .i64 x, .int .i64 y] 40)).trans (HB2.out _ (Nat.le_refl _))
        have HBx := Lib.hid hbx
        have hown3 := HO2.out
        rw [show pre.map (mstA s) ++ [⟨t.op, sb t.text, t.n, x, y⟩] = (pre ++ [(t, s.size - j)]).map (mstA s) by rw [List.map_append, List.map_cons, HA.out, List.map_nil]] at hown3
        have HO3 := Lib.hid hown3
        clear hbx hown3
        go_wp2
        go_roundw
        case rel => exact ⟨j3, pre ++ [(t, s.size - j)], m2, rfl, HO3.out, by rw [List.length_append, List.length_singleton]; omega, HBx.out, HR⟩
        case measure => simp [intOf]; omega
    · have HE : Hid (lexM (bl s) = (pre, none)) := by
        show _ = _
        rw [hr.out.2, List.drop_of_length_le (by rw [bl_len]; omega)]
        rw [show lexM [] = ([], none) from rfl, List.append_nil]
      obtain ⟨q0, q1, q2, q3, qf, hBw⟩ := flt_cells HB.out
      obtain ⟨r0, r1, r2, r3, hbs, hcs⟩ := flt_store q0 q1 q2 q3 (.int .i64 0) (.string ⟨#[]⟩) (.int .i64 0) (.int .i64 0)
      have HBf := Lib.hid (hBw.trans hbs)
      have HT := Lib.hid (HO.out.tls.same (fun e => far HO.out e) hcs)
      clear hbs hcs hr hBw
      go_wp2
      (try simp only [Exit.inBlock, Exit.then])
      refine bodyPost_ret (by simp [results, Tryd.results30, go_sem, r0, r1, r2, r3]; try rfl) rfl ?_
      refine ⟨_, by rw [show fltC s = 0 by unfold fltC; rw [HE.out], show fltN s = ⟨#[]⟩ by unfold fltN; rw [HE.out], show fltP s = (0, 0) by unfold fltP; rw [HE.out]]; rfl, ?_, fun B hB => Nat.le_trans (below_alloc w _).size ((HO.out.1.lt B hB).1), HBf.out⟩
      rw [show (lexM (bl s)).1 = pre by rw [HE.out]]
      exact HT.out
end Go.Proofs.YtfjeljehodbbmaaDoor
