/- Rows of tokens of the call's own: what they read as, append to them; the contract of the laws' own copied. -/
import Derived.Test.YtfjeljehodbbmaaDoorTm
import Derived.Laws.OwnMore
import Derived.OwnWalk
namespace Go.Proofs.YtfjeljehodbbmaaDoor
open Go.RowKit

def TokA.cells (a : TokA) : List Value := [.int .i64 a.op, .string a.text, .int .i64 a.n, .int .i64 a.line, .int .i64 a.col]
def rowT (l : List TokA) : List Value := l.flatMap TokA.cells
theorem rowT_len (l : List TokA) : (rowT l).length = l.length * 5 := by
  induction l with
  | nil => rfl
  | cons a l ih => unfold rowT at *; rw [List.flatMap_cons, List.length_append, ih, List.length_cons]; simp [TokA.cells]; omega
theorem rowT_get {l : List TokA} {k : Nat} (h : k < l.length) (f : Nat) (hf : f < 5) : (rowT l)[k * 5 + f]? = (l[k].cells)[f]? := by
  induction l generalizing k with
  | nil => cases h
  | cons a l ih =>
    have e : rowT (a :: l) = a.cells ++ rowT l := by unfold rowT; rw [List.flatMap_cons]
    have h5 : a.cells.length = 5 := rfl
    cases k with
    | zero =>
      rw [e, List.getElem?_append_left (by omega)]
      simp
    | succ k =>
      rw [e, List.getElem?_append_right (by omega), h5, show (k + 1) * 5 + f - 5 = k * 5 + f by omega, ih (by rw [List.length_cons] at h; omega)]
      rfl
theorem Tryd.infoTok : (Tryd.prog.info? 40).map (fun i => (i.zero, i.size, i.bytes)) = some (some (.agg #[.int .i64 0, .string ⟨#[]⟩, .int .i64 0, .int .i64 0, .int .i64 0]), 5, 48) := by kernel_rfl
/-- v is a slice of the call's own with these tokens. -/
def OwnT (w : World) (base : Nat) (v : Value) (l : List TokA) : Prop :=
  w.ownsRow base 40 5 v l.length (rowT l) ∧ l.length ≤ 100000000 ∧ base ≤ w.heap.size
theorem OwnT.nil (w : World) {base : Nat} (h : base ≤ w.heap.size) : OwnT w base (.slice none 0 0) [] := ⟨World.ownsRow_nil _ _ _ _, by simp, h⟩
theorem OwnT.empty (w : World) : OwnT (w.alloc (.cells #[] 40)) w.heap.size (.slice (some ⟨w.heap.size, 0, none⟩) 0 0) [] :=
  ⟨World.ownsRow_made w #[] 0 (Nat.le_refl _) (by decide) rfl, by simp, by simp⟩
theorem OwnT.tls {w : World} {base : Nat} {v : Value} {l : List TokA} (h : OwnT w base v l) : Tls w v l := by
  obtain ⟨ho, hn, _⟩ := h
  rcases ho.2 with ⟨e, h0⟩ | ⟨g, cap, cur, e, _, _, hnc, _⟩
  · have : l = [] := List.eq_nil_of_length_eq_zero h0
    subst this
    exact ⟨none, 0, e, by simp, by simp, .inl rfl⟩
  · subst e
    refine ⟨_, cap, rfl, hnc, by omega, .inr ⟨g, 0, rfl, fun k hk => ?_⟩⟩
    have c : ∀ f, f < 5 → w.cell? ⟨g, 0 + k * 5 + f, none⟩ = (l[k].cells)[f]? := by
      intro f hf
      rw [Nat.zero_add, ho.cellAt (k * 5 + f) (by omega), rowT_get hk f hf]
    exact ⟨c 0 (by omega), c 1 (by omega), c 2 (by omega), c 3 (by omega), c 4 (by omega)⟩
theorem OwnT.kept {w w' : World} {base : Nat} {v : Value} {l : List TokA} (h : OwnT w base v l) (hb : Below w.heap.size w w') : OwnT w' base v l := by
  obtain ⟨ho, hn, hB⟩ := h
  refine ⟨?_, hn, Nat.le_trans hB hb.size⟩
  have hg : w.grownBy w' none := ⟨hb.os, hb.tape, hb.output, hb.size, fun k hk _ => hb.block k hk⟩
  rcases ho.2 with ⟨e, _⟩ | ⟨g, cap, cur, e, _⟩
  · exact ho.kept hg (.inl (by rw [e]; rfl))
  · exact ho.kept hg (.inr (by rw [e]; simp [Value.ownBlock]))
theorem below_of_grown5 {w w' : World} {B base : Nat} {v : Value} {e : TypeId} {n : Nat} {xs : List Value} (ho : w.ownsRow base e 5 v n xs) (hg : w.grownBy w' v.ownBlock) (hB : B ≤ base) (hb : base ≤ w.heap.size) : Below B w w' :=
  (Below.refl _ _).grown hg (by omega) fun k hk => by have := (ho.lt k hk).1; omega
theorem run_append_none {P : Program} (w : World) (base : Nat) (t ty e : TypeId) (i : TypeInfo) (size : Nat) (ht : P.underlying t = some (.slice e)) (hi : P.info? e = some i)
    (v : Value) (n : Nat) (xs : List Value) (hown : w.ownsRow base e size v n xs) (c : Nat) : (Builtin.append_ #[t, t] ty #[v, .slice none 0 c]).run P w = .ok v w := by
  rcases hown.2 with ⟨rfl, rfl⟩ | ⟨g, cap, cur, rfl, _, _, hnc, _⟩
  · simp [Builtin.append_, run_underlying ht, sizeOf, typeInfo, hi, Builtin.lenOf, Builtin.firstCells]
  · simp [Builtin.append_, run_underlying ht, sizeOf, typeInfo, hi, Builtin.lenOf, Builtin.firstCells, hnc, storeCells]
theorem rowT_append (l m : List TokA) : rowT (l ++ m) = rowT l ++ rowT m := by unfold rowT; rw [List.flatMap_append]
set_option maxRecDepth 100000 in
theorem run_append_tok (w : World) (base : Nat) (ty : TypeId) (v u : Value) (l m : List TokA) (hown : OwnT w base v l) (hu : Tls w u m) (hl : l.length + m.length ≤ 100000000) :
    ∃ v' w', (Builtin.append_ #[24, 24] ty #[v, u]).run Tryd.prog w = .ok v' w' ∧ OwnT w' base v' (l ++ m) ∧ ∀ B, B ≤ base → Below B w w' := by
  obtain ⟨i, hi, hz, hsize, hby⟩ := info_parts Tryd.infoTok
  obtain ⟨ho, hn, hB⟩ := hown
  obtain ⟨A, c, rfl, hq, hn', hc⟩ := hu
  rcases A with _ | ad
  · have h0 : m = [] := by
      rcases hc with h | ⟨b, off, e, _⟩
      · exact h
      · cases e
    subst h0
    exact ⟨v, w, run_append_none w base _ ty _ i 5 Tryd.underlying24 hi v _ _ ho c, ⟨by simpa using ho, by simpa using hn, hB⟩, fun B _ => Below.refl _ _⟩
  · have hcells : ∀ j u, (rowT m)[j]? = some u → w.cell? (ad.add j) = some u := by
      intro j u hj
      have hlt : j < m.length * 5 := by
        rcases Nat.lt_or_ge j (m.length * 5) with h | h
        · exact h
        · rw [List.getElem?_eq_none (by rw [rowT_len]; exact h)] at hj; cases hj
      have hk : j / 5 < m.length := by omega
      have hj5 : j = (j / 5) * 5 + j % 5 := by omega
      rw [hj5, rowT_get hk (j % 5) (Nat.mod_lt _ (by omega))] at hj
      rcases hc with rfl | ⟨b, off, e, hc⟩
      · exact absurd hk (by simp)
      · obtain rfl := Option.some.inj e
        obtain ⟨c0, c1, c2, c3, c4⟩ := hc (j / 5) hk
        have key : w.cell? ⟨b, off + j, none⟩ = some u := by
          have hm : j % 5 = 0 ∨ j % 5 = 1 ∨ j % 5 = 2 ∨ j % 5 = 3 ∨ j % 5 = 4 := by omega
          rcases hm with h | h | h | h | h
          · rw [h] at hj; have hj := Option.some.inj hj; rw [show off + j = off + j / 5 * 5 by omega, c0, ← hj]
          · rw [h] at hj; have hj := Option.some.inj hj; rw [show off + j = off + j / 5 * 5 + 1 by omega, c1, ← hj]
          · rw [h] at hj; have hj := Option.some.inj hj; rw [show off + j = off + j / 5 * 5 + 2 by omega, c2, ← hj]
          · rw [h] at hj; have hj := Option.some.inj hj; rw [show off + j = off + j / 5 * 5 + 3 by omega, c3, ← hj]
          · rw [h] at hj; have hj := Option.some.inj hj; rw [show off + j = off + j / 5 * 5 + 4 by omega, c4, ← hj]
        unfold Addr.add
        by_cases h0 : j = 0
        · subst h0; simpa using key
        · simpa [h0] using key
    obtain ⟨v', w', hrun, h2, h3, _, h5⟩ := run_append_own_at (P := Tryd.prog) w base 24 ty 40 i _ 5 48 Tryd.underlying24 hi hz hsize hby rfl (by decide) v l.length (rowT l) ho ad m.length c (rowT m)
      (rowT_len m) hcells (by
        intro u hu
        unfold rowT at hu
        obtain ⟨a, _, ha⟩ := List.mem_flatMap.1 hu
        simp only [TokA.cells, List.mem_cons, List.not_mem_nil, or_false] at ha
        rcases ha with rfl | rfl | rfl | rfl | rfl <;> rfl) (by unfold maxLen; omega) (by omega) hB
    refine ⟨v', w', hrun, ⟨?_, ?_, Nat.le_trans hB h3.size⟩, fun B hb => below_of_grown5 ho h3 hb hB⟩
    · rw [List.length_append, rowT_append]; exact h2
    · rw [List.length_append]; exact hl
theorem wpList_append_tok {ops : Array Oper} {rest : List Oper} {o : Oper} {a : Act} {Q : Exit → Act → World → Prop} {w : World} (hgd : o.guard = none) (s x : Operand)
    (ho : o.op = .call { callee := .builtin .append, args := #[s, x], argTypes := #[24, 24] })
    (base : Nat) (v u : Value) (l m : List TokA) (hs : a.eval s = v) (hx : a.eval x = u) (hown : OwnT w base v l) (hu : Tls w u m) (hl : l.length + m.length ≤ 100000000)
    (h : ∀ v' w', OwnT w' base v' (l ++ m) → (∀ B, B ≤ base → Below B w w') → wpList Tryd.prog ops Q rest (a.put o.dst v') w') : wpList Tryd.prog ops Q (o :: rest) a w :=
  wpList_plain hgd fun K hK => by
    obtain ⟨v', w', hrun, h2, h3⟩ := run_append_tok w base o.type v u l m hown hu hl
    unfold Oper.wp execOp
    simp only [ho, resolve, invoke, builtin, Sem.run_bind, Sem.run_pure, Result.andThen_ok, List.map_toArray, List.map_cons, List.map_nil, hs, hx, hrun]
    exact hK _ _ (h v' w' h2 h3)
set_option maxHeartbeats 1000000 in
theorem tcopied_any (v : Value) (l : List TokA) (w : World) (h : Tls w v l) (hl : l.length ≤ 100000000) :
    Calls Tryd.prog 17 #[v] w fun e w' => ∃ u, e = .returned u ∧ OwnT w' w.heap.size u l ∧ Below w.heap.size w w' := by
  have hS := Lib.hid h
  obtain ⟨A, c, rfl, hq, hn, hc⟩ := h
  clear hc
  go_enter Tryd.func17, Tryd.ntmps17
  go_wp2_with (at_builtin; refine wpList_append_tok rfl _ _ rfl w.heap.size _ _ [] l rfl rfl (OwnT.empty w) (hS.out.later (below_alloc _ _)) (by simpa using hl) ?_; intro v' w' hown hb)
  go_ret
  exact ⟨_, rfl, hown, (below_alloc _ _).trans (hb _ (Nat.le_refl _))⟩
end Go.Proofs.YtfjeljehodbbmaaDoor
