/- Rows of ints of the call's own: what they read as, append to them. -/
import Derived.Test.YtfjeljehodbbmaaDoorTo
namespace Go.Proofs.YtfjeljehodbbmaaDoor
open Go.RowKit

def intCells (l : List Nat) : List Value := l.map fun (x : Nat) => .int .i64 (x : Int)
theorem intCells_len (l : List Nat) : (intCells l).length = l.length := List.length_map ..
theorem intCells_get {l : List Nat} {k : Nat} (h : k < l.length) : (intCells l)[k]? = some (.int .i64 (l[k] : Nat)) := by
  unfold intCells
  rw [List.getElem?_map, List.getElem?_eq_getElem h]; rfl
theorem Tryd.infoInt : (Tryd.prog.info? 3).map (fun i => (i.zero, i.size, i.bytes)) = some (some (.int .i64 0), 1, 8) := by kernel_rfl
/-- v is a slice of the call's own with these numbers. -/
def OwnI (w : World) (base : Nat) (v : Value) (l : List Nat) : Prop :=
  w.ownsRow base 3 1 v l.length (intCells l) ∧ l.length ≤ 100000000 ∧ base ≤ w.heap.size
theorem OwnI.one (w : World) (z : Nat) : OwnI (w.alloc (.cells #[.int .i64 (z : Nat)] 3)) w.heap.size (.slice (some ⟨w.heap.size, 0, none⟩) 1 1) [z] :=
  ⟨World.ownsRow_lit w #[.int .i64 (z : Nat)] 1 (Nat.le_refl _) (by decide) rfl, by simp, by simp⟩
theorem OwnI.cells {w : World} {base : Nat} {v : Value} {l : List Nat} (h : OwnI w base v l) (hne : l ≠ []) : ∃ g c, v = .slice (some ⟨g, 0, none⟩) l.length c ∧ base ≤ g ∧ ∀ (k : Nat) (hk : k < l.length), w.cell? ⟨g, k, none⟩ = some (.int .i64 (l[k] : Nat)) := by
  obtain ⟨ho, hn, hB⟩ := h
  rcases ho.2 with ⟨_, h0⟩ | ⟨g, cap, cur, e, hbg, _, hnc, _⟩
  · exact absurd (List.eq_nil_of_length_eq_zero h0) hne
  · subst e
    refine ⟨g, cap, rfl, hbg, fun k hk => ?_⟩
    rw [ho.cellAt k (by omega)]
    exact intCells_get hk
theorem OwnI.kept {w w' : World} {base : Nat} {v : Value} {l : List Nat} (h : OwnI w base v l) (hb : Below w.heap.size w w') : OwnI w' base v l := by
  obtain ⟨ho, hn, hB⟩ := h
  refine ⟨?_, hn, Nat.le_trans hB hb.size⟩
  have hg : w.grownBy w' none := ⟨hb.os, hb.tape, hb.output, hb.size, fun k hk _ => hb.block k hk⟩
  rcases ho.2 with ⟨e, _⟩ | ⟨g, cap, cur, e, _⟩
  · exact ho.kept hg (.inl (by rw [e]; rfl))
  · exact ho.kept hg (.inr (by rw [e]; simp [Value.ownBlock]))
theorem below_of_grown1 {w w' : World} {B base : Nat} {v : Value} {e : TypeId} {n : Nat} {xs : List Value} (ho : w.ownsRow base e 1 v n xs) (hg : w.grownBy w' v.ownBlock) (hB : B ≤ base) (hb : base ≤ w.heap.size) : Below B w w' :=
  (Below.refl _ _).grown hg (by omega) fun k hk => by have := (ho.lt k hk).1; omega
set_option maxRecDepth 100000 in
theorem run_append_one (w : World) (base : Nat) (ty : TypeId) (v : Value) (l : List Nat) (b z : Nat) (hown : OwnI w base v l) (hb : w.cell? ⟨b, 0, none⟩ = some (.int .i64 (z : Nat))) (hl : l.length + 1 ≤ 100000000) :
    ∃ v' w', (Builtin.append_ #[45, 45] ty #[v, .slice (some ⟨b, 0, none⟩) 1 1]).run Tryd.prog w = .ok v' w' ∧ OwnI w' base v' (l ++ [z]) ∧ ∀ B, B ≤ base → Below B w w' := by
  obtain ⟨i, hi, hz, hsize, hby⟩ := info_parts Tryd.infoInt
  obtain ⟨ho, hn, hB⟩ := hown
  have hcells : ∀ j u, (intCells [z])[j]? = some u → w.cell? ((Addr.mk b 0 none).add j) = some u := by
    intro j u hj
    have hlt : j < 1 := by
      rcases Nat.lt_or_ge j 1 with h | h
      · exact h
      · rw [List.getElem?_eq_none (by rw [intCells_len]; exact h)] at hj; cases hj
    have : j = 0 := by omega
    subst this
    rw [intCells_get (by simp)] at hj
    injection hj with hj
    rw [← hj]
    exact hb
  obtain ⟨v', w', hrun, h2, h3, _, h5⟩ := run_append_own_at (P := Tryd.prog) w base 45 ty 3 i _ 1 8 Tryd.underlying45 hi hz hsize hby rfl (by decide) v l.length (intCells l) ho ⟨b, 0, none⟩ 1 1 (intCells [z])
    rfl hcells (by intro u hu; simp [intCells] at hu; subst hu; rfl) (by unfold maxLen; omega) (by omega) hB
  refine ⟨v', w', hrun, ⟨?_, ?_, Nat.le_trans hB h3.size⟩, fun B hb => below_of_grown1 ho h3 hb hB⟩
  · rw [List.length_append, show intCells (l ++ [z]) = intCells l ++ intCells [z] by simp [intCells]]; exact h2
  · rw [List.length_append]; exact hl
theorem wpList_append_int {ops : Array Oper} {rest : List Oper} {o : Oper} {a : Act} {Q : Exit → Act → World → Prop} {w : World} (hgd : o.guard = none) (s x : Operand)
    (ho : o.op = .call { callee := .builtin .append, args := #[s, x], argTypes := #[45, 45] })
    (base : Nat) (v : Value) (l : List Nat) (b z : Nat) (hs : a.eval s = v) (hx : a.eval x = .slice (some ⟨b, 0, none⟩) 1 1) (hown : OwnI w base v l) (hb : w.cell? ⟨b, 0, none⟩ = some (.int .i64 (z : Nat))) (hl : l.length + 1 ≤ 100000000)
    (h : ∀ v' w', OwnI w' base v' (l ++ [z]) → (∀ B, B ≤ base → Below B w w') → wpList Tryd.prog ops Q rest (a.put o.dst v') w') : wpList Tryd.prog ops Q (o :: rest) a w :=
  wpList_plain hgd fun K hK => by
    obtain ⟨v', w', hrun, h2, h3⟩ := run_append_one w base o.type v l b z hown hb hl
    unfold Oper.wp execOp
    simp only [ho, resolve, invoke, builtin, Sem.run_bind, Sem.run_pure, Result.andThen_ok, List.map_toArray, List.map_cons, List.map_nil, hs, hx, hrun]
    exact hK _ _ (h v' w' h2 h3)
end Go.Proofs.YtfjeljehodbbmaaDoor
