/- Rows of values: append of a row to a row of the call's own; a row of one value. -/
import Derived.Test.YtdiagnhdigakpaaGreatDoorUs
namespace Go.Proofs.YtdiagnhdigakpaaGreatDoor
open Go.RowKit

theorem ownV_append_row {S : Nat → Prop} {w : World} {base : Nat} {v : Value} {ls ys : List Va} (h : OwnV S w base v ls) {csy : List (List Value)} (hy1 : csy.length = ys.length) (hy2 : ∀ cs ∈ csy, cs.length = 4) (hx : ∀ (k : Nat) (h : k < ys.length) (h' : k < csy.length), VaP (fun b => S b ∧ v.ownBlock ≠ some b) w ys[k] csy[k])
    (b o : Nat) (hc : ∀ j, j < ys.length * 4 → w.cell? ⟨b, o + j, none⟩ = csy.flatten[j]?) (hl : ls.length + ys.length ≤ 100000) (c : Nat) (ty : TypeId) :
    ∃ v' w', (Builtin.append_ #[36, 36] ty #[v, .slice (some ⟨b, o, none⟩) ys.length c]).run Tryz.prog w = .ok v' w' ∧ OwnV S w' base v' (ls ++ ys) ∧ (∀ B, B ≤ base → Below B w w') ∧ w.grownBy w' v.ownBlock ∧ (v'.ownBlock = v.ownBlock ∨ v'.ownBlock = some w.heap.size) := by
  obtain ⟨⟨css, ho, h1, h2, h3⟩, hn, hB⟩ := h
  obtain ⟨i, hi, hz, hsize, hby⟩ := info_parts Tryz.infoVa
  have hlen : csy.flatten.length = ys.length * 4 := by rw [flat_len hy2, hy1]
  have hone : ∀ u ∈ csy.flatten, u.oneCell' = true := by
    intro u hu
    obtain ⟨cs, hcs, hu⟩ := List.mem_flatten.1 hu
    obtain ⟨k, hk, rfl⟩ := List.getElem_of_mem hcs
    exact (hx k (by omega) hk).one u hu
  obtain ⟨v', w', hrun, g2, g3, _, hg⟩ := run_append_own_at (P := Tryz.prog) w base 36 ty 38 i _ 4 64 Tryz.underlying36 hi hz hsize hby rfl (by decide) v ls.length css.flatten ho ⟨b, o, none⟩ ys.length c csy.flatten
    (by omega) (by
      intro j u hj
      have hj4 : j < ys.length * 4 := by
        rcases Nat.lt_or_ge j (ys.length * 4) with h | h
        · exact h
        · rw [List.getElem?_eq_none (by omega)] at hj; cases hj
      rw [add_at, hc j hj4, hj]) hone (by unfold maxLen; omega) (by omega) hB
  refine ⟨v', w', hrun, ⟨⟨css ++ csy, ?_, by simp [h1, hy1], ?_, ?_⟩, by simp; omega, Nat.le_trans hB g3.size⟩, fun B hb => ?_, g3, hg⟩
  · rw [List.length_append, List.flatten_append]
    simpa using g2
  · intro y hy
    rcases List.mem_append.1 hy with hy | hy
    · exact h2 y hy
    · exact hy2 y hy
  · intro k hk hk'
    have key : ∀ z cz, VaP (fun b => S b ∧ v.ownBlock ≠ some b) w z cz → VaP (fun b => S b ∧ v'.ownBlock ≠ some b) w' z cz := fun z cz hz => VaP.turn (fun b hb hlt => by
      refine ⟨⟨hb.1, ?_⟩, g3.block b hlt (fun e => hb.2 e.symm)⟩
      rcases hg with e | e
      · rw [e]; exact hb.2
      · rw [e]; intro e'; have := Option.some.inj e'; omega) _ _ hz
    by_cases hlt : k < ls.length
    · rw [List.getElem_append_left hlt, List.getElem_append_left (by omega)]
      exact key _ _ (h3 k hlt (by omega))
    · have hk2 : k < ls.length + ys.length := by simpa using hk
      rw [List.getElem_append_right (by omega), List.getElem_append_right (by omega)]
      have hx2 := hx (k - ls.length) (by omega) (by omega)
      simp only [h1]
      exact key _ _ hx2
  · exact (Below.refl _ _).grown g3 (by omega) fun k hk => by have := (ho.lt k hk).1; omega
theorem wpList_append_vas {S : Nat → Prop} {ops : Array Oper} {rest : List Oper} {o : Oper} {a : Act} {Q : Exit → Act → World → Prop} {w : World} (hgd : o.guard = none) (s y : Operand)
    (ho : o.op = .call { callee := .builtin .append, args := #[s, y], argTypes := #[36, 36] })
    (base : Nat) (v : Value) (ls ys : List Va) (csy : List (List Value)) (b off c : Nat) (hs : a.eval s = v) (hy : a.eval y = .slice (some ⟨b, off, none⟩) ys.length c) (hown : OwnV S w base v ls) (hy1 : csy.length = ys.length) (hy2 : ∀ cs ∈ csy, cs.length = 4) (hx : ∀ (k : Nat) (h : k < ys.length) (h' : k < csy.length), VaP (fun b => S b ∧ v.ownBlock ≠ some b) w ys[k] csy[k]) (hc : ∀ j, j < ys.length * 4 → w.cell? ⟨b, off + j, none⟩ = csy.flatten[j]?) (hl : ls.length + ys.length ≤ 100000)
    (h : ∀ v' w', OwnV S w' base v' (ls ++ ys) → (∀ B, B ≤ base → Below B w w') → w.grownBy w' v.ownBlock → (v'.ownBlock = v.ownBlock ∨ v'.ownBlock = some w.heap.size) → wpList Tryz.prog ops Q rest (a.put o.dst v') w') : wpList Tryz.prog ops Q (o :: rest) a w :=
  wpList_plain hgd fun K hK => by
    obtain ⟨v', w', hrun, h2, h3, h4, h5⟩ := ownV_append_row hown hy1 hy2 hx b off hc hl c o.type
    unfold Oper.wp execOp
    simp only [ho, resolve, invoke, builtin, Sem.run_bind, Sem.run_pure, Result.andThen_ok, List.map_toArray, List.map_cons, List.map_nil, hs, hy, hrun]
    exact hK _ _ (h v' w' h2 h3 h4 h5)
/-- The cells of a row of the call's own, by elements. -/
theorem OwnV.cells {S : Nat → Prop} {w : World} {base : Nat} {v : Value} {ls : List Va} (h : OwnV S w base v ls) (h0 : 0 < ls.length) : ∃ (g q : Nat) (css : List (List Value)), v = .slice (some ⟨g, 0, none⟩) ls.length q ∧ base ≤ g ∧ g < w.heap.size ∧ css.length = ls.length ∧ (∀ cs ∈ css, cs.length = 4) ∧ (∀ (k : Nat) (h : k < ls.length) (h' : k < css.length), VaP (fun b => S b ∧ b ≠ g) w ls[k] css[k]) ∧ ∀ j, j < ls.length * 4 → w.cell? ⟨g, 0 + j, none⟩ = css.flatten[j]? := by
  obtain ⟨⟨css, ho, h1, h2, h3⟩, hn, hB⟩ := h
  have hlt := ho.lt
  rcases ho.2 with ⟨_, e⟩ | ⟨g, cap, cur, rfl, _, _, hnc, _⟩
  · omega
  · obtain ⟨l1, l2⟩ := hlt g rfl
    refine ⟨g, cap, css, rfl, l1, l2, h1, h2, fun k hk hk' => (h3 k hk hk').mono fun b hb _ => ⟨hb.1, fun e => hb.2 (by rw [e]; rfl)⟩, fun j hj => ?_⟩
    rw [Nat.zero_add]
    exact ho.cellAt j hj
theorem OwnV.some {S : Nat → Prop} {w : World} {base : Nat} {v : Value} {ls : List Va} (h : OwnV S w base v ls) (h0 : 0 < ls.length) : ∃ g q, v = .slice (some ⟨g, 0, none⟩) ls.length q ∧ base ≤ g ∧ g < w.heap.size := by
  obtain ⟨g, q, _, e, h1, h2, _⟩ := h.cells h0
  exact ⟨g, q, e, h1, h2⟩
theorem ownV_one {S : Nat → Prop} {w : World} {base : Nat} {x : Va} {a0 a1 a2 a3 : Value} (hx : VaP S w x [a0, a1, a2, a3]) (hb : base ≤ w.heap.size) : OwnV S (w.alloc (.cells #[a0, a1, a2, a3] 38)) base (.slice (some ⟨w.heap.size, 0, none⟩) 1 1) [x] := by
  refine ⟨⟨[[a0, a1, a2, a3]], ⟨by simp, .inr ⟨w.heap.size, 1, _, rfl, hb, heap_alloc_new w _, Nat.le_refl _, by decide, rfl, by simp⟩⟩, rfl, by simp, fun k hk hk' => ?_⟩, by simp, by rw [World.size_alloc]; omega⟩
  have : k = 0 := by simp at hk; omega
  subst this
  exact (hx.mono (S' := fun b => S b ∧ (Value.slice (some ⟨w.heap.size, 0, none⟩) 1 1).ownBlock ≠ some b) fun b hb' hl => ⟨hb', fun e => by have e' : w.heap.size = b := Option.some.inj e; omega⟩).later (below_alloc _ _)
end Go.Proofs.YtdiagnhdigakpaaGreatDoor
