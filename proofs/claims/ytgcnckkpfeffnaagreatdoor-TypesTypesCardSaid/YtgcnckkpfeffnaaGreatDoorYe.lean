/- Rows of types: append of a row to a row of the call's own. -/
import Derived.Test.YtgcnckkpfeffnaaGreatDoorUs
namespace Go.Proofs.YtgcnckkpfeffnaaGreatDoor
open Go.RowKit

theorem ownT_append_row {S : Nat → Prop} {w : World} {base : Nat} {v : Value} {ls ys : List Ty} (h : OwnT S w base v ls) {csy : List (List Value)} (hy1 : csy.length = ys.length) (hy2 : ∀ cs ∈ csy, cs.length = 5) (hx : ∀ (k : Nat) (h : k < ys.length) (h' : k < csy.length), TyP (fun b => S b ∧ v.ownBlock ≠ some b) w ys[k] csy[k])
    (b o : Nat) (hc : ∀ j, j < ys.length * 5 → w.cell? ⟨b, o + j, none⟩ = csy.flatten[j]?) (hl : ls.length + ys.length ≤ 100000) (c : Nat) (ty : TypeId) :
    ∃ v' w', (Builtin.append_ #[24, 24] ty #[v, .slice (some ⟨b, o, none⟩) ys.length c]).run Tryz.prog w = .ok v' w' ∧ OwnT S w' base v' (ls ++ ys) ∧ (∀ B, B ≤ base → Below B w w') ∧ w.grownBy w' v.ownBlock ∧ (v'.ownBlock = v.ownBlock ∨ v'.ownBlock = some w.heap.size) := by
  obtain ⟨⟨css, ho, h1, h2, h3⟩, hn, hB⟩ := h
  obtain ⟨i, hi, hz, hsize, hby⟩ := info_parts Tryz.infoTy
  have hlen : csy.flatten.length = ys.length * 5 := by rw [flat5_len hy2, hy1]
  have hone : ∀ u ∈ csy.flatten, u.oneCell' = true := by
    intro u hu
    obtain ⟨cs, hcs, hu⟩ := List.mem_flatten.1 hu
    obtain ⟨k, hk, rfl⟩ := List.getElem_of_mem hcs
    exact (hx k (by omega) hk).one u hu
  obtain ⟨v', w', hrun, g2, g3, _, hg⟩ := run_append_own_at (P := Tryz.prog) w base 24 ty 26 i _ 5 80 Tryz.underlying24 hi hz hsize hby rfl (by decide) v ls.length css.flatten ho ⟨b, o, none⟩ ys.length c csy.flatten
    (by omega) (by
      intro j u hj
      have hj4 : j < ys.length * 5 := by
        rcases Nat.lt_or_ge j (ys.length * 5) with h | h
        · exact h
        · rw [List.getElem?_eq_none (by omega)] at hj; cases hj
      rw [add_at, hc j hj4, hj]) hone (by unfold maxLen; omega) (by omega) hB
  refine ⟨v', w', hrun, ⟨⟨css ++ csy, ?_, by simp [h1, hy1], ?_, ?_⟩, by simp; omega, Nat.le_trans hB g3.size⟩, fun B hb => ?_, g3, hg⟩
  · rw [List.length_append, List.flatten_append]
    simpa using g2
  · intro y hy
    rcases List.mem_append.1 hy with hy | hy
    · exact h2 y hy
    · exact hy2 y hy
  · intro k hk hk'
    have key : ∀ z cz, TyP (fun b => S b ∧ v.ownBlock ≠ some b) w z cz → TyP (fun b => S b ∧ v'.ownBlock ≠ some b) w' z cz := fun z cz hz => TyP.turn (fun b hb hlt => by
      refine ⟨⟨hb.1, ?_⟩, g3.block b hlt (fun e => hb.2 e.symm)⟩
      rcases hg with e | e
      · rw [e]; exact hb.2
      · rw [e]; intro e'; have := Option.some.inj e'; omega) _ _ hz
    by_cases hlt : k < ls.length
    · rw [List.getElem_append_left hlt, List.getElem_append_left (by omega)]
      exact key _ _ (h3 k hlt (by omega))
    · have hk2 : k < ls.length + ys.length := by simpa using hk
      rw [List.getElem_append_right (by omega), List.getElem_append_right (by omega)]
      have hx2 := hx (k - ls.length) (by omega) (by omega)
      simp only [h1]
      exact key _ _ hx2
  · exact (Below.refl _ _).grown g3 (by omega) fun k hk => by have := (ho.lt k hk).1; omega
theorem wpList_append_tys {S : Nat → Prop} {ops : Array Oper} {rest : List Oper} {o : Oper} {a : Act} {Q : Exit → Act → World → Prop} {w : World} (hgd : o.guard = none) (s y : Operand)
    (ho : o.op = .call { callee := .builtin .append, args := #[s, y], argTypes := #[24, 24] })
    (base : Nat) (v : Value) (ls ys : List Ty) (csy : List (List Value)) (b off c : Nat) (hs : a.eval s = v) (hy : a.eval y = .slice (some ⟨b, off, none⟩) ys.length c) (hown : OwnT S w base v ls) (hy1 : csy.length = ys.length) (hy2 : ∀ cs ∈ csy, cs.length = 5) (hx : ∀ (k : Nat) (h : k < ys.length) (h' : k < csy.length), TyP (fun b => S b ∧ v.ownBlock ≠ some b) w ys[k] csy[k]) (hc : ∀ j, j < ys.length * 5 → w.cell? ⟨b, off + j, none⟩ = csy.flatten[j]?) (hl : ls.length + ys.length ≤ 100000)
    (h : ∀ v' w', OwnT S w' base v' (ls ++ ys) → (∀ B, B ≤ base → Below B w w') → w.grownBy w' v.ownBlock → (v'.ownBlock = v.ownBlock ∨ v'.ownBlock = some w.heap.size) → wpList Tryz.prog ops Q rest (a.put o.dst v') w') : wpList Tryz.prog ops Q (o :: rest) a w :=
  wpList_plain hgd fun K hK => by
    obtain ⟨v', w', hrun, h2, h3, h4, h5⟩ := ownT_append_row hown hy1 hy2 hx b off hc hl c o.type
    unfold Oper.wp execOp
    simp only [ho, resolve, invoke, builtin, Sem.run_bind, Sem.run_pure, Result.andThen_ok, List.map_toArray, List.map_cons, List.map_nil, hs, hy, hrun]
    exact hK _ _ (h v' w' h2 h3 h4 h5)
/-- The cells of a row of the call's own, by elements. -/
theorem OwnT.cells {S : Nat → Prop} {w : World} {base : Nat} {v : Value} {ls : List Ty} (h : OwnT S w base v ls) (h0 : 0 < ls.length) : ∃ (g q : Nat) (css : List (List Value)), v = .slice (some ⟨g, 0, none⟩) ls.length q ∧ base ≤ g ∧ g < w.heap.size ∧ css.length = ls.length ∧ (∀ cs ∈ css, cs.length = 5) ∧ (∀ (k : Nat) (h : k < ls.length) (h' : k < css.length), TyP (fun b => S b ∧ b ≠ g) w ls[k] css[k]) ∧ ∀ j, j < ls.length * 5 → w.cell? ⟨g, 0 + j, none⟩ = css.flatten[j]? := by
  obtain ⟨⟨css, ho, h1, h2, h3⟩, hn, hB⟩ := h
  have hlt := ho.lt
  rcases ho.2 with ⟨_, e⟩ | ⟨g, cap, cur, rfl, _, _, hnc, _⟩
  · omega
  · obtain ⟨l1, l2⟩ := hlt g rfl
    refine ⟨g, cap, css, rfl, l1, l2, h1, h2, fun k hk hk' => (h3 k hk hk').mono fun b hb _ => ⟨hb.1, fun e => hb.2 (by rw [e]; rfl)⟩, fun j hj => ?_⟩
    rw [Nat.zero_add]
    exact ho.cellAt j hj
end Go.Proofs.YtgcnckkpfeffnaaGreatDoor
