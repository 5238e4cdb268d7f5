/- Slices of slices of the call's own; the argument of LogicJoins. -/
import Derived.Test.YtaeehejnifhaaaaDoorJoin3
import Derived.Test.YtaeehejnifhaaaaDoorKnown1
import Derived.Deep.Slices
namespace Go.Proofs.YtaeehejnifhaaaaDoor
open Go.RowKit

theorem Tryd.infoSl : (Tryd.prog.info? 31).map (fun i => (i.zero, i.size, i.bytes)) = some (some (.slice none 0 0), 1, 24) := by kernel_rfl

/-- v is a slice of the call's own whose elements are slices of the call's own. -/
def OwnS (w : World) (base : Nat) (v : Value) (zss : List (List Nat)) : Prop :=
  ∃ us : List Value, w.ownsRow base 31 1 v zss.length us ∧ (∀ (i : Nat) (h : i < zss.length), ∃ u, us[i]? = some u ∧ Own w base u zss[i]) ∧ zss.length ≤ 1000 ∧ base ≤ w.heap.size

theorem OwnS.nil (w : World) {base : Nat} (h : base ≤ w.heap.size) : OwnS w base (.slice none 0 0) [] := ⟨[], World.ownsRow_nil _ _ _ _, fun i hi => by simp at hi, by simp, h⟩
theorem OwnS.kept {w w' : World} {base : Nat} {v : Value} {zss : List (List Nat)} (h : OwnS w base v zss) (hb : Below w.heap.size w w') : OwnS w' base v zss := by
  obtain ⟨us, ho, hu, hn, hB⟩ := h
  have hg : w.grownBy w' none := ⟨hb.os, hb.tape, hb.output, hb.size, fun k hk _ => hb.block k hk⟩
  refine ⟨us, ?_, fun i hi => ?_, hn, Nat.le_trans hB hb.size⟩
  · rcases ho.2 with ⟨e, _⟩ | ⟨g, cap, cur, e, _⟩
    · exact ho.kept hg (.inl (by rw [e]; rfl))
    · exact ho.kept hg (.inr (by rw [e]; simp [Value.ownBlock]))
  · obtain ⟨u, h1, h2⟩ := hu i hi
    exact ⟨u, h1, h2.kept hb⟩
theorem OwnS.sls {w : World} {base : Nat} {v : Value} {zss : List (List Nat)} (h : OwnS w base v zss) : Sls w v zss ∧ ∃ A cp, v = .slice A zss.length cp ∧ zss.length ≤ cp := by
  obtain ⟨us, ho, hu, hn, _⟩ := h
  by_cases h0 : zss = []
  · subst h0
    rcases ho.2 with ⟨e, _⟩ | ⟨g, cap, cur, e, _⟩
    · exact ⟨⟨none, 0, e, by simp, .inl rfl⟩, none, 0, e, by simp⟩
    · exact ⟨⟨_, cap, e, by simp, .inl rfl⟩, _, cap, e, by simp⟩
  · have hpos : 0 < zss.length := List.length_pos_iff.2 h0
    rcases ho.2 with ⟨e, he⟩ | ⟨g, cap, cur, e, _, _, hc, _⟩
    · omega
    · subst e
      refine ⟨⟨_, cap, rfl, by omega, .inr ⟨g, 0, rfl, fun k hk => ?_⟩⟩, _, cap, rfl, hc⟩
      obtain ⟨u, h1, h2⟩ := hu k hk
      exact ⟨u, by rw [Nat.zero_add, ho.cellAt k (by omega), h1], h2.sl⟩
theorem Own.weaken {w : World} {base base' : Nat} {v : Value} {zs : List Nat} (h : Own w base v zs) (hb : base' ≤ base) : Own w base' v zs := by
  obtain ⟨ho, hn, hz, hB⟩ := h
  refine ⟨⟨ho.1, ?_⟩, hn, hz, Nat.le_trans hb hB⟩
  rcases ho.2 with h | ⟨g, cap, cur, e, h1, h2⟩
  · exact .inl h
  · exact .inr ⟨g, cap, cur, e, Nat.le_trans hb h1, h2⟩
/-- A slice of bits and a slice of slices never share a block. -/
theorem own_ne {w : World} {base base' n : Nat} {u v : Value} {zs : List Nat} {xs : List Value} (hu : Own w base u zs) (hv : w.ownsRow base' 31 1 v n xs) : u.ownBlock = none ∨ u.ownBlock ≠ v.ownBlock := by
  rcases hu.1.2 with ⟨rfl, _⟩ | ⟨g, cap, cur, rfl, _, h1, _⟩
  · exact .inl rfl
  · right
    rcases hv.2 with ⟨rfl, _⟩ | ⟨g', cap', cur', rfl, _, h2, _⟩
    · simp [Value.ownBlock]
    · intro he
      simp [Value.ownBlock] at he
      subst he
      rw [h1] at h2
      injection h2 with h2
      injection h2 with _ h3
      exact absurd h3 (by decide)

theorem run_append_s (w : World) (base : Nat) (ty : TypeId) (v u : Value) (zss : List (List Nat)) (z : List Nat) (hown : OwnS w base v zss) (hu : Own w base u z) (hl : zss.length < 1000) :
    ∃ v' w', (Builtin.append_ #[45, 45] ty #[v, .slice (some ⟨w.heap.size, 0, none⟩) 1 1]).run Tryd.prog (w.alloc (.cells #[u] 31)) = .ok v' w' ∧ OwnS w' base v' (zss ++ [z]) ∧ ∀ B, B ≤ base → Below B w w' := by
  obtain ⟨i, hi, hz, hsize, hby⟩ := info_parts Tryd.infoSl
  have hba := below_alloc w (.cells #[u] 31)
  obtain ⟨us, ho, hus, hn, hB⟩ := hown.kept hba
  have hua := hu.kept hba
  have hcell : (w.alloc (.cells #[u] 31)).cell? ⟨w.heap.size, 0, none⟩ = some u := by rw [World.cell?_alloc_at _ _ _ _ rfl]; rfl
  have hone : u.oneCell' = true := by
    rcases hu.1.2 with ⟨rfl, _⟩ | ⟨g, cap, cur, rfl, _⟩ <;> rfl
  obtain ⟨v', w', hrun, h2, h3, _, h5⟩ := run_append_own_at (P := Tryd.prog) _ base 45 ty 31 i (.slice none 0 0) 1 24 Tryd.underlying45 hi hz hsize hby rfl (by decide) v zss.length us ho ⟨w.heap.size, 0, none⟩ 1 1 [u]
    rfl (fun j x hj => by
      have : j = 0 := by
        rcases Nat.eq_zero_or_pos j with h | h
        · exact h
        · rw [List.getElem?_eq_none (by simp; omega)] at hj; cases hj
      subst this
      simp at hj
      subst hj
      exact hcell) (by simpa using hone) (by unfold maxLen; omega) (by omega) hB
  refine ⟨v', w', hrun, ⟨us ++ [u], ?_, fun k hk => ?_, by simp; omega, Nat.le_trans hB h3.size⟩, fun B hb => ?_⟩
  · rw [List.length_append]; exact h2
  · have hlen : us.length = zss.length := by have := ho.1; omega
    by_cases hlt : k < zss.length
    · obtain ⟨x, h6, h7⟩ := hus k hlt
      refine ⟨x, by rw [List.getElem?_append_left (by omega)]; exact h6, ?_⟩
      rw [List.getElem_append_left hlt]
      exact h7.keptBy h3 (own_ne h7 ho)
    · have : k = zss.length := by simp at hk; omega
      subst this
      refine ⟨u, by rw [← hlen]; simp, ?_⟩
      simp
      exact hua.keptBy h3 (own_ne hua ho)
  · exact (hba.mono (by have := hu.2.2.2; omega)).trans (below_of_grown ho h3 hb hB)

theorem wpList_append_s {ops : Array Oper} {rest : List Oper} {o : Oper} {a : Act} {Q : Exit → Act → World → Prop} {w : World} {u : Value} (hgd : o.guard = none) (s x : Operand)
    (ho : o.op = .call { callee := .builtin .append, args := #[s, x], argTypes := #[45, 45] })
    (base : Nat) (v : Value) (zss : List (List Nat)) (z : List Nat) (hs : a.eval s = v) (hx : a.eval x = .slice (some ⟨w.heap.size, 0, none⟩) 1 1) (hown : OwnS w base v zss) (hu : Own w base u z) (hl : zss.length < 1000)
    (h : ∀ v' w', OwnS w' base v' (zss ++ [z]) → (∀ B, B ≤ base → Below B w w') → wpList Tryd.prog ops Q rest (a.put o.dst v') w') : wpList Tryd.prog ops Q (o :: rest) a (w.alloc (.cells #[u] 31)) :=
  wpList_plain hgd fun K hK => by
    obtain ⟨v', w', hrun, h2, h3⟩ := run_append_s w base o.type v u zss z hown hu hl
    unfold Oper.wp execOp
    simp only [ho, resolve, invoke, builtin, Sem.run_bind, Sem.run_pure, Result.andThen_ok, List.map_toArray, List.map_cons, List.map_nil, hs, hx, hrun]
    exact hK _ _ (h v' w' h2 h3)

theorem weightsAll_mem {H : Type} {P : Program} {e : TypeId} {d : DataW H} {n : Nat} : ∀ {l : List (DataW H)}, d ∈ l → n ∈ DataW.weights P e d → n ∈ DataW.weightsAll P e l
  | [], h, _ => by simp at h
  | x :: l, h, hn => by
    simp only [DataW.weightsAll, List.mem_append]
    rcases List.mem_cons.1 h with rfl | h
    · exact .inl hn
    · exact .inr (weightsAll_mem h hn)

theorem weights_sls {H : Type} (es sp : List (DataW H)) : DataW.weights Tryd.prog 45 (.slice es sp) = (es.length + sp.length) * Tryd.prog.bytesOf 31 :: (DataW.weightsAll Tryd.prog 31 es ++ DataW.weightsAll Tryd.prog 31 sp) := by
  simp [DataW.weights, Tryd.underlying45]

open Go.ChangeShapes Go.WideShapes Go.ChangeAt Go.WideMaps Go.WideElems in
/-- A slice of slices of bits that can be read. -/
theorem sls_open {H : Type} {enc : TypeId × Value → H} {W : World} {base : Nat} {r : Reach} {v : Value} {d : DataW H} {ps : List MemPlace} (hv : Value.okWide Tryd.prog W r base 45 v)
    (h : DataW.Trod enc Tryd.prog W 0 (fun _ => true) true 45 v d ps) (hsz : ∀ n ∈ DataW.weights Tryd.prog 45 d, n ≤ reachBytes) : ∃ zss, Sls W v zss := by
  obtain ⟨a0, len, cap, rfl⟩ := okWide_slice Tryd.underlying45 hv
  obtain ⟨fuel, hf⟩ := h
  rcases Go.Deep.open_slice1 Tryd.underlying45 cSl hf with ⟨hcs, hx⟩ | ⟨a, len', cap', m, n, V, D, Pl, hcs, _, hl, hm, hmm, hx, hel⟩
  · simp [Value.cells] at hcs
    obtain ⟨rfl, rfl, rfl⟩ := hcs
    exact ⟨[], none, 0, rfl, by simp, .inl rfl⟩
  · simp [Value.cells] at hcs
    obtain ⟨rfl, rfl, rfl⟩ := hcs
    simp only [Prod.mk.injEq] at hx
    simp at hmm
    subst hmm
    obtain ⟨rfl, _⟩ := hx
    rw [weights_sls] at hsz
    have hlen : len ≤ 140737488355328 := by
      have h1 := hsz _ (List.mem_cons_self ..)
      rw [show Tryd.prog.bytesOf 31 = 24 by kernel_rfl, reach_num] at h1
      simp at h1
      omega
    have hall : ∀ i, i < len → ∃ zs, Sl W (V i) zs := by
      intro i hi
      obtain ⟨_, h2⟩ := hel i (by omega)
      refine sl_cell h2 ?_
      intro elems spare he
      apply hsz
      apply List.mem_cons_of_mem
      rw [List.mem_append]
      left
      refine weightsAll_mem (d := D i) (List.mem_map.2 ⟨i, List.mem_range.2 hi, rfl⟩) ?_
      rw [he]
      simp [DataW.weights, Tryd.underlying31]
    obtain ⟨f, hfs⟩ : ∃ f : Nat → List Nat, ∀ i, i < len → Sl W (V i) (f i) :=
      ⟨fun i => if h : i < len then Classical.choose (hall i h) else [], fun i h => by simp only [h, dif_pos]; exact Classical.choose_spec (hall i h)⟩
    refine ⟨(List.range len).map f, some a, m, by simp, by simpa using hlen, ?_⟩
    by_cases h0 : 0 < len
    · right
      obtain ⟨b, off, spot⟩ := a
      have hspot : spot = none := by simpa [Addr.add] using World.cell?_spot (hel 0 (by omega)).1
      subst hspot
      refine ⟨b, off, rfl, fun k hk => ?_⟩
      simp at hk
      refine ⟨V k, ?_, by simpa using hfs k hk⟩
      rw [← Go.WideShapes.add_plain]
      exact (hel k (by omega)).1
    · left
      have : len = 0 := by omega
      subst this
      rfl
end Go.Proofs.YtaeehejnifhaaaaDoor
