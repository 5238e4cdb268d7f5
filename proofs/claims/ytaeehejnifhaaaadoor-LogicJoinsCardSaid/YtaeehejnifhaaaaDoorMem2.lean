/- Two slices of the call's own side by side: append to the one leaves the other as it is. -/
import Derived.Test.YtaeehejnifhaaaaDoorOne
namespace Go.Proofs.YtaeehejnifhaaaaDoor
open Go.RowKit

theorem Own.keptBy {w w' : World} {base : Nat} {v : Value} {zs : List Nat} {row : Option Nat} (h : Own w base v zs) (hg : w.grownBy w' row) (hne : v.ownBlock = none ∨ v.ownBlock ≠ row) : Own w' base v zs :=
  ⟨h.1.kept hg hne, h.2.1, h.2.2.1, Nat.le_trans h.2.2.2 hg.size⟩

/-- Two values lie in different blocks of the call's own. -/
def Apart (u v : Value) : Prop := u.ownBlock = none ∨ u.ownBlock ≠ v.ownBlock
theorem Apart.symm {u v : Value} (h : Apart u v) (h' : u.ownBlock = none → v.ownBlock = none ∨ v.ownBlock ≠ none) : Apart v u := by
  unfold Apart at *
  rcases h with h | h
  · rcases h' h with h1 | h1
    · exact .inl h1
    · right; rw [h]; exact h1
  · right; exact Ne.symm h

theorem run_append_sl2 (w : World) (base : Nat) (ty : TypeId) (v u : Value) (xs ys : List Nat) (hown : Own w base v xs) (hu : Sl w u ys) (hl : xs.length + ys.length ≤ 140737488355328) (hpos : 0 < ys.length) :
    ∃ v' w', (Builtin.append_ #[31, 31] ty #[v, u]).run Tryd.prog w = .ok v' w' ∧ Own w' base v' (xs ++ ys) ∧ w.grownBy w' v.ownBlock ∧ (v'.ownBlock = v.ownBlock ∨ v'.ownBlock = some w.heap.size) := by
  obtain ⟨i, hi, hz, hsize, hby⟩ := info_parts Tryd.infoBit
  obtain ⟨ho, hn, hx, hB⟩ := hown
  obtain ⟨A, c, rfl, hn', hy, hc⟩ := hu
  have hxy : ∀ z ∈ xs ++ ys, z < 256 := by
    intro z hz
    rcases List.mem_append.1 hz with h | h
    · exact hx z h
    · exact hy z h
  rcases hc with rfl | ⟨b, off, rfl, hc⟩
  · exact absurd hpos (by simp)
  · have hcells : ∀ j u, (bitCells ys)[j]? = some u → w.cell? ((⟨b, off, none⟩ : Addr).add j) = some u := by
      intro j u hj
      have hlt : j < ys.length := by
        rcases Nat.lt_or_ge j ys.length with h | h
        · exact h
        · rw [List.getElem?_eq_none (by rw [bitCells_length]; exact h)] at hj; cases hj
      rw [bitCells_get hlt] at hj
      have := hc j hlt
      unfold Addr.add
      by_cases h0 : j = 0
      · subst h0; simpa [← hj] using this
      · simpa [h0, ← hj] using this
    obtain ⟨v', w', hrun, h2, h3, _, h5⟩ := run_append_own_at (P := Tryd.prog) w base 31 ty 22 i (.int .u8 0) 1 1 Tryd.underlying31 hi hz hsize hby rfl (by decide) v xs.length (bitCells xs) ho ⟨b, off, none⟩ ys.length c (bitCells ys)
      (by rw [bitCells_length]; omega) hcells (by intro u hu; simp [bitCells] at hu; obtain ⟨z, _, rfl⟩ := hu; rfl) (by unfold maxLen; omega) (by omega) hB
    refine ⟨v', w', hrun, ⟨?_, ?_, hxy, Nat.le_trans hB h3.size⟩, h3, h5⟩
    · rw [List.length_append, show bitCells (xs ++ ys) = bitCells xs ++ bitCells ys by simp [bitCells]]; exact h2
    · rw [List.length_append]; exact hl

theorem wpList_append_sl2 {ops : Array Oper} {rest : List Oper} {o : Oper} {a : Act} {Q : Exit → Act → World → Prop} {w : World} (hgd : o.guard = none) (s x : Operand)
    (ho : o.op = .call { callee := .builtin .append, args := #[s, x], argTypes := #[31, 31] })
    (base : Nat) (v u : Value) (xs ys : List Nat) (hs : a.eval s = v) (hx : a.eval x = u) (hown : Own w base v xs) (hu : Sl w u ys) (hl : xs.length + ys.length ≤ 140737488355328) (hpos : 0 < ys.length)
    (h : ∀ v' w', Own w' base v' (xs ++ ys) → w.grownBy w' v.ownBlock → (v'.ownBlock = v.ownBlock ∨ v'.ownBlock = some w.heap.size) → wpList Tryd.prog ops Q rest (a.put o.dst v') w') : wpList Tryd.prog ops Q (o :: rest) a w :=
  wpList_plain hgd fun K hK => by
    obtain ⟨v', w', hrun, h2, h3, h4⟩ := run_append_sl2 w base o.type v u xs ys hown hu hl hpos
    unfold Oper.wp execOp
    simp only [ho, resolve, invoke, builtin, Sem.run_bind, Sem.run_pure, Result.andThen_ok, List.map_toArray, List.map_cons, List.map_nil, hs, hx, hrun]
    exact hK _ _ (h v' w' h2 h3 h4)

/-- What an append to the one gives: the world before it is wa (a block more than w); u is the other. -/
theorem append_apart {wa w' : World} {base : Nat} {u v v' : Value} {xs : List Nat} (hu : Own wa base u xs) (hap : Apart u v) (hg : wa.grownBy w' v.ownBlock) (h5 : v'.ownBlock = v.ownBlock ∨ v'.ownBlock = some wa.heap.size) :
    Own w' base u xs ∧ Apart u v' := by
  refine ⟨hu.keptBy hg hap, ?_⟩
  rcases hap with h | h
  · exact .inl h
  · rcases h5 with e | e
    · right; rw [e]; exact h
    · by_cases hn : u.ownBlock = none
      · exact .inl hn
      · right
        obtain ⟨k, hk⟩ := Option.ne_none_iff_exists'.1 hn
        have := (hu.1.lt k hk).2
        rw [e, hk]
        intro he
        injection he with he
        omega
theorem apart_append {wa : World} {base : Nat} {u v v' : Value} {xs : List Nat} (hu : Own wa base u xs) (hap : Apart v u) (h5 : v'.ownBlock = v.ownBlock ∨ v'.ownBlock = some wa.heap.size) : Apart v' u := by
  unfold Apart at *
  rcases h5 with e | e
  · rw [e]; exact hap
  · right
    rw [e]
    intro he
    have := (hu.1.lt _ he.symm).2
    omega
theorem own_below {w w' : World} {B base : Nat} {v : Value} {xs : List Nat} (hv : Own w base v xs) (hg : w.grownBy w' v.ownBlock) (hB : B ≤ base) : Below B w w' := below_of_grown hv.1 hg hB hv.2.2.2
theorem Own.drewN2 {w : World} {base : Nat} {v : Value} {zs : List Nat} (h : Own w base v zs) (n : Nat) : Own (w.drewN n) base v zs := h.kept (below_drewN (Below.refl _ _) n)
/-- Two appends, one after the other, to two slices of the call's own. -/
theorem two_appends {w wr w1 w2 : World} {n : Nat} {o1 o2 : Obj} {u v v1 v2 : Value} {xs ys : List Nat} {x y : Nat} (hb : Below w.heap.size w wr) (hv : Own wr w.heap.size v xs) (hu : Own wr w.heap.size u ys) (hp : Apart u v) (hp' : Apart v u)
    (z1 : Own w1 w.heap.size v1 (xs ++ [x]) ∧ ((wr.drewN n).alloc o1).grownBy w1 v.ownBlock ∧ (v1.ownBlock = v.ownBlock ∨ v1.ownBlock = some ((wr.drewN n).alloc o1).heap.size))
    (z2 : Own w2 w.heap.size v2 (ys ++ [y]) ∧ (w1.alloc o2).grownBy w2 u.ownBlock ∧ (v2.ownBlock = u.ownBlock ∨ v2.ownBlock = some (w1.alloc o2).heap.size)) :
    Own w2 w.heap.size v1 (xs ++ [x]) ∧ Own w2 w.heap.size v2 (ys ++ [y]) ∧ Apart v2 v1 ∧ Apart v1 v2 ∧ Below w.heap.size w w2 := by
  have hva := (hv.drewN2 n).alloc o1
  have hua := (hu.drewN2 n).alloc o1
  obtain ⟨hu1, a1⟩ := append_apart hua hp z1.2.1 z1.2.2
  have a1' := apart_append hua hp' z1.2.2
  have hu1a := hu1.alloc o2
  have hv1a := z1.1.alloc o2
  obtain ⟨hv2, a2⟩ := append_apart hv1a a1' z2.2.1 z2.2.2
  have a2' := apart_append hv1a a1 z2.2.2
  refine ⟨hv2, z2.1, a2', a2, ?_⟩
  have e1 := own_below hva z1.2.1 (Nat.le_refl _)
  have e2 := own_below hu1a z2.2.1 (Nat.le_refl _)
  exact ((((below_drewN hb n).alloc (below_drewN hb n).size o1).trans e1).alloc z1.1.2.2.2 o2).trans e2
end Go.Proofs.YtaeehejnifhaaaaDoor
