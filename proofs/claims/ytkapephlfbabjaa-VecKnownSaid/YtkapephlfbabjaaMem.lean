/- Slices of bits that the call itself makes: what it means that a slice owns its cells, and the laws of append, make and store for them. -/
import Derived.Test.YtkapephlfbabjaaSl
import Derived.Maps.AppendAt
import Derived.Deep.AppendLies
import Derived.RegionTactic
import Derived.OwnWalk
import Derived.Laws.OwnMore
namespace Go.Proofs.Ytkapephlfbabjaa
open Go.RowKit

theorem Try.infoBit : (Try.prog.info? 49).map (fun i => (i.zero, i.size, i.bytes)) = some (some (.int .u8 0), 1, 1) := by kernel_rfl
def bitCells (zs : List Nat) : List Value := zs.map fun z => .int .u8 (z : Nat)
theorem bitCells_length (zs : List Nat) : (bitCells zs).length = zs.length := by simp [bitCells]
theorem bitCells_get {zs : List Nat} {k : Nat} (h : k < zs.length) : (bitCells zs)[k]? = some (.int .u8 (zs[k] : Nat)) := by simp [bitCells, h]
/-- v is a slice of the call's own (from block base on) that reads as zs. -/
def Own (w : World) (base : Nat) (v : Value) (zs : List Nat) : Prop :=
  w.ownsRow base 49 1 v zs.length (bitCells zs) ∧ zs.length ≤ 140737488355328 ∧ (∀ z ∈ zs, z < 256) ∧ base ≤ w.heap.size
theorem Own.nil (w : World) {base : Nat} (h : base ≤ w.heap.size) : Own w base (.slice none 0 0) [] := ⟨World.ownsRow_nil _ _ _ _, by simp, by simp, h⟩
theorem Own.sl {w : World} {base : Nat} {v : Value} {zs : List Nat} (h : Own w base v zs) : Sl w v zs := by
  obtain ⟨ho, hn, hz, _⟩ := h
  rcases ho.2 with ⟨e, h0⟩ | ⟨g, cap, cur, e, _, _, hnc, _⟩
  · have : zs = [] := List.eq_nil_of_length_eq_zero h0
    subst this
    exact ⟨none, 0, e, hn, hz, by simp, .inl rfl⟩
  · subst e
    refine ⟨_, cap, rfl, hn, hz, hnc, .inr ⟨g, 0, rfl, fun k hk => ?_⟩⟩
    rw [Nat.zero_add, ho.cellAt k (by omega), bitCells_get hk]

theorem Own.kept {w w' : World} {base : Nat} {v : Value} {zs : List Nat} (h : Own w base v zs) (hb : Below w.heap.size w w') : Own w' base v zs := by
  obtain ⟨ho, hn, hz, hB⟩ := h
  refine ⟨?_, hn, hz, Nat.le_trans hB hb.size⟩
  have hg : w.grownBy w' none := ⟨hb.os, hb.tape, hb.output, hb.size, fun k hk _ => hb.block k hk⟩
  rcases ho.2 with ⟨e, _⟩ | ⟨g, cap, cur, e, _⟩
  · exact ho.kept hg (.inl (by rw [e]; rfl))
  · exact ho.kept hg (.inr (by rw [e]; simp [Value.ownBlock]))
theorem below_of_grown {w w' : World} {B base : Nat} {v : Value} {e : TypeId} {n : Nat} {xs : List Value} (ho : w.ownsRow base e 1 v n xs) (hg : w.grownBy w' v.ownBlock) (hB : B ≤ base) (hb : base ≤ w.heap.size) : Below B w w' :=
  (Below.refl _ _).grown hg (by omega) fun k hk => by have := (ho.lt k hk).1; omega
theorem run_append_of_nil {P : Program} (w : World) (base : Nat) (t ty e : TypeId) (i : TypeInfo) (size : Nat) (ht : P.underlying t = some (.slice e)) (hi : P.info? e = some i)
    (v : Value) (n : Nat) (xs : List Value) (hown : w.ownsRow base e size v n xs) (c : Nat) : (Builtin.append_ #[t, t] ty #[v, .slice none 0 c]).run P w = .ok v w := by
  rcases hown.2 with ⟨rfl, rfl⟩ | ⟨g, cap, cur, rfl, _, _, hnc, _⟩
  · simp [Builtin.append_, run_underlying ht, sizeOf, typeInfo, hi, Builtin.lenOf, Builtin.firstCells]
  · simp [Builtin.append_, run_underlying ht, sizeOf, typeInfo, hi, Builtin.lenOf, Builtin.firstCells, hnc, storeCells]
theorem run_append_sl (w : World) (base : Nat) (ty : TypeId) (v u : Value) (xs ys : List Nat) (hown : Own w base v xs) (hu : Sl w u ys) (hl : xs.length + ys.length ≤ 140737488355328) :
    ∃ v' w', (Builtin.append_ #[22, 22] ty #[v, u]).run Try.prog w = .ok v' w' ∧ Own w' base v' (xs ++ ys) ∧ ∀ B, B ≤ base → Below B w w' := by
  obtain ⟨i, hi, hz, hsize, hby⟩ := info_parts Try.infoBit
  obtain ⟨ho, hn, hx, hB⟩ := hown
  obtain ⟨A, c, rfl, hn', hy, hq, hc⟩ := hu
  have hxy : ∀ z ∈ xs ++ ys, z < 256 := by
    intro z hz
    rcases List.mem_append.1 hz with h | h
    · exact hx z h
    · exact hy z h
  rcases A with _ | ad
  · have h0 : ys = [] := by
      rcases hc with h | ⟨b, off, e, _⟩
      · exact h
      · cases e
    subst h0
    exact ⟨v, w, run_append_of_nil w base _ ty _ i 1 Try.underlying22 hi v _ _ ho c, ⟨by simpa using ho, by simpa using hn, hxy, hB⟩, fun B _ => Below.refl _ _⟩
  · have hcells : ∀ j u, (bitCells ys)[j]? = some u → w.cell? (ad.add j) = some u := by
      intro j u hj
      have hlt : j < ys.length := by
        rcases Nat.lt_or_ge j ys.length with h | h
        · exact h
        · rw [List.getElem?_eq_none (by rw [bitCells_length]; exact h)] at hj; cases hj
      rw [bitCells_get hlt] at hj
      rcases hc with rfl | ⟨b, off, e, hc⟩
      · exact absurd hlt (by simp)
      · injection e with e
        subst e
        have := hc j hlt
        unfold Addr.add
        by_cases h0 : j = 0
        · subst h0; simpa [← hj] using this
        · simpa [h0, ← hj] using this
    obtain ⟨v', w', hrun, h2, h3, _, h5⟩ := run_append_own_at (P := Try.prog) w base 22 ty 49 i (.int .u8 0) 1 1 Try.underlying22 hi hz hsize hby rfl (by decide) v xs.length (bitCells xs) ho ad ys.length c (bitCells ys)
      (by rw [bitCells_length]; omega) hcells (by intro u hu; simp [bitCells] at hu; obtain ⟨z, _, rfl⟩ := hu; rfl) (by unfold maxLen; omega) (by omega) hB
    refine ⟨v', w', hrun, ⟨?_, ?_, hxy, Nat.le_trans hB h3.size⟩, fun B hb => below_of_grown ho h3 hb hB⟩
    · rw [List.length_append, show bitCells (xs ++ ys) = bitCells xs ++ bitCells ys by simp [bitCells]]; exact h2
    · rw [List.length_append]; exact hl
theorem wpList_append_sl {ops : Array Oper} {rest : List Oper} {o : Oper} {a : Act} {Q : Exit → Act → World → Prop} {w : World} (hgd : o.guard = none) (s x : Operand)
    (ho : o.op = .call { callee := .builtin .append, args := #[s, x], argTypes := #[22, 22] })
    (base : Nat) (v u : Value) (xs ys : List Nat) (hs : a.eval s = v) (hx : a.eval x = u) (hown : Own w base v xs) (hu : Sl w u ys) (hl : xs.length + ys.length ≤ 140737488355328)
    (h : ∀ v' w', Own w' base v' (xs ++ ys) → (∀ B, B ≤ base → Below B w w') → wpList Try.prog ops Q rest (a.put o.dst v') w') : wpList Try.prog ops Q (o :: rest) a w :=
  wpList_plain hgd fun K hK => by
    obtain ⟨v', w', hrun, h2, h3⟩ := run_append_sl w base o.type v u xs ys hown hu hl
    unfold Oper.wp execOp
    simp only [ho, resolve, invoke, builtin, Sem.run_bind, Sem.run_pure, Result.andThen_ok, List.map_toArray, List.map_cons, List.map_nil, hs, hx, hrun]
    exact hK _ _ (h v' w' h2 h3)
/-- A new block of one bit, as a slice. -/
theorem Sl.one (w : World) (z : Nat) (hz : z < 256) : Sl (w.alloc (.cells #[.int .u8 (z : Nat)] 49)) (.slice (some ⟨w.heap.size, 0, none⟩) 1 1) [z] :=
  ⟨_, 1, rfl, by simp, by simpa using hz, by simp, .inr ⟨w.heap.size, 0, rfl, fun k hk => by
    have : k = 0 := by simp at hk; omega
    subst this
    rw [World.cell?_alloc_at _ _ _ _ rfl]; rfl⟩⟩
theorem Own.alloc {w : World} {base : Nat} {v : Value} {zs : List Nat} (h : Own w base v zs) (o : Obj) : Own (w.alloc o) base v zs := h.kept ((Below.refl _ _).alloc (Nat.le_refl _) o)
/-- A new block of no bit, as a slice. -/
theorem Own.empty (w : World) : Own (w.alloc (.cells #[] 49)) w.heap.size (.slice (some ⟨w.heap.size, 0, none⟩) 0 0) [] :=
  ⟨World.ownsRow_made w #[] 0 (Nat.le_refl _) (by decide) rfl, by simp, by simp, by simp⟩
theorem below_alloc (w : World) (o : Obj) : Below w.heap.size w (w.alloc o) := (Below.refl _ _).alloc (Nat.le_refl _) o
theorem below_then {w w1 w2 : World} (h : Below w.heap.size w w1) (h' : Below w1.heap.size w1 w2) : Below w.heap.size w w2 := h.trans (h'.mono h.size)
set_option maxHeartbeats 400000 in
theorem copied_any (v : Value) (zs : List Nat) (w : World) (h : Sl w v zs) :
    Calls Try.prog 17 #[v] w fun e w' => ∃ u, e = .returned u ∧ Own w' w.heap.size u zs ∧ Below w.heap.size w w' := by
  obtain ⟨A, c, rfl, hn, hz, hq, hc⟩ := h
  have hS : Hid (Sl w (.slice A zs.length c) zs) := ⟨A, c, rfl, hn, hz, hq, hc⟩
  clear hz hc
  go_enter Try.func17, Try.ntmps17
  go_wp2_with (at_builtin; refine wpList_append_sl rfl _ _ rfl w.heap.size _ _ [] zs rfl rfl (Own.empty w) (hS.out.later (below_alloc _ _)) (by simpa using hn) ?_; intro v' w' hown hb)
  go_ret
  exact ⟨_, rfl, hown, (below_alloc _ _).trans (hb _ (Nat.le_refl _))⟩
theorem bitsB_at {zs : List Nat} (hb : bitsB zs = true) {k : Nat} (h : k < zs.length) : zs[k] ≤ 3 := by
  unfold bitsB at hb
  simpa using List.all_eq_true.1 hb zs[k] (List.getElem_mem h)
theorem bitsB_mem {zs : List Nat} (hb : bitsB zs = true) {z : Nat} (h : z ∈ zs) : z ≤ 3 := by
  unfold bitsB at hb
  simpa using List.all_eq_true.1 hb z h
theorem bitsB_of {zs : List Nat} (h : ∀ z ∈ zs, z ≤ 3) : bitsB zs = true := by
  unfold bitsB
  exact List.all_eq_true.2 fun z hz => by simpa using h z hz
theorem bitsB_take' {zs : List Nat} (h : bitsB zs = true) (k : Nat) : bitsB (zs.take k) = true := bitsB_of fun _ hz => bitsB_mem h (List.mem_of_mem_take hz)
theorem ret_ii {k k' : IntKind} {a b c d : Int} (h : a = b) (h' : c = d) : Ending.returned (.tuple #[.int k a, .int k' c]) = .returned (.tuple #[.int k b, .int k' d]) := by rw [h, h']
theorem Own.made {w w' : World} {base n : Nat} {v : Value} (h : w'.ownsRow base 49 1 v n (madeCells (Value.cells (.int .u8 0)) (n * 1)).toList) (hn : n ≤ 140737488355328) (hb : w.grownBy w' none) (hB : base ≤ w.heap.size) : Own w' base v (List.replicate n 0) := by
  refine ⟨?_, by simpa using hn, by intro z hz; have := List.eq_of_mem_replicate hz; omega, Nat.le_trans hB hb.size⟩
  rw [List.length_replicate]
  rw [show (madeCells (Value.cells (.int .u8 0)) (n * 1)).toList = List.replicate (n * 1) (.int .u8 0) from toList_madeCells_one _ _, Nat.mul_one] at h
  simpa [bitCells] using h
theorem Own.stored {w : World} {base g cap n : Nat} {zs : List Nat} (h : Own w base (.slice (some ⟨g, 0, none⟩) n cap) zs) (j z : Nat) (hz : z < 256) :
    Own (w.setCell ⟨g, j, none⟩ (.int .u8 (z : Nat))) base (.slice (some ⟨g, 0, none⟩) n cap) (zs.set j z) ∧ ∀ B, B ≤ base → Below B w (w.setCell ⟨g, j, none⟩ (.int .u8 (z : Nat))) := by
  obtain ⟨ho, hn, hzs, hB⟩ := h
  have hg : base ≤ g := by
    rcases ho.2 with ⟨h', _⟩ | ⟨g', cap', cur, h', hb, _⟩
    · simp at h'
    · simp only [Value.slice.injEq, Option.some.injEq, Addr.mk.injEq, and_true] at h'
      omega
  have hlen : n = zs.length := by
    rcases ho.2 with ⟨h', _⟩ | ⟨g', cap', cur, h', hb, _⟩
    · simp at h'
    · simp only [Value.slice.injEq] at h'
      omega
  subst hlen
  obtain ⟨h1, h2⟩ := ho.stored j (.int .u8 (z : Nat))
  refine ⟨⟨?_, by simpa using hn, ?_, Nat.le_trans hB h2.size⟩, fun B hb => (Below.refl _ _).setCell (by show B ≤ g; omega) _⟩
  · rw [List.length_set, show bitCells (zs.set j z) = (bitCells zs).set j (.int .u8 (z : Nat)) by simp [bitCells]]; exact h1
  · intro y hy
    rcases List.mem_or_eq_of_mem_set hy with h | h
    · exact hzs y h
    · omega
theorem Own.cell {w : World} {base g cap n : Nat} {zs : List Nat} (h : Own w base (.slice (some ⟨g, 0, none⟩) n cap) zs) (j : Nat) (hj : j < zs.length) : w.cell? ⟨g, j, none⟩ = some (.int .u8 (zs[j] : Nat)) ∧ w.frozen? ⟨g, j, none⟩ = false := by
  obtain ⟨ho, _⟩ := h
  have hlen : n = zs.length := by
    rcases ho.2 with ⟨h', _⟩ | ⟨g', cap', cur, h', hb, _⟩
    · simp at h'
    · simp only [Value.slice.injEq] at h'
      omega
  subst hlen
  exact ⟨by rw [ho.cellAt j (by omega), bitCells_get hj], ho.frozenAt j⟩
theorem wpList_make_bits {ops : Array Oper} {rest : List Oper} {o : Oper} {a : Act} {Q : Exit → Act → World → Prop} {w : World} (hg : o.guard = none) (l c : Operand) (hop : o.op = Op.makeSlice 22 l c)
    (n : Nat) (hl : a.eval l = .int .i64 (n : Int)) (hc : a.eval c = .int .i64 (n : Int)) (hn : n ≤ 140737488355328)
    (hK : ∀ w', Own w' w.heap.size (.slice (some ⟨w.heap.size, 0, none⟩) n n) (List.replicate n 0) → Below w.heap.size w w' → wpList Try.prog ops Q rest (a.put o.dst (.slice (some ⟨w.heap.size, 0, none⟩) n n)) w') :
    wpList Try.prog ops Q (o :: rest) a w := by
  obtain ⟨i, hi, hz, hsize, hby⟩ := info_parts Try.infoBit
  refine wpList_make_full _ hg l c 22 hop w.heap.size 49 i (.int .u8 0) 1 Try.underlying22 hi hz hsize _ _ _ _ n hl hc rfl rfl (by rw [hby]; omega) (by unfold maxLen; omega) (Nat.le_refl _) ?_
  intro w1 hown hg1
  exact hK w1 (Own.made hown hn hg1 (Nat.le_refl _)) ((Below.refl _ _).grown hg1 (Nat.le_refl _) (fun k hk => by cases hk))
theorem sl_nil (w : World) : Sl w (.slice none 0 0) [] := ⟨none, 0, rfl, by simp, by simp, by simp, .inl rfl⟩
theorem ret_vi {u : Value} {k' : IntKind} {c d : Int} (h' : c = d) : Ending.returned (.tuple #[u, .int k' c]) = .returned (.tuple #[u, .int k' d]) := by rw [h']
def txtE (zs : List Nat) : Nat := if isV zs then 0 else 2
theorem isV_bits {zs : List Nat} (h : isV zs = true) : bitsB zs = true ∧ 1 ≤ zs.length ∧ zs.length ≤ 64 := by
  unfold isV at h
  simp at h
  exact ⟨h.2, h.1.1, h.1.2⟩
theorem Sl.lit (w : World) (zs : List Nat) (cs : Array Value) (hcs : cs.toList = bitCells zs) (hz : ∀ z ∈ zs, z < 256) (hl : zs.length ≤ 1000) (n : Nat) (hn : n = w.heap.size) (k c : Nat) (hk : k = zs.length) (hc : zs.length ≤ c) :
    Sl (w.alloc (.cells cs 49)) (.slice (some ⟨n, 0, none⟩) k c) zs := by
  subst hn hk
  refine ⟨_, c, rfl, by omega, hz, hc, .inr ⟨w.heap.size, 0, rfl, fun j hj => ?_⟩⟩
  rw [World.cell?_alloc_at _ _ _ _ rfl, Nat.zero_add, ← Array.getElem?_toList, hcs, bitCells_get hj]
end Go.Proofs.Ytkapephlfbabjaa
