/- Slices of bits that the call itself makes: what it means that a slice owns its cells, and the law of append for them. -/
import Derived.Test.YtaeehejnifhaaaaDoorSl
import Derived.Maps.AppendAt
import Derived.Deep.AppendLies
import Derived.RegionTactic
import Derived.OwnWalk
import Derived.Laws.OwnMore
namespace Go.Proofs.YtaeehejnifhaaaaDoor
open Go.RowKit

theorem Tryd.infoBit : (Tryd.prog.info? 22).map (fun i => (i.zero, i.size, i.bytes)) = some (some (.int .u8 0), 1, 1) := by kernel_rfl

def bitCells (zs : List Nat) : List Value := zs.map fun z => .int .u8 (z : Nat)
theorem bitCells_length (zs : List Nat) : (bitCells zs).length = zs.length := by simp [bitCells]
theorem bitCells_get {zs : List Nat} {k : Nat} (h : k < zs.length) : (bitCells zs)[k]? = some (.int .u8 (zs[k] : Nat)) := by simp [bitCells, h]

/-- v is a slice of the call's own (from block base on) that reads as zs. -/
def Own (w : World) (base : Nat) (v : Value) (zs : List Nat) : Prop :=
  w.ownsRow base 22 1 v zs.length (bitCells zs) ∧ zs.length ≤ 140737488355328 ∧ (∀ z ∈ zs, z < 256) ∧ base ≤ w.heap.size

theorem Own.nil (w : World) {base : Nat} (h : base ≤ w.heap.size) : Own w base (.slice none 0 0) [] := ⟨World.ownsRow_nil _ _ _ _, by simp, by simp, h⟩

theorem Own.sl {w : World} {base : Nat} {v : Value} {zs : List Nat} (h : Own w base v zs) : Sl w v zs := by
  obtain ⟨ho, hn, hz, _⟩ := h
  by_cases h0 : zs = []
  · subst h0
    rcases ho.2 with ⟨e, _⟩ | ⟨g, cap, cur, e, _⟩
    · exact ⟨none, 0, e, hn, hz, .inl rfl⟩
    · exact ⟨_, cap, e, hn, hz, .inl rfl⟩
  · have hpos : 0 < zs.length := List.length_pos_iff.2 h0
    obtain ⟨g, cap, rfl, _, _⟩ := ho.form hpos
    refine ⟨_, cap, rfl, hn, hz, .inr ⟨g, 0, rfl, fun k hk => ?_⟩⟩
    rw [Nat.zero_add, ho.cellAt k (by omega), bitCells_get hk]

theorem Own.kept {w w' : World} {base : Nat} {v : Value} {zs : List Nat} (h : Own w base v zs) (hb : Below w.heap.size w w') : Own w' base v zs := by
  obtain ⟨ho, hn, hz, hB⟩ := h
  refine ⟨?_, hn, hz, Nat.le_trans hB hb.size⟩
  have hg : w.grownBy w' none := ⟨hb.os, hb.tape, hb.output, hb.size, fun k hk _ => hb.block k hk⟩
  rcases ho.2 with ⟨e, _⟩ | ⟨g, cap, cur, e, _⟩
  · exact ho.kept hg (.inl (by rw [e]; rfl))
  · exact ho.kept hg (.inr (by rw [e]; simp [Value.ownBlock]))

theorem below_of_grown {w w' : World} {B base : Nat} {v : Value} {e : TypeId} {n : Nat} {xs : List Value} (ho : w.ownsRow base e 1 v n xs) (hg : w.grownBy w' v.ownBlock) (hB : B ≤ base) (hb : base ≤ w.heap.size) : Below B w w' :=
  (Below.refl _ _).grown hg (by omega) fun k hk => by have := (ho.lt k hk).1; omega

theorem run_append_of_nil {P : Program} (w : World) (base : Nat) (t ty e : TypeId) (i : TypeInfo) (size : Nat) (ht : P.underlying t = some (.slice e)) (hi : P.info? e = some i)
    (v : Value) (n : Nat) (xs : List Value) (hown : w.ownsRow base e size v n xs) (c : Nat) : (Builtin.append_ #[t, t] ty #[v, .slice none 0 c]).run P w = .ok v w := by
  rcases hown.2 with ⟨rfl, rfl⟩ | ⟨g, cap, cur, rfl, _, _, hnc, _⟩
  · simp [Builtin.append_, run_underlying ht, sizeOf, typeInfo, hi, Builtin.lenOf, Builtin.firstCells]
  · simp [Builtin.append_, run_underlying ht, sizeOf, typeInfo, hi, Builtin.lenOf, Builtin.firstCells, hnc, storeCells]

theorem run_append_sl (w : World) (base : Nat) (ty : TypeId) (v u : Value) (xs ys : List Nat) (hown : Own w base v xs) (hu : Sl w u ys) (hl : xs.length + ys.length ≤ 140737488355328) :
    ∃ v' w', (Builtin.append_ #[31, 31] ty #[v, u]).run Tryd.prog w = .ok v' w' ∧ Own w' base v' (xs ++ ys) ∧ ∀ B, B ≤ base → Below B w w' := by
  obtain ⟨i, hi, hz, hsize, hby⟩ := info_parts Tryd.infoBit
  obtain ⟨ho, hn, hx, hB⟩ := hown
  obtain ⟨A, c, rfl, hn', hy, hc⟩ := hu
  have hxy : ∀ z ∈ xs ++ ys, z < 256 := by
    intro z hz
    rcases List.mem_append.1 hz with h | h
    · exact hx z h
    · exact hy z h
  rcases A with _ | ad
  · have h0 : ys = [] := by
      rcases hc with h | ⟨b, off, e, _⟩
      · exact h
      · cases e
    subst h0
    exact ⟨v, w, run_append_of_nil w base _ ty _ i 1 Tryd.underlying31 hi v _ _ ho c, ⟨by simpa using ho, by simpa using hn, hxy, hB⟩, fun B _ => Below.refl _ _⟩
  · have hcells : ∀ j u, (bitCells ys)[j]? = some u → w.cell? (ad.add j) = some u := by
      intro j u hj
      have hlt : j < ys.length := by
        rcases Nat.lt_or_ge j ys.length with h | h
        · exact h
        · rw [List.getElem?_eq_none (by rw [bitCells_length]; exact h)] at hj; cases hj
      rw [bitCells_get hlt] at hj
      rcases hc with rfl | ⟨b, off, e, hc⟩
      · exact absurd hlt (by simp)
      · injection e with e
        subst e
        have := hc j hlt
        unfold Addr.add
        by_cases h0 : j = 0
        · subst h0; simpa [← hj] using this
        · simpa [h0, ← hj] using this
    obtain ⟨v', w', hrun, h2, h3, _, h5⟩ := run_append_own_at (P := Tryd.prog) w base 31 ty 22 i (.int .u8 0) 1 1 Tryd.underlying31 hi hz hsize hby rfl (by decide) v xs.length (bitCells xs) ho ad ys.length c (bitCells ys)
      (by rw [bitCells_length]; omega) hcells (by intro u hu; simp [bitCells] at hu; obtain ⟨z, _, rfl⟩ := hu; rfl) (by unfold maxLen; omega) (by omega) hB
    refine ⟨v', w', hrun, ⟨?_, ?_, hxy, Nat.le_trans hB h3.size⟩, fun B hb => below_of_grown ho h3 hb hB⟩
    · rw [List.length_append, show bitCells (xs ++ ys) = bitCells xs ++ bitCells ys by simp [bitCells]]; exact h2
    · rw [List.length_append]; exact hl

theorem wpList_append_sl {ops : Array Oper} {rest : List Oper} {o : Oper} {a : Act} {Q : Exit → Act → World → Prop} {w : World} (hgd : o.guard = none) (s x : Operand)
    (ho : o.op = .call { callee := .builtin .append, args := #[s, x], argTypes := #[31, 31] })
    (base : Nat) (v u : Value) (xs ys : List Nat) (hs : a.eval s = v) (hx : a.eval x = u) (hown : Own w base v xs) (hu : Sl w u ys) (hl : xs.length + ys.length ≤ 140737488355328)
    (h : ∀ v' w', Own w' base v' (xs ++ ys) → (∀ B, B ≤ base → Below B w w') → wpList Tryd.prog ops Q rest (a.put o.dst v') w') : wpList Tryd.prog ops Q (o :: rest) a w :=
  wpList_plain hgd fun K hK => by
    obtain ⟨v', w', hrun, h2, h3⟩ := run_append_sl w base o.type v u xs ys hown hu hl
    unfold Oper.wp execOp
    simp only [ho, resolve, invoke, builtin, Sem.run_bind, Sem.run_pure, Result.andThen_ok, List.map_toArray, List.map_cons, List.map_nil, hs, hx, hrun]
    exact hK _ _ (h v' w' h2 h3)

/-- A new block of one bit, as a slice. -/
theorem Sl.one (w : World) (z : Nat) (hz : z < 256) : Sl (w.alloc (.cells #[.int .u8 (z : Nat)] 22)) (.slice (some ⟨w.heap.size, 0, none⟩) 1 1) [z] :=
  ⟨_, 1, rfl, by simp, by simpa using hz, .inr ⟨w.heap.size, 0, rfl, fun k hk => by
    have : k = 0 := by simp at hk; omega
    subst this
    rw [World.cell?_alloc_at _ _ _ _ rfl]; rfl⟩⟩
theorem Own.alloc {w : World} {base : Nat} {v : Value} {zs : List Nat} (h : Own w base v zs) (o : Obj) : Own (w.alloc o) base v zs := h.kept ((Below.refl _ _).alloc (Nat.le_refl _) o)

/-- A new block of no bit, as a slice. -/
theorem Own.empty (w : World) : Own (w.alloc (.cells #[] 22)) w.heap.size (.slice (some ⟨w.heap.size, 0, none⟩) 0 0) [] :=
  ⟨World.ownsRow_made w #[] 0 (Nat.le_refl _) (by decide) rfl, by simp, by simp, by simp⟩
theorem below_alloc (w : World) (o : Obj) : Below w.heap.size w (w.alloc o) := (Below.refl _ _).alloc (Nat.le_refl _) o
theorem below_then {w w1 w2 : World} (h : Below w.heap.size w w1) (h' : Below w1.heap.size w1 w2) : Below w.heap.size w w2 := h.trans (h'.mono h.size)

set_option maxHeartbeats 400000 in
theorem copied_any (v : Value) (zs : List Nat) (w : World) (h : Sl w v zs) :
    Calls Tryd.prog 21 #[v] w fun e w' => ∃ u, e = .returned u ∧ Own w' w.heap.size u zs ∧ Below w.heap.size w w' := by
  obtain ⟨A, c, rfl, hn, hz, hc⟩ := h
  have hS : Hid (Sl w (.slice A zs.length c) zs) := ⟨A, c, rfl, hn, hz, hc⟩
  clear hz hc
  go_enter Tryd.func21, Tryd.ntmps21
  go_wp2_with (at_builtin; refine wpList_append_sl rfl _ _ rfl w.heap.size _ _ [] zs rfl rfl (Own.empty w) (hS.out.later (below_alloc _ _)) (by simpa using hn) ?_; intro v' w' hown hb)
  go_ret
  exact ⟨_, rfl, hown, (below_alloc _ _).trans (hb _ (Nat.le_refl _))⟩

/-- The bit that drives when all elements are resolved. -/
def resL (zs : List Nat) : Nat := zs.foldl resN 3
theorem resL_snoc {zs : List Nat} {k : Nat} (h : k < zs.length) : resN (resL (zs.take k)) zs[k] = resL (zs.take (k + 1)) := by
  unfold resL
  rw [List.take_succ_eq_append_getElem h, List.foldl_append]; rfl
theorem bitsB_at {zs : List Nat} (hb : bitsB zs = true) {k : Nat} (h : k < zs.length) : zs[k] ≤ 3 := by
  unfold bitsB at hb
  simpa using List.all_eq_true.1 hb zs[k] (List.getElem_mem h)
theorem bitsB_mem {zs : List Nat} (hb : bitsB zs = true) {z : Nat} (h : z ∈ zs) : z ≤ 3 := by
  unfold bitsB at hb
  simpa using List.all_eq_true.1 hb z h
theorem bitsB_of {zs : List Nat} (h : ∀ z ∈ zs, z ≤ 3) : bitsB zs = true := by
  unfold bitsB
  exact List.all_eq_true.2 fun z hz => by simpa using h z hz
theorem resF_le (zs : List Nat) : ∀ r, r ≤ 3 → (∀ z ∈ zs, z ≤ 3) → zs.foldl resN r ≤ 3 := by
  induction zs with
  | nil => intro r hr _; exact hr
  | cons z zs ih => intro r hr h; exact ih _ (resN_le r z hr (h z (by simp))) fun y hy => h y (by simp [hy])
theorem resL_le {zs : List Nat} (h : bitsB zs = true) : resL zs ≤ 3 := resF_le zs 3 (by omega) fun _ hz => bitsB_mem h hz
theorem bitsB_take' {zs : List Nat} (h : bitsB zs = true) (k : Nat) : bitsB (zs.take k) = true := bitsB_of fun _ hz => bitsB_mem h (List.mem_of_mem_take hz)
/-- What Resolve returns. -/
def resV (zs : List Nat) : Nat := if bitsB zs then resL zs else 0
def resE (zs : List Nat) : Nat := if bitsB zs then 0 else 2

theorem ret_ii {k k' : IntKind} {a b c d : Int} (h : a = b) (h' : c = d) : Ending.returned (.tuple #[.int k a, .int k' c]) = .returned (.tuple #[.int k b, .int k' d]) := by rw [h, h']

set_option maxHeartbeats 400000 in
theorem resolve_any (v : Value) (zs : List Nat) (w : World) (hT : Tabs w) (h : Sl w v zs) :
    Calls Tryd.prog 22 #[v] w fun e w' => e = .returned (.tuple #[.int .u8 (resV zs : Nat), .int .i64 (resE zs : Nat)]) ∧ w = w' := by
  obtain ⟨A, c, rfl, hn, hz, hc⟩ := h
  have hS : Hid (Sl w (.slice A zs.length c) zs) := ⟨A, c, rfl, hn, hz, hc⟩
  clear hz
  by_cases hb : bitsB zs = true
  · have hV : resV zs = resL zs := by unfold resV; rw [if_pos hb]
    have hE : resE zs = 0 := by unfold resE; rw [if_pos hb]
    rw [hV, hE]
    clear hV hE
    have hA := areBits_any _ _ _ hS.out
    rw [hb] at hA
    have HA := Lib.hid hA
    have HB := Lib.hid hb
    have HT := Lib.hid hT
    clear hA hb hT
    go_enter Tryd.func22, Tryd.ntmps22
    go_wp2_with (go_at_call 45; refine (HA.out).mono ?_; rintro e w' ⟨rfl, rfl⟩)
    go_loop [4, 12] (fun r i => ∃ k : Nat, k ≤ zs.length ∧ i = .int .i64 k ∧ r = .int .u8 (resL (zs.take k) : Nat)) (fun _ i => zs.length - (intOf i).toNat)
    case atStart => exact ⟨0, Nat.zero_le _, rfl, rfl⟩
    case round =>
      obtain ⟨k, hk, rfl, rfl⟩ := hrel
      by_cases hlt : k < zs.length
      · rcases hc with rfl | ⟨b, off, rfl, hc⟩
        · exact absurd hlt (by simp)
        have g := hc k hlt
        clear hc
        have h3 := bitsB_at HB.out hlt
        have h4 := resL_le (bitsB_take' HB.out k)
        have c4 := HT.out.res_ _ _ h4 h3
        have HR := Lib.hid (resL_snoc hlt)
        generalize zs[k] = z at g h3 c4 HR
        generalize resL (zs.take k) = r at h4 c4 HR
        go_wp2
        go_round
        case rel => exact ⟨k + 1, by omega, by go_num, by rw [HR.out]⟩
        case measure => simp [intOf]; omega
      · clear hc
        have HR : Hid (resL (zs.take k) = resL zs) := by rw [List.take_of_length_le (by omega)]; exact rfl
        go_wp2
        go_ret2
        exact ⟨ret_ii (by rw [HR.out]) rfl, rfl⟩
  · have hb' : bitsB zs = false := by simpa using hb
    have hV : resV zs = 0 := by unfold resV; rw [if_neg hb]
    have hE : resE zs = 2 := by unfold resE; rw [if_neg hb]
    rw [hV, hE]
    have hA := areBits_any _ _ _ hS.out
    rw [hb'] at hA
    have HA := Lib.hid hA
    clear hA hb hb' hV hE hc
    go_enter Tryd.func22, Tryd.ntmps22
    go_wp2_with (go_at_call 45; refine (HA.out).mono ?_; rintro e w' ⟨rfl, rfl⟩)
    go_ret2
    exact ⟨rfl, rfl⟩

/-- The elements that drive. -/
def drv (zs : List Nat) : List Nat := zs.filter fun z => decide (z ≠ 3)
theorem drv_yes {zs : List Nat} {k : Nat} (h : k < zs.length) (h3 : zs[k] ≠ 3) : drv (zs.take (k + 1)) = drv (zs.take k) ++ [zs[k]] := by
  unfold drv; rw [List.take_succ_eq_append_getElem h, List.filter_append]; simp [h3]
theorem drv_no {zs : List Nat} {k : Nat} (h : k < zs.length) (h3 : zs[k] = 3) : drv (zs.take (k + 1)) = drv (zs.take k) := by
  unfold drv; rw [List.take_succ_eq_append_getElem h, List.filter_append]; simp [h3]
theorem drv_le (zs : List Nat) (k : Nat) : (drv (zs.take k)).length ≤ k := Nat.le_trans (List.length_filter_le _ _) (List.length_take_le _ _)

/-- Resolved bits, by what drives: from a bit that is not z. -/
theorem resF_drv (zs : List Nat) : ∀ r, r ≤ 2 → (∀ z ∈ zs, z ≤ 3) → zs.foldl resN r = if (∀ z ∈ drv zs, z = r) then r else 2 := by
  induction zs with
  | nil => intro r _ _; simp [drv]
  | cons z zs ih =>
    intro r hr h
    have hz := h z (by simp)
    have ht : ∀ y ∈ zs, y ≤ 3 := fun y hy => h y (by simp [hy])
    rw [List.foldl_cons]
    by_cases h3 : z = 3
    · subst h3
      have : resN r 3 = r := by unfold resN; (repeat' split) <;> omega
      rw [this, ih r hr ht]
      simp [drv]
    · have hd : drv (z :: zs) = z :: drv zs := by simp [drv, h3]
      rw [hd]
      by_cases hzr : z = r
      · subst hzr
        have : resN z z = z := by unfold resN; rw [if_pos rfl]
        rw [this, ih z hr ht]
        simp
      · have : resN r z = 2 := by unfold resN; (repeat' split) <;> omega
        rw [this, ih 2 (by omega) ht]
        rw [if_neg (c := ∀ y ∈ z :: drv zs, y = r) (by intro hh; exact hzr (hh z (by simp)))]
        split <;> rfl
theorem resL_drv (zs : List Nat) (h : bitsB zs = true) : resL zs = match drv zs with | [] => 3 | r :: l => if (∀ z ∈ l, z = r) then r else 2 := by
  have hz : ∀ z ∈ zs, z ≤ 3 := fun _ hz => bitsB_mem h hz
  clear h
  unfold resL
  induction zs with
  | nil => rfl
  | cons z zs ih =>
    have h1 := hz z (by simp)
    have ht : ∀ y ∈ zs, y ≤ 3 := fun y hy => hz y (by simp [hy])
    rw [List.foldl_cons]
    by_cases h3 : z = 3
    · subst h3
      have : resN 3 3 = 3 := by decide
      rw [this, ih ht]
      simp [drv]
    · have hd : drv (z :: zs) = z :: drv zs := by simp [drv, h3]
      have : resN 3 z = z := by unfold resN; (repeat' split) <;> omega
      rw [this, hd, resF_drv zs z (by omega) ht]
end Go.Proofs.YtaeehejnifhaaaaDoor
