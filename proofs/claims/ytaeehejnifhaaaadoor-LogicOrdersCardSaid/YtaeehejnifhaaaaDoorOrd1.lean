/- Orders: plain facts on the operations' and Resolve's orders; a literal slice of strings; append in a region whose order is open. -/
import Derived.Test.YtaeehejnifhaaaaDoorOne
import Derived.Test.YtaeehejnifhaaaaDoorRes
import Derived.Deep.RegionLaw
namespace Go.Proofs.YtaeehejnifhaaaaDoor
open Go.RowKit

theorem op_comm : ∀ k, k ∈ [0, 1, 2, 3, 4, 5] → ∀ a, a ∈ [0, 1, 2, 3] → ∀ b, b ∈ [0, 1, 2, 3] → opN k a b = opN k b a := by decide +kernel
theorem op_assoc : ∀ k, k ∈ [0, 1] → ∀ a, a ∈ [0, 1, 2, 3] → ∀ b, b ∈ [0, 1, 2, 3] → ∀ c, c ∈ [0, 1, 2, 3] → opN k (opN k a b) c = opN k a (opN k b c) := by decide +kernel
theorem mem4 {x : Nat} (h : x ≤ 3) : x ∈ [0, 1, 2, 3] := by simp; omega

theorem resN_swap (z : Nat) {x y : Nat} (hx : x ≤ 3) (hy : y ≤ 3) : resN (resN z x) y = resN (resN z y) x := by
  unfold resN
  by_cases h1 : z = x
  · subst h1
    by_cases h2 : z = y
    · subst h2; rfl
    · simp only [h2, if_true, if_false]
      (repeat' split) <;> omega
  · by_cases h2 : z = y
    · subst h2
      simp only [h1, if_true, if_false]
      (repeat' split) <;> omega
    · simp only [h1, h2, if_false]
      by_cases h3 : z = 3
      · simp only [h3, if_true]
        (repeat' split) <;> omega
      · simp only [h3, if_false]
        (repeat' split) <;> omega
theorem bitsB_perm {xs ys : List Nat} (h : xs.Perm ys) : bitsB xs = bitsB ys := by
  by_cases hb : bitsB ys = true
  · rw [hb]; exact bitsB_of fun z hz => bitsB_mem hb (h.mem_iff.1 hz)
  · have hb' : bitsB ys = false := by simpa using hb
    rw [hb']
    by_cases hx : bitsB xs = true
    · exact absurd (bitsB_of fun z hz => bitsB_mem hx (h.mem_iff.2 hz)) hb
    · simpa using hx
theorem res_perm {xs ys : List Nat} (h : xs.Perm ys) : resV xs = resV ys ∧ resE xs = resE ys := by
  unfold resV resE
  rw [bitsB_perm h]
  refine ⟨?_, rfl⟩
  by_cases hb : bitsB ys = true
  · rw [if_pos hb, if_pos hb]
    exact h.foldl_eq' (fun x hx y hy z => resN_swap z (bitsB_mem hb (h.mem_iff.1 hx)) (bitsB_mem hb (h.mem_iff.1 hy))) 3
  · rw [if_neg hb, if_neg hb]
theorem rot_perm (zs : List Nat) (k : Nat) : (zs.drop k ++ zs.take k).Perm zs := by
  have := List.perm_append_comm (l₁ := zs.drop k) (l₂ := zs.take k)
  rwa [List.take_append_drop] at this

theorem op_set {s : ByteArray} {k : Nat} (hs : nameK s = k) (hk : k ≤ 5) {a b r : Nat} (ha : a ≤ 3) (hb : b ≤ 3) (hr : opN k a b = r) (w : World) (hT : Tabs w) :
    Calls Tryd.prog 13 #[.string s, .int .u8 a, .int .u8 b] w fun e w' => e = .returned (.tuple #[.int .u8 (r : Nat), .int .i64 0]) ∧ w = w' := by
  have := op_good s a b w hT ha hb
  rw [hs, if_pos hk, if_pos hk, hr] at this
  exact this

/-- A block that is known whole. -/
def Row (w : World) (g : Nat) (t : TypeId) (cs : Array Value) : Prop := w.heap[g]? = some (.cells cs t (0, 0))
section
variable {w w' : World} {g : Nat} {t : TypeId} {cs : Array Value}
theorem Row.new (w : World) (t : TypeId) (cs : Array Value) : Row (w.alloc (.cells cs t)) w.heap.size t cs := heap_alloc_new w _
theorem Row.cell (h : Row w g t cs) (i : Nat) : w.cell? ⟨g, i, none⟩ = cs[i]? := cell_of_row w g i cs t (0, 0) h
end

theorem step_append_sl {ops : Array Oper} {o : Oper} {a : Act} {w : World} {K : Act → World → Prop} {Q : Exit → Act → World → Prop} {E : Prop} (hgd : o.guard = none) (s x : Operand)
    (ho : o.op = .call { callee := .builtin .append, args := #[s, x], argTypes := #[31, 31] })
    (base : Nat) (v u : Value) (xs ys : List Nat) (hs : a.eval s = v) (hx : a.eval x = u) (hown : Own w base v xs) (hu : Sl w u ys) (hl : xs.length + ys.length ≤ 140737488355328)
    (h : ∀ v' w', Own w' base v' (xs ++ ys) → (∀ B, B ≤ base → Below B w w') → K (a.put o.dst v') w') :
    if Region.wanted o (yielded ops a.tmps) = true then Oper.wp Tryd.prog o a w K Q else E := by
  have hw : Region.wanted o (yielded ops a.tmps) = true := by simp [Region.wanted, hgd]
  rw [if_pos hw]
  obtain ⟨v', w', hrun, h2, h3⟩ := run_append_sl w base o.type v u xs ys hown hu hl
  unfold Oper.wp execOp
  simp only [ho, resolve, invoke, builtin, Sem.run_bind, Sem.run_pure, Result.andThen_ok, List.map_toArray, List.map_cons, List.map_nil, hs, hx, hrun]
  exact h v' w' h2 h3

/-- A piece of a slice. -/
theorem Sl.part {w : World} {b off c : Nat} {zs : List Nat} (hn : zs.length ≤ 140737488355328) (hz : ∀ z ∈ zs, z < 256) (hc : ∀ (k : Nat) (h : k < zs.length), w.cell? ⟨b, off + k, none⟩ = some (.int .u8 (zs[k] : Nat))) (i j : Nat) (hij : i ≤ j) (hj : j ≤ zs.length) :
    Sl w (.slice (some ⟨b, off + i, none⟩) (j - i) c) ((zs.take j).drop i) := by
  refine ⟨_, c, by simp; omega, by simp; omega, fun z hz' => hz z (List.mem_of_mem_take (List.mem_of_mem_drop hz')), .inr ⟨b, off + i, rfl, fun k hk => ?_⟩⟩
  simp at hk
  rw [Nat.add_assoc, hc (i + k) (by omega)]
  simp
end Go.Proofs.YtaeehejnifhaaaaDoor
