/- Values in memory whose blocks are known to be of a kind; rows of values of the call's own, and append to them. -/
import Derived.Test.YtdiagnhdigakpaaGreatDoorKd
import Derived.Deep.AppendLies
import Derived.Deep.RegionLaw
import Derived.Laws.OwnMore
import Derived.OwnWalk
import Derived.Deep.RegionWith
namespace Go.Proofs.YtdiagnhdigakpaaGreatDoor
open Go.RowKit

/-- v is a slice that reads as these bits, in a block of a kind. -/
def BitP (S : Nat → Prop) (w : World) (v : Value) (l : List Nat) : Prop :=
  ∃ (A : Option Addr) (c : Nat), v = .slice A l.length c ∧ l.length ≤ c ∧ l.length ≤ 9223372036854775807 ∧ (∀ z ∈ l, z < 256) ∧
    (l = [] ∨ ∃ b off, A = some ⟨b, off, none⟩ ∧ S b ∧ ∀ (k : Nat) (h : k < l.length), w.cell? ⟨b, off + k, none⟩ = some (.int .u8 (l[k] : Nat)))
mutual
/-- These four cells read as the value, in blocks of a kind. -/
def VaP (S : Nat → Prop) (w : World) : Va → List Value → Prop
  | .mk k n bs ls, cs => ∃ (vb : Value) (A : Option Addr) (c : Nat), cs = [.int .i64 k, .int .i64 n, vb, .slice A ls.length c] ∧ BitP S w vb bs ∧ ls.length ≤ c ∧ ls.length ≤ 9223372036854775807 ∧
      (ls = [] ∨ ∃ b off, A = some ⟨b, off, none⟩ ∧ S b ∧ VaPAt S w ls b off)
/-- From a place on there are cells of these values. -/
def VaPAt (S : Nat → Prop) (w : World) : List Va → Nat → Nat → Prop
  | [], _, _ => True
  | t :: r, b, off => (∃ cs : List Value, VaP S w t cs ∧ ∀ j, j < 4 → w.cell? ⟨b, off + j, none⟩ = cs[j]?) ∧ VaPAt S w r b (off + 4)
end
/-- v is a slice that reads as these values. -/
def VasP (S : Nat → Prop) (w : World) (v : Value) (ls : List Va) : Prop :=
  ∃ (A : Option Addr) (c : Nat), v = .slice A ls.length c ∧ ls.length ≤ c ∧ ls.length ≤ 9223372036854775807 ∧ (ls = [] ∨ ∃ b off, A = some ⟨b, off, none⟩ ∧ S b ∧ VaPAt S w ls b off)
theorem vaP_iff {S : Nat → Prop} {w : World} {k n : Int} {bs : List Nat} {ls : List Va} {cs : List Value} : VaP S w (.mk k n bs ls) cs ↔ ∃ vb vl, cs = [.int .i64 k, .int .i64 n, vb, vl] ∧ BitP S w vb bs ∧ VasP S w vl ls := by
  rw [VaP]
  constructor
  · rintro ⟨vb, A, c, rfl, h1, h2, h3, h4⟩
    exact ⟨vb, _, rfl, h1, A, c, rfl, h2, h3, h4⟩
  · rintro ⟨vb, vl, rfl, h1, A, c, rfl, h2, h3, h4⟩
    exact ⟨vb, A, c, rfl, h1, h2, h3, h4⟩
theorem cell_turn {w w' : World} {p : Addr} {u : Value} (hk : w'.heap[p.block]? = w.heap[p.block]?) (h : w.cell? p = some u) : w'.cell? p = some u := (World.cell?_of_block hk).trans h
theorem BitP.turn {S S' : Nat → Prop} {w w' : World} (ht : ∀ b, S b → b < w.heap.size → S' b ∧ w'.heap[b]? = w.heap[b]?) {v : Value} {l : List Nat} (h : BitP S w v l) : BitP S' w' v l := by
  obtain ⟨A, c, e, h1, h2, h3, hc⟩ := h
  refine ⟨A, c, e, h1, h2, h3, ?_⟩
  by_cases hl : l = []
  · exact .inl hl
  rcases hc with hc | ⟨b, off, e', hS, hc⟩
  · exact .inl hc
  · have h0 : 0 < l.length := List.length_pos_iff.2 hl
    have hlt : b < w.heap.size := block_lt_of_cell (hc 0 h0)
    obtain ⟨g1, g2⟩ := ht b hS hlt
    exact .inr ⟨b, off, e', g1, fun k hk => cell_turn g2 (hc k hk)⟩
mutual
theorem VaP.turn {S S' : Nat → Prop} {w w' : World} (ht : ∀ b, S b → b < w.heap.size → S' b ∧ w'.heap[b]? = w.heap[b]?) : ∀ (t : Va) (cs : List Value), VaP S w t cs → VaP S' w' t cs
  | .mk k n bs ls, cs, h => by
    rw [VaP] at h ⊢
    obtain ⟨vn, A, c, e, hs, h1, h2, hc⟩ := h
    refine ⟨vn, A, c, e, BitP.turn ht hs, h1, h2, ?_⟩
    by_cases hl : ls = []
    · exact .inl hl
    rcases hc with hc | ⟨b, off, e', hS, hc⟩
    · exact .inl hc
    · have hlt : b < w.heap.size := by
        cases ls with
        | nil => exact absurd rfl hl
        | cons t r =>
          rw [VaPAt] at hc
          obtain ⟨⟨cs', h3, h4⟩, _⟩ := hc
          have := h4 0 (by omega)
          cases t
          rw [VaP] at h3
          obtain ⟨_, _, _, rfl, _⟩ := h3
          exact block_lt_of_cell this
      obtain ⟨g1, g2⟩ := ht b hS hlt
      exact .inr ⟨b, off, e', g1, VaPAt.turn ht ls b off g2 hc⟩
theorem VaPAt.turn {S S' : Nat → Prop} {w w' : World} (ht : ∀ b, S b → b < w.heap.size → S' b ∧ w'.heap[b]? = w.heap[b]?) : ∀ (ts : List Va) (b off : Nat), w'.heap[b]? = w.heap[b]? → VaPAt S w ts b off → VaPAt S' w' ts b off
  | [], _, _, _, _ => by rw [VaPAt]; trivial
  | t :: r, b, off, hb, h => by
    rw [VaPAt] at h ⊢
    obtain ⟨⟨cs, h1, h2⟩, h3⟩ := h
    have hl : cs.length = 4 := by
      cases t
      rw [VaP] at h1
      obtain ⟨_, _, _, rfl, _⟩ := h1
      rfl
    refine ⟨⟨cs, VaP.turn ht t cs h1, fun j hj => ?_⟩, VaPAt.turn ht r b (off + 4) hb h3⟩
    have := h2 j hj
    rw [List.getElem?_eq_getElem (by omega)] at this ⊢
    exact cell_turn hb this
end
theorem VasP.turn {S S' : Nat → Prop} {w w' : World} (ht : ∀ b, S b → b < w.heap.size → S' b ∧ w'.heap[b]? = w.heap[b]?) {v : Value} {ls : List Va} (h : VasP S w v ls) : VasP S' w' v ls := by
  have h0 : VaP S w (.mk 0 0 [] ls) [.int .i64 0, .int .i64 0, .slice none 0 0, v] := vaP_iff.2 ⟨_, _, rfl, ⟨none, 0, rfl, by simp, by simp, by simp, .inl rfl⟩, h⟩
  obtain ⟨vb, vl, e, _, h1⟩ := vaP_iff.1 (VaP.turn ht _ _ h0)
  simp only [List.cons.injEq, and_true, true_and] at e
  rw [e.2]
  exact h1
theorem BitP.later {S : Nat → Prop} {w w' : World} {v : Value} {l : List Nat} (h : BitP S w v l) (hb : Below w.heap.size w w') : BitP S w' v l := BitP.turn (fun b hS hl => ⟨hS, hb.block b hl⟩) h
theorem VaP.later {S : Nat → Prop} {w w' : World} {t : Va} {cs : List Value} (h : VaP S w t cs) (hb : Below w.heap.size w w') : VaP S w' t cs := VaP.turn (fun b hS hl => ⟨hS, hb.block b hl⟩) _ _ h
theorem VasP.later {S : Nat → Prop} {w w' : World} {v : Value} {ls : List Va} (h : VasP S w v ls) (hb : Below w.heap.size w w') : VasP S w' v ls := VasP.turn (fun b hS hl => ⟨hS, hb.block b hl⟩) h
theorem VaP.mono {S S' : Nat → Prop} {w : World} {t : Va} {cs : List Value} (h : VaP S w t cs) (hs : ∀ b, S b → b < w.heap.size → S' b) : VaP S' w t cs := VaP.turn (fun b hS hl => ⟨hs b hS hl, rfl⟩) _ _ h
mutual
theorem VaP.toC {S : Nat → Prop} {w : World} : ∀ (t : Va) (cs : List Value), VaP S w t cs → VaC w t cs
  | .mk k n bs ls, cs, h => by
    rw [VaP] at h
    rw [VaC]
    obtain ⟨vn, A, c, e, ⟨A', c', e', g1, g2, g3, g4⟩, h1, h2, hc⟩ := h
    refine ⟨vn, A, c, e, ⟨A', c', e', g1, g2, g3, ?_⟩, h1, h2, ?_⟩
    · rcases g4 with g4 | ⟨b, off, e'', _, g4⟩
      · exact .inl g4
      · exact .inr ⟨b, off, e'', g4⟩
    · rcases hc with hc | ⟨b, off, e'', _, hc⟩
      · exact .inl hc
      · exact .inr ⟨b, off, e'', VaPAt.toC ls b off hc⟩
theorem VaPAt.toC {S : Nat → Prop} {w : World} : ∀ (ts : List Va) (b off : Nat), VaPAt S w ts b off → VaAt w ts b off
  | [], _, _, _ => by rw [VaAt]; trivial
  | t :: r, b, off, h => by
    rw [VaPAt] at h
    rw [VaAt]
    obtain ⟨⟨cs, h1, h2⟩, h3⟩ := h
    exact ⟨⟨cs, VaP.toC t cs h1, h2⟩, VaPAt.toC r b (off + 4) h3⟩
end
mutual
theorem VaC.toP {w : World} : ∀ (t : Va) (cs : List Value), VaC w t cs → VaP (fun _ => True) w t cs
  | .mk k n bs ls, cs, h => by
    rw [VaC] at h
    rw [VaP]
    obtain ⟨vn, A, c, e, ⟨A', c', e', g1, g2, g3, g4⟩, h1, h2, hc⟩ := h
    refine ⟨vn, A, c, e, ⟨A', c', e', g1, g2, g3, ?_⟩, h1, h2, ?_⟩
    · rcases g4 with g4 | ⟨b, off, e'', g4⟩
      · exact .inl g4
      · exact .inr ⟨b, off, e'', trivial, g4⟩
    · rcases hc with hc | ⟨b, off, e'', hc⟩
      · exact .inl hc
      · exact .inr ⟨b, off, e'', trivial, VaAt.toP ls b off hc⟩
theorem VaAt.toP {w : World} : ∀ (ts : List Va) (b off : Nat), VaAt w ts b off → VaPAt (fun _ => True) w ts b off
  | [], _, _, _ => by rw [VaPAt]; trivial
  | t :: r, b, off, h => by
    rw [VaAt] at h
    rw [VaPAt]
    obtain ⟨⟨cs, h1, h2⟩, h3⟩ := h
    exact ⟨⟨cs, VaC.toP t cs h1, h2⟩, VaAt.toP r b (off + 4) h3⟩
end
/-- An argument: all its blocks are there. -/
theorem VaC.old {w : World} {t : Va} {cs : List Value} (h : VaC w t cs) : VaP (fun b => b < w.heap.size) w t cs := VaP.turn (fun _ _ hl => ⟨hl, rfl⟩) _ _ (VaC.toP t cs h)
theorem vasP_nil {S : Nat → Prop} (w : World) : VasP S w (.slice none 0 0) [] := ⟨none, 0, rfl, by simp, by simp, .inl rfl⟩
theorem bitP_nil {S : Nat → Prop} (w : World) : BitP S w (.slice none 0 0) [] := ⟨none, 0, rfl, by simp, by simp, by simp, .inl rfl⟩
/-- A value's cells are four. -/
theorem VaP.len {S : Nat → Prop} {w : World} {t : Va} {cs : List Value} (h : VaP S w t cs) : cs.length = 4 := by
  cases t
  rw [VaP] at h
  obtain ⟨_, _, _, rfl, _⟩ := h
  rfl
theorem VaP.one {S : Nat → Prop} {w : World} {t : Va} {cs : List Value} (h : VaP S w t cs) : ∀ u ∈ cs, u.oneCell' = true := by
  cases t
  rw [VaP] at h
  obtain ⟨_, _, _, rfl, ⟨_, _, rfl, _⟩, _⟩ := h
  intro u hu
  simp only [List.mem_cons, List.not_mem_nil, or_false] at hu
  rcases hu with rfl | rfl | rfl | rfl <;> rfl
theorem flat_len {css : List (List Value)} (h : ∀ cs ∈ css, cs.length = 4) : css.flatten.length = css.length * 4 := by
  induction css with
  | nil => rfl
  | cons c r ih =>
    rw [List.flatten_cons, List.length_append, h c (by simp), ih (fun x hx => h x (by simp [hx])), List.length_cons]
    omega
theorem flat_get : ∀ {css : List (List Value)}, (∀ cs ∈ css, cs.length = 4) → ∀ (k : Nat) (hk : k < css.length) (j : Nat), j < 4 → css.flatten[k * 4 + j]? = css[k][j]?
  | [], _, k, hk, _, _ => absurd hk (Nat.not_lt_zero _)
  | c :: r, h, 0, _, j, hj => by
    rw [List.flatten_cons, List.getElem?_append_left (by rw [h c (by simp)]; omega)]
    simp
  | c :: r, h, k + 1, hk, j, hj => by
    have hc := h c (by simp)
    rw [List.flatten_cons, List.getElem?_append_right (by omega), hc, show (k + 1) * 4 + j - 4 = k * 4 + j by omega, flat_get (fun x hx => h x (by simp [hx])) k (by simpa using hk) j hj]
    rfl
theorem Tryz.infoVa : (Tryz.prog.info? 38).map (fun i => (i.zero, i.size, i.bytes)) = some (some (.agg #[.int .i64 0, .int .i64 0, .slice none 0 0, .slice none 0 0]), 4, 64) := by kernel_rfl
/-- v is a slice of the call's own (from block base on) that reads as these values, whose blocks are of a kind and none of them the row's. -/
def OwnV (S : Nat → Prop) (w : World) (base : Nat) (v : Value) (ls : List Va) : Prop :=
  (∃ css : List (List Value), w.ownsRow base 38 4 v ls.length css.flatten ∧ css.length = ls.length ∧ (∀ cs ∈ css, cs.length = 4) ∧
    ∀ (k : Nat) (h : k < ls.length) (h' : k < css.length), VaP (fun b => S b ∧ v.ownBlock ≠ some b) w ls[k] css[k]) ∧ ls.length ≤ 100000 ∧ base ≤ w.heap.size
theorem OwnV.nil {S : Nat → Prop} (w : World) {base : Nat} (h : base ≤ w.heap.size) : OwnV S w base (.slice none 0 0) [] :=
  ⟨⟨[], World.ownsRow_nil _ _ _ _, rfl, by simp, fun k hk => absurd hk (Nat.not_lt_zero _)⟩, by simp, h⟩
theorem OwnV.empty {S : Nat → Prop} (w : World) : OwnV S (w.alloc (.cells #[] 38)) w.heap.size (.slice (some ⟨w.heap.size, 0, none⟩) 0 0) [] :=
  ⟨⟨[], World.ownsRow_made w #[] 0 (Nat.le_refl _) (by decide) rfl, rfl, by simp, fun k hk => absurd hk (Nat.not_lt_zero _)⟩, by simp, by simp⟩
theorem OwnV.kept {S : Nat → Prop} {w w' : World} {base : Nat} {v : Value} {ls : List Va} (h : OwnV S w base v ls) (hb : Below w.heap.size w w') : OwnV S w' base v ls := by
  obtain ⟨⟨css, ho, h1, h2, h3⟩, hn, hB⟩ := h
  have hg : w.grownBy w' none := ⟨hb.os, hb.tape, hb.output, hb.size, fun k hk _ => hb.block k hk⟩
  refine ⟨⟨css, ?_, h1, h2, fun k hk hk' => (h3 k hk hk').later hb⟩, hn, Nat.le_trans hB hb.size⟩
  rcases ho.2 with ⟨e, _⟩ | ⟨g, cap, cur, e, _⟩
  · exact ho.kept hg (.inl (by rw [e]; rfl))
  · exact ho.kept hg (.inr (by rw [e]; simp [Value.ownBlock]))
/-- A store below the row's base, into a block in which no value lies. -/
theorem OwnV.setLow {S : Nat → Prop} {w : World} {base : Nat} {v : Value} {ls : List Va} (h : OwnV S w base v ls) {a : Addr} (ha : a.block < base) (hS : ∀ b, S b → b ≠ a.block) (u : Value) : OwnV S (w.setCell a u) base v ls := by
  obtain ⟨⟨css, ho, h1, h2, h3⟩, hn, hB⟩ := h
  refine ⟨⟨css, ownsRow_setCell_below ho ha u, h1, h2, fun k hk hk' => VaP.turn (fun b hb _ => ⟨hb, Below.heap_setCell _ _ _ _ (hS b hb.1)⟩) _ _ (h3 k hk hk')⟩, hn, by simpa [World.setCell] using hB⟩
theorem vaPAt_of {S : Nat → Prop} {w : World} {b : Nat} : ∀ (l : List Va) (o : Nat), (∀ (k : Nat) (hk : k < l.length), ∃ cs : List Value, VaP S w l[k] cs ∧ ∀ j, j < 4 → w.cell? ⟨b, o + k * 4 + j, none⟩ = cs[j]?) → VaPAt S w l b o
  | [], _, _ => by rw [VaPAt]; trivial
  | t :: r, o, h => by
    rw [VaPAt]
    refine ⟨?_, vaPAt_of r (o + 4) fun k hk => ?_⟩
    · obtain ⟨cs, h1, h2⟩ := h 0 (by simp)
      exact ⟨cs, h1, fun j hj => by have := h2 j hj; simpa using this⟩
    · obtain ⟨cs, h1, h2⟩ := h (k + 1) (by simpa using hk)
      exact ⟨cs, by simpa using h1, fun j hj => by have := h2 j hj; rwa [show o + (k + 1) * 4 + j = o + 4 + k * 4 + j by omega] at this⟩
theorem OwnV.vas {S S' : Nat → Prop} {w : World} {base : Nat} {v : Value} {ls : List Va} (h : OwnV S w base v ls) (hs : ∀ b, base ≤ b → b < w.heap.size → S' b) (hs2 : ∀ b, S b → b < w.heap.size → S' b) : VasP S' w v ls := by
  obtain ⟨⟨css, ho, h1, h2, h3⟩, hn, hB⟩ := h
  by_cases h0 : ls = []
  · subst h0
    rcases ho.2 with ⟨e, _⟩ | ⟨g, cap, cur, e, _⟩
    · exact ⟨none, 0, e, by simp, by simp, .inl rfl⟩
    · exact ⟨_, cap, e, by simp, by simp, .inl rfl⟩
  · have hpos : 0 < ls.length := List.length_pos_iff.2 h0
    have hlt := ho.lt
    rcases ho.2 with ⟨_, e⟩ | ⟨g, cap, cur, rfl, _, _, hnc, _⟩
    · omega
    · obtain ⟨l1, l2⟩ := hlt g rfl
      refine ⟨_, cap, rfl, hnc, by omega, .inr ⟨g, 0, rfl, hs g l1 l2, vaPAt_of ls 0 fun k hk => ⟨css[k], (h3 k hk (by omega)).mono (fun b hb hl => hs2 b hb.1 hl), fun j hj => ?_⟩⟩⟩
      have hf := flat_len h2
      have hm : css[k] ∈ css := List.getElem_mem _
      rw [Nat.zero_add, ho.cellAt (k * 4 + j) (by omega), flat_get h2 k (by omega) j hj]
theorem add_at (b o j : Nat) : (⟨b, o, none⟩ : Addr).add j = ⟨b, o + j, none⟩ := by
  unfold Addr.add
  by_cases h0 : j = 0 <;> simp [h0]
/-- Append of one value to a row of the call's own. -/
theorem own_append {S : Nat → Prop} {w : World} {base : Nat} {v : Value} {ls : List Va} (h : OwnV S w base v ls) {x : Va} {cs : List Value} (hx : VaP (fun b => S b ∧ v.ownBlock ≠ some b) w x cs) (b o : Nat) (hc : ∀ j, j < 4 → w.cell? ⟨b, o + j, none⟩ = cs[j]?) (hl : ls.length < 100000) (c : Nat) (ty : TypeId) :
    ∃ v' w', (Builtin.append_ #[36, 36] ty #[v, .slice (some ⟨b, o, none⟩) 1 c]).run Tryz.prog w = .ok v' w' ∧ OwnV S w' base v' (ls ++ [x]) ∧ (∀ B, B ≤ base → Below B w w') ∧ w.grownBy w' v.ownBlock ∧ (v'.ownBlock = v.ownBlock ∨ v'.ownBlock = some w.heap.size) := by
  obtain ⟨⟨css, ho, h1, h2, h3⟩, hn, hB⟩ := h
  obtain ⟨i, hi, hz, hsize, hby⟩ := info_parts Tryz.infoVa
  have hlen := hx.len
  obtain ⟨v', w', hrun, g2, g3, _, hg⟩ := run_append_own_at (P := Tryz.prog) w base 36 ty 38 i _ 4 64 Tryz.underlying36 hi hz hsize hby rfl (by decide) v ls.length css.flatten ho ⟨b, o, none⟩ 1 c cs
    (by omega) (by
      intro j u hj
      have hj4 : j < 4 := by
        rcases Nat.lt_or_ge j 4 with h | h
        · exact h
        · rw [List.getElem?_eq_none (by omega)] at hj; cases hj
      rw [add_at, hc j hj4, hj]) hx.one (by unfold maxLen; omega) (by omega) hB
  refine ⟨v', w', hrun, ⟨⟨css ++ [cs], ?_, by simp [h1], ?_, ?_⟩, by simp; omega, Nat.le_trans hB g3.size⟩, fun B hb => ?_, g3, hg⟩
  · rw [List.length_append, List.flatten_append]
    simpa using g2
  · intro y hy
    rcases List.mem_append.1 hy with hy | hy
    · exact h2 y hy
    · rw [List.mem_singleton.1 hy]; exact hlen
  · intro k hk hk'
    have key : ∀ z cz, VaP (fun b => S b ∧ v.ownBlock ≠ some b) w z cz → VaP (fun b => S b ∧ v'.ownBlock ≠ some b) w' z cz := fun z cz hz => VaP.turn (fun b hb hlt => by
      refine ⟨⟨hb.1, ?_⟩, g3.block b hlt (fun e => hb.2 e.symm)⟩
      rcases hg with e | e
      · rw [e]; exact hb.2
      · rw [e]; intro e'; have := Option.some.inj e'; omega) _ _ hz
    by_cases hlt : k < ls.length
    · rw [List.getElem_append_left hlt, List.getElem_append_left (by omega)]
      exact key _ _ (h3 k hlt (by omega))
    · have : k = ls.length := by simp at hk; omega
      subst this
      rw [List.getElem_append_right (Nat.le_refl _), List.getElem_append_right (by omega)]
      simp only [Nat.sub_self, List.getElem_singleton]
      exact key _ _ hx
  · exact (Below.refl _ _).grown g3 (by omega) fun k hk => by have := (ho.lt k hk).1; omega
end Go.Proofs.YtdiagnhdigakpaaGreatDoor
/- Blocks that are known whole; the laws of append of one value, within a list of operations and within a region whose order is open. -/
namespace Go.Proofs.YtdiagnhdigakpaaGreatDoor
open Go.RowKit

/-- A block of a struct's four cells. -/
def Blk (w : World) (g : Nat) (t : TypeId) (cs : Array Value) : Prop := w.heap[g]? = some (.cells cs t (0, 0))
theorem Blk.new (w : World) (t : TypeId) (cs : Array Value) : Blk (w.alloc (.cells cs t)) w.heap.size t cs := heap_alloc_new w _
theorem Blk.cell {w : World} {g : Nat} {t : TypeId} {cs : Array Value} (h : Blk w g t cs) (i : Nat) : w.cell? ⟨g, i, none⟩ = cs[i]? := cell_of_row w g i cs t (0, 0) h
theorem Blk.free {w : World} {g : Nat} {t : TypeId} {cs : Array Value} (h : Blk w g t cs) (i : Nat) : w.frozen? ⟨g, i, none⟩ = false := by
  unfold Blk at h
  simp [World.frozen?, h]
theorem Blk.lt {w : World} {g : Nat} {t : TypeId} {cs : Array Value} (h : Blk w g t cs) : g < w.heap.size := by
  unfold Blk at h
  exact (Array.getElem?_eq_some_iff.1 h).1
theorem Blk.turn {w w' : World} {g : Nat} {t : TypeId} {cs : Array Value} (h : Blk w g t cs) (hk : w'.heap[g]? = w.heap[g]?) : Blk w' g t cs := hk.trans h
theorem Blk.later {w w' : World} {g : Nat} {t : TypeId} {cs : Array Value} (h : Blk w g t cs) (hb : Below w.heap.size w w') : Blk w' g t cs := h.turn (hb.block g h.lt)
theorem Blk.keep {w w' : World} {g B : Nat} {t : TypeId} {cs : Array Value} (h : Blk w g t cs) (hb : Below B w w') (hl : g < B) : Blk w' g t cs := h.turn (hb.block g hl)
theorem Blk.other {w : World} {g : Nat} {t : TypeId} {cs : Array Value} (h : Blk w g t cs) {a : Addr} (ha : a.block ≠ g) (u : Value) : Blk (w.setCell a u) g t cs := h.turn (Below.heap_setCell _ _ _ _ (Ne.symm ha))
theorem four {w : World} {g : Nat} {t : TypeId} {a0 a1 a2 a3 : Value} (h : Blk w g t #[a0, a1, a2, a3]) : w.cell? ⟨g, 0, none⟩ = some a0 ∧ w.cell? ⟨g, 1, none⟩ = some a1 ∧ w.cell? ⟨g, 2, none⟩ = some a2 ∧ w.cell? ⟨g, 3, none⟩ = some a3 :=
  ⟨h.cell 0, h.cell 1, h.cell 2, h.cell 3⟩
theorem fives {w : World} {g : Nat} {t : TypeId} {a0 a1 a2 a3 a4 : Value} (h : Blk w g t #[a0, a1, a2, a3, a4]) : w.cell? ⟨g, 0, none⟩ = some a0 ∧ w.cell? ⟨g, 1, none⟩ = some a1 ∧ w.cell? ⟨g, 2, none⟩ = some a2 ∧ w.cell? ⟨g, 3, none⟩ = some a3 ∧ w.cell? ⟨g, 4, none⟩ = some a4 :=
  ⟨h.cell 0, h.cell 1, h.cell 2, h.cell 3, h.cell 4⟩
theorem Blk.set {w : World} {g : Nat} {t : TypeId} {cs : Array Value} (h : Blk w g t cs) (i : Nat) (u : Value) : Blk (w.setCell ⟨g, i, none⟩ u) g t (cs.setIfInBounds i u) := by
  unfold Blk at *
  simp only [World.setCell, Array.getElem?_modify]
  simp [h]
theorem own_bitP {S : Nat → Prop} {w : World} {base : Nat} {v : Value} {zs : List Nat} (h : Lg.Own w base v zs) (hS : ∀ b, base ≤ b → b < w.heap.size → S b) : BitP S w v zs := by
  have hlt := h.1.lt
  obtain ⟨A, c, e, hn, hz, hq, hc⟩ := h.sl
  refine ⟨A, c, e, hq, by omega, hz, ?_⟩
  by_cases h0 : zs = []
  · exact .inl h0
  rcases hc with hc | ⟨b, off, e', hc⟩
  · exact .inl hc
  · subst e'
    subst e
    obtain ⟨l1, l2⟩ := hlt b rfl
    exact .inr ⟨b, off, rfl, hS b l1 l2, hc⟩
theorem bitP_sl {S : Nat → Prop} {w : World} {v : Value} {zs : List Nat} (h : BitP S w v zs) (hl : zs.length ≤ 140737488355328) : Lg.Sl w v zs := by
  obtain ⟨A, c, e, h1, h2, h3, hc⟩ := h
  refine ⟨A, c, e, hl, h3, h1, ?_⟩
  rcases hc with hc | ⟨b, off, e', _, hc⟩
  · exact .inl hc
  · exact .inr ⟨b, off, e', hc⟩
theorem bitS_sl {w : World} {v : Value} {zs : List Nat} (h : BitS w v zs) (hl : zs.length ≤ 140737488355328) : Lg.Sl w v zs := by
  obtain ⟨A, c, e, h1, h2, h3, hc⟩ := h
  exact ⟨A, c, e, hl, h3, h1, hc⟩
theorem sl_bitS {w : World} {v : Value} {zs : List Nat} (h : Lg.Sl w v zs) : BitS w v zs := by
  obtain ⟨A, c, e, hl, h3, h1, hc⟩ := h
  exact ⟨A, c, e, h1, by omega, h3, hc⟩
theorem wpList_append_va {S : Nat → Prop} {ops : Array Oper} {rest : List Oper} {o : Oper} {a : Act} {Q : Exit → Act → World → Prop} {w : World} (hgd : o.guard = none) (s y : Operand)
    (ho : o.op = .call { callee := .builtin .append, args := #[s, y], argTypes := #[36, 36] })
    (base : Nat) (v : Value) (ls : List Va) (x : Va) (cs : List Value) (b off c : Nat) (hs : a.eval s = v) (hy : a.eval y = .slice (some ⟨b, off, none⟩) 1 c) (hown : OwnV S w base v ls) (hx : VaP (fun b => S b ∧ v.ownBlock ≠ some b) w x cs) (hc : ∀ j, j < 4 → w.cell? ⟨b, off + j, none⟩ = cs[j]?) (hl : ls.length < 100000)
    (h : ∀ v' w', OwnV S w' base v' (ls ++ [x]) → (∀ B, B ≤ base → Below B w w') → w.grownBy w' v.ownBlock → (v'.ownBlock = v.ownBlock ∨ v'.ownBlock = some w.heap.size) → wpList Tryz.prog ops Q rest (a.put o.dst v') w') : wpList Tryz.prog ops Q (o :: rest) a w :=
  wpList_plain hgd fun K hK => by
    obtain ⟨v', w', hrun, h2, h3, h4, h5⟩ := own_append hown hx b off hc hl c o.type
    unfold Oper.wp execOp
    simp only [ho, resolve, invoke, builtin, Sem.run_bind, Sem.run_pure, Result.andThen_ok, List.map_toArray, List.map_cons, List.map_nil, hs, hy, hrun]
    exact hK _ _ (h v' w' h2 h3 h4 h5)
theorem step_append_va {S : Nat → Prop} {ops : Array Oper} {o : Oper} {a : Act} {w : World} {K : Act → World → Prop} {Q : Exit → Act → World → Prop} {E : Prop} (hgd : o.guard = none) (s y : Operand)
    (ho : o.op = .call { callee := .builtin .append, args := #[s, y], argTypes := #[36, 36] })
    (base : Nat) (v : Value) (ls : List Va) (x : Va) (cs : List Value) (b off c : Nat) (hs : a.eval s = v) (hy : a.eval y = .slice (some ⟨b, off, none⟩) 1 c) (hown : OwnV S w base v ls) (hx : VaP (fun b => S b ∧ v.ownBlock ≠ some b) w x cs) (hc : ∀ j, j < 4 → w.cell? ⟨b, off + j, none⟩ = cs[j]?) (hl : ls.length < 100000)
    (h : ∀ v' w', OwnV S w' base v' (ls ++ [x]) → (∀ B, B ≤ base → Below B w w') → w.grownBy w' v.ownBlock → (v'.ownBlock = v.ownBlock ∨ v'.ownBlock = some w.heap.size) → K (a.put o.dst v') w') :
    if Region.wanted o (yielded ops a.tmps) = true then Oper.wp Tryz.prog o a w K Q else E := by
  have hw : Region.wanted o (yielded ops a.tmps) = true := by simp [Region.wanted, hgd]
  rw [if_pos hw]
  obtain ⟨v', w', hrun, h2, h3, h4, h5⟩ := own_append hown hx b off hc hl c o.type
  unfold Oper.wp execOp
  simp only [ho, resolve, invoke, builtin, Sem.run_bind, Sem.run_pure, Result.andThen_ok, List.map_toArray, List.map_cons, List.map_nil, hs, hy, hrun]
  exact h v' w' h2 h3 h4 h5
theorem run_append_bits (w : World) (base : Nat) (ty : TypeId) (v u : Value) (xs ys : List Nat) (hown : Lg.Own w base v xs) (hu : Lg.Sl w u ys) (hl : xs.length + ys.length ≤ 140737488355328) :
    ∃ v' w', (Builtin.append_ #[35, 35] ty #[v, u]).run Tryz.prog w = .ok v' w' ∧ Lg.Own w' base v' (xs ++ ys) ∧ w.grownBy w' v.ownBlock ∧ (v'.ownBlock = v.ownBlock ∨ v'.ownBlock = some w.heap.size) := by
  obtain ⟨i, hi, hz, hsize, hby⟩ := info_parts Lg.Tryz.infoBit
  obtain ⟨ho, hn, hx, hB⟩ := hown
  obtain ⟨A, c, rfl, hn', hy, hq, hc⟩ := hu
  have hxy : ∀ z ∈ xs ++ ys, z < 256 := by
    intro z hz
    rcases List.mem_append.1 hz with h | h
    · exact hx z h
    · exact hy z h
  rcases A with _ | ad
  · have h0 : ys = [] := by
      rcases hc with h | ⟨b, off, e, _⟩
      · exact h
      · cases e
    subst h0
    exact ⟨v, w, Lg.run_append_of_nil w base _ ty _ i 1 Tryz.underlying35 hi v _ _ ho c, ⟨by simpa using ho, by simpa using hn, hxy, hB⟩, ⟨rfl, rfl, rfl, Nat.le_refl _, fun _ _ _ => rfl⟩, .inl rfl⟩
  · have hcells : ∀ j u, (Lg.bitCells ys)[j]? = some u → w.cell? (ad.add j) = some u := by
      intro j u hj
      have hlt : j < ys.length := by
        rcases Nat.lt_or_ge j ys.length with h | h
        · exact h
        · rw [List.getElem?_eq_none (by rw [Lg.bitCells_length]; exact h)] at hj; cases hj
      rw [Lg.bitCells_get hlt] at hj
      rcases hc with rfl | ⟨b, off, e, hc⟩
      · exact absurd hlt (by simp)
      · obtain rfl := Option.some.inj e
        rw [add_at, hc j hlt, hj]
    obtain ⟨v', w', hrun, h2, h3, _, h5⟩ := run_append_own_at (P := Tryz.prog) w base 35 ty 72 i (.int .u8 0) 1 1 Tryz.underlying35 hi hz hsize hby rfl (by decide) v xs.length (Lg.bitCells xs) ho ad ys.length c (Lg.bitCells ys)
      (by rw [Lg.bitCells_length]; omega) hcells (by intro u hu; simp [Lg.bitCells] at hu; obtain ⟨z, _, rfl⟩ := hu; rfl) (by unfold maxLen; omega) (by omega) hB
    refine ⟨v', w', hrun, ⟨?_, ?_, hxy, Nat.le_trans hB h3.size⟩, h3, h5⟩
    · rw [List.length_append, show Lg.bitCells (xs ++ ys) = Lg.bitCells xs ++ Lg.bitCells ys by simp [Lg.bitCells]]; exact h2
    · rw [List.length_append]; exact hl
theorem step_append_bits {ops : Array Oper} {o : Oper} {a : Act} {w : World} {K : Act → World → Prop} {Q : Exit → Act → World → Prop} {E : Prop} (hgd : o.guard = none) (s x : Operand)
    (ho : o.op = .call { callee := .builtin .append, args := #[s, x], argTypes := #[35, 35] })
    (base : Nat) (v u : Value) (xs ys : List Nat) (hs : a.eval s = v) (hx : a.eval x = u) (hown : Lg.Own w base v xs) (hu : Lg.Sl w u ys) (hl : xs.length + ys.length ≤ 140737488355328)
    (h : ∀ v' w', Lg.Own w' base v' (xs ++ ys) → w.grownBy w' v.ownBlock → (v'.ownBlock = v.ownBlock ∨ v'.ownBlock = some w.heap.size) → K (a.put o.dst v') w') :
    if Region.wanted o (yielded ops a.tmps) = true then Oper.wp Tryz.prog o a w K Q else E := by
  have hw : Region.wanted o (yielded ops a.tmps) = true := by simp [Region.wanted, hgd]
  rw [if_pos hw]
  obtain ⟨v', w', hrun, h2, h3, h4⟩ := run_append_bits w base o.type v u xs ys hown hu hl
  unfold Oper.wp execOp
  simp only [ho, resolve, invoke, builtin, Sem.run_bind, Sem.run_pure, Result.andThen_ok, List.map_toArray, List.map_cons, List.map_nil, hs, hx, hrun]
  exact h v' w' h2 h3 h4
/-- A new empty row of bits. -/
theorem own_new (X : World) (n : Nat) (h : X.heap.size = n) : Lg.Own (X.alloc (.cells #[] 72)) n (.slice (some ⟨n, 0, none⟩) 0 0) [] := by
  subst h
  exact Lg.Own.empty X
theorem own_drew {w : World} {base : Nat} {v : Value} {zs : List Nat} (h : Lg.Own w base v zs) : Lg.Own w.drew base v zs := h.kept (Below.refl _ _).drew
theorem blk_new (X : World) (n : Nat) (t : TypeId) (cs : Array Value) (h : X.heap.size = n) : Blk (X.alloc (.cells cs t)) n t cs := by
  subst h
  exact Blk.new X t cs
theorem blk_drew {w : World} {g : Nat} {t : TypeId} {cs : Array Value} (h : Blk w g t cs) : Blk w.drew g t cs := h
theorem blk_alloc {w : World} {g : Nat} {t : TypeId} {cs : Array Value} (h : Blk w g t cs) (o : Obj) : Blk (w.alloc o) g t cs := h.later ((Below.refl _ _).alloc (Nat.le_refl _) o)
/-- What an append leaves of another block. -/
theorem Blk.grown {w w' : World} {g r : Nat} {t : TypeId} {cs : Array Value} (h : Blk w g t cs) (hg : w.grownBy w' (some r)) (hne : g ≠ r) : Blk w' g t cs := h.turn (hg.block g h.lt (fun e => hne (Option.some.inj e)))
theorem boxes2 (w : World) (t1 t2 : TypeId) (a b : Array Value) : Blk ((w.alloc (.cells a t1)).alloc (.cells b t2)) w.heap.size t1 a ∧ Blk ((w.alloc (.cells a t1)).alloc (.cells b t2)) (w.heap.size + 1) t2 b ∧
    Below w.heap.size w ((w.alloc (.cells a t1)).alloc (.cells b t2)) ∧ ((w.alloc (.cells a t1)).alloc (.cells b t2)).heap.size = w.heap.size + 1 + 1 := by
  have s1 : (w.alloc (.cells a t1)).heap.size = w.heap.size + 1 := World.size_alloc _ _
  have k1 := Blk.new (w.alloc (.cells a t1)) t2 b
  have k0 := (Blk.new w t1 a).later ((Below.refl _ _).alloc (Nat.le_refl _) (.cells b t2))
  rw [s1] at k1
  exact ⟨k0, k1, ((Below.refl _ _).alloc (Nat.le_refl _) _).alloc (by rw [s1]; omega) _, by rw [World.size_alloc, s1]⟩
/-- Values whose rows are not long. -/
def smV : Va → Prop
  | .mk _ _ bs ls => bs.length ≤ 10000 ∧ ls.length ≤ 10000 ∧ ∀ v, v ∈ ls → smV v
theorem smV_def (k n : Int) (bs : List Nat) (ls : List Va) : smV (.mk k n bs ls) ↔ bs.length ≤ 10000 ∧ ls.length ≤ 10000 ∧ ∀ v ∈ ls, smV v := by
  rw [smV]
theorem size_in {k n : Int} {bs : List Nat} {ls : List Va} {v : Va} {m : Nat} (h : SizeOf.sizeOf (Va.mk k n bs ls) < m + 1) (hv : v ∈ ls) : SizeOf.sizeOf v < m := by
  have := List.sizeOf_lt_of_mem hv
  rw [Va.mk.sizeOf_spec] at h
  omega
end Go.Proofs.YtdiagnhdigakpaaGreatDoor
/- The contract of the reference's Same: two that are not. -/
namespace Go.Proofs.YtdiagnhdigakpaaGreatDoor
open Go.RowKit

/-- The cells of two boxes of types. -/
theorem box_cells {w wr : World} {a0 a1 a2 a3 a4 b0 b1 b2 b3 b4 : Value} (hb : Below ((w.alloc (.cells #[a0, a1, a2, a3, a4] 26)).alloc (.cells #[b0, b1, b2, b3, b4] 26)).heap.size ((w.alloc (.cells #[a0, a1, a2, a3, a4] 26)).alloc (.cells #[b0, b1, b2, b3, b4] 26)) wr) :
    (wr.cell? ⟨w.heap.size, 0, none⟩ = some a0 ∧ wr.cell? ⟨w.heap.size, 1, none⟩ = some a1 ∧ wr.cell? ⟨w.heap.size, 2, none⟩ = some a2 ∧ wr.cell? ⟨w.heap.size, 3, none⟩ = some a3 ∧ wr.cell? ⟨w.heap.size, 4, none⟩ = some a4) ∧
    (wr.cell? ⟨w.heap.size + 1, 0, none⟩ = some b0 ∧ wr.cell? ⟨w.heap.size + 1, 1, none⟩ = some b1 ∧ wr.cell? ⟨w.heap.size + 1, 2, none⟩ = some b2 ∧ wr.cell? ⟨w.heap.size + 1, 3, none⟩ = some b3 ∧ wr.cell? ⟨w.heap.size + 1, 4, none⟩ = some b4) := by
  have hs : (w.alloc (.cells #[a0, a1, a2, a3, a4] 26)).heap.size = w.heap.size + 1 := Array.size_push _
  have h2 := below_alloc (w.alloc (.cells #[a0, a1, a2, a3, a4] 26)) (.cells #[b0, b1, b2, b3, b4] 26)
  refine ⟨⟨?_, ?_, ?_, ?_, ?_⟩, ⟨?_, ?_, ?_, ?_, ?_⟩⟩
  iterate 5
    · refine cell_stays hb (cell_stays h2 ?_)
      rw [World.cell?_alloc_at _ _ _ _ rfl]; rfl
  iterate 5
    · refine cell_stays hb ?_
      rw [← hs, World.cell?_alloc_at _ _ _ _ rfl]; rfl
set_option maxHeartbeats 8000000 in
theorem same_no (k l k' l' : Int) (nm nm' : ByteArray) (n n' : Nat) (A A' : Option Addr) (c c' : Nat) (v v' : Value) (a b : Bool) (w : World)
    (HA : Hid (∀ u, Below w.heap.size w u → Calls Tryz.prog 17 #[.agg #[.int .i64 k, .int .i64 l, .string nm, .slice A n c, v]] u fun e w' => e = .returned (.bool a) ∧ Below u.heap.size u w'))
    (HB : Hid (∀ u, Below w.heap.size w u → Calls Tryz.prog 17 #[.agg #[.int .i64 k', .int .i64 l', .string nm', .slice A' n' c', v']] u fun e w' => e = .returned (.bool b) ∧ Below u.heap.size u w'))
    (hn : a = false ∨ b = false ∨ k ≠ k' ∨ l ≠ l' ∨ nm ≠ nm' ∨ n ≠ n') :
    Calls Tryz.prog 19 #[.agg #[.int .i64 k, .int .i64 l, .string nm, .slice A n c, v], .agg #[.int .i64 k', .int .i64 l', .string nm', .slice A' n' c', v']] w fun e w' => e = .returned (.bool false) ∧ Below w.heap.size w w' := by
  have h0 := below_then (below_alloc w (.cells #[.int .i64 k, .int .i64 l, .string nm, .slice A n c, v] 26)) (below_alloc (w.alloc (.cells #[.int .i64 k, .int .i64 l, .string nm, .slice A n c, v] 26)) (.cells #[.int .i64 k', .int .i64 l', .string nm', .slice A' n' c', v'] 26))
  have H0 := Lib.hid h0
  clear h0
  cases a with
  | false =>
    clear hn HB
    go_enter Tryz.func19, Tryz.ntmps19
    go_wp2_with fail
    refine (HA.out _ H0.out).mono ?_
    rintro e w1 ⟨rfl, hb1⟩
    have H1 := Lib.hid (below_then H0.out hb1)
    clear hb1
    go_wp2
    go_ret
    exact ⟨rfl, H1.out⟩
  | true =>
    cases b with
    | false =>
      clear hn
      go_enter Tryz.func19, Tryz.ntmps19
      go_wp2_with fail
      refine (HA.out _ H0.out).mono ?_
      rintro e w1 ⟨rfl, hb1⟩
      have H1 := Lib.hid (below_then H0.out hb1)
      obtain ⟨⟨p0, p1, p2, p3, p4⟩, q0, q1, q2, q3, q4⟩ := box_cells hb1
      clear hb1
      go_wp2_with fail
      refine (HB.out _ H1.out).mono ?_
      rintro e w2 ⟨rfl, hb2⟩
      have H2 := Lib.hid (below_then H1.out hb2)
      clear hb2
      go_wp2
      go_ret
      exact ⟨rfl, H2.out⟩
    | true =>
      have h : (k != k') = true ∨ ((k != k') = false ∧ (l != l') = true) ∨ ((k != k') = false ∧ (l != l') = false ∧ ¬ nm.toList = nm'.toList) ∨ ((k != k') = false ∧ (l != l') = false ∧ nm.toList = nm'.toList ∧ ((n : Int) != (n' : Int)) = true) := by
        by_cases h1 : k = k'
        · by_cases h2 : l = l'
          · by_cases h3 : nm = nm'
            · have : (n : Int) ≠ (n' : Int) := by
                intro h4
                have : n = n' := by omega
                subst h1 h2 h3 this
                simp at hn
              subst h1 h2 h3
              exact .inr (.inr (.inr ⟨by simp, by simp, by simp, by rw [bne_iff_ne]; exact this⟩))
            · subst h1 h2
              exact .inr (.inr (.inl ⟨by simp, by simp, by rw [bl_toList, bl_toList]; exact fun e => h3 (bl_inj e)⟩))
          · subst h1
            exact .inr (.inl ⟨by simp, by rw [bne_iff_ne]; exact h2⟩)
        · exact .inl (by rw [bne_iff_ne]; exact h1)
      clear hn
      rcases h with h1 | ⟨h1, h2⟩ | ⟨h1, h2, h3⟩ | ⟨h1, h2, h3, h4⟩
      all_goals
        go_enter Tryz.func19, Tryz.ntmps19
        go_wp2_with fail
        refine (HA.out _ H0.out).mono ?_
        rintro e w1 ⟨rfl, hb1⟩
        have H1 := Lib.hid (below_then H0.out hb1)
        obtain ⟨⟨p0, p1, p2, p3, p4⟩, q0, q1, q2, q3, q4⟩ := box_cells hb1
        have HC := Lib.hid hb1
        clear hb1
        go_wp2_with fail
        refine (HB.out _ H1.out).mono ?_
        rintro e w2 ⟨rfl, hb2⟩
        have H2 := Lib.hid (below_then H1.out hb2)
        clear p0 p1 p2 p3 p4 q0 q1 q2 q3 q4
        obtain ⟨⟨p0, p1, p2, p3, p4⟩, q0, q1, q2, q3, q4⟩ := box_cells (below_then HC.out hb2)
        clear hb2
        go_wp2
        go_ret
        exact ⟨rfl, H2.out⟩
end Go.Proofs.YtdiagnhdigakpaaGreatDoor
/- The contract of the reference's Same: types that are no arrays; arrays. -/
namespace Go.Proofs.YtdiagnhdigakpaaGreatDoor
open Go.RowKit

theorem upto_more {ns ns' : List ByteArray} {k : Nat} (h : ∀ (m : Nat) (_ : m < k) (h1 : m < ns.length) (h2 : m < ns'.length), ns[m] = ns'[m]) (hk : k < ns.length) (hk' : k < ns'.length) (he : ns[k] = ns'[k]) : ∀ (m : Nat) (_ : m < k + 1) (h1 : m < ns.length) (h2 : m < ns'.length), ns[m] = ns'[m] := by
  intro m hm h1 h2
  by_cases e : m < k
  · exact h m e h1 h2
  · have : m = k := by omega
    subst this
    exact he
theorem upto_end {ns ns' : List ByteArray} {k : Nat} (h : ∀ (m : Nat) (_ : m < k) (h1 : m < ns.length) (h2 : m < ns'.length), ns[m] = ns'[m]) (hl : ns.length = ns'.length) (hk : ¬ k < ns.length) : ns = ns' :=
  List.ext_getElem hl (fun m h1 h2 => h m (by omega) h1 h2)
theorem upto_no {ns ns' : List ByteArray} {k : Nat} (hk : k < ns.length) (hk' : k < ns'.length) (he : ¬ ns[k] = ns'[k]) : decide (ns = ns') = false := by
  rw [decide_eq_false_iff_not]
  intro e
  subst e
  exact he rfl
set_option maxHeartbeats 8000000 in
theorem same_flat (k l : Int) (nm : ByteArray) (ns ns' : List ByteArray) (n b o b' o' : Nat) (A A' : Option Addr) (c c' : Nat) (v v' : Value) (w : World)
    (HA : Hid (∀ u, Below w.heap.size w u → Calls Tryz.prog 17 #[.agg #[.int .i64 k, .int .i64 l, .string nm, .slice A n c, v]] u fun e w' => e = .returned (.bool true) ∧ Below u.heap.size u w'))
    (HB : Hid (∀ u, Below w.heap.size w u → Calls Tryz.prog 17 #[.agg #[.int .i64 k, .int .i64 l, .string nm, .slice A' n c', v']] u fun e w' => e = .returned (.bool true) ∧ Below u.heap.size u w'))
    (hk : (k != 6) = true) (HL : Hid (ns.length = n)) (HL' : Hid (ns'.length = n)) (hx : n ≤ 9223372036854775807)
    (HN : Hid (n = 0 ∨ A = some ⟨b, o, none⟩)) (HN' : Hid (n = 0 ∨ A' = some ⟨b', o', none⟩))
    (hcell : ∀ (k : Nat) (h : k < ns.length), w.cell? ⟨b, o + k, none⟩ = some (.string ns[k])) (hcell' : ∀ (k : Nat) (h : k < ns'.length), w.cell? ⟨b', o' + k, none⟩ = some (.string ns'[k])) :
    Calls Tryz.prog 19 #[.agg #[.int .i64 k, .int .i64 l, .string nm, .slice A n c, v], .agg #[.int .i64 k, .int .i64 l, .string nm, .slice A' n c', v']] w fun e w' => e = .returned (.bool (decide (ns = ns'))) ∧ Below w.heap.size w w' := by
    have H0 := Lib.hid (below_then (below_alloc w (.cells #[.int .i64 k, .int .i64 l, .string nm, .slice A n c, v] 26)) (below_alloc (w.alloc (.cells #[.int .i64 k, .int .i64 l, .string nm, .slice A n c, v] 26)) (.cells #[.int .i64 k, .int .i64 l, .string nm, .slice A' n c', v'] 26)))
    have HD := Lib.hid (fun (w' : World) (hb : Below w.heap.size w w') (k : Nat) (h : k < ns.length) => cell_stays hb (hcell k h))
    have HD' := Lib.hid (fun (w' : World) (hb : Below w.heap.size w w') (k : Nat) (h : k < ns'.length) => cell_stays hb (hcell' k h))
    clear hcell hcell'
    have f1 : (k != k) = false := by simp
    have f2 : (l != l) = false := by simp
    have f3 : ((n : Int) != (n : Int)) = false := by simp
    go_enter Tryz.func19, Tryz.ntmps19
    go_wp2_with fail
    refine (HA.out _ H0.out).mono ?_
    rintro e w1 ⟨rfl, hb1⟩
    have H1 := Lib.hid (below_then H0.out hb1)
    obtain ⟨⟨p0, p1, p2, p3, p4⟩, q0, q1, q2, q3, q4⟩ := box_cells hb1
    have HC := Lib.hid hb1
    clear hb1
    go_wp2_with fail
    refine (HB.out _ H1.out).mono ?_
    rintro e w2 ⟨rfl, hb2⟩
    have H2 := Lib.hid (below_then H1.out hb2)
    clear p0 p1 p2 p3 p4 q0 q1 q2 q3 q4
    obtain ⟨⟨p0, p1, p2, p3, p4⟩, q0, q1, q2, q3, q4⟩ := box_cells (below_then HC.out hb2)
    have HC2 := Lib.hid (below_then HC.out hb2)
    clear hb2 HC
    go_wp2_with fail
    clear p0 p1 p2 p3 p4 q0 q1 q2 q3 q4
    go_loopw [47] (fun i wr => ∃ j : Nat, j ≤ n ∧ i = .int .i64 j ∧ Hid (∀ (m : Nat) (_ : m < j) (h1 : m < ns.length) (h2 : m < ns'.length), ns[m] = ns'[m]) ∧ Hid (Below ((w.alloc (.cells #[.int .i64 k, .int .i64 l, .string nm, .slice A n c, v] 26)).alloc (.cells #[.int .i64 k, .int .i64 l, .string nm, .slice A' n c', v'] 26)).heap.size ((w.alloc (.cells #[.int .i64 k, .int .i64 l, .string nm, .slice A n c, v] 26)).alloc (.cells #[.int .i64 k, .int .i64 l, .string nm, .slice A' n c', v'] 26)) wr)) (fun i _ => n - (intOf i).toNat)
    case atStart => exact ⟨0, Nat.zero_le _, rfl, fun m hm => absurd hm (Nat.not_lt_zero _), HC2.out⟩
    case round =>
      obtain ⟨j, hj, rfl, hr, hbr⟩ := hrel
      have HBR := Lib.hid (below_then H0.out hbr.out)
      obtain ⟨⟨p0, p1, p2, p3, p4⟩, q0, q1, q2, q3, q4⟩ := box_cells hbr.out
      by_cases hlt : j < n
      · have hA1 : A = some ⟨b, o, none⟩ := HN.out.resolve_left (by omega)
        have hA2 : A' = some ⟨b', o', none⟩ := HN'.out.resolve_left (by omega)
        subst hA1 hA2
        have g1 : j < ns.length := by rw [HL.out]; exact hlt
        have g2 : j < ns'.length := by rw [HL'.out]; exact hlt
        have c1 := HD.out _ HBR.out j g1
        have c2 := HD'.out _ HBR.out j g2
        have d1 : decide ((j : Int) < (n : Int)) = true := by rw [decide_eq_true_eq]; omega
        have d2 : decide (j < n) = true := by rw [decide_eq_true_eq]; omega
        have hji : (j : Int) < (n : Int) := by omega
        have hj0 : (0 : Int) ≤ (j : Int) := by omega
        by_cases he : ns[j] = ns'[j]
        · have HT := Lib.hid (upto_more hr.out g1 g2 he)
          rw [← he] at c2
          generalize ns[j] = x at c1 c2
          clear he g1 g2 hr
          go_wp2_with fail
          go_region
          go_wp2
          go_round
          case rel => exact ⟨j + 1, by omega, by go_num, HT, below_drewN hbr.out 1⟩
          case measure => simp [intOf]; omega
        · have HT := Lib.hid (upto_no g1 g2 he)
          have ht := str_ne he
          generalize ns[j] = x at c1 ht
          generalize ns'[j] = y at c2 ht
          clear he g1 g2 hr
          go_wp2_with fail
          go_region
          go_wp2
          go_ret
          exact ⟨by rw [HT.out]; rfl, below_drewN HBR.out 1⟩
      · have d1 : decide ((j : Int) < (n : Int)) = false := by rw [decide_eq_false_iff_not]; omega
        have d2 : decide (j < n) = false := by rw [decide_eq_false_iff_not]; omega
        have HT := Lib.hid (upto_end hr.out (HL.out.trans HL'.out.symm) (by rw [HL.out]; exact hlt))
        clear hr
        go_wp2_with fail
        go_region
        go_wp2
        go_ret
        exact ⟨by rw [decide_eq_true HT.out]; rfl, below_drewN HBR.out 1⟩
end Go.Proofs.YtdiagnhdigakpaaGreatDoor
/- The contract of the reference's Same: arrays. -/
namespace Go.Proofs.YtdiagnhdigakpaaGreatDoor
open Go.RowKit

set_option maxHeartbeats 8000000 in
theorem same_arr (l : Int) (nm : ByteArray) (b o b' o' : Nat) (A A' : Option Addr) (c c' d d' : Nat) (k1 l1 k2 l2 : Int) (nm1 nm2 : ByteArray) (x1 x2 y1 y2 : Value) (z : Bool) (w : World)
    (HA : Hid (∀ u, Below w.heap.size w u → Calls Tryz.prog 17 #[.agg #[.int .i64 6, .int .i64 l, .string nm, .slice A 0 c, .slice (some ⟨b, o, none⟩) 1 d]] u fun e w' => e = .returned (.bool true) ∧ Below u.heap.size u w'))
    (HB : Hid (∀ u, Below w.heap.size w u → Calls Tryz.prog 17 #[.agg #[.int .i64 6, .int .i64 l, .string nm, .slice A' 0 c', .slice (some ⟨b', o', none⟩) 1 d']] u fun e w' => e = .returned (.bool true) ∧ Below u.heap.size u w'))
    (HS : Hid (∀ u, Below w.heap.size w u → Calls Tryz.prog 19 #[.agg #[.int .i64 k1, .int .i64 l1, .string nm1, x1, x2], .agg #[.int .i64 k2, .int .i64 l2, .string nm2, y1, y2]] u fun e w' => e = .returned (.bool z) ∧ Below u.heap.size u w'))
    (HE : Hid (w.cell? ⟨b, o, none⟩ = some (.int .i64 k1) ∧ w.cell? ⟨b, o + 1, none⟩ = some (.int .i64 l1) ∧ w.cell? ⟨b, o + 2, none⟩ = some (.string nm1) ∧ w.cell? ⟨b, o + 3, none⟩ = some x1 ∧ w.cell? ⟨b, o + 4, none⟩ = some x2))
    (HE' : Hid (w.cell? ⟨b', o', none⟩ = some (.int .i64 k2) ∧ w.cell? ⟨b', o' + 1, none⟩ = some (.int .i64 l2) ∧ w.cell? ⟨b', o' + 2, none⟩ = some (.string nm2) ∧ w.cell? ⟨b', o' + 3, none⟩ = some y1 ∧ w.cell? ⟨b', o' + 4, none⟩ = some y2)) :
    Calls Tryz.prog 19 #[.agg #[.int .i64 6, .int .i64 l, .string nm, .slice A 0 c, .slice (some ⟨b, o, none⟩) 1 d], .agg #[.int .i64 6, .int .i64 l, .string nm, .slice A' 0 c', .slice (some ⟨b', o', none⟩) 1 d']] w fun e w' => e = .returned (.bool z) ∧ Below w.heap.size w w' := by
    have H0 := Lib.hid (below_then (below_alloc w (.cells #[.int .i64 6, .int .i64 l, .string nm, .slice A 0 c, .slice (some ⟨b, o, none⟩) 1 d] 26)) (below_alloc (w.alloc (.cells #[.int .i64 6, .int .i64 l, .string nm, .slice A 0 c, .slice (some ⟨b, o, none⟩) 1 d] 26)) (.cells #[.int .i64 6, .int .i64 l, .string nm, .slice A' 0 c', .slice (some ⟨b', o', none⟩) 1 d'] 26)))
    have f2 : (l != l) = false := by simp
    go_enter Tryz.func19, Tryz.ntmps19
    go_wp2_with fail
    refine (HA.out _ H0.out).mono ?_
    rintro e w1 ⟨rfl, hb1⟩
    have H1 := Lib.hid (below_then H0.out hb1)
    obtain ⟨⟨p0, p1, p2, p3, p4⟩, q0, q1, q2, q3, q4⟩ := box_cells hb1
    have HC := Lib.hid hb1
    clear hb1
    go_wp2_with fail
    refine (HB.out _ H1.out).mono ?_
    rintro e w2 ⟨rfl, hb2⟩
    have H2 := Lib.hid (below_then H1.out hb2)
    clear p0 p1 p2 p3 p4 q0 q1 q2 q3 q4
    obtain ⟨⟨p0, p1, p2, p3, p4⟩, q0, q1, q2, q3, q4⟩ := box_cells (below_then HC.out hb2)
    have HC2 := Lib.hid (below_then HC.out hb2)
    clear hb2 HC
    go_wp2_with fail
    clear p0 p1 p2 p3 p4 q0 q1 q2 q3 q4
    go_loopw [47] (fun i wr => i = .int .i64 0 ∧ Hid (Below ((w.alloc (.cells #[.int .i64 6, .int .i64 l, .string nm, .slice A 0 c, .slice (some ⟨b, o, none⟩) 1 d] 26)).alloc (.cells #[.int .i64 6, .int .i64 l, .string nm, .slice A' 0 c', .slice (some ⟨b', o', none⟩) 1 d'] 26)).heap.size ((w.alloc (.cells #[.int .i64 6, .int .i64 l, .string nm, .slice A 0 c, .slice (some ⟨b, o, none⟩) 1 d] 26)).alloc (.cells #[.int .i64 6, .int .i64 l, .string nm, .slice A' 0 c', .slice (some ⟨b', o', none⟩) 1 d'] 26)) wr)) (fun i _ => 0)
    case atStart => exact ⟨rfl, HC2.out⟩
    case round =>
      obtain ⟨rfl, hbr⟩ := hrel
      have HBR := Lib.hid (below_then H0.out hbr.out)
      obtain ⟨⟨p0, p1, p2, p3, p4⟩, q0, q1, q2, q3, q4⟩ := box_cells hbr.out
      obtain ⟨e0, e1, e2, e3, e4⟩ := HE.out
      obtain ⟨g0, g1, g2, g3, g4⟩ := HE'.out
      replace e0 := cell_stays HBR.out e0
      replace e1 := cell_stays HBR.out e1
      replace e2 := cell_stays HBR.out e2
      replace e3 := cell_stays HBR.out e3
      replace e4 := cell_stays HBR.out e4
      replace g0 := cell_stays HBR.out g0
      replace g1 := cell_stays HBR.out g1
      replace g2 := cell_stays HBR.out g2
      replace g3 := cell_stays HBR.out g3
      replace g4 := cell_stays HBR.out g4
      have HX := Lib.hid (HS.out _ (below_drewN HBR.out 1))
      clear HE HE' HA HB hbr
      go_wp2_with fail
      go_region_with (go_at_call 19; refine (HX.out).mono ?_; rintro e w3 ⟨rfl, hb3⟩; have HB3 := Lib.hid (below_then (below_drewN HBR.out 1) hb3); clear hb3)
      all_goals
        go_wp2
        go_ret
        exact ⟨rfl, HB3.out⟩
end Go.Proofs.YtdiagnhdigakpaaGreatDoor
/- The contract of the reference's Same. -/
namespace Go.Proofs.YtdiagnhdigakpaaGreatDoor
open Go.RowKit

theorem valid_flat {f : List UInt8 → Bool} {k l : Int} {nm : ByteArray} {ns : List ByteArray} {es : List Ty} (h : validT f (.mk k l nm ns es) = true) (hk : k ≠ 6) : es = [] := by
  rw [validT_def] at h
  have he : es.isEmpty = true := by
    split at h
    · simp only [Bool.and_eq_true] at h; exact h.2.2
    · split at h
      · simp only [Bool.and_eq_true] at h; exact h.2.2
      · split at h
        · simp only [Bool.and_eq_true] at h; exact h.2.1
        · cases h
  exact List.isEmpty_iff.1 he
theorem valid_array {f : List UInt8 → Bool} {l : Int} {nm : ByteArray} {ns : List ByteArray} {es : List Ty} (h : validT f (.mk 6 l nm ns es) = true) : ns = [] ∧ ∃ e, es = [e] ∧ validT f e = true := by
  rw [validT_def, if_neg (by omega), if_neg (by omega), if_pos rfl] at h
  simp only [Bool.and_eq_true, bareT] at h
  obtain ⟨_, ⟨_, h2⟩, h3⟩ := h
  refine ⟨List.isEmpty_iff.1 h2, ?_⟩
  match es, h3 with
  | [e], h3 =>
    simp only [Bool.and_eq_true] at h3
    exact ⟨e, rfl, h3.2⟩
theorem alikeT_flat (k l k' l' : Int) (nm nm' : ByteArray) (ns ns' : List ByteArray) : alikeT (.mk k l nm ns []) (.mk k' l' nm' ns' []) = (decide (k = k') && (decide (l = l') && (decide (nm = nm') && decide (ns = ns')))) := by
  simp [alikeT]
theorem alikeT_arr (k l k' l' : Int) (nm nm' : ByteArray) (ns ns' : List ByteArray) (e e' : Ty) : alikeT (.mk k l nm ns [e]) (.mk k' l' nm' ns' [e']) = (decide (k = k') && (decide (l = l') && (decide (nm = nm') && (decide (ns = ns') && alikeT e e')))) := by
  simp [alikeT]
theorem alikeT_no (k l k' l' : Int) (nm nm' : ByteArray) (ns ns' : List ByteArray) (es es' : List Ty) (h : k ≠ k' ∨ l ≠ l' ∨ nm ≠ nm' ∨ ns.length ≠ ns'.length) : alikeT (.mk k l nm ns es) (.mk k' l' nm' ns' es') = false := by
  have hd : (decide (k = k') && (decide (l = l') && (decide (nm = nm') && decide (ns = ns')))) = false := by
    rw [Bool.eq_false_iff]
    intro hh
    simp only [Bool.and_eq_true, decide_eq_true_eq] at hh
    obtain ⟨h1, h2, h3, h4⟩ := hh
    subst h1 h2 h3 h4
    simp at h
  match es, es' with
  | [], [] => rw [alikeT_flat]; exact hd
  | [e], [e'] =>
    rw [alikeT_arr]
    revert hd
    cases decide (k = k') <;> cases decide (l = l') <;> cases decide (nm = nm') <;> cases decide (ns = ns') <;> simp
  | [], e :: r => simp [alikeT]
  | [e], [] => simp [alikeT]
  | [e], e1 :: e2 :: r => simp [alikeT]
  | e :: e2 :: r, es' => simp [alikeT]
theorem five {w : World} {e : Ty} {b off : Nat} (h : TyAt w [e] b off) : ∃ k l nm x1 x2, TyC w e [.int .i64 k, .int .i64 l, .string nm, x1, x2] ∧ w.cell? ⟨b, off, none⟩ = some (.int .i64 k) ∧ w.cell? ⟨b, off + 1, none⟩ = some (.int .i64 l) ∧ w.cell? ⟨b, off + 2, none⟩ = some (.string nm) ∧ w.cell? ⟨b, off + 3, none⟩ = some x1 ∧ w.cell? ⟨b, off + 4, none⟩ = some x2 := by
  obtain ⟨cs, h1, h2⟩ := tyAt_one h
  obtain ⟨k, l, nm, ns, es⟩ := e
  have h1' := h1
  rw [TyC] at h1'
  obtain ⟨vn, A, c, rfl, _⟩ := h1'
  exact ⟨_, _, _, _, _, h1, h2 0 (by omega), h2 1 (by omega), h2 2 (by omega), h2 3 (by omega), h2 4 (by omega)⟩
theorem same_upto : ∀ (n : Nat) (t u : Ty) (cs cs' : List Value) (w : World), SizeOf.sizeOf t < n → NmT t → NmT u → TyC w t cs → TyC w u cs' →
    Calls Tryz.prog 19 #[.agg cs.toArray, .agg cs'.toArray] w fun e w' => e = .returned (.bool (sameT isNameL t u)) ∧ Below w.heap.size w w'
  | 0, _, _, _, _, _, hz, _, _, _, _ => absurd hz (Nat.not_lt_zero _)
  | n + 1, .mk k l nm ns es, .mk k' l' nm' ns' es', cs, cs', w, hz, ht, hu, h, h' => by
    have hv := fun (x : World) (hb : Below w.heap.size w x) => valid_any _ cs x ht (h.later hb)
    have hv' := fun (x : World) (hb : Below w.heap.size w x) => valid_any _ cs' x hu (h'.later hb)
    rw [TyC] at h h'
    obtain ⟨vn, A, c, rfl, ⟨B, d, rfl, hs1, hs2, hs3⟩, h1, h2, h3⟩ := h
    obtain ⟨vn', A', c', rfl, ⟨B', d', rfl, hs1', hs2', hs3'⟩, h1', h2', h3'⟩ := h'
    rw [sameT]
    cases ha : validT isNameL (.mk k l nm ns es) with
    | false =>
      rw [ha] at hv
      exact same_no k l k' l' nm nm' ns.length ns'.length B B' d d' _ _ false _ w hv hv' (.inl rfl)
    | true =>
      rw [ha] at hv
      cases hb : validT isNameL (.mk k' l' nm' ns' es') with
      | false =>
        rw [hb] at hv'
        exact same_no k l k' l' nm nm' ns.length ns'.length B B' d d' _ _ true false w hv hv' (.inr (.inl rfl))
      | true =>
        rw [hb] at hv'
        rw [Bool.true_and, Bool.true_and]
        by_cases hn : k ≠ k' ∨ l ≠ l' ∨ nm ≠ nm' ∨ ns.length ≠ ns'.length
        · rw [alikeT_no k l k' l' nm nm' ns ns' es es' hn]
          exact same_no k l k' l' nm nm' ns.length ns'.length B B' d d' _ _ true true w hv hv' (.inr (.inr hn))
        · have e1 : k = k' := Decidable.byContradiction fun e => hn (.inl e)
          have e2 : l = l' := Decidable.byContradiction fun e => hn (.inr (.inl e))
          have e3 : nm = nm' := Decidable.byContradiction fun e => hn (.inr (.inr (.inl e)))
          have e4 : ns.length = ns'.length := Decidable.byContradiction fun e => hn (.inr (.inr (.inr e)))
          subst e1 e2 e3
          by_cases hk : k = 6
          · subst hk
            obtain ⟨rfl, e, rfl, hve⟩ := valid_array ha
            obtain ⟨rfl, e', rfl, hve'⟩ := valid_array hb
            rcases h3 with h3 | ⟨b, o, rfl, h3⟩
            · cases h3
            rcases h3' with h3' | ⟨b', o', rfl, h3'⟩
            · cases h3'
            obtain ⟨k1, l1, nm1, x1, x2, q, q0⟩ := five h3
            obtain ⟨k2, l2, nm2, y1, y2, q', q0'⟩ := five h3'
            rw [nmT_def] at ht hu
            have hs := fun (x : World) (hb : Below w.heap.size w x) => same_upto n e e' _ _ x (size_one hz) ht.2 hu.2 (q.later hb) (q'.later hb)
            have hr : alikeT (.mk 6 l nm [] [e]) (.mk 6 l nm [] [e']) = sameT isNameL e e' := by
              rw [alikeT_arr, sameT, hve, hve']; simp
            rw [hr]
            exact same_arr l nm b o b' o' B B' d d' c c' k1 l1 k2 l2 nm1 nm2 x1 x2 y1 y2 _ w hv hv' hs q0 q0'
          · have := valid_flat ha hk
            subst this
            have := valid_flat hb hk
            subst this
            have hr : alikeT (.mk k l nm ns []) (.mk k l nm ns' []) = decide (ns = ns') := by
              rw [alikeT_flat]; simp
            rw [hr]
            have hkb : (k != 6) = true := by rw [bne_iff_ne]; exact hk
            have hN : ∃ b o, (ns.length = 0 ∨ B = some ⟨b, o, none⟩) ∧ ∀ (k : Nat) (h : k < ns.length), w.cell? ⟨b, o + k, none⟩ = some (.string ns[k]) := by
              rcases hs3 with rfl | ⟨b, o, rfl, hc⟩
              · exact ⟨0, 0, .inl rfl, fun k h => absurd h (by simp)⟩
              · exact ⟨b, o, .inr rfl, hc⟩
            have hN' : ∃ b o, (ns.length = 0 ∨ B' = some ⟨b, o, none⟩) ∧ ∀ (k : Nat) (h : k < ns'.length), w.cell? ⟨b, o + k, none⟩ = some (.string ns'[k]) := by
              rcases hs3' with rfl | ⟨b, o, rfl, hc⟩
              · exact ⟨0, 0, .inl (by rw [e4]; rfl), fun k h => absurd h (by simp)⟩
              · exact ⟨b, o, .inr rfl, hc⟩
            obtain ⟨b, o, hN, hc⟩ := hN
            obtain ⟨b', o', hN', hc'⟩ := hN'
            rw [← e4] at hv' ⊢
            exact same_flat k l nm ns ns' ns.length b o b' o' B B' d d' _ _ w hv hv' hkb rfl e4.symm hs2 hN hN' hc hc'
/-- Same. -/
theorem same_any (t u : Ty) (cs cs' : List Value) (w : World) (ht : NmT t) (hu : NmT u) (h : TyC w t cs) (h' : TyC w u cs') :
    Calls Tryz.prog 19 #[.agg cs.toArray, .agg cs'.toArray] w fun e w' => e = .returned (.bool (sameT isNameL t u)) ∧ Below w.heap.size w w' := same_upto _ t u cs cs' w (Nat.lt_succ_self _) ht hu h h'
end Go.Proofs.YtdiagnhdigakpaaGreatDoor
/- The contract of the program's Valid. -/
namespace Go.Proofs.YtdiagnhdigakpaaGreatDoor
open Go.RowKit

theorem box1 (w : World) (t : TypeId) (a : Array Value) : Blk (w.alloc (.cells a t)) w.heap.size t a := Blk.new w t a
set_option maxHeartbeats 8000000 in
theorem pvalid_basic (k : Int) (hk : k = 1 ∨ k = 2 ∨ k = 3) (l : Int) (nm : ByteArray) (ns : List ByteArray) (es : List Ty) (A B : Option Addr) (c d : Nat) (w : World) :
    Calls Tryz.prog 16 #[.agg #[.int .i64 k, .int .i64 l, .string nm, .slice A ns.length c, .slice B es.length d]] w fun e w' => e = .returned (.bool (decide (l = 0) && (bareT nm ns && es.isEmpty))) ∧ Below w.heap.size w w' := by
  have HB0 := Lib.hid (below_alloc w (.cells #[.int .i64 k, .int .i64 l, .string nm, .slice A ns.length c, .slice B es.length d] 26))
  have HK := Lib.hid (box1 w 26 #[.int .i64 k, .int .i64 l, .string nm, .slice A ns.length c, .slice B es.length d])
  have HN := Lib.hid (fun w => nameless_any k l nm ns A c (.slice B es.length d) w)
  rw [int_beq, ← len_zero es]
  cases e4 : (l == 0) <;> cases e5 : ((es.length : Int) == 0) <;> cases h3 : bareT nm ns <;> rw [h3] at HN <;> clear h3 <;> rcases hk with rfl | rfl | rfl
  all_goals
    go_enter Tryz.func16, Tryz.ntmps16
    go_wp2_with fail
    first
      | (go_ret
         exact ⟨rfl, HB0.out⟩)
      | (refine (HN.out _).mono ?_
         rintro e w1 ⟨rfl, hb1⟩
         have HB1 := Lib.hid (below_then HB0.out hb1)
         obtain ⟨p0, p1, p2, p3, p4⟩ := fives (HK.out.later hb1)
         clear hb1
         go_wp2
         go_ret
         exact ⟨rfl, HB1.out⟩)
set_option maxHeartbeats 8000000 in
theorem pvalid_vec (l : Int) (nm : ByteArray) (ns : List ByteArray) (es : List Ty) (A B : Option Addr) (c d : Nat) (w : World) :
    Calls Tryz.prog 16 #[.agg #[.int .i64 4, .int .i64 l, .string nm, .slice A ns.length c, .slice B es.length d]] w fun e w' => e = .returned (.bool (decide (1 ≤ l ∧ l ≤ 64) && (bareT nm ns && es.isEmpty))) ∧ Below w.heap.size w w' := by
  have HB0 := Lib.hid (below_alloc w (.cells #[.int .i64 4, .int .i64 l, .string nm, .slice A ns.length c, .slice B es.length d] 26))
  have HK := Lib.hid (box1 w 26 #[.int .i64 4, .int .i64 l, .string nm, .slice A ns.length c, .slice B es.length d])
  have HN := Lib.hid (fun w => nameless_any 4 l nm ns A c (.slice B es.length d) w)
  have HW := Lib.hid (fun w => within_any l 1 64 w)
  rw [← len_zero es, Bool.decide_and]
  generalize (decide (1 ≤ l) && decide (l ≤ 64)) = b0 at *
  cases b0 <;> cases e5 : ((es.length : Int) == 0) <;> cases h3 : bareT nm ns <;> rw [h3] at HN <;> clear h3
  all_goals
    go_enter Tryz.func16, Tryz.ntmps16
    go_wp2_with fail
    refine (HW.out _).mono ?_
    rintro e w1 ⟨rfl, rfl⟩
    go_wp2_with fail
    first
      | (go_ret
         exact ⟨rfl, HB0.out⟩)
      | (refine (HN.out _).mono ?_
         rintro e w1 ⟨rfl, hb1⟩
         have HB1 := Lib.hid (below_then HB0.out hb1)
         obtain ⟨p0, p1, p2, p3, p4⟩ := fives (HK.out.later hb1)
         clear hb1
         go_wp2
         go_ret
         exact ⟨rfl, HB1.out⟩)
set_option maxHeartbeats 8000000 in
theorem pvalid_enum (l : Int) (nm : ByteArray) (ns : List ByteArray) (es : List Ty) (A B : Option Addr) (c d : Nat) (w : World) (hs : StrS w (.slice A ns.length c) ns) (hz : ∀ s ∈ ns, s.size ≤ 140737488355328) :
    Calls Tryz.prog 16 #[.agg #[.int .i64 5, .int .i64 l, .string nm, .slice A ns.length c, .slice B es.length d]] w fun e w' => e = .returned (.bool (decide (l = 0) && (es.isEmpty && (pathB nm && namesOk isNameL ns)))) ∧ Below w.heap.size w w' := by
  have HB0 := Lib.hid (below_alloc w (.cells #[.int .i64 5, .int .i64 l, .string nm, .slice A ns.length c, .slice B es.length d] 26))
  have HK := Lib.hid (box1 w 26 #[.int .i64 5, .int .i64 l, .string nm, .slice A ns.length c, .slice B es.length d])
  have HP := Lib.hid (fun w => fullName_any nm w)
  have HN := Lib.hid (areNames_any _ ns _ (hs.later HB0.out) hz)
  clear hs hz
  rw [int_beq, ← len_zero es]
  cases e4 : (l == 0) <;> cases e5 : ((es.length : Int) == 0) <;> cases h1 : pathB nm <;> rw [h1] at HP <;> clear h1 <;> cases h3 : namesOk isNameL ns <;> rw [h3] at HN <;> clear h3
  all_goals
    go_enter Tryz.func16, Tryz.ntmps16
    go_wp2_with fail
    first
      | (go_ret
         exact ⟨rfl, HB0.out⟩)
      | (refine (HP.out _).mono ?_
         rintro e w1 ⟨rfl, rfl⟩
         go_wp2_with fail
         first
           | (go_ret
              exact ⟨rfl, HB0.out⟩)
           | (refine (HN.out).mono ?_
              rintro e w1 ⟨rfl, hb1⟩
              have HB1 := Lib.hid (below_then HB0.out hb1)
              obtain ⟨p0, p1, p2, p3, p4⟩ := fives (HK.out.later hb1)
              clear hb1
              go_wp2
              go_ret
              exact ⟨rfl, HB1.out⟩))
set_option maxHeartbeats 8000000 in
theorem pvalid_arr (l : Int) (nm : ByteArray) (ns : List ByteArray) (n : Nat) (A B : Option Addr) (c d : Nat) (z : Bool) (w : World)
    (HE : Hid (∀ u, Below w.heap.size w u → Calls Tryz.prog 60 #[.slice B n d] u fun e w' => e = .returned (.bool z) ∧ Below u.heap.size u w')) :
    Calls Tryz.prog 16 #[.agg #[.int .i64 6, .int .i64 l, .string nm, .slice A ns.length c, .slice B n d]] w fun e w' => e = .returned (.bool (decide (1 ≤ l ∧ l ≤ 64) && (bareT nm ns && z))) ∧ Below w.heap.size w w' := by
  have HB0 := Lib.hid (below_alloc w (.cells #[.int .i64 6, .int .i64 l, .string nm, .slice A ns.length c, .slice B n d] 26))
  have HK := Lib.hid (box1 w 26 #[.int .i64 6, .int .i64 l, .string nm, .slice A ns.length c, .slice B n d])
  have HN := Lib.hid (fun w => nameless_any 6 l nm ns A c (.slice B n d) w)
  have HW := Lib.hid (fun w => within_any l 1 64 w)
  rw [Bool.decide_and]
  generalize (decide (1 ≤ l) && decide (l ≤ 64)) = b0 at *
  cases b0 <;> cases z <;> cases h3 : bareT nm ns <;> rw [h3] at HN <;> clear h3
  all_goals
    go_enter Tryz.func16, Tryz.ntmps16
    go_wp2_with fail
    refine (HW.out _).mono ?_
    rintro e w1 ⟨rfl, rfl⟩
    go_wp2_with fail
    first
      | (go_ret
         exact ⟨rfl, HB0.out⟩)
      | (refine (HN.out _).mono ?_
         rintro e w1 ⟨rfl, hb1⟩
         have HB1 := Lib.hid (below_then HB0.out hb1)
         obtain ⟨p0, p1, p2, p3, p4⟩ := fives (HK.out.later hb1)
         clear hb1
         go_wp2_with fail
         first
           | (go_ret
              exact ⟨rfl, HB1.out⟩)
           | (refine (HE.out _ HB1.out).mono ?_
              rintro e w2 ⟨rfl, hb2⟩
              have HB2 := Lib.hid (below_then HB1.out hb2)
              clear hb2 p0 p1 p2 p3 p4
              go_wp2
              go_ret
              exact ⟨rfl, HB2.out⟩))
set_option maxHeartbeats 8000000 in
theorem pvalid_none (k : Int) (hk : (k == 1) = false ∧ (k == 2) = false ∧ (k == 3) = false ∧ (k == 4) = false ∧ (k == 5) = false ∧ (k == 6) = false) (l : Int) (nm : ByteArray) (v1 v2 : Value) (w : World) :
    Calls Tryz.prog 16 #[.agg #[.int .i64 k, .int .i64 l, .string nm, v1, v2]] w fun e w' => e = .returned (.bool false) ∧ Below w.heap.size w w' := by
  have HB0 := Lib.hid (below_alloc w (.cells #[.int .i64 k, .int .i64 l, .string nm, v1, v2] 26))
  obtain ⟨h1, h2, h3, h4, h5, h6⟩ := hk
  go_enter Tryz.func16, Tryz.ntmps16
  go_wp2
  go_ret
  exact ⟨rfl, HB0.out⟩
/-- Types whose names are not long. -/
def smT : Ty → Prop
  | .mk _ _ nm ns es => nm.size ≤ 300 ∧ ns.length ≤ 40 ∧ es.length ≤ 3 ∧ (∀ s ∈ ns, s.size ≤ 100) ∧ ∀ e, e ∈ es → smT e
theorem smT_def (k l : Int) (nm : ByteArray) (ns : List ByteArray) (es : List Ty) : smT (.mk k l nm ns es) ↔ nm.size ≤ 300 ∧ ns.length ≤ 40 ∧ es.length ≤ 3 ∧ (∀ s ∈ ns, s.size ≤ 100) ∧ ∀ e ∈ es, smT e := by
  rw [smT]
theorem size_inT {k l : Int} {nm : ByteArray} {ns : List ByteArray} {es : List Ty} {v : Ty} {m : Nat} (h : SizeOf.sizeOf (Ty.mk k l nm ns es) < m + 1) (hv : v ∈ es) : SizeOf.sizeOf v < m := by
  have := List.sizeOf_lt_of_mem hv
  rw [Ty.mk.sizeOf_spec] at h
  omega
theorem smT_NmT : ∀ (n : Nat) (t : Ty), SizeOf.sizeOf t < n → smT t → NmT t
  | 0, _, hz, _ => absurd hz (Nat.not_lt_zero _)
  | n + 1, .mk k l nm ns es, hz, h => by
    rw [smT_def] at h
    rw [nmT_def]
    refine ⟨by omega, ?_⟩
    match es, hz, h with
    | [], _, _ => trivial
    | [e], hz, h => exact smT_NmT n e (size_inT hz (by simp)) (h.2.2.2.2 e (by simp))
    | e :: e2 :: r, _, _ => trivial
theorem smT.nm {t : Ty} (h : smT t) : NmT t := smT_NmT _ t (Nat.lt_succ_self _) h
theorem pvalid_upto : ∀ (n : Nat) (t : Ty) (cs : List Value) (w : World), SizeOf.sizeOf t < n → smT t → TyC w t cs →
    Calls Tryz.prog 16 #[.agg cs.toArray] w fun e w' => e = .returned (.bool (validT isNameL t)) ∧ Below w.heap.size w w'
  | 0, _, _, _, hz, _, _ => absurd hz (Nat.not_lt_zero _)
  | n + 1, .mk k l nm ns es, cs, w, hz, hsm, h => by
    rw [TyC] at h
    obtain ⟨vn, A, c, rfl, ⟨B, d, rfl, hs1, hs2, hs3⟩, h1, h2, h3⟩ := h
    rw [smT_def] at hsm
    rw [validT_def]
    by_cases k123 : k = 1 ∨ k = 2 ∨ k = 3
    · rw [if_pos k123]
      exact pvalid_basic k k123 l nm ns es B A d c w
    rw [if_neg k123]
    by_cases k4 : k = 4
    · rw [if_pos k4]
      subst k4
      exact pvalid_vec l nm ns es B A d c w
    rw [if_neg k4]
    by_cases k6 : k = 6
    · rw [if_pos k6]
      subst k6
      match es, hz, hsm, h1, h2, h3 with
      | [], _, _, _, _, _ => exact pvalid_arr l nm ns 0 B A d c false w (fun u _ => isElement_no A 0 c u (by decide))
      | [e], hz, hsm, _, _, g3 =>
        rcases g3 with g3 | ⟨b, off, rfl, g3⟩
        · cases g3
        obtain ⟨k1, l1, nm1, x1, x2, hc1, e0, e1, e2, e3, e4⟩ := five g3
        have hd : (decide (e.kind ≠ 6) && validT isNameL e) = ((k1 != 6) && validT isNameL e) := by
          obtain ⟨k', l', nm', ns', es'⟩ := e
          rw [TyC] at hc1
          obtain ⟨vn, A', c', hcs, _⟩ := hc1
          simp only [List.cons.injEq, Value.int.injEq, true_and] at hcs
          obtain ⟨rfl, _⟩ := hcs
          show (decide (k1 ≠ 6) && _) = _
          congr 1
          cases hh : (k1 == 6) <;> simp_all
        refine (pvalid_arr l nm ns 1 B _ d c ((k1 != 6) && validT isNameL e) w (fun u hb => isElement_one b off c k1 l1 nm1 x1 x2 (validT isNameL e) u ⟨cell_stays hb e0, cell_stays hb e1, cell_stays hb e2, cell_stays hb e3, cell_stays hb e4⟩ (pvalid_upto n e _ u (size_inT hz (by simp)) (hsm.2.2.2.2 e (by simp)) (hc1.later hb)))).mono ?_
        rintro ee w' ⟨rfl, hb⟩
        exact ⟨by rw [← hd], hb⟩
      | e :: e2 :: r, _, _, _, _, _ => exact pvalid_arr l nm ns (r.length + 2) B A d c false w (fun u _ => isElement_no A (r.length + 2) c u (by rw [beq_eq_false_iff_ne]; omega))
    rw [if_neg k6]
    by_cases k5 : k = 5
    · rw [if_pos k5]
      subst k5
      exact pvalid_enum l nm ns es B A d c w ⟨B, d, rfl, hs1, hs2, hs3⟩ (fun s hs => by have := hsm.2.2.2.1 s hs; omega)
    rw [if_neg k5]
    refine pvalid_none k ?_ l nm _ _ w
    simp only [beq_eq_false_iff_ne]
    omega
theorem pvalid_any (t : Ty) (cs : List Value) (w : World) (hn : smT t) (h : TyC w t cs) :
    Calls Tryz.prog 16 #[.agg cs.toArray] w fun e w' => e = .returned (.bool (validT isNameL t)) ∧ Below w.heap.size w w' := pvalid_upto _ t cs w (Nat.lt_succ_self _) hn h
end Go.Proofs.YtdiagnhdigakpaaGreatDoor
/- The shapes of valid types and of values that have them. No program stands here. -/
namespace Go.Proofs.YtdiagnhdigakpaaGreatDoor

def noName : ByteArray := ⟨#[]⟩
/-- A valid type that is no array. -/
inductive Flat (f : List UInt8 → Bool) : Ty → Prop
  | sc (k : Int) (hk : k = 1 ∨ k = 2 ∨ k = 3) : Flat f (.mk k 0 noName [] [])
  | vec (l : Nat) (h1 : 1 ≤ l) (h2 : l ≤ 64) : Flat f (.mk 4 l noName [] [])
  | en (nm : ByteArray) (ns : List ByteArray) (hp : pathB nm = true) (hn : namesOk f ns = true) : Flat f (.mk 5 0 nm ns [])
/-- A valid type. -/
inductive Good (f : List UInt8 → Bool) : Ty → Prop
  | flat (t : Ty) (h : Flat f t) : Good f t
  | arr (l : Nat) (e : Ty) (h1 : 1 ≤ l) (h2 : l ≤ 64) (h : Flat f e) : Good f (.mk 6 l noName [] [e])
theorem size_none {s : ByteArray} (h : s.size = 0) : s = noName := by
  obtain ⟨⟨l⟩⟩ := s
  have : l.length = 0 := h
  rw [List.length_eq_zero_iff] at this
  subst this
  rfl
theorem validT_eq (f : List UInt8 → Bool) (k l : Int) (nm : ByteArray) (ns : List ByteArray) (es : List Ty) : validT f (.mk k l nm ns es) =
    (if k = 1 ∨ k = 2 ∨ k = 3 then decide (l = 0) && (bareT nm ns && es.isEmpty)
    else if k = 4 then decide (1 ≤ l ∧ l ≤ 64) && (bareT nm ns && es.isEmpty)
    else if k = 6 then decide (1 ≤ l ∧ l ≤ 64) && (bareT nm ns && (match es with | [e] => decide (e.kind ≠ 6) && validT f e | _ => false))
    else if k = 5 then decide (l = 0) && (es.isEmpty && (pathB nm && namesOk f ns))
    else false) := by
  match es with
  | [] => simp [validT]
  | [e] => simp [validT]
  | e :: e2 :: r => simp [validT]
theorem bare_eq {nm : ByteArray} {ns : List ByteArray} (h : bareT nm ns = true) : nm = noName ∧ ns = [] := by
  unfold bareT at h
  rw [Bool.and_eq_true, decide_eq_true_eq] at h
  exact ⟨size_none h.1, List.isEmpty_iff.1 h.2⟩
theorem bare_none : bareT noName [] = true := by decide
theorem valid_flat_or {f : List UInt8 → Bool} {t : Ty} (h : validT f t = true) (hk : t.kind ≠ 6) : Flat f t := by
  obtain ⟨k, l, nm, ns, es⟩ := t
  have hk : k ≠ 6 := hk
  rw [validT_eq] at h
  by_cases h123 : k = 1 ∨ k = 2 ∨ k = 3
  · rw [if_pos h123] at h
    simp only [Bool.and_eq_true, decide_eq_true_eq] at h
    obtain ⟨rfl, h2, h3⟩ := h
    obtain ⟨rfl, rfl⟩ := bare_eq h2
    obtain rfl := List.isEmpty_iff.1 h3
    exact .sc k h123
  rw [if_neg h123] at h
  by_cases h4 : k = 4
  · rw [if_pos h4] at h
    simp only [Bool.and_eq_true, decide_eq_true_eq] at h
    obtain ⟨⟨h1, h1'⟩, h2, h3⟩ := h
    obtain ⟨rfl, rfl⟩ := bare_eq h2
    obtain rfl := List.isEmpty_iff.1 h3
    subst h4
    obtain ⟨m, rfl⟩ : ∃ m : Nat, l = m := ⟨l.toNat, by omega⟩
    exact .vec m (by omega) (by omega)
  rw [if_neg h4, if_neg hk] at h
  by_cases h5 : k = 5
  · rw [if_pos h5] at h
    simp only [Bool.and_eq_true, decide_eq_true_eq] at h
    obtain ⟨rfl, g2, g3, g4⟩ := h
    obtain rfl := List.isEmpty_iff.1 g2
    subst h5
    exact .en nm ns g3 g4
  · rw [if_neg h5] at h
    cases h
theorem valid_good {f : List UInt8 → Bool} {t : Ty} (h : validT f t = true) : Good f t := by
  by_cases hk : t.kind = 6
  · obtain ⟨k, l, nm, ns, es⟩ := t
    have hk : k = 6 := hk
    subst hk
    rw [validT_eq, if_neg (by omega), if_neg (by omega), if_pos rfl] at h
    simp only [Bool.and_eq_true, decide_eq_true_eq] at h
    obtain ⟨⟨h1, h1'⟩, h2, h3⟩ := h
    obtain ⟨rfl, rfl⟩ := bare_eq h2
    match es, h3 with
    | [e], h3 =>
      simp only [Bool.and_eq_true, decide_eq_true_eq] at h3
      obtain ⟨m, rfl⟩ : ∃ m : Nat, l = m := ⟨l.toNat, by omega⟩
      exact .arr m e (by omega) (by omega) (valid_flat_or h3.2 h3.1)
  · exact .flat t (valid_flat_or h hk)
theorem flat_kind {f : List UInt8 → Bool} {t : Ty} (h : Flat f t) : t.kind ≠ 6 ∧ t.elem = [] := by
  cases h with
  | sc k hk => exact ⟨by show k ≠ 6; omega, rfl⟩
  | vec l => exact ⟨by show (4 : Int) ≠ 6; omega, rfl⟩
  | en nm ns => exact ⟨by show (5 : Int) ≠ 6; omega, rfl⟩
theorem flat_valid {f : List UInt8 → Bool} {t : Ty} (h : Flat f t) : validT f t = true := by
  cases h with
  | sc k hk => rw [validT_eq, if_pos hk, bare_none]; rfl
  | vec l h1 h2 => rw [validT_eq, if_neg (by omega), if_pos rfl, bare_none]; simp; omega
  | en nm ns h1 h2 => rw [validT_eq, if_neg (by omega), if_neg (by omega), if_neg (by omega), if_pos rfl, h1, h2]; rfl
theorem good_valid {f : List UInt8 → Bool} {t : Ty} (h : Good f t) : validT f t = true := by
  cases h with
  | flat t h => exact flat_valid h
  | arr l e h1 h2 h =>
    rw [validT_eq, if_neg (by omega), if_neg (by omega), if_pos rfl, bare_none]
    simp only [flat_valid h, decide_eq_true (flat_kind h).1]
    simp
    omega
theorem valid_iff {f : List UInt8 → Bool} {t : Ty} : validT f t = true ↔ Good f t := ⟨valid_good, good_valid⟩
def bitOk (bs : List Nat) : Bool := bs.all fun b => decide (b ≤ 3)
theorem hasV_eq (k l : Int) (nm : ByteArray) (ns : List ByteArray) (es : List Ty) (k' n : Int) (bs : List Nat) (ls : List Va) : hasV (.mk k l nm ns es) (.mk k' n bs ls) = (decide (k' = k) &&
    (if k = 1 then decide (n = 0) && (decide (bs.length = 1) && (bitOk bs && ls.isEmpty))
     else if k = 2 then decide (n = 0 ∨ n = 1) && (bs.isEmpty && ls.isEmpty)
     else if k = 3 then decide (-2147483648 ≤ n ∧ n ≤ 2147483647) && (bs.isEmpty && ls.isEmpty)
     else if k = 4 then decide (n = 0) && (decide ((bs.length : Int) = l) && (bitOk bs && ls.isEmpty))
     else if k = 5 then decide (0 ≤ n ∧ n < ns.length) && (bs.isEmpty && ls.isEmpty)
     else decide (n = 0) && (bs.isEmpty && (decide ((ls.length : Int) = l) && (match es with | [e] => ls.all (fun w => hasV e w) | _ => false))))) := by
  match es with
  | [] => simp [hasV, bitOk]
  | [e] => simp [hasV, bitOk]
  | e :: e2 :: r => simp [hasV, bitOk]
/-- The shapes of values that have a type that is no array. -/
inductive HasF : Ty → Va → Prop
  | bit (nm) (ns) (es) (l : Int) (b : Nat) (h : b ≤ 3) : HasF (.mk 1 l nm ns es) (.mk 1 0 [b] [])
  | bool (nm) (ns) (es) (l : Int) (n : Int) (h : n = 0 ∨ n = 1) : HasF (.mk 2 l nm ns es) (.mk 2 n [] [])
  | int (nm) (ns) (es) (l : Int) (n : Int) (h1 : -2147483648 ≤ n) (h2 : n ≤ 2147483647) : HasF (.mk 3 l nm ns es) (.mk 3 n [] [])
  | vec (nm) (ns) (es) (l : Int) (bs : List Nat) (hl : (bs.length : Int) = l) (hb : ∀ b ∈ bs, b ≤ 3) : HasF (.mk 4 l nm ns es) (.mk 4 0 bs [])
  | en (nm) (ns) (es) (l : Int) (i : Nat) (h : i < ns.length) : HasF (.mk 5 l nm ns es) (.mk 5 i [] [])
theorem bitOk_iff {bs : List Nat} : bitOk bs = true ↔ ∀ b ∈ bs, b ≤ 3 := by
  unfold bitOk
  rw [List.all_eq_true]
  simp only [decide_eq_true_eq]
theorem hasF_of {f : List UInt8 → Bool} {t : Ty} {v : Va} (ht : Flat f t) (h : hasV t v = true) : HasF t v := by
  obtain ⟨k', n, bs, ls⟩ := v
  cases ht with
  | sc k hk =>
    rw [hasV_eq, Bool.and_eq_true, decide_eq_true_eq] at h
    obtain ⟨rfl, h⟩ := h
    rcases hk with rfl | rfl | rfl
    · rw [if_pos rfl] at h
      simp only [Bool.and_eq_true, decide_eq_true_eq, bitOk_iff, List.isEmpty_iff] at h
      obtain ⟨rfl, h1, h2, rfl⟩ := h
      match bs, h1, h2 with
      | [b], _, h2 => exact .bit _ _ _ _ b (h2 b (by simp))
    · rw [if_neg (by omega), if_pos rfl] at h
      simp only [Bool.and_eq_true, decide_eq_true_eq, List.isEmpty_iff] at h
      obtain ⟨h1, rfl, rfl⟩ := h
      exact .bool _ _ _ _ n h1
    · rw [if_neg (by omega), if_neg (by omega), if_pos rfl] at h
      simp only [Bool.and_eq_true, decide_eq_true_eq, List.isEmpty_iff] at h
      obtain ⟨⟨h1, h2⟩, rfl, rfl⟩ := h
      exact .int _ _ _ _ n h1 h2
  | vec l h1 h2 =>
    rw [hasV_eq, Bool.and_eq_true, decide_eq_true_eq] at h
    obtain ⟨rfl, h⟩ := h
    rw [if_neg (by omega), if_neg (by omega), if_neg (by omega), if_pos rfl] at h
    simp only [Bool.and_eq_true, decide_eq_true_eq, bitOk_iff, List.isEmpty_iff] at h
    obtain ⟨rfl, h3, h4, rfl⟩ := h
    exact .vec _ _ _ _ bs h3 h4
  | en nm ns hp hn =>
    rw [hasV_eq, Bool.and_eq_true, decide_eq_true_eq] at h
    obtain ⟨rfl, h⟩ := h
    rw [if_neg (by omega), if_neg (by omega), if_neg (by omega), if_neg (by omega), if_pos rfl] at h
    simp only [Bool.and_eq_true, decide_eq_true_eq, List.isEmpty_iff] at h
    obtain ⟨⟨h1, h2⟩, rfl, rfl⟩ := h
    obtain ⟨i, rfl⟩ : ∃ i : Nat, n = i := ⟨n.toNat, by omega⟩
    exact .en _ _ _ _ i (by omega)
theorem of_hasF {t : Ty} {v : Va} (h : HasF t v) : hasV t v = true := by
  cases h with
  | bit nm ns es l b h => rw [hasV_eq, if_pos rfl]; simp [bitOk, h]
  | bool nm ns es l n h => rw [hasV_eq, if_neg (by omega), if_pos rfl]; simp [h]
  | int nm ns es l n h1 h2 => rw [hasV_eq, if_neg (by omega), if_neg (by omega), if_pos rfl]; simp [h1, h2]
  | vec nm ns es l bs hl hb => rw [hasV_eq, if_neg (by omega), if_neg (by omega), if_neg (by omega), if_pos rfl, bitOk_iff.2 hb]; simp [hl]
  | en nm ns es l i h => rw [hasV_eq, if_neg (by omega), if_neg (by omega), if_neg (by omega), if_neg (by omega), if_pos rfl]; simp [h]
/-- The shapes of values that have a type. -/
inductive HasG : Ty → Va → Prop
  | flat (t : Ty) (v : Va) (h : HasF t v) : HasG t v
  | arr (l : Int) (nm) (ns) (e : Ty) (ls : List Va) (hl : (ls.length : Int) = l) (h : ∀ w ∈ ls, HasF e w) : HasG (.mk 6 l nm ns [e]) (.mk 6 0 [] ls)
theorem hasG_of {f : List UInt8 → Bool} {t : Ty} {v : Va} (ht : Good f t) (h : hasV t v = true) : HasG t v := by
  cases ht with
  | flat t ht => exact .flat t v (hasF_of ht h)
  | arr l e h1 h2 he =>
    obtain ⟨k', n, bs, ls⟩ := v
    rw [hasV_eq, Bool.and_eq_true, decide_eq_true_eq] at h
    obtain ⟨rfl, h⟩ := h
    rw [if_neg (by omega), if_neg (by omega), if_neg (by omega), if_neg (by omega), if_neg (by omega)] at h
    simp only [Bool.and_eq_true, decide_eq_true_eq, List.isEmpty_iff, List.all_eq_true] at h
    obtain ⟨rfl, rfl, h3, h4⟩ := h
    exact .arr _ _ _ e ls h3 fun w hw => hasF_of he (h4 w hw)
theorem of_hasG {t : Ty} {v : Va} (h : HasG t v) : hasV t v = true := by
  cases h with
  | flat t v h => exact of_hasF h
  | arr l nm ns e ls hl h =>
    rw [hasV_eq, if_neg (by omega), if_neg (by omega), if_neg (by omega), if_neg (by omega), if_neg (by omega)]
    simp [hl]
    exact fun w hw => of_hasF (h w hw)
end Go.Proofs.YtdiagnhdigakpaaGreatDoor
/- Sameness of trees is equality; texts, names, bits and places of types and values, and what follows of them. No program stands here. -/
namespace Go.Proofs.YtdiagnhdigakpaaGreatDoor

mutual
theorem alikeV_eq : ∀ v w : Va, alikeV v w = true ↔ v = w
  | .mk k n bs ls, .mk k' n' bs' ls' => by
    rw [alikeV]
    simp only [Bool.and_eq_true, decide_eq_true_eq, alikeVs_eq ls ls', Va.mk.injEq]
theorem alikeVs_eq : ∀ v w : List Va, alikeVs v w = true ↔ v = w
  | [], [] => by simp [alikeVs]
  | [], _ :: _ => by simp [alikeVs]
  | _ :: _, [] => by simp [alikeVs]
  | v :: r, w :: s => by
    rw [alikeVs]
    simp only [Bool.and_eq_true, alikeV_eq v w, alikeVs_eq r s, List.cons.injEq]
end
theorem alikeV_refl (v : Va) : alikeV v v = true := (alikeV_eq v v).2 rfl
theorem alikeVs_refl (v : List Va) : alikeVs v v = true := (alikeVs_eq v v).2 rfl
theorem flat_alike {f : List UInt8 → Bool} {t u : Ty} (ht : Flat f t) (hu : Flat f u) : alikeT t u = true ↔ t = u := by
  obtain ⟨k, l, nm, ns, es⟩ := t
  obtain ⟨k', l', nm', ns', es'⟩ := u
  have h1 := (flat_kind ht).2
  have h2 := (flat_kind hu).2
  have h1 : es = [] := h1
  have h2 : es' = [] := h2
  subst h1 h2
  simp [alikeT]
theorem good_alike {f : List UInt8 → Bool} {t u : Ty} (ht : Good f t) (hu : Good f u) : alikeT t u = true ↔ t = u := by
  cases ht with
  | flat t ht =>
    cases hu with
    | flat u hu => exact flat_alike ht hu
    | arr l e h1 h2 he =>
      obtain ⟨k, l', nm, ns, es⟩ := t
      have hk : k ≠ 6 := (flat_kind ht).1
      constructor
      · intro h
        unfold alikeT at h
        simp [hk] at h
      · intro h
        exact absurd (Ty.mk.inj h).1 hk
  | arr l e h1 h2 he =>
    cases hu with
    | flat u hu =>
      obtain ⟨k, l', nm, ns, es⟩ := u
      have hk : k ≠ 6 := (flat_kind hu).1
      constructor
      · intro h
        unfold alikeT at h
        simp [Ne.symm hk] at h
      · intro h
        exact absurd (Ty.mk.inj h).1.symm hk
    | arr l' e' h1' h2' he' =>
      have := flat_alike he he'
      simp [alikeT, this]
theorem sameT_iff {f : List UInt8 → Bool} {t u : Ty} : sameT f t u = true ↔ validT f t = true ∧ t = u := by
  unfold sameT
  rw [Bool.and_eq_true, Bool.and_eq_true]
  constructor
  · rintro ⟨h1, h2, h3⟩
    exact ⟨h1, (good_alike (valid_good h1) (valid_good h2)).1 h3⟩
  · rintro ⟨h1, rfl⟩
    exact ⟨h1, h1, (good_alike (valid_good h1) (valid_good h1)).2 rfl⟩
/-- The letters of bits, the highest first. -/
def lettersL (bs : List Nat) : List UInt8 := (bs.map ltr).reverse
def trueL : List UInt8 := [116, 114, 117, 101]
def falseL : List UInt8 := [102, 97, 108, 115, 101]
/-- How a value of a type is written. -/
def textV : Ty → Va → List UInt8
  | .mk k _ _ ns es, .mk _ n bs ls =>
    if k = 1 then 39 :: (lettersL bs ++ [39])
    else if k = 2 then (if n = 1 then trueL else falseL)
    else if k = 3 then itoL n
    else if k = 4 then 98 :: 34 :: (lettersL bs ++ [34])
    else if k = 5 then bl (ns.getD n.toNat noName)
    else 91 :: ([44].intercalate (match es with | [e] => ls.map (fun w => textV e w) | _ => []) ++ [93])
theorem textV_bit (l n : Int) (nm : ByteArray) (ns : List ByteArray) (es : List Ty) (k : Int) (bs : List Nat) (ls : List Va) : textV (.mk 1 l nm ns es) (.mk k n bs ls) = 39 :: (lettersL bs ++ [39]) := by
  match es with
  | [] => simp [textV]
  | [e] => simp [textV]
  | e :: e2 :: r => simp [textV]
theorem textV_bool (l n : Int) (nm : ByteArray) (ns : List ByteArray) (es : List Ty) (k : Int) (bs : List Nat) (ls : List Va) : textV (.mk 2 l nm ns es) (.mk k n bs ls) = if n = 1 then trueL else falseL := by
  match es with
  | [] => simp [textV]
  | [e] => simp [textV]
  | e :: e2 :: r => simp [textV]
theorem textV_int (l n : Int) (nm : ByteArray) (ns : List ByteArray) (es : List Ty) (k : Int) (bs : List Nat) (ls : List Va) : textV (.mk 3 l nm ns es) (.mk k n bs ls) = itoL n := by
  match es with
  | [] => simp [textV]
  | [e] => simp [textV]
  | e :: e2 :: r => simp [textV]
theorem textV_vec (l n : Int) (nm : ByteArray) (ns : List ByteArray) (es : List Ty) (k : Int) (bs : List Nat) (ls : List Va) : textV (.mk 4 l nm ns es) (.mk k n bs ls) = 98 :: 34 :: (lettersL bs ++ [34]) := by
  match es with
  | [] => simp [textV]
  | [e] => simp [textV]
  | e :: e2 :: r => simp [textV]
theorem textV_enum (l n : Int) (nm : ByteArray) (ns : List ByteArray) (es : List Ty) (k : Int) (bs : List Nat) (ls : List Va) : textV (.mk 5 l nm ns es) (.mk k n bs ls) = bl (ns.getD n.toNat noName) := by
  match es with
  | [] => simp [textV]
  | [e] => simp [textV]
  | e :: e2 :: r => simp [textV]
theorem textV_arr (l : Int) (nm : ByteArray) (ns : List ByteArray) (e : Ty) (k n : Int) (bs : List Nat) (ls : List Va) : textV (.mk 6 l nm ns [e]) (.mk k n bs ls) = 91 :: ([44].intercalate (ls.map (fun w => textV e w)) ++ [93]) := by
  simp [textV]
/-- The name of a type. -/
def nameT : Ty → List UInt8
  | .mk k l nm _ es =>
    if k = 1 then [98, 105, 116]
    else if k = 2 then [98, 111, 111, 108]
    else if k = 3 then [105, 110, 116]
    else if k = 4 then 118 :: 101 :: 99 :: 40 :: (itoL l ++ [41])
    else if k = 5 then bl nm
    else 97 :: 114 :: 114 :: 97 :: 121 :: 40 :: (itoL l ++ 41 :: 32 :: 111 :: 102 :: 32 :: (match es with | [e] => nameT e | _ => []))
theorem nameT_arr (l : Int) (nm : ByteArray) (ns : List ByteArray) (e : Ty) : nameT (.mk 6 l nm ns [e]) = 97 :: 114 :: 114 :: 97 :: 121 :: 40 :: (itoL l ++ 41 :: 32 :: 111 :: 102 :: 32 :: nameT e) := by
  simp [nameT]
theorem widthT_arr (l : Int) (nm : ByteArray) (ns : List ByteArray) (e : Ty) : widthT (.mk 6 l nm ns [e]) = (widthT e).map (· * l.toNat) := by
  simp [widthT]
theorem firstV_arr (l : Int) (nm : ByteArray) (ns : List ByteArray) (e : Ty) : firstV (.mk 6 l nm ns [e]) = .mk 6 0 [] (List.replicate l.toNat (firstV e)) := by
  simp [firstV]
theorem placesT_arr (l : Int) (nm : ByteArray) (ns : List ByteArray) (e : Ty) : placesT (.mk 6 l nm ns [e]) = (List.replicate l.toNat (placesT e)).flatten := by
  simp [placesT]
theorem flat_first {f : List UInt8 → Bool} {t : Ty} (h : Flat f t) : HasF t (firstV t) := by
  cases h with
  | sc k hk =>
    rcases hk with rfl | rfl | rfl
    · exact .bit _ _ _ _ 2 (by omega)
    · exact .bool _ _ _ _ 0 (.inl rfl)
    · exact .int _ _ _ _ 0 (by omega) (by omega)
  | vec l h1 h2 =>
    have := HasF.vec noName [] [] (l : Int) (List.replicate l 2) (by simp) (by intro b hb; rw [List.mem_replicate] at hb; omega)
    simpa [firstV] using this
  | en nm ns hp hn =>
    have h1 : 1 ≤ ns.length := by
      unfold namesOk at hn
      simp only [Bool.and_eq_true, decide_eq_true_eq] at hn
      exact hn.1
    have := HasF.en nm ns [] 0 0 h1
    simpa [firstV] using this
theorem good_first {f : List UInt8 → Bool} {t : Ty} (h : Good f t) : HasG t (firstV t) := by
  cases h with
  | flat t h => exact .flat t _ (flat_first h)
  | arr l e h1 h2 he =>
    rw [firstV_arr, Int.toNat_natCast]
    exact .arr _ _ _ e _ (by simp) (by intro w hw; rw [List.mem_replicate] at hw; rw [hw.2]; exact flat_first he)
theorem first_has {f : List UInt8 → Bool} {t : Ty} (h : validT f t = true) : hasV t (firstV t) = true := of_hasG (good_first (valid_good h))
end Go.Proofs.YtdiagnhdigakpaaGreatDoor
/- The contracts of the program's alike and Same. -/
namespace Go.Proofs.YtdiagnhdigakpaaGreatDoor
open Go.RowKit

/-- Five cells of a type in a row. -/
def Ty5 (w : World) (b o : Nat) (k l : Int) (nm : ByteArray) (x1 x2 : Value) : Prop :=
  w.cell? ⟨b, o, none⟩ = some (.int .i64 k) ∧ w.cell? ⟨b, o + 1, none⟩ = some (.int .i64 l) ∧ w.cell? ⟨b, o + 2, none⟩ = some (.string nm) ∧ w.cell? ⟨b, o + 3, none⟩ = some x1 ∧ w.cell? ⟨b, o + 4, none⟩ = some x2
theorem Ty5.later {w w' : World} {b o : Nat} {k l : Int} {nm : ByteArray} {x1 x2 : Value} (h : Ty5 w b o k l nm x1 x2) (hb : Below w.heap.size w w') : Ty5 w' b o k l nm x1 x2 :=
  ⟨cell_stays hb h.1, cell_stays hb h.2.1, cell_stays hb h.2.2.1, cell_stays hb h.2.2.2.1, cell_stays hb h.2.2.2.2⟩
set_option maxHeartbeats 4000000 in
theorem eqfT_diff (A B : Option Addr) (n m c d : Nat) (f : Value) (w : World) (h : ((n : Int) != (m : Int)) = true) :
    Calls Tryz.prog 105 #[.slice A n c, .slice B m d, f] w fun e w' => e = .returned (.bool false) ∧ Below w.heap.size w w' := by
  go_enter Tryz.func105, Tryz.ntmps105
  go_wp2
  go_ret
  exact ⟨rfl, Below.refl _ _⟩
set_option maxHeartbeats 4000000 in
theorem eqfT_nil (A B : Option Addr) (c d : Nat) (f : Value) (w : World) :
    Calls Tryz.prog 105 #[.slice A 0 c, .slice B 0 d, f] w fun e w' => e = .returned (.bool true) ∧ Below w.heap.size w w' := by
  go_enter Tryz.func105, Tryz.ntmps105
  go_wp2_with fail
  go_loop [17] (fun i => i = .int .i64 0) (fun _ => 0)
  case atStart => rfl
  case round =>
    obtain rfl := hrel
    go_wp2
    go_ret
    exact ⟨rfl, Below.refl _ _⟩
set_option maxRecDepth 100000 in
set_option maxHeartbeats 4000000 in
theorem eqfT_one (b o b' o' c d : Nat) (k1 l1 k2 l2 : Int) (nm1 nm2 : ByteArray) (A1 A2 A3 A4 : Option Addr) (n1 n2 n3 n4 c1 c2 c3 c4 : Nat) (z : Bool) (w : World)
    (h5 : Hid (Ty5 w b o k1 l1 nm1 (.slice A1 n1 c1) (.slice A2 n2 c2))) (g5 : Hid (Ty5 w b' o' k2 l2 nm2 (.slice A3 n3 c3) (.slice A4 n4 c4)))
    (HX : Hid (∀ u, Below w.heap.size w u → Calls Tryz.prog 63 #[.agg #[.int .i64 k1, .int .i64 l1, .string nm1, .slice A1 n1 c1, .slice A2 n2 c2], .agg #[.int .i64 k2, .int .i64 l2, .string nm2, .slice A3 n3 c3, .slice A4 n4 c4]] u fun e w' => e = .returned (.bool z) ∧ Below u.heap.size u w')) :
    Calls Tryz.prog 105 #[.slice (some ⟨b, o, none⟩) 1 c, .slice (some ⟨b', o', none⟩) 1 d, .func (.func 63) #[] #[]] w fun e w' => e = .returned (.bool z) ∧ Below w.heap.size w w' := by
  go_enter Tryz.func105, Tryz.ntmps105
  go_wp2_with fail
  go_loopw [17] (fun i wr => ∃ k : Nat, k ≤ 1 ∧ i = .int .i64 k ∧ Hid (0 < k → z = true) ∧ Hid (Below w.heap.size w wr)) (fun i _ => 1 - (intOf i).toNat)
  case atStart => exact ⟨0, by omega, rfl, fun h => absurd h (by omega), Below.refl _ _⟩
  case round =>
    obtain ⟨k, hk, rfl, hr, HB⟩ := hrel
    by_cases h0 : k = 0
    · subst h0
      obtain ⟨e0, e1, e2, e3, e4⟩ := h5.out.later HB.out
      have hba := below_alloc wr (.cells #[.int .i64 k1, .int .i64 l1, .string nm1, .slice A1 n1 c1, .slice A2 n2 c2] 26)
      obtain ⟨g0, g1, g2, g3, g4⟩ := g5.out.later (below_then HB.out hba)
      have hbb := below_then hba (below_alloc _ (.cells #[.int .i64 k2, .int .i64 l2, .string nm2, .slice A3 n3 c3, .slice A4 n4 c4] 26))
      have HBB := Lib.hid (below_then HB.out hbb)
      clear hbb hba hr
      cases z
      all_goals
        go_wp2_with fail
        refine (HX.out _ HBB.out).mono ?_
        rintro e w3 ⟨rfl, hb3⟩
        have HB3 := Lib.hid (below_then HBB.out hb3)
        clear hb3
        go_wp2
        first
          | (go_ret
             exact ⟨rfl, HB3.out⟩)
          | (go_roundw
             case rel => exact ⟨1, by omega, by go_num, (by intro _; first | rfl | trivial), HB3.out⟩
             case measure => simp [intOf])
    · obtain rfl : k = 1 := by omega
      have hz := hr.out (by omega)
      subst hz
      go_wp2
      go_ret
      exact ⟨rfl, HB.out⟩
/-- What EqualFunc says of the elements of two types that are valid. -/
def elemB : List Ty → List Ty → Bool
  | [], [] => true
  | [e], [e'] => alikeT e e'
  | _, _ => false
set_option maxRecDepth 100000 in
set_option maxHeartbeats 16000000 in
theorem alike_gen (k l k' l' : Int) (nm nm' : ByteArray) (v3 v3' v4 v4' : Value) (r s : Bool) (w : World)
    (HE : Hid (∀ u, Below w.heap.size w u → Calls Tryz.prog 104 #[v3, v3'] u fun e w' => e = .returned (.bool r) ∧ Below u.heap.size u w'))
    (HF : Hid (∀ u, Below w.heap.size w u → Calls Tryz.prog 105 #[v4, v4', .func (.func 63) #[] #[]] u fun e w' => e = .returned (.bool s) ∧ Below u.heap.size u w')) :
    Calls Tryz.prog 63 #[.agg #[.int .i64 k, .int .i64 l, .string nm, v3, v4], .agg #[.int .i64 k', .int .i64 l', .string nm', v3', v4']] w fun e w' => e = .returned (.bool ((k == k') && ((l == l') && ((nm.toList == nm'.toList) && (r && s))))) ∧ Below w.heap.size w w' := by
  have H0 := Lib.hid (below_then (below_alloc w (.cells #[.int .i64 k, .int .i64 l, .string nm, v3, v4] 26)) (below_alloc (w.alloc (.cells #[.int .i64 k, .int .i64 l, .string nm, v3, v4] 26)) (.cells #[.int .i64 k', .int .i64 l', .string nm', v3', v4'] 26)))
  cases e1 : (k == k')
  · clear HE HF
    go_enter Tryz.func63, Tryz.ntmps63
    go_wp2
    go_ret
    exact ⟨rfl, H0.out⟩
  cases e2 : (l == l')
  · clear HE HF
    go_enter Tryz.func63, Tryz.ntmps63
    go_wp2
    go_ret
    exact ⟨rfl, H0.out⟩
  cases e3 : (nm.toList == nm'.toList)
  · clear HE HF
    go_enter Tryz.func63, Tryz.ntmps63
    go_wp2
    go_ret
    exact ⟨rfl, H0.out⟩
  cases r
  · clear HF
    go_enter Tryz.func63, Tryz.ntmps63
    go_wp2_with fail
    refine (HE.out _ H0.out).mono ?_
    rintro e w1 ⟨rfl, hb1⟩
    have H1 := Lib.hid (below_then H0.out hb1)
    clear hb1
    go_wp2
    go_ret
    exact ⟨rfl, H1.out⟩
  cases s
  all_goals
    go_enter Tryz.func63, Tryz.ntmps63
    go_wp2_with fail
    refine (HE.out _ H0.out).mono ?_
    rintro e w1 ⟨rfl, hb1⟩
    have H1 := Lib.hid (below_then H0.out hb1)
    obtain ⟨⟨p0, p1, p2, p3, p4⟩, q0, q1, q2, q3, q4⟩ := box_cells hb1
    clear hb1
    go_wp2_with fail
    refine (HF.out _ H1.out).mono ?_
    rintro e w2 ⟨rfl, hb2⟩
    have H2 := Lib.hid (below_then H1.out hb2)
    clear hb2 p0 p1 p2 p3 p4 q0 q1 q2 q3 q4
    go_wp2
    go_ret
    exact ⟨rfl, H2.out⟩
/-- A type's five cells with its two slices written out. -/
theorem tyC_open {w : World} {t : Ty} {cs : List Value} (h : TyC w t cs) : ∃ A n c B m d, cs = [.int .i64 t.kind, .int .i64 t.len, .string t.name, .slice A n c, .slice B m d] ∧ n = t.names.length ∧ m = t.elem.length ∧ StrS w (.slice A n c) t.names ∧ (t.elem = [] ∨ ∃ b off, B = some ⟨b, off, none⟩ ∧ TyAt w t.elem b off) := by
  obtain ⟨k, l, nm, ns, es⟩ := t
  rw [TyC] at h
  obtain ⟨vn, A, c, rfl, hs, h1, h2, h3⟩ := h
  have hs' := hs
  obtain ⟨B, d, rfl, _⟩ := hs
  exact ⟨B, _, d, A, _, c, rfl, rfl, rfl, hs', h3⟩
/-- The one element of an array's type, its cells written out. -/
theorem one_open {w : World} {e : Ty} {b off : Nat} (h : TyAt w [e] b off) : ∃ A n c B m d, TyC w e [.int .i64 e.kind, .int .i64 e.len, .string e.name, .slice A n c, .slice B m d] ∧ Ty5 w b off e.kind e.len e.name (.slice A n c) (.slice B m d) := by
  obtain ⟨cs, h1, h2⟩ := tyAt_one h
  obtain ⟨A, n, c, B, m, d, rfl, _⟩ := tyC_open h1
  exact ⟨A, n, c, B, m, d, h1, h2 0 (by omega), h2 1 (by omega), h2 2 (by omega), h2 3 (by omega), h2 4 (by omega)⟩
theorem str_beq (a b : ByteArray) : (a.toList == b.toList) = decide (a = b) := by
  rw [bl_toList, bl_toList]
  cases h : decide (a = b) with
  | true => rw [of_decide_eq_true h]; simp
  | false =>
    rw [beq_eq_false_iff_ne]
    exact fun e => of_decide_eq_false h (bl_inj e)
theorem int_beq' (a b : Int) : (a == b) = decide (a = b) := by cases h : (a == b) <;> simp_all
theorem good_kind {f : List UInt8 → Bool} {l : Int} {nm : ByteArray} {ns : List ByteArray} {es : List Ty} (h : Good f (.mk 6 l nm ns es)) : ∃ e, es = [e] ∧ Flat f e := by
  cases h with
  | flat t h => exact absurd rfl (flat_kind h).1
  | arr l e h1 h2 h => exact ⟨e, rfl, h⟩
theorem palike_flat {t u : Ty} {cs cs' : List Value} {w : World} (ht : Flat isNameL t) (hu : Flat isNameL u) (h : TyC w t cs) (h' : TyC w u cs') :
    Calls Tryz.prog 63 #[.agg cs.toArray, .agg cs'.toArray] w fun e w' => e = .returned (.bool (alikeT t u)) ∧ Below w.heap.size w w' := by
  obtain ⟨A, n, c, B, m, d, rfl, _, hm, hs, _⟩ := tyC_open h
  obtain ⟨A', n', c', B', m', d', rfl, _, hm', hs', _⟩ := tyC_open h'
  rw [(flat_kind ht).2] at hm
  rw [(flat_kind hu).2] at hm'
  have hm : m = 0 := hm
  have hm' : m' = 0 := hm'
  subst hm hm'
  refine (alike_gen t.kind t.len u.kind u.len t.name u.name _ _ _ _ (decide (t.names = u.names)) true w (fun v hb => equalS_any _ _ _ _ v (hs.later hb) (hs'.later hb)) (fun v _ => eqfT_nil B B' d d' _ v)).mono ?_
  rintro e w' ⟨rfl, hb⟩
  refine ⟨?_, hb⟩
  rw [int_beq', int_beq', str_beq, Bool.and_true]
  obtain ⟨k, l, nm, ns, es⟩ := t
  obtain ⟨k', l', nm', ns', es'⟩ := u
  obtain rfl : es = [] := (flat_kind ht).2
  obtain rfl : es' = [] := (flat_kind hu).2
  rw [alikeT_flat]
  rfl
theorem palike_any {t u : Ty} {cs cs' : List Value} {w : World} (ht : Good isNameL t) (hu : Good isNameL u) (h : TyC w t cs) (h' : TyC w u cs') :
    Calls Tryz.prog 63 #[.agg cs.toArray, .agg cs'.toArray] w fun e w' => e = .returned (.bool (alikeT t u)) ∧ Below w.heap.size w w' := by
  by_cases hk : t.kind = u.kind
  · cases ht with
    | flat t ht =>
      cases hu with
      | flat u hu => exact palike_flat ht hu h h'
      | arr l e h1 h2 he => exact absurd hk (flat_kind ht).1
    | arr l e h1 h2 he =>
      cases hu with
      | flat u hu => exact absurd hk.symm (flat_kind hu).1
      | arr l' e' h1' h2' he' =>
        obtain ⟨A, n, c, B, m, d, rfl, _, rfl, hs, hc⟩ := tyC_open h
        obtain ⟨A', n', c', B', m', d', rfl, _, rfl, hs', hc'⟩ := tyC_open h'
        rcases hc with hc | ⟨b, off, rfl, hc⟩
        · cases hc
        rcases hc' with hc' | ⟨b', off', rfl, hc'⟩
        · cases hc'
        obtain ⟨A1, n1, c1, A2, n2, c2, k1, k5⟩ := one_open hc
        obtain ⟨A3, n3, c3, A4, n4, c4, g1, g5⟩ := one_open hc'
        refine (alike_gen 6 l 6 l' noName noName _ _ _ _ (decide (([] : List ByteArray) = [])) (alikeT e e') w (fun v hb => equalS_any _ _ _ _ v (hs.later hb) (hs'.later hb))
          (fun v hb => eqfT_one b off b' off' d d' e.kind e.len e'.kind e'.len e.name e'.name _ _ _ _ _ _ _ _ _ _ _ _ _ v (k5.later hb) (g5.later hb) (fun x hx => palike_flat he he' (k1.later (below_then hb hx)) (g1.later (below_then hb hx))))).mono ?_
        rintro ee w' ⟨rfl, hb⟩
        refine ⟨?_, hb⟩
        rw [int_beq', int_beq', str_beq, alikeT_arr]
  · obtain ⟨A, n, c, B, m, d, rfl, -, -, hs, -⟩ := tyC_open h
    obtain ⟨A', n', c', B', m', d', rfl, -, -, hs', -⟩ := tyC_open h'
    have e1 : (t.kind == u.kind) = false := by rw [beq_eq_false_iff_ne]; exact hk
    have hr : alikeT t u = false := by
      obtain ⟨k, l, nm, ns, es⟩ := t
      obtain ⟨k', l', nm', ns', es'⟩ := u
      exact alikeT_no _ _ _ _ _ _ _ _ _ _ (.inl hk)
    rw [hr]
    have H0 := Lib.hid (below_then (below_alloc w (.cells #[.int .i64 t.kind, .int .i64 t.len, .string t.name, .slice A n c, .slice B m d] 26)) (below_alloc (w.alloc (.cells #[.int .i64 t.kind, .int .i64 t.len, .string t.name, .slice A n c, .slice B m d] 26)) (.cells #[.int .i64 u.kind, .int .i64 u.len, .string u.name, .slice A' n' c', .slice B' m' d'] 26)))
    clear hr hk ht hu hs hs' h h'
    go_enter Tryz.func63, Tryz.ntmps63
    go_wp2
    go_ret
    exact ⟨rfl, H0.out⟩
set_option maxRecDepth 100000 in
set_option maxHeartbeats 8000000 in
theorem psame_gen (k l k' l' : Int) (nm nm' : ByteArray) (v3 v3' v4 v4' : Value) (a b z : Bool) (w : World)
    (HA : Hid (∀ u, Below w.heap.size w u → Calls Tryz.prog 16 #[.agg #[.int .i64 k, .int .i64 l, .string nm, v3, v4]] u fun e w' => e = .returned (.bool a) ∧ Below u.heap.size u w'))
    (HB : Hid (∀ u, Below w.heap.size w u → Calls Tryz.prog 16 #[.agg #[.int .i64 k', .int .i64 l', .string nm', v3', v4']] u fun e w' => e = .returned (.bool b) ∧ Below u.heap.size u w'))
    (HX : Hid (a = true → b = true → ∀ u, Below w.heap.size w u → Calls Tryz.prog 63 #[.agg #[.int .i64 k, .int .i64 l, .string nm, v3, v4], .agg #[.int .i64 k', .int .i64 l', .string nm', v3', v4']] u fun e w' => e = .returned (.bool z) ∧ Below u.heap.size u w')) :
    Calls Tryz.prog 18 #[.agg #[.int .i64 k, .int .i64 l, .string nm, v3, v4], .agg #[.int .i64 k', .int .i64 l', .string nm', v3', v4']] w fun e w' => e = .returned (.bool (a && (b && z))) ∧ Below w.heap.size w w' := by
  have H0 := Lib.hid (below_then (below_alloc w (.cells #[.int .i64 k, .int .i64 l, .string nm, v3, v4] 26)) (below_alloc (w.alloc (.cells #[.int .i64 k, .int .i64 l, .string nm, v3, v4] 26)) (.cells #[.int .i64 k', .int .i64 l', .string nm', v3', v4'] 26)))
  cases a
  · clear HB HX
    go_enter Tryz.func18, Tryz.ntmps18
    go_wp2_with fail
    refine (HA.out _ H0.out).mono ?_
    rintro e w1 ⟨rfl, hb1⟩
    have H1 := Lib.hid (below_then H0.out hb1)
    clear hb1
    go_wp2
    go_ret
    exact ⟨rfl, H1.out⟩
  cases b
  · clear HX
    go_enter Tryz.func18, Tryz.ntmps18
    go_wp2_with fail
    refine (HA.out _ H0.out).mono ?_
    rintro e w1 ⟨rfl, hb1⟩
    have H1 := Lib.hid (below_then H0.out hb1)
    obtain ⟨⟨p0, p1, p2, p3, p4⟩, q0, q1, q2, q3, q4⟩ := box_cells hb1
    clear hb1
    go_wp2_with fail
    refine (HB.out _ H1.out).mono ?_
    rintro e w2 ⟨rfl, hb2⟩
    have H2 := Lib.hid (below_then H1.out hb2)
    clear hb2 p0 p1 p2 p3 p4 q0 q1 q2 q3 q4
    go_wp2
    go_ret
    exact ⟨rfl, H2.out⟩
  · have HY := Lib.hid (HX.out rfl rfl)
    clear HX
    go_enter Tryz.func18, Tryz.ntmps18
    go_wp2_with fail
    refine (HA.out _ H0.out).mono ?_
    rintro e w1 ⟨rfl, hb1⟩
    have H1 := Lib.hid (below_then H0.out hb1)
    have HC := Lib.hid hb1
    obtain ⟨⟨p0, p1, p2, p3, p4⟩, q0, q1, q2, q3, q4⟩ := box_cells hb1
    clear hb1
    go_wp2_with fail
    refine (HB.out _ H1.out).mono ?_
    rintro e w2 ⟨rfl, hb2⟩
    have H2 := Lib.hid (below_then H1.out hb2)
    clear p0 p1 p2 p3 p4 q0 q1 q2 q3 q4
    obtain ⟨⟨p0, p1, p2, p3, p4⟩, q0, q1, q2, q3, q4⟩ := box_cells (below_then HC.out hb2)
    clear hb2
    go_wp2_with fail
    refine (HY.out _ H2.out).mono ?_
    rintro e w3 ⟨rfl, hb3⟩
    have H3 := Lib.hid (below_then H2.out hb3)
    clear hb3 p0 p1 p2 p3 p4 q0 q1 q2 q3 q4
    go_wp2
    go_ret
    exact ⟨rfl, H3.out⟩
theorem psame_any (t u : Ty) (cs cs' : List Value) (w : World) (ht : smT t) (hu : smT u) (h : TyC w t cs) (h' : TyC w u cs') :
    Calls Tryz.prog 18 #[.agg cs.toArray, .agg cs'.toArray] w fun e w' => e = .returned (.bool (sameT isNameL t u)) ∧ Below w.heap.size w w' := by
  have h0 := h
  have h0' := h'
  obtain ⟨A, n, c, B, m, d, rfl, _⟩ := tyC_open h
  obtain ⟨A', n', c', B', m', d', rfl, _⟩ := tyC_open h'
  exact psame_gen _ _ _ _ _ _ _ _ _ _ _ _ _ w (fun v hb => pvalid_any t _ v ht (h0.later hb)) (fun v hb => pvalid_any u _ v hu (h0'.later hb)) (fun hv hv' v hb => palike_any (valid_good hv) (valid_good hv') (h0.later hb) (h0'.later hb))
end Go.Proofs.YtdiagnhdigakpaaGreatDoor
