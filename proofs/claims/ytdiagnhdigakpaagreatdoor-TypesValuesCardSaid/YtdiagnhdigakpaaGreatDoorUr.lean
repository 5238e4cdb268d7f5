/- Types in memory whose blocks are known to be of a kind; rows of strings and of types of the call's own, and append to them. -/
import Derived.Test.YtdiagnhdigakpaaGreatDoorKi
import Derived.Test.YtdiagnhdigakpaaGreatDoorKe
namespace Go.Proofs.YtdiagnhdigakpaaGreatDoor
open Go.RowKit

/-- v is a slice that reads as these strings, in a block of a kind. -/
def StrP (S : Nat → Prop) (w : World) (v : Value) (l : List ByteArray) : Prop :=
  ∃ (A : Option Addr) (c : Nat), v = .slice A l.length c ∧ l.length ≤ c ∧ l.length ≤ 9223372036854775807 ∧
    (l = [] ∨ ∃ b off, A = some ⟨b, off, none⟩ ∧ S b ∧ ∀ (k : Nat) (h : k < l.length), w.cell? ⟨b, off + k, none⟩ = some (.string l[k]))
mutual
/-- These five cells read as the type, in blocks of a kind. -/
def TyP (S : Nat → Prop) (w : World) : Ty → List Value → Prop
  | .mk k l nm ns es, cs => ∃ (vn : Value) (A : Option Addr) (c : Nat), cs = [.int .i64 k, .int .i64 l, .string nm, vn, .slice A es.length c] ∧ StrP S w vn ns ∧ es.length ≤ c ∧ es.length ≤ 9223372036854775807 ∧
      (es = [] ∨ ∃ b off, A = some ⟨b, off, none⟩ ∧ S b ∧ TyPAt S w es b off)
/-- From a place on there are cells of these types. -/
def TyPAt (S : Nat → Prop) (w : World) : List Ty → Nat → Nat → Prop
  | [], _, _ => True
  | t :: r, b, off => (∃ cs : List Value, TyP S w t cs ∧ ∀ j, j < 5 → w.cell? ⟨b, off + j, none⟩ = cs[j]?) ∧ TyPAt S w r b (off + 5)
end
/-- v is a slice that reads as these types. -/
def TysP (S : Nat → Prop) (w : World) (v : Value) (ls : List Ty) : Prop :=
  ∃ (A : Option Addr) (c : Nat), v = .slice A ls.length c ∧ ls.length ≤ c ∧ ls.length ≤ 9223372036854775807 ∧ (ls = [] ∨ ∃ b off, A = some ⟨b, off, none⟩ ∧ S b ∧ TyPAt S w ls b off)
theorem tyP_iff {S : Nat → Prop} {w : World} {k l : Int} {nm : ByteArray} {ns : List ByteArray} {ls : List Ty} {cs : List Value} : TyP S w (.mk k l nm ns ls) cs ↔ ∃ vb vl, cs = [.int .i64 k, .int .i64 l, .string nm, vb, vl] ∧ StrP S w vb ns ∧ TysP S w vl ls := by
  rw [TyP]
  constructor
  · rintro ⟨vb, A, c, rfl, h1, h2, h3, h4⟩
    exact ⟨vb, _, rfl, h1, A, c, rfl, h2, h3, h4⟩
  · rintro ⟨vb, vl, rfl, h1, A, c, rfl, h2, h3, h4⟩
    exact ⟨vb, A, c, rfl, h1, h2, h3, h4⟩
theorem StrP.turn {S S' : Nat → Prop} {w w' : World} (ht : ∀ b, S b → b < w.heap.size → S' b ∧ w'.heap[b]? = w.heap[b]?) {v : Value} {l : List ByteArray} (h : StrP S w v l) : StrP S' w' v l := by
  obtain ⟨A, c, e, h1, h2, hc⟩ := h
  refine ⟨A, c, e, h1, h2, ?_⟩
  by_cases hl : l = []
  · exact .inl hl
  rcases hc with hc | ⟨b, off, e', hS, hc⟩
  · exact .inl hc
  · have h0 : 0 < l.length := List.length_pos_iff.2 hl
    have hlt : b < w.heap.size := block_lt_of_cell (hc 0 h0)
    obtain ⟨g1, g2⟩ := ht b hS hlt
    exact .inr ⟨b, off, e', g1, fun k hk => cell_turn g2 (hc k hk)⟩
theorem TyP.len {S : Nat → Prop} {w : World} {t : Ty} {cs : List Value} (h : TyP S w t cs) : cs.length = 5 := by
  cases t
  rw [TyP] at h
  obtain ⟨_, _, _, rfl, _⟩ := h
  rfl
theorem TyP.hd {S : Nat → Prop} {w : World} {t : Ty} {cs : List Value} (h : TyP S w t cs) : cs[0]? = some (.int .i64 t.kind) := by
  cases t
  rw [TyP] at h
  obtain ⟨_, _, _, rfl, _⟩ := h
  rfl
mutual
theorem TyP.turn {S S' : Nat → Prop} {w w' : World} (ht : ∀ b, S b → b < w.heap.size → S' b ∧ w'.heap[b]? = w.heap[b]?) : ∀ (t : Ty) (cs : List Value), TyP S w t cs → TyP S' w' t cs
  | .mk k l nm ns es, cs, h => by
    rw [TyP] at h ⊢
    obtain ⟨vn, A, c, e, hs, h1, h2, hc⟩ := h
    refine ⟨vn, A, c, e, StrP.turn ht hs, h1, h2, ?_⟩
    by_cases hl : es = []
    · exact .inl hl
    rcases hc with hc | ⟨b, off, e', hS, hc⟩
    · exact .inl hc
    · have hlt : b < w.heap.size := by
        cases es with
        | nil => exact absurd rfl hl
        | cons t r =>
          rw [TyPAt] at hc
          obtain ⟨⟨cs', h3, h4⟩, _⟩ := hc
          have := h4 0 (by omega)
          rw [TyP.hd h3] at this
          exact block_lt_of_cell this
      obtain ⟨g1, g2⟩ := ht b hS hlt
      exact .inr ⟨b, off, e', g1, TyPAt.turn ht es b off g2 hc⟩
theorem TyPAt.turn {S S' : Nat → Prop} {w w' : World} (ht : ∀ b, S b → b < w.heap.size → S' b ∧ w'.heap[b]? = w.heap[b]?) : ∀ (ts : List Ty) (b off : Nat), w'.heap[b]? = w.heap[b]? → TyPAt S w ts b off → TyPAt S' w' ts b off
  | [], _, _, _, _ => by rw [TyPAt]; trivial
  | t :: r, b, off, hb, h => by
    rw [TyPAt] at h ⊢
    obtain ⟨⟨cs, h1, h2⟩, h3⟩ := h
    have hl := h1.len
    refine ⟨⟨cs, TyP.turn ht t cs h1, fun j hj => ?_⟩, TyPAt.turn ht r b (off + 5) hb h3⟩
    have := h2 j hj
    rw [List.getElem?_eq_getElem (by omega)] at this ⊢
    exact cell_turn hb this
end
theorem StrP.later {S : Nat → Prop} {w w' : World} {v : Value} {l : List ByteArray} (h : StrP S w v l) (hb : Below w.heap.size w w') : StrP S w' v l := StrP.turn (fun b hS hl => ⟨hS, hb.block b hl⟩) h
theorem TyP.later {S : Nat → Prop} {w w' : World} {t : Ty} {cs : List Value} (h : TyP S w t cs) (hb : Below w.heap.size w w') : TyP S w' t cs := TyP.turn (fun b hS hl => ⟨hS, hb.block b hl⟩) _ _ h
theorem TyP.mono {S S' : Nat → Prop} {w : World} {t : Ty} {cs : List Value} (h : TyP S w t cs) (hs : ∀ b, S b → b < w.heap.size → S' b) : TyP S' w t cs := TyP.turn (fun b hS hl => ⟨hs b hS hl, rfl⟩) _ _ h
theorem TyP.set {S : Nat → Prop} {w : World} {v : Ty} {cs : List Value} (h : TyP S w v cs) {a : Addr} (hS : ∀ b, S b → b ≠ a.block) (u : Value) : TyP S (w.setCell a u) v cs :=
  TyP.turn (fun b hb _ => ⟨hb, Below.heap_setCell _ _ _ _ (hS b hb)⟩) _ _ h
theorem TyP.set5 {S : Nat → Prop} {w : World} {v : Ty} {cs : List Value} (h : TyP S w v cs) {g : Nat} (hS : ∀ b, S b → b ≠ g) (a b c d e : Value) : TyP S (((((w.setCell ⟨g, 0, none⟩ a).setCell ⟨g, 1, none⟩ b).setCell ⟨g, 2, none⟩ c).setCell ⟨g, 3, none⟩ d).setCell ⟨g, 4, none⟩ e) v cs :=
  ((((h.set (a := ⟨g, 0, none⟩) hS a).set (a := ⟨g, 1, none⟩) hS b).set (a := ⟨g, 2, none⟩) hS c).set (a := ⟨g, 3, none⟩) hS d).set (a := ⟨g, 4, none⟩) hS e
theorem StrP.toS {S : Nat → Prop} {w : World} {v : Value} {l : List ByteArray} (h : StrP S w v l) : StrS w v l := by
  obtain ⟨A, c, e, g1, g2, g3⟩ := h
  refine ⟨A, c, e, g1, g2, ?_⟩
  rcases g3 with g3 | ⟨b, off, e', _, g3⟩
  · exact .inl g3
  · exact .inr ⟨b, off, e', g3⟩
mutual
theorem TyP.toC {S : Nat → Prop} {w : World} : ∀ (t : Ty) (cs : List Value), TyP S w t cs → TyC w t cs
  | .mk k l nm ns es, cs, h => by
    rw [TyP] at h
    rw [TyC]
    obtain ⟨vn, A, c, e, hs, h1, h2, hc⟩ := h
    refine ⟨vn, A, c, e, hs.toS, h1, h2, ?_⟩
    rcases hc with hc | ⟨b, off, e'', _, hc⟩
    · exact .inl hc
    · exact .inr ⟨b, off, e'', TyPAt.toC es b off hc⟩
theorem TyPAt.toC {S : Nat → Prop} {w : World} : ∀ (ts : List Ty) (b off : Nat), TyPAt S w ts b off → TyAt w ts b off
  | [], _, _, _ => by rw [TyAt]; trivial
  | t :: r, b, off, h => by
    rw [TyPAt] at h
    rw [TyAt]
    obtain ⟨⟨cs, h1, h2⟩, h3⟩ := h
    exact ⟨⟨cs, TyP.toC t cs h1, h2⟩, TyPAt.toC r b (off + 5) h3⟩
end
theorem StrS.toP {w : World} {v : Value} {l : List ByteArray} (h : StrS w v l) : StrP (fun _ => True) w v l := by
  obtain ⟨A, c, e, g1, g2, g3⟩ := h
  refine ⟨A, c, e, g1, g2, ?_⟩
  rcases g3 with g3 | ⟨b, off, e', g3⟩
  · exact .inl g3
  · exact .inr ⟨b, off, e', trivial, g3⟩
mutual
theorem TyC.toP {w : World} : ∀ (t : Ty) (cs : List Value), TyC w t cs → TyP (fun _ => True) w t cs
  | .mk k l nm ns es, cs, h => by
    rw [TyC] at h
    rw [TyP]
    obtain ⟨vn, A, c, e, hs, h1, h2, hc⟩ := h
    refine ⟨vn, A, c, e, hs.toP, h1, h2, ?_⟩
    rcases hc with hc | ⟨b, off, e'', hc⟩
    · exact .inl hc
    · exact .inr ⟨b, off, e'', trivial, TyAt.toP es b off hc⟩
theorem TyAt.toP {w : World} : ∀ (ts : List Ty) (b off : Nat), TyAt w ts b off → TyPAt (fun _ => True) w ts b off
  | [], _, _, _ => by rw [TyPAt]; trivial
  | t :: r, b, off, h => by
    rw [TyAt] at h
    rw [TyPAt]
    obtain ⟨⟨cs, h1, h2⟩, h3⟩ := h
    exact ⟨⟨cs, TyC.toP t cs h1, h2⟩, TyAt.toP r b (off + 5) h3⟩
end
/-- An argument: all its blocks are there. -/
theorem TyC.old {w : World} {t : Ty} {cs : List Value} (h : TyC w t cs) : TyP (fun b => b < w.heap.size) w t cs := TyP.turn (fun _ _ hl => ⟨hl, rfl⟩) _ _ (TyC.toP t cs h)
theorem strP_none {S : Nat → Prop} {w : World} (A : Option Addr) (c : Nat) : StrP S w (.slice A 0 c) [] := ⟨A, c, rfl, by simp, by simp, .inl rfl⟩
theorem tysP_none {S : Nat → Prop} {w : World} (A : Option Addr) (c : Nat) : TysP S w (.slice A 0 c) [] := ⟨A, c, rfl, by simp, by simp, .inl rfl⟩
theorem TyP.one {S : Nat → Prop} {w : World} {t : Ty} {cs : List Value} (h : TyP S w t cs) : ∀ u ∈ cs, u.oneCell' = true := by
  cases t
  rw [TyP] at h
  obtain ⟨_, _, _, rfl, ⟨_, _, rfl, _⟩, _⟩ := h
  intro u hu
  simp only [List.mem_cons, List.not_mem_nil, or_false] at hu
  rcases hu with rfl | rfl | rfl | rfl | rfl <;> rfl
theorem flat5_len {css : List (List Value)} (h : ∀ cs ∈ css, cs.length = 5) : css.flatten.length = css.length * 5 := by
  induction css with
  | nil => rfl
  | cons c r ih =>
    rw [List.flatten_cons, List.length_append, h c (by simp), ih (fun x hx => h x (by simp [hx])), List.length_cons]
    omega
theorem flat5_get : ∀ {css : List (List Value)}, (∀ cs ∈ css, cs.length = 5) → ∀ (k : Nat) (hk : k < css.length) (j : Nat), j < 5 → css.flatten[k * 5 + j]? = css[k][j]?
  | [], _, k, hk, _, _ => absurd hk (Nat.not_lt_zero _)
  | c :: r, h, 0, _, j, hj => by
    rw [List.flatten_cons, List.getElem?_append_left (by rw [h c (by simp)]; omega)]
    simp
  | c :: r, h, k + 1, hk, j, hj => by
    have hc := h c (by simp)
    rw [List.flatten_cons, List.getElem?_append_right (by omega), hc, show (k + 1) * 5 + j - 5 = k * 5 + j by omega, flat5_get (fun x hx => h x (by simp [hx])) k (by simpa using hk) j hj]
    rfl
theorem Tryz.infoTy : (Tryz.prog.info? 26).map (fun i => (i.zero, i.size, i.bytes)) = some (some (.agg #[.int .i64 0, .int .i64 0, .string ⟨#[]⟩, .slice none 0 0, .slice none 0 0]), 5, 80) := by kernel_rfl
/-- v is a slice of the call's own (from block base on) that reads as these types, whose blocks are of a kind and none of them the row's. -/
def OwnT (S : Nat → Prop) (w : World) (base : Nat) (v : Value) (ls : List Ty) : Prop :=
  (∃ css : List (List Value), w.ownsRow base 26 5 v ls.length css.flatten ∧ css.length = ls.length ∧ (∀ cs ∈ css, cs.length = 5) ∧
    ∀ (k : Nat) (h : k < ls.length) (h' : k < css.length), TyP (fun b => S b ∧ v.ownBlock ≠ some b) w ls[k] css[k]) ∧ ls.length ≤ 100000 ∧ base ≤ w.heap.size
theorem OwnT.nil {S : Nat → Prop} (w : World) {base : Nat} (h : base ≤ w.heap.size) : OwnT S w base (.slice none 0 0) [] :=
  ⟨⟨[], World.ownsRow_nil _ _ _ _, rfl, by simp, fun k hk => absurd hk (Nat.not_lt_zero _)⟩, by simp, h⟩
theorem OwnT.kept {S : Nat → Prop} {w w' : World} {base : Nat} {v : Value} {ls : List Ty} (h : OwnT S w base v ls) (hb : Below w.heap.size w w') : OwnT S w' base v ls := by
  obtain ⟨⟨css, ho, h1, h2, h3⟩, hn, hB⟩ := h
  have hg : w.grownBy w' none := ⟨hb.os, hb.tape, hb.output, hb.size, fun k hk _ => hb.block k hk⟩
  refine ⟨⟨css, ?_, h1, h2, fun k hk hk' => (h3 k hk hk').later hb⟩, hn, Nat.le_trans hB hb.size⟩
  rcases ho.2 with ⟨e, _⟩ | ⟨g, cap, cur, e, _⟩
  · exact ho.kept hg (.inl (by rw [e]; rfl))
  · exact ho.kept hg (.inr (by rw [e]; simp [Value.ownBlock]))
theorem OwnT.setLow {S : Nat → Prop} {w : World} {base : Nat} {v : Value} {ls : List Ty} (h : OwnT S w base v ls) {a : Addr} (ha : a.block < base) (hS : ∀ b, S b → b ≠ a.block) (u : Value) : OwnT S (w.setCell a u) base v ls := by
  obtain ⟨⟨css, ho, h1, h2, h3⟩, hn, hB⟩ := h
  refine ⟨⟨css, ownsRow_setCell_below ho ha u, h1, h2, fun k hk hk' => TyP.turn (fun b hb _ => ⟨hb, Below.heap_setCell _ _ _ _ (hS b hb.1)⟩) _ _ (h3 k hk hk')⟩, hn, by simpa [World.setCell] using hB⟩
theorem OwnT.weak {S S' : Nat → Prop} {w : World} {base base' : Nat} {v : Value} {ls : List Ty} (h : OwnT S w base v ls) (hB : base' ≤ base) (hS : ∀ b, S b → S' b) : OwnT S' w base' v ls := by
  obtain ⟨⟨css, ho, h1, h2, h3⟩, hn, hw⟩ := h
  refine ⟨⟨css, ?_, h1, h2, fun k hk hk' => (h3 k hk hk').mono fun b hb _ => ⟨hS b hb.1, hb.2⟩⟩, hn, by omega⟩
  obtain ⟨g1, g2⟩ := ho
  refine ⟨g1, ?_⟩
  rcases g2 with g2 | ⟨g, cap, cur, e1, e2, e3⟩
  · exact .inl g2
  · exact .inr ⟨g, cap, cur, e1, by omega, e3⟩
theorem OwnT.lt {S : Nat → Prop} {w : World} {base : Nat} {v : Value} {ls : List Ty} (h : OwnT S w base v ls) : ∀ g, v.ownBlock = some g → base ≤ g ∧ g < w.heap.size := by
  obtain ⟨⟨css, ho, _⟩, _⟩ := h
  exact ho.lt
theorem tyPAt_of {S : Nat → Prop} {w : World} {b : Nat} : ∀ (l : List Ty) (o : Nat), (∀ (k : Nat) (hk : k < l.length), ∃ cs : List Value, TyP S w l[k] cs ∧ ∀ j, j < 5 → w.cell? ⟨b, o + k * 5 + j, none⟩ = cs[j]?) → TyPAt S w l b o
  | [], _, _ => by rw [TyPAt]; trivial
  | t :: r, o, h => by
    rw [TyPAt]
    refine ⟨?_, tyPAt_of r (o + 5) fun k hk => ?_⟩
    · obtain ⟨cs, h1, h2⟩ := h 0 (by simp)
      exact ⟨cs, h1, fun j hj => by have := h2 j hj; simpa using this⟩
    · obtain ⟨cs, h1, h2⟩ := h (k + 1) (by simpa using hk)
      exact ⟨cs, by simpa using h1, fun j hj => by have := h2 j hj; rwa [show o + (k + 1) * 5 + j = o + 5 + k * 5 + j by omega] at this⟩
theorem OwnT.tys {S S' : Nat → Prop} {w : World} {base : Nat} {v : Value} {ls : List Ty} (h : OwnT S w base v ls) (hs : ∀ b, base ≤ b → b < w.heap.size → S' b) (hs2 : ∀ b, S b → b < w.heap.size → S' b) : TysP S' w v ls := by
  obtain ⟨⟨css, ho, h1, h2, h3⟩, hn, hB⟩ := h
  by_cases h0 : ls = []
  · subst h0
    rcases ho.2 with ⟨e, _⟩ | ⟨g, cap, cur, e, _⟩
    · exact ⟨none, 0, e, by simp, by simp, .inl rfl⟩
    · exact ⟨_, cap, e, by simp, by simp, .inl rfl⟩
  · have hpos : 0 < ls.length := List.length_pos_iff.2 h0
    have hlt := ho.lt
    rcases ho.2 with ⟨_, e⟩ | ⟨g, cap, cur, rfl, _, _, hnc, _⟩
    · omega
    · obtain ⟨l1, l2⟩ := hlt g rfl
      refine ⟨_, cap, rfl, hnc, by omega, .inr ⟨g, 0, rfl, hs g l1 l2, tyPAt_of ls 0 fun k hk => ⟨css[k], (h3 k hk (by omega)).mono (fun b hb hl => hs2 b hb.1 hl), fun j hj => ?_⟩⟩⟩
      have hf := flat5_len h2
      have hm : css[k] ∈ css := List.getElem_mem _
      rw [Nat.zero_add, ho.cellAt (k * 5 + j) (by omega), flat5_get h2 k (by omega) j hj]
theorem OwnT.shape {S : Nat → Prop} {w : World} {base : Nat} {v : Value} {ls : List Ty} (h : OwnT S w base v ls) : ∃ A c, v = .slice A ls.length c := by
  obtain ⟨A, c, e, _⟩ := h.tys (S' := fun _ => True) (fun _ _ _ => trivial) (fun _ _ _ => trivial)
  exact ⟨A, c, e⟩
/-- Append of one type to a row of the call's own. -/
theorem ownT_append {S : Nat → Prop} {w : World} {base : Nat} {v : Value} {ls : List Ty} (h : OwnT S w base v ls) {x : Ty} {cs : List Value} (hx : TyP (fun b => S b ∧ v.ownBlock ≠ some b) w x cs) (b o : Nat) (hc : ∀ j, j < 5 → w.cell? ⟨b, o + j, none⟩ = cs[j]?) (hl : ls.length < 100000) (c : Nat) (ty : TypeId) :
    ∃ v' w', (Builtin.append_ #[24, 24] ty #[v, .slice (some ⟨b, o, none⟩) 1 c]).run Tryz.prog w = .ok v' w' ∧ OwnT S w' base v' (ls ++ [x]) ∧ (∀ B, B ≤ base → Below B w w') ∧ w.grownBy w' v.ownBlock ∧ (v'.ownBlock = v.ownBlock ∨ v'.ownBlock = some w.heap.size) := by
  obtain ⟨⟨css, ho, h1, h2, h3⟩, hn, hB⟩ := h
  obtain ⟨i, hi, hz, hsize, hby⟩ := info_parts Tryz.infoTy
  have hlen := hx.len
  obtain ⟨v', w', hrun, g2, g3, _, hg⟩ := run_append_own_at (P := Tryz.prog) w base 24 ty 26 i _ 5 80 Tryz.underlying24 hi hz hsize hby rfl (by decide) v ls.length css.flatten ho ⟨b, o, none⟩ 1 c cs
    (by omega) (by
      intro j u hj
      have hj4 : j < 5 := by
        rcases Nat.lt_or_ge j 5 with h | h
        · exact h
        · rw [List.getElem?_eq_none (by omega)] at hj; cases hj
      rw [add_at, hc j hj4, hj]) hx.one (by unfold maxLen; omega) (by omega) hB
  refine ⟨v', w', hrun, ⟨⟨css ++ [cs], ?_, by simp [h1], ?_, ?_⟩, by simp; omega, Nat.le_trans hB g3.size⟩, fun B hb => ?_, g3, hg⟩
  · rw [List.length_append, List.flatten_append]
    simpa using g2
  · intro y hy
    rcases List.mem_append.1 hy with hy | hy
    · exact h2 y hy
    · rw [List.mem_singleton.1 hy]; exact hlen
  · intro k hk hk'
    have key : ∀ z cz, TyP (fun b => S b ∧ v.ownBlock ≠ some b) w z cz → TyP (fun b => S b ∧ v'.ownBlock ≠ some b) w' z cz := fun z cz hz => TyP.turn (fun b hb hlt => by
      refine ⟨⟨hb.1, ?_⟩, g3.block b hlt (fun e => hb.2 e.symm)⟩
      rcases hg with e | e
      · rw [e]; exact hb.2
      · rw [e]; intro e'; have := Option.some.inj e'; omega) _ _ hz
    by_cases hlt : k < ls.length
    · rw [List.getElem_append_left hlt, List.getElem_append_left (by omega)]
      exact key _ _ (h3 k hlt (by omega))
    · have : k = ls.length := by simp at hk; omega
      subst this
      rw [List.getElem_append_right (Nat.le_refl _), List.getElem_append_right (by omega)]
      simp only [Nat.sub_self, List.getElem_singleton]
      exact key _ _ hx
  · exact (Below.refl _ _).grown g3 (by omega) fun k hk => by have := (ho.lt k hk).1; omega
theorem step_append_ty {S : Nat → Prop} {ops : Array Oper} {o : Oper} {a : Act} {w : World} {K : Act → World → Prop} {Q : Exit → Act → World → Prop} {E : Prop} (hgd : o.guard = none) (s y : Operand)
    (ho : o.op = .call { callee := .builtin .append, args := #[s, y], argTypes := #[24, 24] })
    (base : Nat) (v : Value) (ls : List Ty) (x : Ty) (cs : List Value) (b off c : Nat) (hs : a.eval s = v) (hy : a.eval y = .slice (some ⟨b, off, none⟩) 1 c) (hown : OwnT S w base v ls) (hx : TyP (fun b => S b ∧ v.ownBlock ≠ some b) w x cs) (hc : ∀ j, j < 5 → w.cell? ⟨b, off + j, none⟩ = cs[j]?) (hl : ls.length < 100000)
    (h : ∀ v' w', OwnT S w' base v' (ls ++ [x]) → (∀ B, B ≤ base → Below B w w') → w.grownBy w' v.ownBlock → (v'.ownBlock = v.ownBlock ∨ v'.ownBlock = some w.heap.size) → K (a.put o.dst v') w') :
    if Region.wanted o (yielded ops a.tmps) = true then Oper.wp Tryz.prog o a w K Q else E := by
  have hw : Region.wanted o (yielded ops a.tmps) = true := by simp [Region.wanted, hgd]
  rw [if_pos hw]
  obtain ⟨v', w', hrun, h2, h3, h4, h5⟩ := ownT_append hown hx b off hc hl c o.type
  unfold Oper.wp execOp
  simp only [ho, resolve, invoke, builtin, Sem.run_bind, Sem.run_pure, Result.andThen_ok, List.map_toArray, List.map_cons, List.map_nil, hs, hy, hrun]
  exact h v' w' h2 h3 h4 h5
/-- v is a slice of the call's own that reads as these strings. -/
def OwnN (w : World) (base : Nat) (v : Value) (xs : List ByteArray) : Prop := w.ownsRow base 9 1 v xs.length (strCells xs) ∧ xs.length ≤ 100000 ∧ base ≤ w.heap.size
theorem strCells_len (xs : List ByteArray) : (strCells xs).length = xs.length := by simp [strCells]
theorem OwnN.strP {S : Nat → Prop} {w : World} {base : Nat} {v : Value} {xs : List ByteArray} (h : OwnN w base v xs) (hS : ∀ b, base ≤ b → b < w.heap.size → S b) : StrP S w v xs := by
  obtain ⟨ho, hn, hB⟩ := h
  have hlt := ho.lt
  by_cases h0 : xs = []
  · subst h0
    rcases ho.2 with ⟨e, _⟩ | ⟨g, cap, cur, e, _⟩
    · exact ⟨none, 0, e, by simp, by simp, .inl rfl⟩
    · exact ⟨_, cap, e, by simp, by simp, .inl rfl⟩
  · have hpos : 0 < xs.length := List.length_pos_iff.2 h0
    rcases ho.2 with ⟨_, e⟩ | ⟨g, cap, cur, rfl, _, _, hnc, _⟩
    · omega
    · obtain ⟨l1, l2⟩ := hlt g rfl
      refine ⟨_, cap, rfl, hnc, by omega, .inr ⟨g, 0, rfl, hS g l1 l2, fun k hk => ?_⟩⟩
      rw [Nat.zero_add, ho.cellAt k (by omega)]
      unfold strCells
      rw [List.getElem?_map, List.getElem?_eq_getElem hk]
      rfl
theorem OwnN.kept {w w' : World} {base : Nat} {v : Value} {xs : List ByteArray} (h : OwnN w base v xs) (hb : Below w.heap.size w w') : OwnN w' base v xs := by
  obtain ⟨ho, hn, hB⟩ := h
  have hg : w.grownBy w' none := ⟨hb.os, hb.tape, hb.output, hb.size, fun k hk _ => hb.block k hk⟩
  refine ⟨?_, hn, Nat.le_trans hB hb.size⟩
  rcases ho.2 with ⟨e, _⟩ | ⟨g, cap, cur, e, _⟩
  · exact ho.kept hg (.inl (by rw [e]; rfl))
  · exact ho.kept hg (.inr (by rw [e]; simp [Value.ownBlock]))
theorem OwnN.new (X : World) (n : Nat) (h : X.heap.size = n) : OwnN (X.alloc (.cells #[] 9)) n (.slice (some ⟨n, 0, none⟩) 0 0) [] := by
  subst h
  exact ⟨World.ownsRow_made X #[] 0 (Nat.le_refl _) (by decide) rfl, by simp, by simp⟩
theorem run_append_strs (w : World) (base : Nat) (ty : TypeId) (v u : Value) (xs ys : List ByteArray) (hown : OwnN w base v xs) (hu : StrS w u ys) (hl : xs.length + ys.length ≤ 100000) :
    ∃ v' w', (Builtin.append_ #[23, 23] ty #[v, u]).run Tryz.prog w = .ok v' w' ∧ OwnN w' base v' (xs ++ ys) ∧ w.grownBy w' v.ownBlock ∧ (v'.ownBlock = v.ownBlock ∨ v'.ownBlock = some w.heap.size) := by
  obtain ⟨i, hi, hz, hsize, hby⟩ := info_parts Tryz.infoStr
  obtain ⟨ho, hn, hB⟩ := hown
  obtain ⟨A, c, rfl, hq, hn', hc⟩ := hu
  rcases A with _ | ad
  · have h0 : ys = [] := by
      rcases hc with h | ⟨b, off, e, _⟩
      · exact h
      · cases e
    subst h0
    exact ⟨v, w, Lg.run_append_of_nil w base _ ty _ i 1 Tryz.underlying23 hi v _ _ ho c, ⟨by simpa using ho, by simpa using hn, hB⟩, ⟨rfl, rfl, rfl, Nat.le_refl _, fun _ _ _ => rfl⟩, .inl rfl⟩
  · have hcells : ∀ j u, (strCells ys)[j]? = some u → w.cell? (ad.add j) = some u := by
      intro j u hj
      have hlt : j < ys.length := by
        rcases Nat.lt_or_ge j ys.length with h | h
        · exact h
        · rw [List.getElem?_eq_none (by rw [strCells_len]; exact h)] at hj; cases hj
      unfold strCells at hj
      rw [List.getElem?_map, List.getElem?_eq_getElem hlt] at hj
      rcases hc with rfl | ⟨b, off, e, hc⟩
      · exact absurd hlt (by simp)
      · obtain rfl := Option.some.inj e
        rw [add_at, hc j hlt]
        exact hj
    obtain ⟨v', w', hrun, h2, h3, _, h5⟩ := run_append_own_at (P := Tryz.prog) w base 23 ty 9 i (.string ⟨#[]⟩) 1 16 Tryz.underlying23 hi hz hsize hby rfl (by decide) v xs.length (strCells xs) ho ad ys.length c (strCells ys)
      (by rw [strCells_len]; omega) hcells (by intro u hu; simp [strCells] at hu; obtain ⟨z, _, rfl⟩ := hu; rfl) (by unfold maxLen; omega) (by omega) hB
    refine ⟨v', w', hrun, ⟨?_, by rw [List.length_append]; exact hl, Nat.le_trans hB h3.size⟩, h3, h5⟩
    rw [List.length_append, show strCells (xs ++ ys) = strCells xs ++ strCells ys by simp [strCells]]
    exact h2
end Go.Proofs.YtdiagnhdigakpaaGreatDoor
