/- Rows of bits that a call makes whole, as blocks; the law of copy for them; the contract of slices.Repeat of one bit. -/
import Derived.Test.YtkapephlfbabjaaSum
namespace Go.Proofs.Ytkapephlfbabjaa
open Go.RowKit

/-- Block g holds the bits zs, and nothing else. -/
def Raw (w : World) (g : Nat) (zs : List Nat) : Prop := w.heap[g]? = some (.cells (bitCells zs).toArray 49 (0, 0))

theorem Raw.cell {w : World} {g : Nat} {zs : List Nat} (h : Raw w g zs) (j : Nat) (hj : j < zs.length) : w.cell? ⟨g, j, none⟩ = some (.int .u8 (zs[j] : Nat)) := by
  unfold Raw at h
  unfold World.cell?
  simp only [h]
  have := bitCells_get hj
  simpa using this
theorem Own.raw {w : World} {base g n : Nat} {zs : List Nat} (h : Own w base (.slice (some ⟨g, 0, none⟩) n n) zs) : Raw w g zs ∧ base ≤ g ∧ zs.length = n := by
  obtain ⟨ho, hn, hz, hB⟩ := h
  rcases ho.2 with ⟨e, _⟩ | ⟨g', cap, cur, e, hb, hg, hnc, hcm, hcs, ht⟩
  · cases e
  · simp only [Value.slice.injEq, Option.some.injEq, Addr.mk.injEq, and_true] at e
    obtain ⟨rfl, rfl, rfl⟩ := e
    refine ⟨?_, hb, rfl⟩
    unfold Raw
    rw [hg, ← ht, List.take_of_length_le (by simp [hcs])]
theorem Raw.own {w : World} {base g : Nat} {zs : List Nat} (h : Raw w g zs) (hb : base ≤ g) (hn : zs.length ≤ 140737488355328) (hz : ∀ z ∈ zs, z < 256) :
    Own w base (.slice (some ⟨g, 0, none⟩) zs.length zs.length) zs := by
  have hlt : g < w.heap.size := by
    unfold Raw at h
    exact (Array.getElem?_eq_some_iff.1 h).1
  refine ⟨⟨by simp [bitCells], .inr ⟨g, zs.length, (bitCells zs).toArray, rfl, hb, h, Nat.le_refl _, ?_, by simp [bitCells], by rw [Nat.mul_one]; exact List.take_of_length_le (by simp [bitCells])⟩⟩, hn, hz, by omega⟩
  show zs.length ≤ maxLen
  unfold maxLen; omega

theorem splice_bits (cur ys : List Nat) (off : Nat) : splice (bitCells cur) off (bitCells ys) = bitCells (splice cur off ys) := by simp [splice, bitCells, List.map_take, List.map_drop]

theorem wpList_copy_bits {ops : Array Oper} {rest : List Oper} {o : Oper} {a : Act} {Q : Exit → Act → World → Prop} {w : World} (hgd : o.guard = none) (d s : Operand)
    (ho : o.op = .call { callee := .builtin .copy, args := #[d, s], argTypes := #[22, 22] })
    (dp sp : Option Addr) (dLen dCap sLen sCap : Nat) (hd : a.eval d = .slice dp dLen dCap) (hs : a.eval s = .slice sp sLen sCap)
    (g off : Nat) (cur ys : List Nat) (hg : Raw w g cur) (hn : ys.length = Nat.min sLen dLen)
    (hpos : 0 < ys.length → dp = some ⟨g, off, none⟩ ∧ ∃ b p, sp = some ⟨b, p, none⟩ ∧ ∀ j (h : j < ys.length), w.cell? ⟨b, p + j, none⟩ = some (.int .u8 (ys[j] : Nat)))
    (hfit : off + ys.length ≤ cur.length) (B : Nat) (w0 : World) (hb : Below B w0 w) (hBg : B ≤ g)
    (h : ∀ w', Hid (Raw w' g (splice cur off ys)) → Below B w0 w' → wpList Try.prog ops Q rest (a.put o.dst (goInt ys.length)) w') : wpList Try.prog ops Q (o :: rest) a w := by
  obtain ⟨i, hi, hz, hsize, hby⟩ := info_parts Try.infoBit
  refine wpList_copy_splice hgd d s _ _ ho 49 Try.underlying22 (by rw [hi]; simpa using hsize) dp sp dLen dCap sLen sCap hd hs g off (bitCells cur) _ hg (bitCells ys) (by rw [bitCells_length]; exact hn) ?_ (by rw [bitCells_length, bitCells_length]; exact hfit)
    (by intro u hu; simp [bitCells] at hu; obtain ⟨z, _, rfl⟩ := hu; rfl) B w0 hb hBg ?_
  · rw [bitCells_length]
    intro h0
    obtain ⟨e1, b, p, e2, hc⟩ := hpos h0
    refine ⟨e1, _, e2, fun j v hj => ?_⟩
    have hlt : j < ys.length := by
      rcases Nat.lt_or_ge j ys.length with h | h
      · exact h
      · rw [List.getElem?_eq_none (by rw [bitCells_length]; exact h)] at hj; cases hj
    rw [bitCells_get hlt] at hj
    have := hc j hlt
    unfold Addr.add
    by_cases h0 : j = 0
    · subst h0; simpa [← hj] using this
    · simpa [h0, ← hj] using this
  · intro w' hg' hb'
    rw [bitCells_length]
    refine h w' ?_ hb'
    have := hg'.out
    rw [splice_bits] at this
    exact this
theorem step_copy_bits {ops : Array Oper} {o : Oper} {a : Act} {w : World} {K : Act → World → Prop} {Q : Exit → Act → World → Prop} {E : Prop} (hgd : o.guard = none) (d s : Operand)
    (ho : o.op = .call { callee := .builtin .copy, args := #[d, s], argTypes := #[22, 22] })
    (dp sp : Option Addr) (dLen dCap sLen sCap : Nat) (hd : a.eval d = .slice dp dLen dCap) (hs : a.eval s = .slice sp sLen sCap)
    (g off : Nat) (cur ys : List Nat) (hg : Raw w g cur) (hn : ys.length = Nat.min sLen dLen)
    (hpos : 0 < ys.length → dp = some ⟨g, off, none⟩ ∧ ∃ b p, sp = some ⟨b, p, none⟩ ∧ ∀ j (h : j < ys.length), w.cell? ⟨b, p + j, none⟩ = some (.int .u8 (ys[j] : Nat)))
    (hfit : off + ys.length ≤ cur.length) (B : Nat) (w0 : World) (hb : Below B w0 w) (hBg : B ≤ g)
    (h : ∀ w', Hid (Raw w' g (splice cur off ys)) → Below B w0 w' → K (a.put o.dst (goInt ys.length)) w') : if Region.wanted o (yielded ops a.tmps) = true then Oper.wp Try.prog o a w K Q else E := by
  obtain ⟨i, hi, hz, hsize, hby⟩ := info_parts Try.infoBit
  refine step_copy_splice hgd d s _ _ ho 49 Try.underlying22 (by rw [hi]; simpa using hsize) dp sp dLen dCap sLen sCap hd hs g off (bitCells cur) _ hg (bitCells ys) (by rw [bitCells_length]; exact hn) ?_ (by rw [bitCells_length, bitCells_length]; exact hfit)
    (by intro u hu; simp [bitCells] at hu; obtain ⟨z, _, rfl⟩ := hu; rfl) B w0 hb hBg ?_
  · rw [bitCells_length]
    intro h0
    obtain ⟨e1, b, p, e2, hc⟩ := hpos h0
    refine ⟨e1, _, e2, fun j v hj => ?_⟩
    have hlt : j < ys.length := by
      rcases Nat.lt_or_ge j ys.length with h | h
      · exact h
      · rw [List.getElem?_eq_none (by rw [bitCells_length]; exact h)] at hj; cases hj
    rw [bitCells_get hlt] at hj
    have := hc j hlt
    unfold Addr.add
    by_cases h0 : j = 0
    · subst h0; simpa [← hj] using this
    · simpa [h0, ← hj] using this
  · intro w' hg' hb'
    rw [bitCells_length]
    refine h w' ?_ hb'
    have := hg'.out
    rw [splice_bits] at this
    exact this
theorem Raw.sl {w : World} {g n c : Nat} {zs : List Nat} (h : Raw w g zs) (hn : zs.length = n) (hl : n ≤ 140737488355328) (hz : ∀ z ∈ zs, z < 256) (hc : n ≤ c := by omega) : Sl w (.slice (some ⟨g, 0, none⟩) n c) zs := by
  subst hn
  exact ⟨_, c, rfl, hl, hz, hc, .inr ⟨g, 0, rfl, fun k hk => by rw [Nat.zero_add]; exact h.cell k hk⟩⟩
theorem Sl.cells {w : World} {v : Value} {zs : List Nat} (h : Sl w v zs) (h1 : 1 ≤ zs.length) :
    ∃ b off c, v = .slice (some ⟨b, off, none⟩) zs.length c ∧ (zs.length ≤ 140737488355328 ∧ zs.length ≤ c) ∧ (∀ z ∈ zs, z < 256) ∧ ∀ (k : Nat) (h : k < zs.length), w.cell? ⟨b, off + k, none⟩ = some (.int .u8 (zs[k] : Nat)) := by
  obtain ⟨A, c, rfl, hn, hz, hq, hc⟩ := h
  rcases hc with rfl | ⟨b, off, rfl, hc⟩
  · simp at h1
  · exact ⟨b, off, c, rfl, ⟨hn, hq⟩, hz, hc⟩
theorem mem_splice {L cs : List Nat} {off z : Nat} (h : z ∈ splice L off cs) : z ∈ L ∨ z ∈ cs := by
  unfold splice at h
  rcases List.mem_append.1 h with h | h
  · exact .inl (List.mem_of_mem_take h)
  · rcases List.mem_append.1 h with h | h
    · exact .inr h
    · exact .inl (List.mem_of_mem_drop h)
theorem splice_256 {L cs : List Nat} {off : Nat} (hL : ∀ z ∈ L, z < 256) (hc : ∀ z ∈ cs, z < 256) : ∀ z ∈ splice L off cs, z < 256 := fun z hz => (mem_splice hz).elim (hL z) (hc z)
theorem zeros_256 (n : Nat) : ∀ z ∈ List.replicate n 0, z < 256 := by
  intro z hz
  have := List.eq_of_mem_replicate hz
  omega
theorem below_cells {w w1 : World} {b off n : Nat} {zs : List Nat} (hb : Below w.heap.size w w1) (hc : ∀ (k : Nat) (h : k < zs.length), w.cell? ⟨b, off + k, none⟩ = some (.int .u8 (zs[k] : Nat))) (p : Nat) (hp : p + n ≤ zs.length) :
    ∀ j (h : j < ((zs.drop p).take n).length), w1.cell? ⟨b, off + p + j, none⟩ = some (.int .u8 (((zs.drop p).take n)[j] : Nat)) := by
  intro j hj
  simp at hj
  have h := hc (p + j) (by omega)
  rw [show off + p + j = off + (p + j) by omega, (hb.cell (block_lt_of_cell h)).trans h]
  simp
end Go.Proofs.Ytkapephlfbabjaa
