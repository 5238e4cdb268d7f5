/- A token's box in memory: what it holds behind a call, and what it holds when a token is stored in it. -/
import Derived.Test.YtfjeljehodbbmaaDoorPw
import Derived.Handy
namespace Go.Proofs.YtfjeljehodbbmaaDoor
open Go.RowKit

theorem tok_cells {w wr : World} (hb : Below (w.alloc (.cells #[.int .i64 0, .string ⟨#[]⟩, .int .i64 0, .int .i64 0, .int .i64 0] 40)).heap.size (w.alloc (.cells #[.int .i64 0, .string ⟨#[]⟩, .int .i64 0, .int .i64 0, .int .i64 0] 40)) wr) :
    wr.cell? ⟨w.heap.size, 0, none⟩ = some (.int .i64 0) ∧ wr.cell? ⟨w.heap.size, 1, none⟩ = some (.string ⟨#[]⟩) ∧ wr.cell? ⟨w.heap.size, 2, none⟩ = some (.int .i64 0) ∧ wr.cell? ⟨w.heap.size, 3, none⟩ = some (.int .i64 0) ∧ wr.cell? ⟨w.heap.size, 4, none⟩ = some (.int .i64 0)
    ∧ (∀ k, wr.frozen? ⟨w.heap.size, k, none⟩ = false) ∧ Below w.heap.size w wr := by
  have hl : w.heap.size < (w.alloc (.cells #[.int .i64 0, .string ⟨#[]⟩, .int .i64 0, .int .i64 0, .int .i64 0] 40)).heap.size := by rw [World.size_alloc]; omega
  refine ⟨?_, ?_, ?_, ?_, ?_, ?_, below_then (below_alloc w (.cells #[.int .i64 0, .string ⟨#[]⟩, .int .i64 0, .int .i64 0, .int .i64 0] 40)) hb⟩
  · rw [hb.cell (by exact hl), World.cell?_alloc_at _ _ _ _ rfl]; rfl
  · rw [hb.cell (by exact hl), World.cell?_alloc_at _ _ _ _ rfl]; rfl
  · rw [hb.cell (by exact hl), World.cell?_alloc_at _ _ _ _ rfl]; rfl
  · rw [hb.cell (by exact hl), World.cell?_alloc_at _ _ _ _ rfl]; rfl
  · rw [hb.cell (by exact hl), World.cell?_alloc_at _ _ _ _ rfl]; rfl
  · intro k
    rw [hb.frozen (by exact hl), World.frozen?_alloc_at _ _ _ _ rfl]
theorem tok_store {w : World} {B : Nat} {u0 u1 u2 u3 u4 : Value} (q0 : w.cell? ⟨B, 0, none⟩ = some u0) (q1 : w.cell? ⟨B, 1, none⟩ = some u1) (q2 : w.cell? ⟨B, 2, none⟩ = some u2) (q3 : w.cell? ⟨B, 3, none⟩ = some u3) (q4 : w.cell? ⟨B, 4, none⟩ = some u4) (v0 v1 v2 v3 v4 : Value) :
    (w.setCell ⟨B, 0, none⟩ v0).cell? ⟨B, 0, none⟩ = some v0 ∧ ((w.setCell ⟨B, 0, none⟩ v0).setCell ⟨B, 1, none⟩ v1).cell? ⟨B, 1, none⟩ = some v1 ∧ (((w.setCell ⟨B, 0, none⟩ v0).setCell ⟨B, 1, none⟩ v1).setCell ⟨B, 2, none⟩ v2).cell? ⟨B, 2, none⟩ = some v2 ∧ ((((w.setCell ⟨B, 0, none⟩ v0).setCell ⟨B, 1, none⟩ v1).setCell ⟨B, 2, none⟩ v2).setCell ⟨B, 3, none⟩ v3).cell? ⟨B, 3, none⟩ = some v3 ∧ (((((w.setCell ⟨B, 0, none⟩ v0).setCell ⟨B, 1, none⟩ v1).setCell ⟨B, 2, none⟩ v2).setCell ⟨B, 3, none⟩ v3).setCell ⟨B, 4, none⟩ v4).cell? ⟨B, 4, none⟩ = some v4
    ∧ Below B w (((((w.setCell ⟨B, 0, none⟩ v0).setCell ⟨B, 1, none⟩ v1).setCell ⟨B, 2, none⟩ v2).setCell ⟨B, 3, none⟩ v3).setCell ⟨B, 4, none⟩ v4)
    ∧ (∀ p : Addr, p.block ≠ B → (((((w.setCell ⟨B, 0, none⟩ v0).setCell ⟨B, 1, none⟩ v1).setCell ⟨B, 2, none⟩ v2).setCell ⟨B, 3, none⟩ v3).setCell ⟨B, 4, none⟩ v4).cell? p = w.cell? p) := by
  have ne : ∀ (i j : Nat), i ≠ j → (⟨B, i, none⟩ : Addr) ≠ ⟨B, j, none⟩ := fun i j h e => h (by injection e)
  have nb : ∀ (i : Nat) (p : Addr), p.block ≠ B → (⟨B, i, none⟩ : Addr) ≠ p := fun i p h e => h (by rw [← e])
  have st : ∀ (w : World) (k : Nat) (v : Value), Below B w (w.setCell ⟨B, k, none⟩ v) := fun w k v => (Below.refl B w).setCell (show B ≤ B from Nat.le_refl B) v
  refine ⟨World.cell?_setCell_same _ _ _ q0, World.cell?_setCell_same _ _ _ (u := u1) ?_, World.cell?_setCell_same _ _ _ (u := u2) ?_, World.cell?_setCell_same _ _ _ (u := u3) ?_, World.cell?_setCell_same _ _ _ (u := u4) ?_, ((((st _ _ _).trans (st _ _ _)).trans (st _ _ _)).trans (st _ _ _)).trans (st _ _ _), ?_⟩
  · rw [World.cell?_setCell_other (h := ne _ _ (by decide))]; exact q1
  · rw [World.cell?_setCell_other (h := ne _ _ (by decide)), World.cell?_setCell_other (h := ne _ _ (by decide))]; exact q2
  · rw [World.cell?_setCell_other (h := ne _ _ (by decide)), World.cell?_setCell_other (h := ne _ _ (by decide)), World.cell?_setCell_other (h := ne _ _ (by decide))]; exact q3
  · rw [World.cell?_setCell_other (h := ne _ _ (by decide)), World.cell?_setCell_other (h := ne _ _ (by decide)), World.cell?_setCell_other (h := ne _ _ (by decide)), World.cell?_setCell_other (h := ne _ _ (by decide))]; exact q4
  · intro p hp
    rw [World.cell?_setCell_other (h := nb _ p hp), World.cell?_setCell_other (h := nb _ p hp), World.cell?_setCell_other (h := nb _ p hp), World.cell?_setCell_other (h := nb _ p hp), World.cell?_setCell_other (h := nb _ p hp)]
/-- What is returned of a box: the token, and its length. -/
def tkV (o : Nat) (x : ByteArray) (n : Nat) : Value := .agg #[.int .i64 (o : Nat), .string x, .int .i64 (n : Nat), .int .i64 0, .int .i64 0]
end Go.Proofs.YtfjeljehodbbmaaDoor
