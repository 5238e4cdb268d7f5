/- The contract of the laws' own sure, and contracts in the form that the laws take. -/
import Derived.Test.YtkapephlfbabjaaAlg
import Derived.Test.YtkapephlfbabjaaRefA
namespace Go.Proofs.Ytkapephlfbabjaa
open Go.RowKit

theorem sure_any (v : Value) (zs : List Nat) (w : World) (h : Sl w v zs) :
    Calls Try.prog 54 #[v] w fun e w' => e = .returned (.bool (knV zs)) ∧ w = w' := by
  have HK := Lib.hid (refKnown_any v zs w h)
  obtain ⟨A, c, rfl, hn, _⟩ := h
  have he : knV zs = false ∨ (knV zs = true ∧ txtE zs = 0) := by
    cases hv : isV zs
    · left; unfold knV; rw [hv]; rfl
    · cases hk : knB zs
      · left; unfold knV; rw [hk]; simp
      · right; exact ⟨by unfold knV; rw [hv, hk]; rfl, txtE_yes hv⟩
  generalize knV zs = k at *
  generalize txtE zs = x at *
  rcases he with rfl | ⟨rfl, rfl⟩
  all_goals
    go_enter Try.func54, Try.ntmps54
    go_wp2_with fail
    refine (HK.out).mono ?_
    rintro e w' ⟨rfl, rfl⟩
    go_wp2
    go_ret
    exact ⟨rfl, rfl⟩
/-- p holds if k is so. -/
def Ends (k : Bool) (p : Prop) : Prop := k = true → p
theorem knV_of {zs : List Nat} (h : isV zs = true) : knV zs = knB zs := by unfold knV; rw [h]; rfl
theorem isF {zs : List Nat} {b : Bool} (h : isV zs = b) : Hid (∀ v w, Sl w v zs → Calls Try.prog 53 #[v] w fun e w' => e = .returned (.bool b) ∧ w = w') := by
  subst h
  exact fun v w h => refIs_any v zs w h
theorem addF {a b r : List Nat} (h : two a b = true) (hr : calV addO a b = r) : Hid (∀ u v w, Sl w u a → Sl w v b → Calls Try.prog 29 #[u, v] w fun e w' => ∃ x, e = .returned (.tuple #[x, .int .i64 0]) ∧ Sl w' x r ∧ Below w.heap.size w w') := by
  subst hr
  intro u v w hu hv
  have := add_any u v a b w hu hv
  rwa [show calE a b = 0 by unfold calE; rw [h]; rfl] at this
theorem subF {a b r : List Nat} (h : two a b = true) (hr : calV subO a b = r) : Hid (∀ u v w, Sl w u a → Sl w v b → Calls Try.prog 31 #[u, v] w fun e w' => ∃ x, e = .returned (.tuple #[x, .int .i64 0]) ∧ Sl w' x r ∧ Below w.heap.size w w') := by
  subst hr
  intro u v w hu hv
  have := sub_any u v a b w hu hv
  rwa [show calE a b = 0 by unfold calE; rw [h]; rfl] at this
theorem mulF {a b r : List Nat} (h : two a b = true) (hr : calV mulO a b = r) : Hid (∀ u v w, Sl w u a → Sl w v b → Calls Try.prog 33 #[u, v] w fun e w' => ∃ x, e = .returned (.tuple #[x, .int .i64 0]) ∧ Sl w' x r ∧ Below w.heap.size w w') := by
  subst hr
  intro u v w hu hv
  have := mul_any u v a b w hu hv
  rwa [show calE a b = 0 by unfold calE; rw [h]; rfl] at this
end Go.Proofs.Ytkapephlfbabjaa
