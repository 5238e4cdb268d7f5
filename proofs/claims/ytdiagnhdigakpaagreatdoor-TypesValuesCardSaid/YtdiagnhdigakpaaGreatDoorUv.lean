/- A region in whatever order: by what holds behind each set of its operations; three boxes that are made, and filled with what three calls return. -/
import Derived.Test.YtdiagnhdigakpaaGreatDoorUu
import Derived.RegionTactic
import Derived.Deep.MidRow
namespace Go.Proofs.YtdiagnhdigakpaaGreatDoor
open Go.RowKit

/-- How many operations are not listed yet. -/
def left (listed : Array Bool) : Nat := (listed.toList.filter fun b => !b).length
theorem left_set : ∀ (l : List Bool) (i : Nat), l[i]? = some false → ((l.set i true).filter fun b => !b).length + 1 = (l.filter fun b => !b).length
  | [], _, h => by simp at h
  | b :: r, 0, h => by
    have : b = false := by simpa using h
    subst this
    simp
  | b :: r, i + 1, h => by
    have ih := left_set r i (by simpa using h)
    rw [List.set_cons_succ, List.filter_cons, List.filter_cons]
    cases b <;> simp <;> omega
theorem left_set' {listed : Array Bool} {i : Nat} (h : listed.getD i true = false) : left (listed.setIfInBounds i true) + 1 = left listed := by
  unfold left
  have h1 : listed.toList[i]? = some false := by
    rw [Array.getD_eq_getD_getElem?] at h
    rw [Array.getElem?_toList]
    cases hh : listed[i]? with
    | none => rw [hh] at h; cases h
    | some b => rw [hh] at h; simpa using h
  rw [Array.toList_setIfInBounds]
  exact left_set _ _ h1
theorem ready_not {md : Region.Mode} {ops : Array Oper} {listed : Array Bool} {i : Nat} (h : i ∈ Region.ready md ops listed) : listed.getD i true = false := by
  unfold Region.ready at h
  rw [List.mem_filter, Bool.and_eq_true] at h
  simpa using h.2.1
/-- What holds at first, and stays so behind each operation that may come up, gives the region in whatever order. -/
theorem wpAny_inv {P : Program} {md : Region.Mode} {ops : Array Oper} {Q : Exit → Act → World → Prop} (Inv : Array Bool → Act → World → Prop)
    (hstep : ∀ listed a w i, Inv listed a w → i ∈ Region.ready md ops listed → wpOp P ops Q i (Inv (listed.setIfInBounds i true)) a w)
    (hend : ∀ listed a w, Inv listed a w → Region.ready md ops listed = [] → Q .normal a w) :
    ∀ (fuel : Nat) (listed : Array Bool) (a : Act) (w : World), left listed ≤ fuel → Inv listed a w → wpAny P md ops Q fuel listed a w
  | 0, listed, a, w, hl, h => by
    have hr : Region.ready md ops listed = [] := by
      cases hr : Region.ready md ops listed with
      | nil => rfl
      | cons i r =>
        have := left_set' (ready_not (md := md) (ops := ops) (listed := listed) (i := i) (by rw [hr]; simp))
        omega
    exact ⟨hr, hend _ _ _ h hr⟩
  | fuel + 1, listed, a, w, hl, h => by
    refine ⟨fun hr => hend _ _ _ h hr, fun i hi => wpOp_mono (fun a' w' h' => ?_) (hstep _ _ _ i h hi)⟩
    have := left_set' (ready_not hi)
    exact wpAny_inv Inv hstep hend fuel _ a' w' (by omega) h'
/-- The block of a pointer. -/
def pb : Value → Option Nat
  | .pointer (some a) => some a.block
  | _ => none
/-- A predicate on cells that stays where blocks of its kind stay. -/
def Stays (R : (Nat → Prop) → World → Array Value → Prop) : Prop := ∀ S S' w w' cs, (∀ b, S b → b < w.heap.size → S' b ∧ w'.heap[b]? = w.heap[b]?) → R S w cs → R S' w' cs
/-- A box that is made, filled with what a call returned (c: called, a: made, s: filled). -/
structure Chain (Wd w : World) (R : (Nat → Prop) → World → Array Value → Prop) (T : TypeId) (z : Array Value) (c a s : Bool) (uc ub : Value) (S : Nat → Prop) : Prop where
  call : c = true → ∃ cs, uc = .agg cs ∧ R S w cs
  bare : a = false → ub = undef
  box : a = true → ∃ p cs, ub = .pointer (some ⟨p, 0, none⟩) ∧ Wd.heap.size ≤ p ∧ Blk w p T cs ∧ (s = false → cs = z) ∧ (s = true → uc = .agg cs)
theorem Chain.later {Wd w w' : World} {R : (Nat → Prop) → World → Array Value → Prop} {T : TypeId} {z : Array Value} {c a s : Bool} {uc ub : Value} {S S' : Nat → Prop} (hR : Stays R) (h : Chain Wd w R T z c a s uc ub S) (hS : ∀ b, S b → b < w.heap.size → S' b) (hk : ∀ b, b < w.heap.size → (S b ∨ pb ub = some b) → w'.heap[b]? = w.heap[b]?) : Chain Wd w' R T z c a s uc ub S' := by
  refine ⟨fun hc => ?_, h.bare, fun ha => ?_⟩
  · obtain ⟨cs, e, hr⟩ := h.call hc
    exact ⟨cs, e, hR _ _ _ _ _ (fun b hb hl => ⟨hS b hb hl, hk b hl (.inl hb)⟩) hr⟩
  · obtain ⟨p, cs, e, h1, h2, h3, h4⟩ := h.box ha
    exact ⟨p, cs, e, h1, h2.turn (hk p h2.lt (.inr (by rw [e]; rfl))), h3, h4⟩
theorem Chain.lt {Wd w : World} {R : (Nat → Prop) → World → Array Value → Prop} {T : TypeId} {z : Array Value} {c a s : Bool} {uc ub : Value} {S : Nat → Prop} (h : Chain Wd w R T z c a s uc ub S) : ∀ b, pb ub = some b → b < w.heap.size := by
  intro b hb
  cases a with
  | false => rw [h.bare rfl] at hb; cases hb
  | true =>
    obtain ⟨p, cs, e, h1, h2, _⟩ := h.box rfl
    rw [e] at hb
    have : p = b := Option.some.inj hb
    have := h2.lt
    omega
/-- A function with another value at one place. -/
def upd {n : Nat} {α : Type} (f : Fin n → α) (k : Fin n) (v : α) : Fin n → α := fun j => if j = k then v else f j
theorem upd_at {n : Nat} {α : Type} (f : Fin n → α) (k : Fin n) (v : α) : upd f k v k = v := if_pos rfl
theorem upd_ne {n : Nat} {α : Type} (f : Fin n → α) {k j : Fin n} (v : α) (h : j ≠ k) : upd f k v j = f j := if_neg h
/-- New, and in none of some boxes. -/
def Sx {n : Nat} (Wd : World) (b : Fin n → Value) (x : Nat) : Prop := Wd.heap.size ≤ x ∧ ∀ k, pb (b k) ≠ some x
/-- Boxes that are made, each filled with what a call returned. -/
structure Boxes {n : Nat} (Wd w : World) (R : Fin n → (Nat → Prop) → World → Array Value → Prop) (T : Fin n → TypeId) (z : Fin n → Array Value) (c a s : Fin n → Bool) (v b : Fin n → Value) : Prop where
  low : Below Wd.heap.size Wd w
  chain : ∀ k, Chain Wd w (R k) (T k) (z k) (c k) (a k) (s k) (v k) (b k) (Sx Wd b)
  apart : ∀ j k x, j ≠ k → pb (b j) = some x → pb (b k) ≠ some x
section
variable {n : Nat} {Wd w w' : World} {R : Fin n → (Nat → Prop) → World → Array Value → Prop} {T : Fin n → TypeId} {z : Fin n → Array Value} {c a s : Fin n → Bool} {v b : Fin n → Value}
theorem Boxes.called (hR : ∀ k, Stays (R k)) (h : Boxes Wd w R T z c a s v b) (k : Fin n) (hs : s k = false) (hb : Below w.heap.size w w') {cs : Array Value} (hr : R k (fun x => w.heap.size ≤ x) w' cs) :
    Boxes Wd w' R T z (upd c k true) a s (upd v k (.agg cs)) b := by
  have hsz := h.low.size
  refine ⟨below_then h.low hb, fun j => ?_, h.apart⟩
  by_cases hj : j = k
  · subst hj
    rw [upd_at, upd_at]
    refine ⟨fun _ => ⟨cs, rfl, hR j _ _ _ _ _ (fun x hx hl => ⟨⟨?_, fun i e => ?_⟩, rfl⟩) hr⟩, (h.chain j).bare, fun ha => ?_⟩
    · have hx : w.heap.size ≤ x := hx; omega
    · have := (h.chain i).lt x e; have hx : w.heap.size ≤ x := hx; omega
    · obtain ⟨p, cs', e, h1, h2, h3, h4⟩ := (h.chain j).box ha
      exact ⟨p, cs', e, h1, h2.later hb, h3, fun e => by rw [hs] at e; cases e⟩
  · rw [upd_ne _ _ hj, upd_ne _ _ hj]
    exact (h.chain j).later (hR j) (fun x hx _ => hx) (fun x hl _ => hb.block x hl)
theorem Boxes.made (hR : ∀ k, Stays (R k)) (h : Boxes Wd w R T z c a s v b) (k : Fin n) (ha : a k = false) (hs : s k = false) :
    Boxes Wd (w.alloc (.cells (z k) (T k))) R T z c (upd a k true) s v (upd b k (.pointer (some ⟨w.heap.size, 0, none⟩))) := by
  have hb := below_alloc w (.cells (z k) (T k))
  have hsz := h.low.size
  have hp : ∀ x j, pb (upd b k (.pointer (some ⟨w.heap.size, 0, none⟩)) j) = some x → (j = k ∧ x = w.heap.size) ∨ (j ≠ k ∧ pb (b j) = some x) := by
    intro x j e
    by_cases hj : j = k
    · subst hj
      rw [upd_at] at e
      exact .inl ⟨rfl, (Option.some.inj e).symm⟩
    · rw [upd_ne _ _ hj] at e
      exact .inr ⟨hj, e⟩
  have hS : ∀ x, Sx Wd b x → x < w.heap.size → Sx Wd (upd b k (.pointer (some ⟨w.heap.size, 0, none⟩))) x := fun x hx hl => ⟨hx.1, fun j e => by
    rcases hp x j e with ⟨_, e⟩ | ⟨_, e⟩
    · omega
    · exact hx.2 j e⟩
  refine ⟨below_then h.low hb, fun j => ?_, fun i j x hij e1 e2 => ?_⟩
  · by_cases hj : j = k
    · subst hj
      rw [upd_at, upd_at]
      refine ⟨fun hc => ?_, fun e => (by cases e), fun _ => ⟨_, z j, rfl, hsz, Blk.new w (T j) (z j), fun _ => rfl, fun e => by rw [hs] at e; cases e⟩⟩
      obtain ⟨cs, e, hr⟩ := (h.chain j).call hc
      exact ⟨cs, e, hR j _ _ _ _ _ (fun x hx hl => ⟨hS x hx hl, hb.block x hl⟩) hr⟩
    · rw [upd_ne _ _ hj, upd_ne _ _ hj]
      exact (h.chain j).later (hR j) hS (fun x hl _ => hb.block x hl)
  · rcases hp x i e1 with ⟨h1, h2⟩ | ⟨h1, h2⟩ <;> rcases hp x j e2 with ⟨h3, h4⟩ | ⟨h3, h4⟩
    · exact hij (h1.trans h3.symm)
    · have := (h.chain j).lt x h4; omega
    · have := (h.chain i).lt x h2; omega
    · exact h.apart i j x hij h2 h4
theorem Boxes.filled (hR : ∀ k, Stays (R k)) (h : Boxes Wd w R T z c a s v b) (k : Fin n) {p : Nat} {cs : Array Value} (hv : v k = .agg cs) (hb : b k = .pointer (some ⟨p, 0, none⟩)) (hk : ∀ x, x ≠ p → w'.heap[x]? = w.heap[x]?) (hB : Below Wd.heap.size Wd w') (hn : Blk w' p (T k) cs) (hp : Wd.heap.size ≤ p) (hc : c k = true) (ha : a k = true) :
    Boxes Wd w' R T z c a (upd s k true) v b := by
  have hpk : pb (b k) = some p := by rw [hb]; rfl
  have hS : ∀ x, Sx Wd b x → x ≠ p := fun x hx e => hx.2 k (by rw [hpk, e])
  refine ⟨hB, fun j => ?_, h.apart⟩
  by_cases hj : j = k
  · subst hj
    rw [upd_at]
    refine ⟨fun hc => ?_, (h.chain j).bare, fun _ => ⟨p, cs, hb, hp, hn, fun e => (by cases e), fun _ => hv⟩⟩
    obtain ⟨cs', e, hr⟩ := (h.chain j).call hc
    exact ⟨cs', e, hR j _ _ _ _ _ (fun x hx _ => ⟨hx, hk x (hS x hx)⟩) hr⟩
  · rw [upd_ne _ _ hj]
    refine (h.chain j).later (hR j) (fun x hx _ => hx) (fun x _ hx => hk x ?_)
    rcases hx with hx | hx
    · exact hS x hx
    · intro e
      exact h.apart j k x hj hx (by rw [hpk, e])
end
theorem stays_ty (t : Ty) : Stays fun S w cs => TyP S w t cs.toList := fun _ _ _ _ _ ht h => TyP.turn ht _ _ h
theorem stays_va (v : Va) : Stays fun S w cs => VaP S w v cs.toList := fun _ _ _ _ _ ht h => VaP.turn ht _ _ h
theorem setCells_apart (p : Nat) : ∀ (vs : List Value) (o : Nat) (w : World) (k : Nat), k ≠ p → (w.setCells p o vs).heap[k]? = w.heap[k]?
  | [], _, _, _, _ => rfl
  | v :: r, o, w, k, hk => by
    rw [World.setCells, setCells_apart p r (o + 1) _ k hk, Below.heap_setCell _ _ _ _ hk]
theorem setCells_low {Wd : World} {p : Nat} (hp : Wd.heap.size ≤ p) : ∀ (vs : List Value) (o : Nat) (w : World), Below Wd.heap.size Wd w → Below Wd.heap.size Wd (w.setCells p o vs)
  | [], _, _, h => h
  | v :: r, o, w, h => by
    rw [World.setCells]
    exact setCells_low hp r (o + 1) _ (h.setCell (p := ⟨p, o, none⟩) hp v)
theorem setCells_blk {p : Nat} {T : TypeId} : ∀ (vs pre old : List Value) (w : World), Blk w p T (pre ++ old).toArray → old.length = vs.length → Blk (w.setCells p pre.length vs) p T (pre ++ vs).toArray
  | [], pre, old, w, h, hl => by
    have : old = [] := List.eq_nil_of_length_eq_zero hl
    subst this
    exact h
  | v :: r, pre, old, w, h, hl => by
    match old, hl with
    | x :: old', hl =>
      rw [World.setCells]
      have h1 : Blk (w.setCell ⟨p, pre.length, none⟩ v) p T ((pre ++ [v]) ++ old').toArray := by
        have := h.set pre.length v
        rw [List.setIfInBounds_toArray, List.set_append_right _ _ (Nat.le_refl _), Nat.sub_self, List.set_cons_zero] at this
        rw [List.append_assoc]
        exact this
      have := setCells_blk r (pre ++ [v]) old' _ h1 (by simpa using hl)
      rw [List.length_append, List.length_singleton, List.append_assoc] at this
      exact this
theorem blk_range {w : World} {p : Nat} {T : TypeId} {cs : Array Value} (h : Blk w p T cs) : w.rangeAt p 0 cs.toList := fun j v hj => by
  rw [Nat.zero_add, h.cell j, ← Array.getElem?_toList]
  exact hj
theorem blk_there {w : World} {p : Nat} {T : TypeId} {cs : Array Value} (h : Blk w p T cs) : w.there p 0 cs.size := fun j hj => by
  rw [Nat.zero_add]
  refine ⟨?_, h.free j⟩
  rw [h.cell j, Array.getElem?_eq_getElem hj]
  rfl
theorem eval_same (a : Act) (d : Nat) (v : Value) (h : d < a.tmps.size) : (a.put (some d) v).eval (.tmp d) = v := by
  simp [Act.eval, Act.put, h]
theorem eval_other (a : Act) (d t : Nat) (v : Value) (h : d ≠ t) : (a.put (some d) v).eval (.tmp t) = a.eval (.tmp t) :=
  Act.eval_put fun e he hx => by
    obtain rfl := Option.some.inj he
    injection hx with hx
    exact h hx.symm
theorem wp_call_at {P : Program} {o : Oper} {a : Act} {w : World} {K : Act → World → Prop} {Q : Exit → Act → World → Prop} (f : FuncId) (x : Operand) (ts : Array TypeId) (ho : o.op = .call { callee := .value (.func f), args := #[x], argTypes := ts }) (u : Value) (hx : a.eval x = u)
    (he : ∀ args w, (callFunc f args).run P w = .ok (.enter f args) w) {Post : Ending → World → Prop} (hc : Calls P f #[u] w Post) (hk : ∀ e w', Post e w' → ∃ v, e = .returned v ∧ K (a.put o.dst v) w') : o.wp P a w K Q := by
  have hrun : (execOp a.eval o).run P w = .ok (.enter f #[u]) w := by
    have hf : a.eval (.func f) = .func (.func f) #[] #[] := rfl
    unfold execOp
    simp [ho, resolve, Deferred.ofValue, invoke, hx, hf, he]
  unfold Oper.wp
  rw [hrun, Oper.upon_enter]
  refine hc.mono fun e w'' hh => ?_
  obtain ⟨v, rfl, hK⟩ := hk e w'' hh
  exact hK
end Go.Proofs.YtdiagnhdigakpaaGreatDoor
