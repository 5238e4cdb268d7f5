/- A region that loads, calls, makes boxes and fills them, in whatever order: 'a, b, c := f(x), g(y), h(z)' of structs. -/
import Derived.Test.YtdiagnhdigakpaaGreatDoorUv
namespace Go.Proofs.YtdiagnhdigakpaaGreatDoor
open Go.RowKit

theorem getD_set (l : Array Bool) (i j : Nat) (hi : i < l.size) : (l.setIfInBounds i true).getD j false = if j = i then true else l.getD j false := by
  rw [Array.getD_eq_getD_getElem?, Array.getD_eq_getD_getElem?, Array.getElem?_setIfInBounds]
  by_cases h : i = j
  · subst h
    rw [if_pos rfl, if_pos rfl, if_pos hi]
    rfl
  · rw [if_neg h, if_neg (fun e => h e.symm)]
theorem getD_tf {l : Array Bool} {i : Nat} (hi : i < l.size) : l.getD i true = l.getD i false := by
  rw [Array.getD_eq_getD_getElem?, Array.getD_eq_getD_getElem?, Array.getElem?_eq_getElem hi]
  rfl
theorem ready_spec {md : Region.Mode} {ops : Array Oper} {listed : Array Bool} {i : Nat} (h : i ∈ Region.ready md ops listed) : i < ops.size ∧ ∀ o, ops[i]? = some o → ∀ e ∈ o.after, Region.binds md e = true → listed.getD e.on false = true := by
  unfold Region.ready at h
  rw [List.mem_filter, List.mem_range, Bool.and_eq_true] at h
  refine ⟨h.1, fun o ho e he hb => ?_⟩
  have h2 := h.2.2
  rw [ho] at h2
  have h3 : o.after.all (fun e => !Region.binds md e || listed.getD e.on false) = true := h2
  have h4 := (Array.all_eq_true_iff_forall_mem.1 h3) e he
  rw [hb] at h4
  simpa using h4
/-- Each operation waits for earlier ones alone. -/
def earlier (md : Region.Mode) (ops : Array Oper) : Bool := (List.range ops.size).all fun i => ((ops[i]?).map fun o => o.after.all fun e => !Region.binds md e || decide (e.on < i)).getD true
theorem all_listed {md : Region.Mode} {ops : Array Oper} {listed : Array Bool} (he : earlier md ops = true) (hs : listed.size = ops.size) (hr : Region.ready md ops listed = []) : ∀ i, i < ops.size → listed.getD i false = true := by
  intro i
  induction i using Nat.strongRecOn with
  | ind i ih =>
    intro hi
    cases hl : listed.getD i false with
    | true => rfl
    | false =>
      exfalso
      have hmem : i ∈ Region.ready md ops listed := by
        unfold Region.ready
        rw [List.mem_filter, List.mem_range, Bool.and_eq_true]
        refine ⟨hi, by rw [getD_tf (by omega), hl]; rfl, ?_⟩
        rw [Array.getElem?_eq_getElem hi]
        show (ops[i].after.all fun e => !Region.binds md e || listed.getD e.on false) = true
        rw [Array.all_eq_true_iff_forall_mem]
        intro e hm
        unfold earlier at he
        have h1 := List.all_eq_true.1 he i (List.mem_range.2 hi)
        rw [Array.getElem?_eq_getElem hi] at h1
        have h2 : (ops[i].after.all fun e => !Region.binds md e || decide (e.on < i)) = true := h1
        have h3 := (Array.all_eq_true_iff_forall_mem.1 h2) e hm
        cases hb : Region.binds md e with
        | false => rfl
        | true =>
          rw [hb] at h3
          have h4 : e.on < i := by simpa using h3
          rw [ih e.on h4 (by omega)]
          rfl
      rw [hr] at hmem
      cases hmem
/-- What the region is made of. -/
structure Shape (n : Nat) (P : Program) (ops : Array Oper) (a0 : Act) (Wd : World) (T : Fin n → TypeId) (z cs : Fin n → Array Value) (R : Fin n → (Nat → Prop) → World → Array Value → Prop) (L C B X src : Fin n → Nat) (f : Fin n → FuncId) (sz : Fin n → Nat) (dsc : Fin n → TypeDesc) : Prop where
  size : ops.size = 4 * n
  early : earlier .any ops = true
  load : ∀ k : Fin n, ∃ o, ops[2 * k.val]? = some o ∧ o.guard = none ∧ o.dst = some (L k) ∧ o.op = .load (T k) (.tmp (X k))
  call : ∀ k : Fin n, ∃ o ts, ops[2 * k.val + 1]? = some o ∧ o.guard = none ∧ o.dst = some (C k) ∧ o.op = .call { callee := .value (.func (f k)), args := #[.tmp (L k)], argTypes := ts } ∧ ∃ e ∈ o.after, Region.binds .any e = true ∧ e.on = 2 * k.val
  alloc : ∀ k : Fin n, ∃ o, ops[2 * n + k.val]? = some o ∧ o.guard = none ∧ o.dst = some (B k) ∧ o.op = .alloc (T k)
  store : ∀ k : Fin n, ∃ o, ops[3 * n + k.val]? = some o ∧ o.guard = none ∧ o.dst = none ∧ o.op = .store (T k) (.tmp (B k)) (.tmp (C k)) ∧ (∃ e ∈ o.after, Region.binds .any e = true ∧ e.on = 2 * k.val + 1) ∧ ∃ e ∈ o.after, Region.binds .any e = true ∧ e.on = 2 * n + k.val
  lc : ∀ j k, L j ≠ C k
  lb : ∀ j k, L j ≠ B k
  cb : ∀ j k, C j ≠ B k
  ll : ∀ j k, j ≠ k → L j ≠ L k
  cc : ∀ j k, j ≠ k → C j ≠ C k
  bb : ∀ j k, j ≠ k → B j ≠ B k
  xl : ∀ j k, X j ≠ L k
  xc : ∀ j k, X j ≠ C k
  xb : ∀ j k, X j ≠ B k
  ls : ∀ k, L k < a0.tmps.size
  cs' : ∀ k, C k < a0.tmps.size
  bs : ∀ k, B k < a0.tmps.size
  xe : ∀ k, a0.eval (.tmp (X k)) = .pointer (some ⟨src k, 0, none⟩)
  sb : ∀ k, Blk Wd (src k) (T k) (cs k)
  b0 : ∀ k, a0.eval (.tmp (B k)) = undef
  un : ∀ k, P.underlying (T k) = some (dsc k)
  row : ∀ k, (dsc k).isRow = true
  inf : ∀ k, (P.info? (T k)).map (·.size) = some (sz k)
  csz : ∀ k, (cs k).size = sz k
  zsz : ∀ k, (z k).size = sz k
  al : ∀ k (a : Act) (w : World) (o : Oper), o.op = .alloc (T k) → (execOp a.eval o).run P w = .ok (.value (.pointer (some ⟨w.heap.size, 0, none⟩))) (w.alloc (.cells (z k) (T k)))
  en : ∀ k args w, (callFunc (f k) args).run P w = .ok (.enter (f k) args) w
  stay : ∀ k, Stays (R k)
  rsz : ∀ k S w ds, R k S w ds → ds.size = sz k ∧ ds.all (·.oneCell') = true
  con : ∀ k u, Below Wd.heap.size Wd u → Calls P (f k) #[.agg (cs k)] u fun e w' => ∃ ds, e = .returned (.agg ds) ∧ R k (fun b => u.heap.size ≤ b) w' ds ∧ Below u.heap.size u w'
/-- What holds behind any of its operations. -/
structure Mid (n : Nat) (ops : Array Oper) (a0 : Act) (Wd : World) (T : Fin n → TypeId) (z cs : Fin n → Array Value) (R : Fin n → (Nat → Prop) → World → Array Value → Prop) (L C B : Fin n → Nat) (listed : Array Bool) (a : Act) (w : World) : Prop where
  size : listed.size = ops.size
  defers : a.defers = a0.defers
  tsize : a.tmps.size = a0.tmps.size
  other : ∀ t, (∀ k, t ≠ L k ∧ t ≠ C k ∧ t ≠ B k) → a.tmps[t]? = a0.tmps[t]?
  closed : ∀ k : Fin n, listed.getD (3 * n + k.val) false = true → listed.getD (2 * k.val + 1) false = true ∧ listed.getD (2 * n + k.val) false = true
  load : ∀ k : Fin n, listed.getD (2 * k.val) false = true → a.eval (.tmp (L k)) = .agg (cs k)
  boxes : Boxes Wd w R T z (fun k => listed.getD (2 * k.val + 1) false) (fun k => listed.getD (2 * n + k.val) false) (fun k => listed.getD (3 * n + k.val) false) (fun k => a.eval (.tmp (C k))) (fun k => a.eval (.tmp (B k)))
section
variable {n : Nat} {P : Program} {ops : Array Oper} {Q : Exit → Act → World → Prop} {a0 : Act} {Wd : World} {T : Fin n → TypeId} {z cs : Fin n → Array Value} {R : Fin n → (Nat → Prop) → World → Array Value → Prop} {L C B X src : Fin n → Nat} {f : Fin n → FuncId} {sz : Fin n → Nat} {dsc : Fin n → TypeDesc}
theorem closed_set {listed : Array Bool} (h : ∀ k : Fin n, listed.getD (3 * n + k.val) false = true → listed.getD (2 * k.val + 1) false = true ∧ listed.getD (2 * n + k.val) false = true) {i : Nat} (hi : i < listed.size) (hn : i < 3 * n) (k : Fin n) (hk : (listed.setIfInBounds i true).getD (3 * n + k.val) false = true) : (listed.setIfInBounds i true).getD (2 * k.val + 1) false = true ∧ (listed.setIfInBounds i true).getD (2 * n + k.val) false = true := by
  rw [getD_set _ _ _ hi, if_neg (by omega)] at hk
  rw [getD_set _ _ _ hi, getD_set _ _ _ hi, (h k hk).1, (h k hk).2]
  simp
theorem closed_store {listed : Array Bool} (h : ∀ k : Fin n, listed.getD (3 * n + k.val) false = true → listed.getD (2 * k.val + 1) false = true ∧ listed.getD (2 * n + k.val) false = true) {j : Fin n} (hi : 3 * n + j.val < listed.size) (hc : listed.getD (2 * j.val + 1) false = true) (ha : listed.getD (2 * n + j.val) false = true) (k : Fin n) (hk : (listed.setIfInBounds (3 * n + j.val) true).getD (3 * n + k.val) false = true) : (listed.setIfInBounds (3 * n + j.val) true).getD (2 * k.val + 1) false = true ∧ (listed.setIfInBounds (3 * n + j.val) true).getD (2 * n + k.val) false = true := by
  have hb : listed.getD (2 * k.val + 1) false = true ∧ listed.getD (2 * n + k.val) false = true := by
    by_cases hjk : k = j
    · subst hjk; exact ⟨hc, ha⟩
    · rw [getD_set _ _ _ hi, if_neg (by intro e; apply hjk; apply Fin.ext; omega)] at hk
      exact h k hk
  rw [getD_set _ _ _ hi, getD_set _ _ _ hi, hb.1, hb.2]
  simp
theorem wanted_none {o : Oper} {a : Act} (h : o.guard = none) : Region.wanted o (yielded ops a.tmps) = true := by simp [Region.wanted, h]
theorem put_tmps (a : Act) (d : Nat) (v : Value) (t : Nat) (h : t ≠ d) : (a.put (some d) v).tmps[t]? = a.tmps[t]? := by
  simp [Act.put, Array.getElem?_setIfInBounds_ne (fun e => h e.symm)]
theorem put_size (a : Act) (d : Nat) (v : Value) : (a.put (some d) v).tmps.size = a.tmps.size := by simp [Act.put]
theorem put_none (a : Act) (v : Value) : a.put none v = a := rfl
theorem put_defers (a : Act) (d : Nat) (v : Value) : (a.put (some d) v).defers = a.defers := rfl
theorem eval_tmps {a b : Act} {t : Nat} (h : a.tmps[t]? = b.tmps[t]?) : a.eval (.tmp t) = b.eval (.tmp t) := by simp [Act.eval, h]
theorem step_load (S : Shape n P ops a0 Wd T z cs R L C B X src f sz dsc) {listed : Array Bool} {a : Act} {w : World} (I : Mid n ops a0 Wd T z cs R L C B listed a w) (k : Fin n) :
    wpOp P ops Q (2 * k.val) (Mid n ops a0 Wd T z cs R L C B (listed.setIfInBounds (2 * k.val) true)) a w := by
  obtain ⟨o, ho, hg, hd, hop⟩ := S.load k
  refine wpOp_step ho fun K' hK => ?_
  rw [if_pos (wanted_none hg)]
  have hx : a.eval (.tmp (X k)) = .pointer (some ⟨src k, 0, none⟩) := (eval_tmps (I.other _ fun j => ⟨S.xl k j, S.xc k j, S.xb k j⟩)).trans (S.xe k)
  have hb : Blk w (src k) (T k) (cs k) := (S.sb k).later I.boxes.low
  refine wp_load_mid (T k) (.tmp (X k)) hop (src k) 0 hx (cs k).toList (dsc k) (blk_range hb) (S.un k) (S.row k) (by rw [S.inf k, ← S.csz k, Array.length_toList]) ?_
  rw [hd]
  refine hK _ _ ?_
  have hi : 2 * k.val < listed.size := by rw [I.size, S.size]; have := k.isLt; omega
  refine ⟨by rw [Array.size_setIfInBounds]; exact I.size, I.defers, (put_size _ _ _).trans I.tsize, fun t ht => (put_tmps _ _ _ _ (ht k).1).trans (I.other t ht), closed_set I.closed hi (by have := k.isLt; omega), fun j hj => ?_, ?_⟩
  · by_cases hjk : j = k
    · subst hjk
      exact eval_same _ _ _ (by rw [I.tsize]; exact S.ls j)
    · rw [eval_other _ _ _ _ (S.ll k j fun e => hjk e.symm)]
      rw [getD_set _ _ _ hi, if_neg (by intro e; apply hjk; apply Fin.ext; omega)] at hj
      exact I.load j hj
  · have e1 : (fun j : Fin n => (listed.setIfInBounds (2 * k.val) true).getD (2 * j.val + 1) false) = fun j : Fin n => listed.getD (2 * j.val + 1) false := funext fun j => by rw [getD_set _ _ _ hi, if_neg (by omega)]
    have e2 : (fun j : Fin n => (listed.setIfInBounds (2 * k.val) true).getD (2 * n + j.val) false) = fun j : Fin n => listed.getD (2 * n + j.val) false := funext fun j => by rw [getD_set _ _ _ hi, if_neg (by have := k.isLt; omega)]
    have e3 : (fun j : Fin n => (listed.setIfInBounds (2 * k.val) true).getD (3 * n + j.val) false) = fun j : Fin n => listed.getD (3 * n + j.val) false := funext fun j => by rw [getD_set _ _ _ hi, if_neg (by have := k.isLt; omega)]
    have e4 : (fun j => (a.put (some (L k)) (.agg (cs k).toList.toArray)).eval (.tmp (C j))) = fun j => a.eval (.tmp (C j)) := funext fun j => eval_other _ _ _ _ (S.lc k j)
    have e5 : (fun j => (a.put (some (L k)) (.agg (cs k).toList.toArray)).eval (.tmp (B j))) = fun j => a.eval (.tmp (B j)) := funext fun j => eval_other _ _ _ _ (S.lb k j)
    rw [e1, e2, e3, e4, e5]
    exact I.boxes
theorem step_call (S : Shape n P ops a0 Wd T z cs R L C B X src f sz dsc) {listed : Array Bool} {a : Act} {w : World} (I : Mid n ops a0 Wd T z cs R L C B listed a w) (k : Fin n) (hl : listed.getD (2 * k.val) false = true) (hs : listed.getD (3 * n + k.val) false = false) :
    wpOp P ops Q (2 * k.val + 1) (Mid n ops a0 Wd T z cs R L C B (listed.setIfInBounds (2 * k.val + 1) true)) a w := by
  obtain ⟨o, ts, ho, hg, hd, hop, _⟩ := S.call k
  refine wpOp_step ho fun K' hK => ?_
  rw [if_pos (wanted_none hg)]
  refine wp_call_at (f k) (.tmp (L k)) ts hop (.agg (cs k)) (I.load k hl) (S.en k) (S.con k w I.boxes.low) ?_
  rintro e w' ⟨ds, rfl, hr, hb⟩
  refine ⟨_, rfl, ?_⟩
  rw [hd]
  refine hK _ _ ?_
  have hi : 2 * k.val + 1 < listed.size := by rw [I.size, S.size]; have := k.isLt; omega
  refine ⟨by rw [Array.size_setIfInBounds]; exact I.size, I.defers, (put_size _ _ _).trans I.tsize, fun t ht => (put_tmps _ _ _ _ (ht k).2.1).trans (I.other t ht), closed_set I.closed hi (by have := k.isLt; omega), fun j hj => ?_, ?_⟩
  · rw [eval_other _ _ _ _ (fun e => S.lc j k e.symm)]
    rw [getD_set _ _ _ hi, if_neg (by omega)] at hj
    exact I.load j hj
  · have e1 : (fun j : Fin n => (listed.setIfInBounds (2 * k.val + 1) true).getD (2 * j.val + 1) false) = upd (fun j : Fin n => listed.getD (2 * j.val + 1) false) k true := funext fun j => by
      rw [getD_set _ _ _ hi]
      unfold upd
      by_cases hjk : j = k
      · subst hjk; rw [if_pos rfl, if_pos rfl]
      · rw [if_neg (by intro e; apply hjk; apply Fin.ext; omega), if_neg hjk]
    have e2 : (fun j : Fin n => (listed.setIfInBounds (2 * k.val + 1) true).getD (2 * n + j.val) false) = fun j : Fin n => listed.getD (2 * n + j.val) false := funext fun j => by rw [getD_set _ _ _ hi, if_neg (by have := k.isLt; omega)]
    have e3 : (fun j : Fin n => (listed.setIfInBounds (2 * k.val + 1) true).getD (3 * n + j.val) false) = fun j : Fin n => listed.getD (3 * n + j.val) false := funext fun j => by rw [getD_set _ _ _ hi, if_neg (by have := k.isLt; omega)]
    have e4 : (fun j => (a.put (some (C k)) (.agg ds)).eval (.tmp (C j))) = upd (fun j => a.eval (.tmp (C j))) k (.agg ds) := funext fun j => by
      unfold upd
      by_cases hjk : j = k
      · subst hjk; rw [if_pos rfl]; exact eval_same _ _ _ (by rw [I.tsize]; exact S.cs' j)
      · rw [if_neg hjk]; exact eval_other _ _ _ _ (S.cc k j fun e => hjk e.symm)
    have e5 : (fun j => (a.put (some (C k)) (.agg ds)).eval (.tmp (B j))) = fun j => a.eval (.tmp (B j)) := funext fun j => eval_other _ _ _ _ (S.cb k j)
    rw [e1, e2, e3, e4, e5]
    exact I.boxes.called S.stay k hs hb hr
theorem step_alloc (S : Shape n P ops a0 Wd T z cs R L C B X src f sz dsc) {listed : Array Bool} {a : Act} {w : World} (I : Mid n ops a0 Wd T z cs R L C B listed a w) (k : Fin n) (ha : listed.getD (2 * n + k.val) false = false) (hs : listed.getD (3 * n + k.val) false = false) :
    wpOp P ops Q (2 * n + k.val) (Mid n ops a0 Wd T z cs R L C B (listed.setIfInBounds (2 * n + k.val) true)) a w := by
  obtain ⟨o, ho, hg, hd, hop⟩ := S.alloc k
  refine wpOp_step ho fun K' hK => ?_
  rw [if_pos (wanted_none hg)]
  unfold Oper.wp
  rw [S.al k a w o hop, Oper.upon_value, hd]
  refine hK _ _ ?_
  have hi : 2 * n + k.val < listed.size := by rw [I.size, S.size]; have := k.isLt; omega
  refine ⟨by rw [Array.size_setIfInBounds]; exact I.size, I.defers, (put_size _ _ _).trans I.tsize, fun t ht => (put_tmps _ _ _ _ (ht k).2.2).trans (I.other t ht), closed_set I.closed hi (by have := k.isLt; omega), fun j hj => ?_, ?_⟩
  · rw [eval_other _ _ _ _ (fun e => S.lb j k e.symm)]
    rw [getD_set _ _ _ hi, if_neg (by have := j.isLt; omega)] at hj
    exact I.load j hj
  · have e1 : (fun j : Fin n => (listed.setIfInBounds (2 * n + k.val) true).getD (2 * j.val + 1) false) = fun j : Fin n => listed.getD (2 * j.val + 1) false := funext fun j => by rw [getD_set _ _ _ hi, if_neg (by have := j.isLt; omega)]
    have e2 : (fun j : Fin n => (listed.setIfInBounds (2 * n + k.val) true).getD (2 * n + j.val) false) = upd (fun j : Fin n => listed.getD (2 * n + j.val) false) k true := funext fun j => by
      rw [getD_set _ _ _ hi]
      unfold upd
      by_cases hjk : j = k
      · subst hjk; rw [if_pos rfl, if_pos rfl]
      · rw [if_neg (by intro e; apply hjk; apply Fin.ext; omega), if_neg hjk]
    have e3 : (fun j : Fin n => (listed.setIfInBounds (2 * n + k.val) true).getD (3 * n + j.val) false) = fun j : Fin n => listed.getD (3 * n + j.val) false := funext fun j => by rw [getD_set _ _ _ hi, if_neg (by have := k.isLt; omega)]
    have e4 : (fun j => (a.put (some (B k)) (.pointer (some ⟨w.heap.size, 0, none⟩))).eval (.tmp (C j))) = fun j => a.eval (.tmp (C j)) := funext fun j => eval_other _ _ _ _ (fun e => S.cb j k e.symm)
    have e5 : (fun j => (a.put (some (B k)) (.pointer (some ⟨w.heap.size, 0, none⟩))).eval (.tmp (B j))) = upd (fun j => a.eval (.tmp (B j))) k (.pointer (some ⟨w.heap.size, 0, none⟩)) := funext fun j => by
      unfold upd
      by_cases hjk : j = k
      · subst hjk; rw [if_pos rfl]; exact eval_same _ _ _ (by rw [I.tsize]; exact S.bs j)
      · rw [if_neg hjk]; exact eval_other _ _ _ _ (S.bb k j fun e => hjk e.symm)
    rw [e1, e2, e3, e4, e5]
    exact I.boxes.made S.stay k ha hs
theorem step_store (S : Shape n P ops a0 Wd T z cs R L C B X src f sz dsc) {listed : Array Bool} {a : Act} {w : World} (I : Mid n ops a0 Wd T z cs R L C B listed a w) (k : Fin n) (hc : listed.getD (2 * k.val + 1) false = true) (ha : listed.getD (2 * n + k.val) false = true) (hs : listed.getD (3 * n + k.val) false = false) :
    wpOp P ops Q (3 * n + k.val) (Mid n ops a0 Wd T z cs R L C B (listed.setIfInBounds (3 * n + k.val) true)) a w := by
  obtain ⟨o, ho, hg, hd, hop, _⟩ := S.store k
  refine wpOp_step ho fun K' hK => ?_
  rw [if_pos (wanted_none hg)]
  have hch := I.boxes.chain k
  obtain ⟨ds, hv, hr⟩ := hch.call hc
  obtain ⟨p, old, hb, hp, hk, hz, _⟩ := hch.box ha
  have hz := hz hs
  obtain ⟨r1, r2⟩ := S.rsz k _ _ _ hr
  have hos : old.size = ds.size := by rw [hz, S.zsz k, r1]
  refine wp_store_mid (T k) (.tmp (B k)) (.tmp (C k)) hop p 0 ds hb hv (by rw [← hos]; exact blk_there hk) (by rw [S.inf k, r1]) r2 ?_
  rw [hd, put_none]
  refine hK _ _ ?_
  have hi : 3 * n + k.val < listed.size := by rw [I.size, S.size]; have := k.isLt; omega
  refine ⟨by rw [Array.size_setIfInBounds]; exact I.size, I.defers, I.tsize, I.other, closed_store I.closed hi hc ha, fun j hj => ?_, ?_⟩
  · rw [getD_set _ _ _ hi, if_neg (by have := j.isLt; omega)] at hj
    exact I.load j hj
  · have e1 : (fun j : Fin n => (listed.setIfInBounds (3 * n + k.val) true).getD (2 * j.val + 1) false) = fun j : Fin n => listed.getD (2 * j.val + 1) false := funext fun j => by rw [getD_set _ _ _ hi, if_neg (by have := j.isLt; omega)]
    have e2 : (fun j : Fin n => (listed.setIfInBounds (3 * n + k.val) true).getD (2 * n + j.val) false) = fun j : Fin n => listed.getD (2 * n + j.val) false := funext fun j => by rw [getD_set _ _ _ hi, if_neg (by have := j.isLt; omega)]
    have e3 : (fun j : Fin n => (listed.setIfInBounds (3 * n + k.val) true).getD (3 * n + j.val) false) = upd (fun j : Fin n => listed.getD (3 * n + j.val) false) k true := funext fun j => by
      rw [getD_set _ _ _ hi]
      unfold upd
      by_cases hjk : j = k
      · subst hjk; rw [if_pos rfl, if_pos rfl]
      · rw [if_neg (by intro e; apply hjk; apply Fin.ext; omega), if_neg hjk]
    rw [e1, e2, e3]
    have hn : Blk (w.setCells p 0 ds.toList) p (T k) ds := by
      have h1 : Blk w p (T k) ([] ++ old.toList).toArray := by simpa using hk
      have := setCells_blk ds.toList [] old.toList w h1 (by rw [Array.length_toList, Array.length_toList]; exact hos)
      simpa using this
    exact I.boxes.filled S.stay k hv hb (fun x hx => setCells_apart p _ _ _ x hx) (setCells_low hp _ _ _ I.boxes.low) hn hp hc ha
theorem boxes_region (S : Shape n P ops a0 Wd T z cs R L C B X src f sz dsc)
    (hend : ∀ a w, a.defers = a0.defers → a.tmps.size = a0.tmps.size → (∀ t, (∀ k, t ≠ L k ∧ t ≠ C k ∧ t ≠ B k) → a.tmps[t]? = a0.tmps[t]?) →
      (∀ k, ∃ p ds, a.eval (.tmp (B k)) = .pointer (some ⟨p, 0, none⟩) ∧ Blk w p (T k) ds ∧ R k (fun _ => True) w ds) → Below Wd.heap.size Wd w → Q .normal a w) :
    wpAny P .any ops Q ops.size (Array.replicate ops.size false) a0 Wd := by
  refine wpAny_inv (Mid n ops a0 Wd T z cs R L C B) ?_ ?_ _ _ _ _ ?_ ?_
  · intro listed a w i I hr
    have hnl := ready_not hr
    obtain ⟨hi, hdep⟩ := ready_spec hr
    rw [S.size] at hi
    have hsz : listed.size = 4 * n := I.size.trans S.size
    rw [getD_tf (by omega)] at hnl
    have hstore : ∀ k : Fin n, listed.getD (2 * k.val + 1) false = false ∨ listed.getD (2 * n + k.val) false = false → listed.getD (3 * n + k.val) false = false := by
      intro k hk
      cases hs : listed.getD (3 * n + k.val) false with
      | false => rfl
      | true =>
        obtain ⟨h1, h2⟩ := I.closed k hs
        rw [h1, h2] at hk
        rcases hk with hk | hk <;> cases hk
    by_cases h1 : i < 2 * n
    · by_cases h2 : i % 2 = 0
      · obtain ⟨k, rfl⟩ : ∃ k : Fin n, i = 2 * k.val := ⟨⟨i / 2, by omega⟩, by show i = 2 * (i / 2); omega⟩
        exact step_load S I k
      · obtain ⟨k, rfl⟩ : ∃ k : Fin n, i = 2 * k.val + 1 := ⟨⟨i / 2, by omega⟩, by show i = 2 * (i / 2) + 1; omega⟩
        obtain ⟨o, ts, ho, _, _, _, e, he, hb, hon⟩ := S.call k
        have hd := hdep o ho e he hb
        rw [hon] at hd
        exact step_call S I k hd (hstore k (.inl hnl))
    · by_cases h2 : i < 3 * n
      · obtain ⟨k, rfl⟩ : ∃ k : Fin n, i = 2 * n + k.val := ⟨⟨i - 2 * n, by omega⟩, by show i = 2 * n + (i - 2 * n); omega⟩
        exact step_alloc S I k hnl (hstore k (.inr hnl))
      · obtain ⟨k, rfl⟩ : ∃ k : Fin n, i = 3 * n + k.val := ⟨⟨i - 3 * n, by omega⟩, by show i = 3 * n + (i - 3 * n); omega⟩
        obtain ⟨o, ho, _, _, _, ⟨e, he, hb, hon⟩, e', he', hb', hon'⟩ := S.store k
        have hd := hdep o ho e he hb
        have hd' := hdep o ho e' he' hb'
        rw [hon] at hd
        rw [hon'] at hd'
        exact step_store S I k hd hd' hnl
  · intro listed a w I hr
    have hall := all_listed S.early I.size hr
    refine hend a w I.defers I.tsize I.other (fun k => ?_) I.boxes.low
    have hch := I.boxes.chain k
    have h1 := hall (2 * k.val + 1) (by rw [S.size]; have := k.isLt; omega)
    have h2 := hall (2 * n + k.val) (by rw [S.size]; have := k.isLt; omega)
    have h3 := hall (3 * n + k.val) (by rw [S.size]; have := k.isLt; omega)
    obtain ⟨ds, hv, hr⟩ := hch.call h1
    obtain ⟨p, cs', hb, hp, hk, _, he⟩ := hch.box h2
    have he := he h3
    rw [hv] at he
    injection he with he
    subst he
    exact ⟨p, ds, hb, hk, S.stay k _ _ _ _ _ (fun _ _ _ => ⟨trivial, rfl⟩) hr⟩
  · unfold left
    rw [Array.toList_replicate]
    simp
  · have hf : ∀ i, (Array.replicate ops.size false).getD i false = false := fun i => by
      rw [Array.getD_eq_getD_getElem?, Array.getElem?_replicate]
      by_cases h : i < ops.size
      · rw [if_pos h]; rfl
      · rw [if_neg h]; rfl
    refine ⟨by simp, rfl, rfl, fun _ _ => rfl, fun k hk => ?_, fun k hk => ?_, ?_⟩
    · rw [hf] at hk; cases hk
    · rw [hf] at hk; cases hk
    · refine ⟨Below.refl _ _, fun k => ⟨fun h => ?_, fun _ => S.b0 k, fun h => ?_⟩, fun j k x _ h => ?_⟩
      · rw [hf] at h; cases h
      · rw [hf] at h; cases h
      · rw [S.b0 j] at h; cases h
end
end Go.Proofs.YtdiagnhdigakpaaGreatDoor
