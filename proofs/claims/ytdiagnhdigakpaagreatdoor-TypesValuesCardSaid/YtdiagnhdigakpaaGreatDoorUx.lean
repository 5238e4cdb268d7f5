/- Three boxes with a copy of a type and of two values: what a region of them needs, and what stands behind it. -/
import Derived.Test.YtdiagnhdigakpaaGreatDoorUw
namespace Go.Proofs.YtdiagnhdigakpaaGreatDoor
open Go.RowKit

/-- Three things. -/
def tri {α : Type} (a b c : α) : Fin 3 → α
  | 0 => a
  | 1 => b
  | 2 => c
theorem fin3 {p : Fin 3 → Prop} (h0 : p 0) (h1 : p 1) (h2 : p 2) : ∀ k, p k
  | 0 => h0
  | 1 => h1
  | 2 => h2
/-- A frame that differs from another one at some places alone. -/
theorem act_fold (a : Act) : ∀ (ds : List Nat) (b : Act), (ds.foldl (fun b d => b.put (some d) (a.eval (.tmp d))) b).defers = b.defers ∧ (ds.foldl (fun b d => b.put (some d) (a.eval (.tmp d))) b).tmps.size = b.tmps.size ∧
    ∀ t, (ds.foldl (fun b d => b.put (some d) (a.eval (.tmp d))) b).tmps[t]? = if t ∈ ds ∧ t < b.tmps.size then some (a.eval (.tmp t)) else b.tmps[t]?
  | [], b => ⟨rfl, rfl, fun t => by simp⟩
  | d :: r, b => by
    obtain ⟨h1, h2, h3⟩ := act_fold a r (b.put (some d) (a.eval (.tmp d)))
    rw [List.foldl_cons]
    refine ⟨h1, h2.trans (put_size _ _ _), fun t => ?_⟩
    rw [h3, put_size]
    by_cases ht : t < b.tmps.size
    · by_cases hr : t ∈ r
      · rw [if_pos ⟨hr, ht⟩, if_pos ⟨List.mem_cons_of_mem _ hr, ht⟩]
      · rw [if_neg (fun h => hr h.1)]
        by_cases hd : t = d
        · subst hd
          rw [if_pos ⟨List.mem_cons_self, ht⟩]
          simp [Act.put, ht]
        · rw [if_neg (by rintro ⟨h, _⟩; rcases List.mem_cons.1 h with h | h; exact hd h; exact hr h), put_tmps _ _ _ _ hd]
    · rw [if_neg (fun h => ht h.2), if_neg (fun h => ht h.2), Array.getElem?_eq_none (by rw [put_size]; omega), Array.getElem?_eq_none (by omega)]
theorem act_of (ds : List Nat) {a a0 : Act} (hd : a.defers = a0.defers) (hs : a.tmps.size = a0.tmps.size) (ho : ∀ t, t ∉ ds → a.tmps[t]? = a0.tmps[t]?) : a = ds.foldl (fun b d => b.put (some d) (a.eval (.tmp d))) a0 := by
  obtain ⟨h1, h2, h3⟩ := act_fold a ds a0
  have e : a.tmps = (ds.foldl (fun b d => b.put (some d) (a.eval (.tmp d))) a0).tmps := by
    apply Array.ext_getElem?
    intro t
    rw [h3]
    by_cases ht : t ∈ ds ∧ t < a0.tmps.size
    · rw [if_pos ht]
      have := ht.2
      rw [← hs] at this
      rw [Array.getElem?_eq_getElem this]
      simp [Act.eval, Array.getD, this]
    · rw [if_neg ht]
      by_cases hm : t ∈ ds
      · have hl : ¬ t < a0.tmps.size := fun h => ht ⟨hm, h⟩
        rw [Array.getElem?_eq_none (by omega), Array.getElem?_eq_none (by omega)]
      · exact ho t hm
  have e2 := hd.trans h1.symm
  revert e e2
  generalize ds.foldl (fun b d => b.put (some d) (a.eval (.tmp d))) a0 = b
  intro e e2
  cases a
  cases b
  cases e
  cases e2
  rfl
theorem enters {P : Program} {f : FuncId} {fn : Func} (hf : P.funcs[f]? = some fn) (hname : (fn.name == "runtime.NumGoroutine") = false) (hb : fn.body.isNone = false) (args : Array Value) (w : World) : (callFunc f args).run P w = .ok (.enter f args) w := by
  have h1 : ¬ fn.name = "runtime.NumGoroutine" := by simpa using hname
  have h2 : ¬ fn.body = none := by cases hx : fn.body <;> simp_all
  simp [callFunc, hf, h1, h2]
theorem al_ty (a : Act) (w : World) (o : Oper) (h : o.op = .alloc 26) : (execOp a.eval o).run Tryz.prog w = .ok (.value (.pointer (some ⟨w.heap.size, 0, none⟩))) (w.alloc (.cells #[.int .i64 0, .int .i64 0, .string ⟨#[]⟩, .slice none 0 0, .slice none 0 0] 26)) := by
  unfold execOp
  rw [h]
  go_simp
theorem al_va (a : Act) (w : World) (o : Oper) (h : o.op = .alloc 38) : (execOp a.eval o).run Tryz.prog w = .ok (.value (.pointer (some ⟨w.heap.size, 0, none⟩))) (w.alloc (.cells #[.int .i64 0, .int .i64 0, .slice none 0 0, .slice none 0 0] 38)) := by
  unfold execOp
  rw [h]
  go_simp
theorem ty_rsz (t : Ty) (S : Nat → Prop) (w : World) (ds : Array Value) (h : TyP S w t ds.toList) : ds.size = 5 ∧ ds.all (·.oneCell') = true := by
  have h1 := h.len
  rw [Array.length_toList] at h1
  exact ⟨h1, Array.all_eq_true_iff_forall_mem.2 fun x hx => h.one x (Array.mem_toList_iff.2 hx)⟩
theorem va_rsz (t : Va) (S : Nat → Prop) (w : World) (ds : Array Value) (h : VaP S w t ds.toList) : ds.size = 4 ∧ ds.all (·.oneCell') = true := by
  have h1 := h.len
  rw [Array.length_toList] at h1
  exact ⟨h1, Array.all_eq_true_iff_forall_mem.2 fun x hx => h.one x (Array.mem_toList_iff.2 hx)⟩
theorem copyTy_p {u w' : World} {t : Ty} {e : Ending} (h : CopyTyOf u t e w') : ∃ ds : Array Value, e = .returned (.agg ds) ∧ TyP (fun b => u.heap.size ≤ b) w' t ds.toList ∧ Below u.heap.size u w' := by
  obtain ⟨vn, vl, rfl, ho, hv, hb⟩ := h
  obtain ⟨k, l, nm, ns, es⟩ := t
  exact ⟨_, rfl, tyP_iff.2 ⟨_, _, rfl, ho.strP (fun _ h _ => h), hv.tys (fun _ h _ => h) (fun _ h _ => h)⟩, hb⟩
theorem copyVa_p {u w' : World} {v : Va} {e : Ending} (h : CopyOf u v e w') : ∃ ds : Array Value, e = .returned (.agg ds) ∧ VaP (fun b => u.heap.size ≤ b) w' v ds.toList ∧ Below u.heap.size u w' := by
  obtain ⟨A, n, c, B, m, d, rfl, h1, h2⟩ := copy_vaP h
  exact ⟨_, rfl, h1, h2⟩
theorem ty_box {S : Nat → Prop} {w : World} {t : Ty} {ds : Array Value} (h : TyP S w t ds.toList) : ∃ A n c B m d, ds = #[.int .i64 t.kind, .int .i64 t.len, .string t.name, .slice A n c, .slice B m d] ∧ TyC w t [.int .i64 t.kind, .int .i64 t.len, .string t.name, .slice A n c, .slice B m d] := by
  have hc := TyP.toC _ _ h
  have hc0 := hc
  obtain ⟨A, n, c, B, m, d, e, _⟩ := tyC_open hc
  rw [e] at hc0
  exact ⟨A, n, c, B, m, d, Array.toList_inj.1 e, hc0⟩
theorem va_box {S : Nat → Prop} {w : World} {v : Va} {ds : Array Value} (h : VaP S w v ds.toList) : ∃ A n c B m d, ds = #[.int .i64 v.kind, .int .i64 v.n, .slice A n c, .slice B m d] ∧ VaC w v [.int .i64 v.kind, .int .i64 v.n, .slice A n c, .slice B m d] := by
  have hc := VaP.toC _ _ h
  have hc0 := hc
  obtain ⟨A, n, c, B, m, d, e, _⟩ := vaC_open hc
  rw [e] at hc0
  exact ⟨A, n, c, B, m, d, Array.toList_inj.1 e, hc0⟩
/-- What stands behind the region: three boxes with copies. -/
def Copies (u : World) (t : Ty) (v x : Va) (s9 s10 s11 : Value) (wx : World) : Prop :=
  ∃ (p9 p10 p11 : Nat) (A1 B1 A2 B2 A3 B3 : Option Addr) (n1 c1 m1 d1 n2 c2 m2 d2 n3 c3 m3 d3 : Nat), s9 = .pointer (some ⟨p9, 0, none⟩) ∧ s10 = .pointer (some ⟨p10, 0, none⟩) ∧ s11 = .pointer (some ⟨p11, 0, none⟩) ∧
    Blk wx p9 26 #[.int .i64 t.kind, .int .i64 t.len, .string t.name, .slice A1 n1 c1, .slice B1 m1 d1] ∧ Blk wx p10 38 #[.int .i64 v.kind, .int .i64 v.n, .slice A2 n2 c2, .slice B2 m2 d2] ∧ Blk wx p11 38 #[.int .i64 x.kind, .int .i64 x.n, .slice A3 n3 c3, .slice B3 m3 d3] ∧
    TyC wx t [.int .i64 t.kind, .int .i64 t.len, .string t.name, .slice A1 n1 c1, .slice B1 m1 d1] ∧ VaC wx v [.int .i64 v.kind, .int .i64 v.n, .slice A2 n2 c2, .slice B2 m2 d2] ∧ VaC wx x [.int .i64 x.kind, .int .i64 x.n, .slice A3 n3 c3, .slice B3 m3 d3] ∧ Below u.heap.size u wx
theorem copies_of {u wx : World} {t : Ty} {v x : Va} {p9 p10 p11 : Nat} {d9 d10 d11 : Array Value} {S1 S2 S3 : Nat → Prop} (k9 : Blk wx p9 26 d9) (k10 : Blk wx p10 38 d10) (k11 : Blk wx p11 38 d11)
    (r9 : TyP S1 wx t d9.toList) (r10 : VaP S2 wx v d10.toList) (r11 : VaP S3 wx x d11.toList) (hb : Below u.heap.size u wx) : Copies u t v x (.pointer (some ⟨p9, 0, none⟩)) (.pointer (some ⟨p10, 0, none⟩)) (.pointer (some ⟨p11, 0, none⟩)) wx := by
  obtain ⟨A1, n1, c1, B1, m1, d1, rfl, h1⟩ := ty_box r9
  obtain ⟨A2, n2, c2, B2, m2, d2, rfl, h2⟩ := va_box r10
  obtain ⟨A3, n3, c3, B3, m3, d3, rfl, h3⟩ := va_box r11
  exact ⟨_, _, _, _, _, _, _, _, _, _, _, _, _, _, _, _, _, _, _, _, _, rfl, rfl, rfl, k9, k10, k11, h1, h2, h3, hb⟩
end Go.Proofs.YtdiagnhdigakpaaGreatDoor
