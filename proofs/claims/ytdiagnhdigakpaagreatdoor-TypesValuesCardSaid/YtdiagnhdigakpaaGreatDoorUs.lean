/- The contracts of the reference's CopyType and Copy, for any type and value. -/
import Derived.Test.YtdiagnhdigakpaaGreatDoorCr
import Derived.Test.YtdiagnhdigakpaaGreatDoorUr
import Derived.Test.YtdiagnhdigakpaaGreatDoorKh
import Derived.Test.YtdiagnhdigakpaaGreatDoorKk
namespace Go.Proofs.YtdiagnhdigakpaaGreatDoor
open Go.RowKit

theorem refCopy_upto : ∀ (n : Nat) (v : Va) (cs : List Value) (w : World), SizeOf.sizeOf v < n → smV v → VaC w v cs → Calls Tryz.prog 29 #[.agg cs.toArray] w (CopyOf w v)
  | 0, _, _, _, h, _, _ => absurd h (Nat.not_lt_zero _)
  | n + 1, .mk k m bs ls, cs, w, hz, hs, h => by
    obtain ⟨h1, h2, h3⟩ := (smV_def _ _ _ _).1 hs
    obtain ⟨C, x, p, D, y, q, rfl, rfl, rfl, hb, -, -, hL⟩ := vaC_open h
    obtain ⟨b', o', hD, hV⟩ := va_rows hL
    exact refCopy_at k m C D p q b' o' bs ls w (bitS_sl hb (by show bs.length ≤ _; omega)) h1 h2 hD hV (fun j hj u cs hu hc => refCopy_upto n _ cs u (size_in hz (List.getElem_mem hj)) (h3 _ (List.getElem_mem hj)) hc)
theorem rcopy_any (v : Va) (cs : List Value) (w : World) (hs : smV v) (h : VaC w v cs) : Calls Tryz.prog 29 #[.agg cs.toArray] w (CopyOf w v) := refCopy_upto _ v cs w (Nat.lt_succ_self _) hs h
/-- What a copy of a type is: the same type in blocks of the call's own. -/
def CopyTyOf (w : World) (t : Ty) (e : Ending) (w' : World) : Prop :=
  ∃ vn vl, e = .returned (.agg #[.int .i64 t.kind, .int .i64 t.len, .string t.name, vn, vl]) ∧ OwnN w' w.heap.size vn t.names ∧ OwnT (fun b => w.heap.size ≤ b) w' w.heap.size vl t.elem ∧ Below w.heap.size w w'
theorem OwnN.weak {w : World} {base base' : Nat} {v : Value} {xs : List ByteArray} (h : OwnN w base v xs) (hB : base' ≤ base) : OwnN w base' v xs := by
  obtain ⟨ho, hn, h4⟩ := h
  refine ⟨?_, hn, by omega⟩
  obtain ⟨g1, g2⟩ := ho
  refine ⟨g1, ?_⟩
  rcases g2 with g2 | ⟨g, cap, cur, e1, e2, e3⟩
  · exact .inl g2
  · exact .inr ⟨g, cap, cur, e1, by omega, e3⟩
theorem OwnN.turn {w w' : World} {base : Nat} {v : Value} {xs : List ByteArray} (h : OwnN w base v xs) (hs : w.heap.size ≤ w'.heap.size) (hk : ∀ g, v.ownBlock = some g → w'.heap[g]? = w.heap[g]?) : OwnN w' base v xs := by
  obtain ⟨ho, hn, h4⟩ := h
  refine ⟨?_, hn, by omega⟩
  obtain ⟨g1, g2⟩ := ho
  refine ⟨g1, ?_⟩
  rcases g2 with g2 | ⟨g, cap, cur, e1, e2, e3, e4⟩
  · exact .inl g2
  · exact .inr ⟨g, cap, cur, e1, e2, by rw [hk g (by rw [e1]; rfl)]; exact e3, e4⟩
theorem OwnN.far {w : World} {base : Nat} {v : Value} {xs : List ByteArray} (h : OwnN w base v xs) {a : Addr} (hne : ∀ g, v.ownBlock = some g → g ≠ a.block) (u : Value) : OwnN (w.setCell a u) base v xs :=
  h.turn (by simp [World.setCell]) fun g hg => Below.heap_setCell _ _ _ _ (hne g hg)
theorem OwnN.setLow {w : World} {base : Nat} {v : Value} {xs : List ByteArray} (h : OwnN w base v xs) {a : Addr} (ha : a.block < base) (u : Value) : OwnN (w.setCell a u) base v xs :=
  h.far (fun g hg => by have := (h.1.lt g hg).1; omega) u
theorem OwnN.shape {w : World} {base : Nat} {v : Value} {xs : List ByteArray} (h : OwnN w base v xs) : ∃ A c, v = .slice A xs.length c := by
  obtain ⟨A, c, e, _⟩ := h.strP (S := fun _ => True) (fun _ _ _ => trivial)
  exact ⟨A, c, e⟩
theorem step_append_strs {ops : Array Oper} {o : Oper} {a : Act} {w : World} {K : Act → World → Prop} {Q : Exit → Act → World → Prop} {E : Prop} (hgd : o.guard = none) (s x : Operand)
    (ho : o.op = .call { callee := .builtin .append, args := #[s, x], argTypes := #[23, 23] })
    (base : Nat) (v u : Value) (xs ys : List ByteArray) (hs : a.eval s = v) (hx : a.eval x = u) (hown : OwnN w base v xs) (hu : StrS w u ys) (hl : xs.length + ys.length ≤ 100000)
    (h : ∀ v' w', OwnN w' base v' (xs ++ ys) → w.grownBy w' v.ownBlock → (v'.ownBlock = v.ownBlock ∨ v'.ownBlock = some w.heap.size) → K (a.put o.dst v') w') :
    if Region.wanted o (yielded ops a.tmps) = true then Oper.wp Tryz.prog o a w K Q else E := by
  have hw : Region.wanted o (yielded ops a.tmps) = true := by simp [Region.wanted, hgd]
  rw [if_pos hw]
  obtain ⟨v', w', hrun, h2, h3, h4⟩ := run_append_strs w base o.type v u xs ys hown hu hl
  unfold Oper.wp execOp
  simp only [ho, resolve, invoke, builtin, Sem.run_bind, Sem.run_pure, Result.andThen_ok, List.map_toArray, List.map_cons, List.map_nil, hs, hx, hrun]
  exact h v' w' h2 h3 h4
/-- What stands behind the first statement of CopyType. -/
def CopyTyMid (w : World) (kk nn : Int) (nm : ByteArray) (ns : List ByteArray) (a1 a2 : Array Value) (s3 : Value) (wx : World) : Prop :=
  ∃ (B : Nat) (A1 : Option Addr) (q1 : Nat), s3 = .pointer (some ⟨B, 0, none⟩) ∧ w.heap.size + 2 ≤ B ∧ Blk wx B 26 #[.int .i64 kk, .int .i64 nn, .string nm, .slice A1 ns.length q1, .slice none 0 0] ∧ Blk wx (w.heap.size + 1) 26 a2 ∧ Blk wx w.heap.size 26 a1 ∧
    OwnN wx (w.heap.size + 2) (.slice A1 ns.length q1) ns ∧ (∀ g, (Value.slice A1 ns.length q1).ownBlock = some g → g ≠ B) ∧ Below w.heap.size w wx
structure CopyTyApp (w w1 : World) (ns : List ByteArray) (a1 a2 : Array Value) (A1 : Option Addr) (q1 : Nat) : Prop where
  b0 : Blk w1 w.heap.size 26 a1
  b1 : Blk w1 (w.heap.size + 1) 26 a2
  own : OwnN w1 (w.heap.size + 2) (.slice A1 ns.length q1) ns
  low : Below w.heap.size w w1
theorem copyTy_app {w X w1 : World} {ns : List ByteArray} {a1 a2 : Array Value} {A1 : Option Addr} {q1 r base : Nat} (h0 : Blk X w.heap.size 26 a1) (h1 : Blk X (w.heap.size + 1) 26 a2) (hb : Below w.heap.size w X) (hr : w.heap.size + 2 ≤ r) (hbase : w.heap.size + 2 ≤ base)
    (ho : OwnN w1 base (.slice A1 ns.length q1) ns) (hg : X.grownBy w1 (some r)) : CopyTyApp w w1 ns a1 a2 A1 q1 :=
  ⟨h0.grown hg (by omega), h1.grown hg (by omega), ho.weak hbase, hb.grown hg hb.size (fun k hk => by have := Option.some.inj hk; omega)⟩
theorem far1 {w : World} {g h i j : Nat} {v a : Value} (hv : w.cell? ⟨h, i, none⟩ = some v) (hne : g ≠ h) : (w.setCell ⟨g, j, none⟩ a).cell? ⟨h, i, none⟩ = some v := by
  have hn : (⟨g, j, none⟩ : Addr) ≠ ⟨h, i, none⟩ := fun e => hne (by injection e)
  rw [World.cell?_setCell_other _ _ _ _ hn, hv]
theorem far5 {w : World} {g h i : Nat} {v a b c d e : Value} (hv : w.cell? ⟨h, i, none⟩ = some v) (hne : g ≠ h) : (((((w.setCell ⟨g, 0, none⟩ a).setCell ⟨g, 1, none⟩ b).setCell ⟨g, 2, none⟩ c).setCell ⟨g, 3, none⟩ d).setCell ⟨g, 4, none⟩ e).cell? ⟨h, i, none⟩ = some v := far1 (far1 (far1 (far1 (far1 hv hne) hne) hne) hne) hne
theorem midTy_store {w w1 : World} {kk nn : Int} {nm : ByteArray} {ns : List ByteArray} {a1 a2 : Array Value} {A1 : Option Addr} {q1 B : Nat} (h : CopyTyApp w w1 ns a1 a2 A1 q1) (hB : w.heap.size + 2 ≤ B) (hk : Blk w1 B 26 #[.int .i64 0, .int .i64 0, .string ⟨#[]⟩, .slice none 0 0, .slice none 0 0]) (hne : ∀ g, (Value.slice A1 ns.length q1).ownBlock = some g → g ≠ B) :
    CopyTyMid w kk nn nm ns a1 a2 (.pointer (some ⟨B, 0, none⟩)) (((((w1.setCell ⟨B, 0, none⟩ (.int .i64 kk)).setCell ⟨B, 1, none⟩ (.int .i64 nn)).setCell ⟨B, 2, none⟩ (.string nm)).setCell ⟨B, 3, none⟩ (.slice A1 ns.length q1)).setCell ⟨B, 4, none⟩ (.slice none 0 0)) := by
  refine ⟨B, A1, q1, rfl, hB, ?_, ?_, ?_, ?_, hne, set5_below h.low (by omega) _ _ _ _ _⟩
  · exact ((((hk.set 0 _).set 1 _).set 2 _).set 3 _).set 4 _
  · exact (((((h.b1.other (a := ⟨B, 0, none⟩) (show B ≠ w.heap.size + 1 by omega) _).other (a := ⟨B, 1, none⟩) (show B ≠ w.heap.size + 1 by omega) _).other (a := ⟨B, 2, none⟩) (show B ≠ w.heap.size + 1 by omega) _).other (a := ⟨B, 3, none⟩) (show B ≠ w.heap.size + 1 by omega) _).other (a := ⟨B, 4, none⟩) (show B ≠ w.heap.size + 1 by omega) _)
  · exact (((((h.b0.other (a := ⟨B, 0, none⟩) (show B ≠ w.heap.size by omega) _).other (a := ⟨B, 1, none⟩) (show B ≠ w.heap.size by omega) _).other (a := ⟨B, 2, none⟩) (show B ≠ w.heap.size by omega) _).other (a := ⟨B, 3, none⟩) (show B ≠ w.heap.size by omega) _).other (a := ⟨B, 4, none⟩) (show B ≠ w.heap.size by omega) _)
  · exact ((((h.own.far (a := ⟨B, 0, none⟩) hne _).far (a := ⟨B, 1, none⟩) hne _).far (a := ⟨B, 2, none⟩) hne _).far (a := ⟨B, 3, none⟩) hne _).far (a := ⟨B, 4, none⟩) hne _
theorem midTy_alloc {w w1 : World} {kk nn : Int} {nm : ByteArray} {ns : List ByteArray} {a1 a2 : Array Value} {A1 : Option Addr} {q1 : Nat} (h : CopyTyApp w w1 ns a1 a2 A1 q1) :
    CopyTyMid w kk nn nm ns a1 a2 (.pointer (some ⟨w1.heap.size, 0, none⟩)) (w1.alloc (.cells #[.int .i64 kk, .int .i64 nn, .string nm, .slice A1 ns.length q1, .slice none 0 0] 26)) := by
  have hb := below_alloc w1 (.cells #[.int .i64 kk, .int .i64 nn, .string nm, .slice A1 ns.length q1, .slice none 0 0] 26)
  have h1 := h.b1.lt
  exact ⟨_, A1, q1, rfl, by omega, Blk.new _ _ _, h.b1.later hb, h.b0.later hb, h.own.kept hb, fun g hg => by have := (h.own.1.lt g hg).2; omega, below_then h.low hb⟩
theorem neN_low {w1 : World} {base B : Nat} {v : Value} {xs : List ByteArray} (h : OwnN w1 base v xs) (hB : B < base) : ∀ g, v.ownBlock = some g → g ≠ B := fun g hg => by have := (h.1.lt g hg).1; omega
theorem OwnN.drew {w : World} {base : Nat} {v : Value} {zs : List ByteArray} (h : OwnN w base v zs) : OwnN w.drew base v zs := h.kept (Below.refl _ _).drew
/-- A copy that the call has just made, as a type to append to a row. -/
theorem freshT_part {S S2 : Nat → Prop} {wr wa w3 : World} {G : Nat} {vl vb3 vl3 : Value} {l : List Ty} {x : Ty} (hown : OwnT S2 wr G vl l) (hab : Below wr.heap.size wr wa) (ho3 : OwnN w3 wa.heap.size vb3 x.names) (hv3 : OwnT (fun b => wa.heap.size ≤ b) w3 wa.heap.size vl3 x.elem) (hS : ∀ b, wr.heap.size ≤ b → S b) :
    TyP (fun b => S b ∧ vl.ownBlock ≠ some b) w3 x [.int .i64 x.kind, .int .i64 x.len, .string x.name, vb3, vl3] := by
  have hs := hab.size
  have key : ∀ b, wa.heap.size ≤ b → b < w3.heap.size → S b ∧ vl.ownBlock ≠ some b := fun b hb _ => ⟨hS b (by omega), fun e => by have := (hown.lt b e).2; omega⟩
  obtain ⟨k, n, nm, ns, es⟩ := x
  exact tyP_iff.2 ⟨vb3, vl3, rfl, ho3.strP key, hv3.tys key key⟩
theorem new_cells5 (w : World) (t : TypeId) (a0 a1 a2 a3 a4 : Value) : ∀ j, j < 5 → (w.alloc (.cells #[a0, a1, a2, a3, a4] t)).cell? ⟨w.heap.size, 0 + j, none⟩ = [a0, a1, a2, a3, a4][j]? := by
  intro j hj
  rw [Nat.zero_add, (Blk.new w t #[a0, a1, a2, a3, a4]).cell j]
  simp
set_option maxRecDepth 100000 in
set_option maxHeartbeats 8000000 in
theorem copyType_at (kk nn : Int) (nm : ByteArray) (A D : Option Addr) (p q b' o' : Nat) (ns : List ByteArray) (es : List Ty) (w : World)
    (hb : StrS w (.slice A ns.length p) ns) (hbl : ns.length ≤ 10000) (hx : es.length ≤ 10000)
    (HD : Hid (es.length = 0 ∨ D = some ⟨b', o', none⟩)) (HV : Hid (TyAt w es b' o' ∨ es.length = 0))
    (HS : Hid (∀ (k : Nat) (h : k < es.length) (u : World) (cs : List Value), Below w.heap.size w u → TyC u es[k] cs → Calls Tryz.prog 15 #[.agg cs.toArray] u (CopyTyOf u es[k]))) :
    Calls Tryz.prog 15 #[.agg #[.int .i64 kk, .int .i64 nn, .string nm, .slice A ns.length p, .slice D es.length q]] w (CopyTyOf w (.mk kk nn nm ns es)) := by
  have HB := Lib.hid hb
  clear hb
  have H2 := Lib.hid (boxes2 w 26 26 #[.int .i64 kk, .int .i64 nn, .string nm, .slice A ns.length p, .slice D es.length q] #[.int .i64 0, .int .i64 0, .string ⟨#[]⟩, .slice none 0 0, .slice none 0 0])
  go_enter Tryz.func15, Tryz.ntmps15
  go_upto_region 1 with fail
  go_cut [3] (fun s3 wx => CopyTyMid w kk nn nm ns #[.int .i64 kk, .int .i64 nn, .string nm, .slice A ns.length p, .slice D es.length q] #[.int .i64 0, .int .i64 0, .string ⟨#[]⟩, .slice none 0 0, .slice none 0 0] s3 wx)
  case first =>
    generalize hW : (w.alloc (.cells #[.int .i64 kk, .int .i64 nn, .string nm, .slice A ns.length p, .slice D es.length q] 26)).alloc (.cells #[.int .i64 0, .int .i64 0, .string ⟨#[]⟩, .slice none 0 0, .slice none 0 0] 26) = W at H2
    have HZ := Lib.hid (show W.heap.size = w.heap.size + 1 + 1 from H2.out.2.2.2)
    obtain ⟨m0, m1, m2, m3, m4⟩ := fives H2.out.1
    have HBW := Lib.hid (show StrS W (.slice A ns.length p) ns from HB.out.later H2.out.2.2.1)
    have LA := Lib.hid (show Below W.heap.size W ((W.alloc (.cells #[.int .i64 0, .int .i64 0, .string ⟨#[]⟩, .slice none 0 0, .slice none 0 0] 26)).alloc (.cells #[] 9)).drew from (below_then (below_alloc _ _) (below_alloc _ _)).drew)
    have LB := Lib.hid (show Below W.heap.size W ((W.alloc (.cells #[] 9)).alloc (.cells #[.int .i64 0, .int .i64 0, .string ⟨#[]⟩, .slice none 0 0, .slice none 0 0] 26)).drew from (below_then (below_alloc _ _) (below_alloc _ _)).drew)
    have LZ := Lib.hid (show Below W.heap.size W (W.alloc (.cells #[.int .i64 0, .int .i64 0, .string ⟨#[]⟩, .slice none 0 0, .slice none 0 0] 26)).drew from (below_alloc _ _).drew)
    have LD := Lib.hid (show Below W.heap.size W W.drew from (Below.refl _ _).drew)
    have LC := Lib.hid (show Below W.heap.size W (W.alloc (.cells #[] 9)).drew from (below_alloc _ _).drew)
    have HA := Lib.hid (show OwnN ((W.alloc (.cells #[.int .i64 0, .int .i64 0, .string ⟨#[]⟩, .slice none 0 0, .slice none 0 0] 26)).alloc (.cells #[] 9)).drew (W.heap.size + 1) (.slice (some ⟨W.heap.size + 1, 0, none⟩) 0 0) [] from (OwnN.new _ _ (World.size_alloc _ _)).drew)
    have HBo := Lib.hid (show OwnN ((W.alloc (.cells #[] 9)).alloc (.cells #[.int .i64 0, .int .i64 0, .string ⟨#[]⟩, .slice none 0 0, .slice none 0 0] 26)).drew W.heap.size (.slice (some ⟨W.heap.size, 0, none⟩) 0 0) [] from ((OwnN.new W _ rfl).kept (below_alloc _ _)).drew)
    have HC := Lib.hid (show OwnN (W.alloc (.cells #[] 9)).drew W.heap.size (.slice (some ⟨W.heap.size, 0, none⟩) 0 0) [] from (OwnN.new W _ rfl).drew)
    have SA := Lib.hid (HBW.out.later LA.out)
    have SB := Lib.hid (HBW.out.later LB.out)
    have SC := Lib.hid (HBW.out.later LC.out)
    have KA := Lib.hid (show Blk ((W.alloc (.cells #[.int .i64 0, .int .i64 0, .string ⟨#[]⟩, .slice none 0 0, .slice none 0 0] 26)).alloc (.cells #[] 9)).drew W.heap.size 26 #[.int .i64 0, .int .i64 0, .string ⟨#[]⟩, .slice none 0 0, .slice none 0 0] from blk_drew (blk_alloc (Blk.new W _ _) _))
    have KB := Lib.hid (show Blk ((W.alloc (.cells #[] 9)).alloc (.cells #[.int .i64 0, .int .i64 0, .string ⟨#[]⟩, .slice none 0 0, .slice none 0 0] 26)).drew (W.heap.size + 1) 26 #[.int .i64 0, .int .i64 0, .string ⟨#[]⟩, .slice none 0 0, .slice none 0 0] from blk_drew (blk_new _ _ _ _ (World.size_alloc _ _)))
    have HZR := Lib.hid (show w.heap.size + 2 ≤ W.heap.size ∧ w.heap.size + 2 ≤ W.heap.size + 1 by have := HZ.out; omega)
    have HNA := Lib.hid (show W.heap.size ≠ w.heap.size by have := HZ.out; omega)
    have HNB := Lib.hid (show W.heap.size + 1 ≠ w.heap.size by have := HZ.out; omega)
    have HL := Lib.hid (show ([] : List ByteArray).length + ns.length ≤ 100000 by simp; omega)
    clear hW
    go_region_held3 (fun w' => w'.cell? ⟨w.heap.size, 0, none⟩ = some (.int .i64 kk) ∧ w'.cell? ⟨w.heap.size, 1, none⟩ = some (.int .i64 nn) ∧ w'.cell? ⟨w.heap.size, 2, none⟩ = some (.string nm) ∧ w'.cell? ⟨w.heap.size, 3, none⟩ = some (.slice A ns.length p)) (first | with_reducible exact ⟨y0, y1, y2, y3⟩ | with_reducible exact ⟨far5 y0 HNA.out, far5 y1 HNA.out, far5 y2 HNA.out, far5 y3 HNA.out⟩ | with_reducible exact ⟨far5 y0 HNB.out, far5 y1 HNB.out, far5 y2 HNB.out, far5 y3 HNB.out⟩ | with_reducible exact ⟨cell_stays (below_alloc _ _) y0, cell_stays (below_alloc _ _) y1, cell_stays (below_alloc _ _) y2, cell_stays (below_alloc _ _) y3⟩ | with_reducible exact ⟨cell_stays LD.out m0, cell_stays LD.out m1, cell_stays LD.out m2, cell_stays LD.out m3⟩ | with_reducible exact ⟨cell_stays LA.out m0, cell_stays LA.out m1, cell_stays LA.out m2, cell_stays LA.out m3⟩ | with_reducible exact ⟨cell_stays LB.out m0, cell_stays LB.out m1, cell_stays LB.out m2, cell_stays LB.out m3⟩ | with_reducible exact ⟨cell_stays LC.out m0, cell_stays LC.out m1, cell_stays LC.out m2, cell_stays LC.out m3⟩ | with_reducible exact ⟨cell_stays LZ.out m0, cell_stays LZ.out m1, cell_stays LZ.out m2, cell_stays LZ.out m3⟩ | go_keep) (first
      | ((with_reducible refine step_append_strs (by with_unfolding_all rfl) _ _ (by with_unfolding_all rfl) (W.heap.size + 1) _ _ [] ns (by with_unfolding_all rfl) (by with_unfolding_all rfl) HA.out SA.out HL.out ?_); intro v1 w1 hown1 hg1 hv1; rw [List.nil_append] at hown1; obtain ⟨A1, q1, hv⟩ := hown1.shape; subst hv; have hg2 : World.grownBy _ w1 (some (W.heap.size + 1)) := hg1; have hr := HZR.out; have CA := Lib.hid (copyTy_app (r := W.heap.size + 1) (base := W.heap.size + 1) (H2.out.1.later LA.out) (H2.out.2.1.later LA.out) (below_then H2.out.2.2.1 LA.out) hr.2 hr.2 hown1 hg2); have NA := Lib.hid (KA.out.grown hg2 (by omega)); have NE : Hid (∀ g, (Value.slice A1 ns.length q1).ownBlock = some g → g ≠ W.heap.size) := neN_low hown1 (Nat.lt_succ_self _); clear hown1 hg1 hg2 hv1 hr; obtain ⟨y0, y1, y2, y3, y4⟩ := fives CA.out.b0; obtain ⟨n0, n1, n2, n3, n4⟩ := fives NA.out; have nf0 := NA.out.free 0; have nf1 := NA.out.free 1; have nf2 := NA.out.free 2; have nf3 := NA.out.free 3; have nf4 := NA.out.free 4)
      | ((with_reducible refine step_append_strs (by with_unfolding_all rfl) _ _ (by with_unfolding_all rfl) (W.heap.size) _ _ [] ns (by with_unfolding_all rfl) (by with_unfolding_all rfl) HBo.out SB.out HL.out ?_); intro v1 w1 hown1 hg1 hv1; rw [List.nil_append] at hown1; obtain ⟨A1, q1, hv⟩ := hown1.shape; subst hv; have hg2 : World.grownBy _ w1 (some (W.heap.size)) := hg1; have hr := HZR.out; have CA := Lib.hid (copyTy_app (r := W.heap.size) (base := W.heap.size) (H2.out.1.later LB.out) (H2.out.2.1.later LB.out) (below_then H2.out.2.2.1 LB.out) hr.1 hr.1 hown1 hg2); have NA := Lib.hid (KB.out.grown hg2 (by omega)); have NE : Hid (∀ g, (Value.slice A1 ns.length q1).ownBlock = some g → g ≠ W.heap.size + 1) := ne_new hv1 rfl (by simp [World.size_alloc]); clear hown1 hg1 hg2 hv1 hr; obtain ⟨y0, y1, y2, y3, y4⟩ := fives CA.out.b0; obtain ⟨n0, n1, n2, n3, n4⟩ := fives NA.out; have nf0 := NA.out.free 0; have nf1 := NA.out.free 1; have nf2 := NA.out.free 2; have nf3 := NA.out.free 3; have nf4 := NA.out.free 4)
      | ((with_reducible refine step_append_strs (by with_unfolding_all rfl) _ _ (by with_unfolding_all rfl) (W.heap.size) _ _ [] ns (by with_unfolding_all rfl) (by with_unfolding_all rfl) HC.out SC.out HL.out ?_); intro v1 w1 hown1 hg1 hv1; rw [List.nil_append] at hown1; obtain ⟨A1, q1, hv⟩ := hown1.shape; subst hv; have hg2 : World.grownBy _ w1 (some (W.heap.size)) := hg1; have hr := HZR.out; have CA := Lib.hid (copyTy_app (r := W.heap.size) (base := W.heap.size) (H2.out.1.later LC.out) (H2.out.2.1.later LC.out) (below_then H2.out.2.2.1 LC.out) hr.1 hr.1 hown1 hg2); clear hown1 hg1 hg2 hv1 hr; obtain ⟨y0, y1, y2, y3, y4⟩ := fives CA.out.b0))
    all_goals go_wp2
    all_goals go_meet
    all_goals first
      | with_reducible exact midTy_store CA.out HZR.out.1 NA.out NE.out
      | with_reducible exact midTy_store CA.out HZR.out.2 NA.out NE.out
      | with_reducible exact midTy_alloc CA.out
  case rest =>
    obtain ⟨B, A1, q1, rfl, hB, hKB, hK1, hK0, hO, hne, hbw⟩ := hcut
    have HNE := Lib.hid hne
    have HO1 := Lib.hid hO
    obtain ⟨G, hG⟩ : ∃ G, G = wc.heap.size := ⟨_, rfl⟩
    have HG := Lib.hid hG
    have HG1 := Lib.hid (show ∀ g, (Value.slice A1 ns.length q1).ownBlock = some g → g < G from fun g hg => by have := (hO.1.lt g hg).2; omega)
    have HGl := Lib.hid (show B < G by have := hKB.lt; omega)
    have K2 := Lib.hid hKB
    have K1 := Lib.hid hK1
    have K0 := Lib.hid hK0
    have HBw := Lib.hid hbw
    have HBh := Lib.hid hB
    obtain ⟨c0, c1, c2, c3, c4⟩ := fives K0.out
    clear hne hO hG hKB hK1 hK0 hbw hB H2
    go_wp2_with fail
    clear c0 c1 c2 c3 c4
    go_loopw [20] (fun i wr => ∃ (k : Nat) (vl : Value), k ≤ es.length ∧ i = .int .i64 k ∧ Hid (Blk wr B 26 #[.int .i64 kk, .int .i64 nn, .string nm, .slice A1 ns.length q1, vl]) ∧ Hid (Blk wr (w.heap.size + 1) 26 #[.int .i64 0, .int .i64 0, .string ⟨#[]⟩, .slice none 0 0, .slice none 0 0]) ∧ Hid (Blk wr w.heap.size 26 #[.int .i64 kk, .int .i64 nn, .string nm, .slice A ns.length p, .slice D es.length q]) ∧ Hid (OwnN wr (w.heap.size + 2) (.slice A1 ns.length q1) ns) ∧ Hid (OwnT (fun b => w.heap.size + 2 ≤ b ∧ b ≠ B) wr G vl (es.take k)) ∧ Hid (Below w.heap.size w wr)) (fun i _ => es.length - (intOf i).toNat)
    case atStart => exact ⟨0, .slice none 0 0, Nat.zero_le _, rfl, K2, K1, K0, HO1, OwnT.nil _ (by rw [HG.out]; omega), HBw⟩
    case round =>
      obtain ⟨k, vl, hk, rfl, R2, R1, R0, RO, RV, RB⟩ := hrel
      clear K2 K1 K0 HO1 HBw
      by_cases hlt : k < es.length
      · have hD : D = some ⟨b', o', none⟩ := HD.out.resolve_left (by omega)
        subst hD
        obtain ⟨A2, m2, c2, A3, m3, c3, hva, -, h5⟩ := rowT_at es o' (HV.out.resolve_right (by omega)) k hlt
        obtain ⟨g0, g1, g2, g3, g4⟩ := h5.later RB.out
        have hba := below_alloc wr (.cells #[.int .i64 es[k].kind, .int .i64 es[k].len, .string es[k].name, .slice A2 m2 c2, .slice A3 m3 c3] 26)
        have hbb := Lib.hid (below_drewN hba 1)
        obtain ⟨e0, e1, e2, e3, e4⟩ := fives (R2.out.later hba)
        have HX := Lib.hid (HS.out k hlt _ _ (below_drewN (below_then RB.out hba) 1) (TyC.later (below_drewN (below_then RB.out hba) 1) _ _ hva))
        have d1 : decide ((k : Int) < (es.length : Int)) = true := by rw [decide_eq_true_eq]; omega
        have d2 : decide (k < es.length) = true := by rw [decide_eq_true_eq]; omega
        have hki : (k : Int) < (es.length : Int) := by omega
        have hk0 : (0 : Int) ≤ (k : Int) := by omega
        have hTk := Lib.hid (List.take_succ_eq_append_getElem hlt)
        have HL := Lib.hid (show (es.take k).length < 100000 by rw [List.length_take]; omega)
        have HS3 := Lib.hid (show ∀ b, wr.heap.size ≤ b → w.heap.size + 2 ≤ b ∧ b ≠ B from fun b hb => by have := RV.out.2.2; have := HGl.out; have := HBh.out; omega)
        have HL5 := Lib.hid (show (es.take k ++ [es[k]]).length = k + 1 by rw [List.length_append, List.length_take, List.length_singleton]; omega)
        generalize es[k] = x at *
        clear hva hba h5
        go_wp2_with fail
        go_region_law (first | (refine step_append_ty rfl _ _ rfl G vl (es.take k) x _ _ _ _ rfl rfl (RV.out.kept HB4.out) HP4.out (new_cells5 _ _ _ _ _ _ _) HL.out ?_; intro v5 w5 hown5 hb5 hg5 ho5; obtain ⟨A5, q5, hv5⟩ := hown5.shape; rw [HL5.out] at hv5; subst hv5; have R5 := Lib.hid ((R2.out.later HB4.out).keep (hb5 _ (Nat.le_refl _)) HGl.out); obtain ⟨s0, s1, s2, s3, s4⟩ := fives R5.out; have sf := R5.out.free 4; have HV5 := Lib.hid hown5; have HB5 := Lib.hid (hb5 _ (Nat.le_refl _)); clear hown5 hb5 hg5 ho5) | (go_simp; go_at_call 15; refine (HX.out).mono ?_; rintro e w3 ⟨vb3, vl3, rfl, ho3, hv3, hb3⟩; have HP4 := Lib.hid (TyP.later (freshT_part (S := fun b => w.heap.size + 2 ≤ b ∧ b ≠ B) RV.out hbb.out ho3 hv3 HS3.out) (below_alloc w3 (.cells #[.int .i64 x.kind, .int .i64 x.len, .string x.name, vb3, vl3] 26))); have HB4 := Lib.hid (below_then (below_then hbb.out hb3) (below_alloc w3 (.cells #[.int .i64 x.kind, .int .i64 x.len, .string x.name, vb3, vl3] 26))); obtain ⟨t0, t1, t2, t3, t4⟩ := fives (R2.out.later (below_then hbb.out hb3)); obtain ⟨z0, z1, z2, z3, z4⟩ := fives (R2.out.later HB4.out); clear ho3 hv3 hb3))
        all_goals
          go_wp2
          go_roundw
          case rel =>
            refine ⟨k + 1, _, by omega, by go_num, R5.out.set 4 _, ((R1.out.later HB4.out).keep HB5.out (by have := HGl.out; have := HBh.out; omega)).other (show B ≠ w.heap.size + 1 by have := HBh.out; omega) _, ((R0.out.later HB4.out).keep HB5.out (by have := HGl.out; have := HBh.out; omega)).other (show B ≠ w.heap.size by have := HBh.out; omega) _, OwnN.far (OwnN.turn (RO.out.kept HB4.out) HB5.out.size (fun g hg => HB5.out.block g (HG1.out g hg))) HNE.out _, ?_, ((RB.out.trans (HB4.out.mono RB.out.size)).trans (HB5.out.mono (by have := HGl.out; have := HBh.out; omega))).setCell (show w.heap.size ≤ B by have := HBh.out; omega) _⟩
            rw [hTk.out]
            exact HV5.out.setLow (a := ⟨B, 4, none⟩) HGl.out (fun b hb => hb.2) _
          case measure => simp [intOf]; omega
      · obtain rfl : k = es.length := by omega
        have hlk := RV.out
        rw [List.take_length] at hlk
        obtain ⟨A6, q6, hv6⟩ := hlk.shape
        subst hv6
        have HV6 := Lib.hid hlk
        obtain ⟨e0, e1, e2, e3, e4⟩ := fives R2.out
        obtain ⟨c0, c1, c2, c3, c4⟩ := fives R1.out
        have f0 := R1.out.free 0
        have f1 := R1.out.free 1
        have f2 := R1.out.free 2
        have f3 := R1.out.free 3
        have f4 := R1.out.free 4
        clear hlk
        go_wp2
        refine bodyPost_ret (by simp [results, Tryz.results15, go_sem, c0, c1, c2, c3, c4]; try rfl) rfl ?_
        have hs1 : w.heap.size + 1 < w.heap.size + 2 := by omega
        have hs2 : ∀ b, w.heap.size + 2 ≤ b ∧ b ≠ B → b ≠ w.heap.size + 1 := fun b hb => by omega
        have hs3 : w.heap.size + 1 < G := by have := HGl.out; have := HBh.out; omega
        have hs4 : w.heap.size ≤ w.heap.size + 1 := by omega
        refine ⟨_, _, rfl, (((((RO.out.setLow (a := ⟨_, _, none⟩) hs1 _).setLow (a := ⟨_, _, none⟩) hs1 _).setLow (a := ⟨_, _, none⟩) hs1 _).setLow (a := ⟨_, _, none⟩) hs1 _).setLow (a := ⟨_, _, none⟩) hs1 _).weak (by omega), (((((HV6.out.setLow (a := ⟨_, _, none⟩) hs3 hs2 _).setLow (a := ⟨_, _, none⟩) hs3 hs2 _).setLow (a := ⟨_, _, none⟩) hs3 hs2 _).setLow (a := ⟨_, _, none⟩) hs3 hs2 _).setLow (a := ⟨_, _, none⟩) hs3 hs2 _).weak (by omega) (fun b hb => by omega), set5_below RB.out hs4 _ _ _ _ _⟩
theorem copyType_upto : ∀ (n : Nat) (t : Ty) (cs : List Value) (w : World), SizeOf.sizeOf t < n → smT t → TyC w t cs → Calls Tryz.prog 15 #[.agg cs.toArray] w (CopyTyOf w t)
  | 0, _, _, _, h, _, _ => absurd h (Nat.not_lt_zero _)
  | n + 1, .mk k l nm ns es, cs, w, hz, hs, h => by
    obtain ⟨h1, h2, h3, h4, h5⟩ := (smT_def _ _ _ _ _).1 hs
    obtain ⟨A, x, c, B, y, d, rfl, rfl, rfl, hS, hT⟩ := tyC_open h
    obtain ⟨b', o', hD, hV⟩ := ty_rows hT
    exact copyType_at k l nm A B c d b' o' ns es w hS (by show ns.length ≤ 10000; have h2 : ns.length ≤ 40 := h2; omega) (by have h3 : es.length ≤ 3 := h3; omega) hD hV (fun j hj u cs hu hc => copyType_upto n _ cs u (size_inT hz (List.getElem_mem hj)) (h5 _ (List.getElem_mem hj)) hc)
theorem copyType_any (t : Ty) (cs : List Value) (w : World) (hs : smT t) (h : TyC w t cs) : Calls Tryz.prog 15 #[.agg cs.toArray] w (CopyTyOf w t) := copyType_upto _ t cs w (Nat.lt_succ_self _) hs h
/-- A copy of a type, as any other type. -/
theorem copyTy_c {u w' : World} {t : Ty} {e : Ending} (h : CopyTyOf u t e w') : ∃ A n c B m d, e = .returned (.agg #[.int .i64 t.kind, .int .i64 t.len, .string t.name, .slice A n c, .slice B m d]) ∧ TyC w' t [.int .i64 t.kind, .int .i64 t.len, .string t.name, .slice A n c, .slice B m d] ∧ Below u.heap.size u w' := by
  obtain ⟨vn, vl, rfl, ho, hv, hb⟩ := h
  obtain ⟨A, c, e1⟩ := ho.shape
  obtain ⟨B, d, e2⟩ := hv.shape
  subst e1
  subst e2
  obtain ⟨k, l, nm, ns, es⟩ := t
  exact ⟨_, _, _, _, _, _, rfl, TyP.toC _ _ (tyP_iff.2 ⟨_, _, rfl, ho.strP (S := fun _ => True) (fun _ _ _ => trivial), hv.tys (fun _ _ _ => trivial) (fun _ _ _ => trivial)⟩), hb⟩
end Go.Proofs.YtdiagnhdigakpaaGreatDoor
