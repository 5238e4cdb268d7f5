/- The frame of every law's proof: a call that returns true and leaves all that was there as it was meets the row; and how the arguments are opened. -/
import Derived.Test.YtfjeljehodbbmaaDoorLaid
import Derived.Test.YtfjeljehodbbmaaDoorPc
import Derived.SevenTiedAt
import Derived.SizedLaws
import Derived.Deep.Slices
import Derived.Deep.Fields
import Derived.ChangeSame
namespace Go.Proofs.YtfjeljehodbbmaaDoor
open Go.ChangeShapes Go.WideShapes Go.ChangeAt Go.WideMaps Go.WideElems Go.RowKit

theorem Tryd.laidOut : laidOutB Tryd.prog = true := by kernel_rfl

theorem trodAll_stays {H : Type} {enc : TypeId × Value → H} {W W' : World} (hb : Below W.heap.size W W') (sp : Nat → Bool) :
    ∀ {ts : List TypeId} {vs : List Value} {ds : List (DataW H)} {ps : List MemPlace}, (∀ t ∈ ts, Tryd.prog.readableRec t = true ∧ t < Tryd.prog.types.size) →
      DataW.TrodAll enc Tryd.prog W 0 (fun _ => true) true ts vs ds ps → (∀ x ∈ ps, x.block < W.heap.size) → (∀ x ∈ ps, sp x.block = true) → DataW.TrodAll enc Tryd.prog W' 0 sp true ts vs ds ps
  | [], [], [], _, _, h, _, _ => h
  | t :: ts, v :: vs, d :: ds, ps, hts, h, hlt, hsp => by
    obtain ⟨p, q, h1, h2, rfl⟩ := h
    refine ⟨p, q, Trod_stays Tryd.laidOut (hts t (by simp)).1 (hts t (by simp)).2 h1 (fun x hx => hb.same (hlt x (by simp [hx]))) (fun x hx => hsp x (by simp [hx])), ?_, rfl⟩
    exact trodAll_stays hb sp (fun t' ht' => hts t' (by simp [ht'])) h2 (fun x hx => hlt x (by simp [hx])) (fun x hx => hsp x (by simp [hx]))
  | [], _ :: _, _, _, _, h, _, _ => by cases h
  | [], [], _ :: _, _, _, h, _, _ => by cases h
  | _ :: _, [], _, _, _, h, _, _ => by cases h
  | _ :: _, _ :: _, [], _, _, h, _, _ => by cases h

/-- A call that returned true, and left all that was there as it was, meets a law's row. -/
theorem law_post {H : Type} {enc : TypeId × Value → H} {f : Func} {s : ChangeSpec} {W W' : World} {args : Array Value} {ds : List (DataW H)} {before : List MemPlace} (hts : ∀ t ∈ f.params.toList, Tryd.prog.readableRec t = true ∧ t < Tryd.prog.types.size)
    (hres : f.resultTypes = #[4]) (hv : s.vars = []) (hfn : s.fn H (ds ++ []) = { results := [.lit (.bool true)], args := ds })
    (hA : DataW.TrodAll enc Tryd.prog W 0 (fun _ => true) true f.params.toList args.toList ds before)
    (hW : DataW.Whole enc Tryd.prog f.params.toList s.vars false W args.toList ds [] before) (hb : Below W.heap.size W W') :
    s.post enc Tryd.prog f false true false false W args (.bool true) W' := by
  have hlt : ∀ p ∈ before, p.block < W.heap.size := fun p hp => hW.lt p hp
  refine ⟨ds, [], before, [], before, [], hW, ?_, ?_, ?_, World.keptBut_mono (fun p hp => ⟨hp, .inr (.inl hp)⟩) (hb.frame (· ∈ before)), fun h => by cases h⟩
  · rw [hfn, hres]
    exact trodAll_mk1 (shut_bool Tryd.underlying4 true)
  · rw [hfn]
    exact trodAll_stays hb _ hts hA hlt (fun x hx => by simpa using hlt x hx)
  · rw [hfn, hv]
    rfl

theorem types_ok (ts : List TypeId) (h : (ts.all fun t => Tryd.prog.readableRec t && decide (t < Tryd.prog.types.size)) = true) : ∀ t ∈ ts, Tryd.prog.readableRec t = true ∧ t < Tryd.prog.types.size := by
  intro t ht
  have := List.all_eq_true.1 h t ht
  simpa using this
theorem stand_ok (ts : List TypeId) (h : (ts.all fun t => !Tryd.prog.wantsStandIn t) = true) (t : TypeId) (ht : t ∈ ts) : Tryd.prog.wantsStandIn t = false := by
  have := List.all_eq_true.1 h t ht
  simpa using this
theorem u8_nat {x : Int} (h : (Lit.int .u8 x).wf = true) : ∃ n : Nat, x = n ∧ n < 256 := by
  have h1 := bounds_u8 h
  exact ⟨x.toNat, by omega, by omega⟩

/-- The numbers of bytes in the arguments that lie in memory are within the form's reach. -/
theorem reach_num : reachBytes = 140737488351232 := rfl
theorem bytesTok : Tryd.prog.bytesOf 40 = 48 := by kernel_rfl
theorem bytesU8 : Tryd.prog.bytesOf 5 = 1 := by kernel_rfl
theorem cTok : Tryd.prog.cellsOf 40 = 5 := by kernel_rfl
theorem cU8 : Tryd.prog.cellsOf 5 = 1 := by kernel_rfl
theorem cInt : Tryd.prog.cellsOf 3 = 1 := by kernel_rfl
theorem cOp : Tryd.prog.cellsOf 38 = 1 := by kernel_rfl
/-- A string that came in is within the form's reach. -/
theorem str_reach {s : ByteArray} {l : Nat} (h : l ≤ reachBytes) (e : l = s.data.toList.length) : s.size ≤ 140737488355328 := by
  rw [reach_num] at h
  have e1 : s.size = s.data.size := rfl
  have e2 : s.data.toList.length = s.data.size := Array.length_toList
  omega

/-- A token in five cells that can be read. -/
def TokCells (w : World) (b o : Nat) (a : TokA) : Prop :=
  (w.cell? ⟨b, o, none⟩ = some (.int .i64 a.op) ∧ w.cell? ⟨b, o + 1, none⟩ = some (.string a.text) ∧ w.cell? ⟨b, o + 2, none⟩ = some (.int .i64 a.n) ∧ w.cell? ⟨b, o + 3, none⟩ = some (.int .i64 a.line) ∧ w.cell? ⟨b, o + 4, none⟩ = some (.int .i64 a.col)) ∧ -9223372036854775808 ≤ a.n ∧ a.n ≤ 9223372036854775807
set_option maxRecDepth 100000 in
theorem tok_read {H : Type} {enc : TypeId × Value → H} {w : World} {base : Nat} {sp : Nat → Bool} {held : Bool} {fuel : Nat} {cs : List Value} {x : DataW H × List MemPlace} {b o : Nat}
    (h : DataW.trod enc Tryd.prog w base sp held fuel 40 cs = some x) (hc : ∀ i, i < 5 → w.cell? ⟨b, o + i, none⟩ = cs[i]?) : ∃ a : TokA, TokCells w b o a := by
  obtain ⟨xs, n, _, _, hl, hxl, hf⟩ := DataW.trod_struct Tryd.underlying40 h
  rw [cTok] at hl
  have g : ∀ k, k < 5 → ∃ y, xs[k]? = some y := fun k hk => ⟨_, List.getElem?_eq_getElem (by rw [hxl]; exact hk)⟩
  have s : ∀ k, k < 5 → ∃ u, cs[k]? = some u ∧ (cs.drop k).take 1 = [u] := fun k hk => ⟨_, List.getElem?_eq_getElem (by omega), by rw [List.drop_eq_getElem_cons (by omega)]; rfl⟩
  obtain ⟨y0, e0⟩ := g 0 (by decide)
  obtain ⟨y1, e1⟩ := g 1 (by decide)
  obtain ⟨y2, e2⟩ := g 2 (by decide)
  obtain ⟨y3, e3⟩ := g 3 (by decide)
  obtain ⟨y4, e4⟩ := g 4 (by decide)
  obtain ⟨u0, a0, b0⟩ := s 0 (by decide)
  obtain ⟨u1, a1, b1⟩ := s 1 (by decide)
  obtain ⟨u2, a2, b2⟩ := s 2 (by decide)
  obtain ⟨u3, a3, b3⟩ := s 3 (by decide)
  obtain ⟨u4, a4, b4⟩ := s 4 (by decide)
  have f0 : DataW.trod enc Tryd.prog w base sp held n 38 ((cs.drop 0).take (Tryd.prog.cellsOf 38)) = xs[0]? := hf 0 _ rfl
  have f1 : DataW.trod enc Tryd.prog w base sp held n 9 ((cs.drop 1).take (Tryd.prog.cellsOf 9)) = xs[1]? := hf 1 _ rfl
  have f2 : DataW.trod enc Tryd.prog w base sp held n 3 ((cs.drop 2).take (Tryd.prog.cellsOf 3)) = xs[2]? := hf 2 _ rfl
  have f3 : DataW.trod enc Tryd.prog w base sp held n 3 ((cs.drop 3).take (Tryd.prog.cellsOf 3)) = xs[3]? := hf 3 _ rfl
  have f4 : DataW.trod enc Tryd.prog w base sp held n 3 ((cs.drop 4).take (Tryd.prog.cellsOf 3)) = xs[4]? := hf 4 _ rfl
  rw [cOp, b0, e0] at f0
  rw [cStr, b1, e1] at f1
  rw [cInt, b2, e2] at f2
  rw [cInt, b3, e3] at f3
  rw [cInt, b4, e4] at f4
  obtain ⟨z0, r0, _, _⟩ := DataW.trod_int Tryd.underlying38 f0
  obtain ⟨z1, r1, _, _⟩ := DataW.trod_string Tryd.underlying9 f1
  obtain ⟨z2, r2, _, w2⟩ := DataW.trod_int Tryd.underlying3 f2
  obtain ⟨z3, r3, _, _⟩ := DataW.trod_int Tryd.underlying3 f3
  obtain ⟨z4, r4, _, _⟩ := DataW.trod_int Tryd.underlying3 f4
  obtain rfl := List.singleton_inj.1 r0
  obtain rfl := List.singleton_inj.1 r1
  obtain rfl := List.singleton_inj.1 r2
  obtain rfl := List.singleton_inj.1 r3
  obtain rfl := List.singleton_inj.1 r4
  have hb := bounds_i64 w2
  exact ⟨⟨z0, z1, z2, z3, z4⟩, ⟨(hc 0 (by decide)).trans a0, (hc 1 (by decide)).trans a1, (hc 2 (by decide)).trans a2, (hc 3 (by decide)).trans a3, (hc 4 (by decide)).trans a4⟩, hb.1, hb.2⟩
set_option maxRecDepth 100000 in
/-- A slice of tokens that can be read, reads as a list of tokens. -/
theorem tls_open {H : Type} {enc : TypeId × Value → H} {W : World} {base : Nat} {r : Reach} {v : Value} {d : DataW H} {ps : List MemPlace} (hv : Value.okWide Tryd.prog W r base 24 v)
    (h : DataW.Trod enc Tryd.prog W 0 (fun _ => true) true 24 v d ps) (hsz : ∀ elems spare, d = .slice elems spare → (elems.length + spare.length) * Tryd.prog.bytesOf 40 ≤ reachBytes) : ∃ l, Tls W v l ∧ NumOk l := by
  obtain ⟨a0, len, cap, rfl⟩ := okWide_slice Tryd.underlying24 hv
  obtain ⟨fuel, hf⟩ := h
  rcases Go.Deep.open_slice Tryd.underlying24 hf with ⟨hcs, hx⟩ | ⟨a, len', cap', m, n, D, Pl, hcs, _, hl, _, hmm, hx, hi⟩
  · simp [Value.cells] at hcs
    obtain ⟨rfl, rfl, rfl⟩ := hcs
    exact ⟨[], ⟨none, 0, rfl, by simp, by simp, .inl rfl⟩, by intro a ha; cases ha⟩
  · simp [Value.cells] at hcs
    obtain ⟨rfl, rfl, rfl⟩ := hcs
    simp only [if_true] at hmm
    subst hmm
    simp only [Prod.mk.injEq] at hx
    have hr := hsz _ _ hx.1
    rw [bytesTok, reach_num] at hr
    simp at hr
    have hl47 : len ≤ 140737488355328 := by omega
    by_cases h0 : 0 < len
    · have hone : ∃ b o, a = ⟨b, o, none⟩ := by
        obtain ⟨cs', hc', ht'⟩ := hi 0 (by omega)
        rw [cTok] at hc'
        obtain ⟨_, hlen, hat⟩ := World.cells?_some hc'
        have h1 := hat 0 (by decide)
        rw [List.getElem?_eq_getElem (by omega)] at h1
        obtain ⟨b, o, spot⟩ := a
        have hs : spot = none := by simpa [Addr.add] using World.cell?_spot h1
        exact ⟨b, o, by rw [hs]⟩
      obtain ⟨b, o, rfl⟩ := hone
      have key : ∀ i, ∃ t : TokA, i < len → TokCells W b (o + i * 5) t := by
        intro i
        by_cases hil : i < len
        · obtain ⟨cs', hc', ht'⟩ := hi i (by omega)
          rw [cTok] at hc'
          obtain ⟨_, _, hat⟩ := World.cells?_some hc'
          obtain ⟨t, ht⟩ := tok_read (b := b) (o := o + i * 5) ht' (fun k hk => by
            rw [← hat k hk, add_plain, add_plain])
          exact ⟨t, fun _ => ht⟩
        · exact ⟨⟨0, ⟨#[]⟩, 0, 0, 0⟩, fun h => absurd h hil⟩
      have hlen : ((List.range len).map fun i => Classical.choose (key i)).length = len := by simp
      have hget : ∀ (k : Nat) (hk : k < ((List.range len).map fun i => Classical.choose (key i)).length), TokCells W b (o + k * 5) (((List.range len).map fun i => Classical.choose (key i))[k]) := by
        intro k hk
        rw [List.getElem_map, List.getElem_range]
        exact Classical.choose_spec (key k) (by rw [hlen] at hk; exact hk)
      generalize ((List.range len).map fun i => Classical.choose (key i)) = l at hlen hget
      subst hlen
      refine ⟨l, ⟨_, _, rfl, hl, hl47, .inr ⟨b, o, rfl, fun k hk => (hget k hk).1⟩⟩, ?_⟩
      intro t ht
      obtain ⟨k, hk, rfl⟩ := List.getElem_of_mem ht
      exact (hget k hk).2
    · have : len = 0 := by omega
      subst this
      exact ⟨[], ⟨_, _, rfl, hl, by simp, .inl rfl⟩, by intro a ha; cases ha⟩
set_option maxRecDepth 100000 in
/-- A slice of bytes that can be read, reads as a list of numbers. -/
theorem bls_open {H : Type} {enc : TypeId × Value → H} {W : World} {base : Nat} {r : Reach} {v : Value} {d : DataW H} {ps : List MemPlace} (hv : Value.okWide Tryd.prog W r base 32 v)
    (h : DataW.Trod enc Tryd.prog W 0 (fun _ => true) true 32 v d ps) (hsz : ∀ elems spare, d = .slice elems spare → (elems.length + spare.length) * Tryd.prog.bytesOf 5 ≤ reachBytes) : ∃ gs, Bls W v gs := by
  obtain ⟨a0, len, cap, rfl⟩ := okWide_slice Tryd.underlying32 hv
  obtain ⟨fuel, hf⟩ := h
  rcases open_ints Tryd.underlying32 Tryd.underlying5 cU8 hf with ⟨hcs, hx⟩ | ⟨a, len', cap', zs, hcs, _, hl, hm, hz, hx, hcell, hwz⟩
  · simp [Value.cells] at hcs
    obtain ⟨rfl, rfl, rfl⟩ := hcs
    exact ⟨[], none, 0, rfl, by simp, by simp, .inl rfl⟩
  · simp [Value.cells] at hcs
    obtain ⟨rfl, rfl, rfl⟩ := hcs
    simp only [Prod.mk.injEq] at hx
    simp at hz
    have hr := hsz _ _ hx.1
    rw [bytesU8, reach_num] at hr
    simp [lits] at hr
    have hlen : (zs.take len).length = len := by simp; omega
    have hl47 : len ≤ 140737488355328 := by omega
    refine ⟨(zs.take len).map Int.toNat, some a, cap, by simp; omega, by simp; omega, ?_, ?_⟩
    · intro z hzm
      obtain ⟨x, hxm, rfl⟩ := List.mem_map.1 hzm
      have := bounds_u8 (hwz x (List.mem_of_mem_take hxm))
      omega
    · by_cases h0 : 0 < len
      · obtain ⟨b, off, rfl, hc⟩ := ints_at hcell (by omega)
        refine .inr ⟨b, off, rfl, fun k hk => ?_⟩
        simp at hk
        rw [hc k (by omega)]
        have hk' : k < zs.length := by omega
        have hb := bounds_u8 (hwz zs[k] (List.getElem_mem hk'))
        simp [List.getD, List.getElem?_eq_getElem hk']
        omega
      · left
        have : len = 0 := by omega
        subst this
        simp
end Go.Proofs.YtfjeljehodbbmaaDoor
