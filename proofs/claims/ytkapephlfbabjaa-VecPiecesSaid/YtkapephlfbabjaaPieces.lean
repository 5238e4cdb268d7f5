/- VecPieces: Cat, Slice and Put return what the chapter says, for any bits and places; no condition. -/
import Derived.Test.YtkapephlfbabjaaLaw
import Derived.Test.YtkapephlfbabjaaAwake
import Derived.Test.YtkapephlfbabjaaLong
import Derived.Test.YtkapephlfbabjaaRefB
import Derived.Test.YtkapephlfbabjaaRefC
namespace Go.Proofs.Ytkapephlfbabjaa
open Go.ChangeShapes Go.WideShapes Go.ChangeAt Go.WideMaps Go.WideElems Go.RowKit
open Go.ChangeMaps (open_string)

theorem cTwo : Try.prog.cellsOf 41 = 2 := by kernel_rfl
theorem cInt : Try.prog.cellsOf 3 = 1 := by kernel_rfl
/-- An array of two ints, opened. -/
theorem two_open {H : Type} {enc : TypeId × Value → H} {W : World} {base : Nat} {r : Reach} {v : Value} {d : DataW H} {ps : List MemPlace} (hv : Value.okWide Try.prog W r base 41 v)
    (h : DataW.Trod enc Try.prog W 0 (fun _ => true) true 41 v d ps) : ∃ a b : Int, v = .agg #[.int .i64 a, .int .i64 b] := by
  obtain ⟨cs, rfl, hcs⟩ : ∃ cs, v = .agg cs ∧ cs.size = 2 := by
    simp only [Value.okWide, Try.underlying41] at hv
    obtain ⟨cs, h1, h2, _⟩ := hv
    exact ⟨cs, h1, h2.trans cTwo⟩
  obtain ⟨v0, v1, rfl⟩ : ∃ v0 v1, cs = #[v0, v1] := by
    obtain ⟨l⟩ := cs
    match l, hcs with
    | [a, b], _ => exact ⟨a, b, rfl⟩
  obtain ⟨fuel, hf⟩ := h
  obtain ⟨xs, m, rfl, hx, _, hn, hel⟩ := DataW.trod_array Try.underlying41 hf
  rw [cInt] at hel
  match xs, hn, hel with
  | [x0, x1], _, hel =>
    have e0 := hel 0 (by decide)
    have e1 := hel 1 (by decide)
    simp [Value.cells] at e0 e1
    obtain ⟨i, k0, _, w0⟩ := DataW.trod_int Try.underlying3 e0
    obtain ⟨j, k1, _, w1⟩ := DataW.trod_int Try.underlying3 e1
    simp at k0 k1
    subst k0 k1
    exact ⟨i, j, rfl⟩

set_option maxHeartbeats 4000000 in
theorem pieces_short (u v : Value) (a b : List Nat) (i j : Int) (w : World) (hu : Sl w u a) (hv : Sl w v b) (hlong : longB [a, b] = false) :
    Calls Try.prog 6 #[u, v, .agg #[.int .i64 i, .int .i64 j]] w fun e w' => e = .returned (.bool true) ∧ Below w.heap.size w w' := by
  obtain ⟨A, c, hA, hn, _⟩ := id hu
  obtain ⟨A', c', hA', hn', _⟩ := id hv
  subst hA
  subst hA'
  have c0 : (w.alloc (.cells #[.int .i64 i, .int .i64 j] 41)).cell? ⟨w.heap.size, 0, none⟩ = some (.int .i64 i) := by rw [World.cell?_alloc_at _ _ _ _ rfl]; rfl
  have c1 : (w.alloc (.cells #[.int .i64 i, .int .i64 j] 41)).cell? ⟨w.heap.size, 1, none⟩ = some (.int .i64 j) := by rw [World.cell?_alloc_at _ _ _ _ rfl]; rfl
  have hbN : Hid (∀ n, Below w.heap.size w ((w.alloc (.cells #[.int .i64 i, .int .i64 j] 41)).drewN n)) := fun n => below_drewN (below_alloc w (.cells #[.int .i64 i, .int .i64 j] 41)) n
  have HU := Lib.hid hu
  have HV := Lib.hid hv
  clear hu hv
  go_enter Try.func6, Try.ntmps6
  go_wp2_with fail
  go_quiet (fail)
  generalize hW1 : World.drewN _ _ = W1
  have hb1 : Below w.heap.size w W1 := hW1 ▸ hbN.out _
  have hu1 := HU.out.later hb1
  have hv1 := HV.out.later hb1
  have HLo := Lib.hid (long_two hu1 hv1 hlong)
  have Hu0 := Lib.hid (hu1.later (below_alloc W1 (.cells #[.slice A a.length c, .slice A' b.length c'] 22)))
  have Hv0 := Lib.hid (hv1.later (below_alloc W1 (.cells #[.slice A a.length c, .slice A' b.length c'] 22)))
  have HB0 := Lib.hid (below_then hb1 (below_alloc W1 (.cells #[.slice A a.length c, .slice A' b.length c'] 22)))
  clear hlong hb1 hu1 hv1 HU HV hbN hW1 c0 c1
  go_wp2_with fail
  refine (HLo.out).mono ?_
  rintro e w' ⟨rfl, rfl⟩
  generalize W1.alloc _ = W0 at *
  go_wp2_with fail
  refine (copied_any _ a _ Hu0.out).mono ?_
  rintro e v1 ⟨x, rfl, sx, hb1⟩
  have HB1 := Lib.hid (below_then HB0.out hb1)
  have Hu1 := Lib.hid (Hu0.out.later hb1)
  have Hv1 := Lib.hid (Hv0.out.later hb1)
  have Hx1 := Lib.hid sx.sl
  clear hb1 sx Hu0 Hv0 HB0
  go_wp2_with fail
  refine (copied_any _ b _ Hv1.out).mono ?_
  rintro e v2 ⟨y, rfl, sy, hb2⟩
  have HB2 := Lib.hid (below_then HB1.out hb2)
  have Hu2 := Lib.hid (Hu1.out.later hb2)
  have Hv2 := Lib.hid (Hv1.out.later hb2)
  have Hx2 := Lib.hid (Hx1.out.later hb2)
  have Hy2 := Lib.hid sy.sl
  clear hb2 sy Hu1 Hv1 Hx1 HB1
  go_wp2_with fail
  refine (cat_any _ _ a b _ Hx2.out Hy2.out).mono ?_
  rintro e v3 ⟨p, rfl, sp, hb3⟩
  have HB3 := Lib.hid (below_then HB2.out hb3)
  have Hu3 := Lib.hid (Hu2.out.later hb3)
  have Hv3 := Lib.hid (Hv2.out.later hb3)
  have Hx3 := Lib.hid (Hx2.out.later hb3)
  have Hy3 := Lib.hid (Hy2.out.later hb3)
  have Hp3 := Lib.hid sp
  clear hb3 sp Hu2 Hv2 Hx2 Hy2 HB2
  go_wp2_with fail
  refine (refCat_any _ _ a b _ Hu3.out Hv3.out).mono ?_
  rintro e v4 ⟨q, rfl, sq, hb4⟩
  have HB4 := Lib.hid (below_then HB3.out hb4)
  have Hu4 := Lib.hid (Hu3.out.later hb4)
  have Hv4 := Lib.hid (Hv3.out.later hb4)
  have Hx4 := Lib.hid (Hx3.out.later hb4)
  have Hy4 := Lib.hid (Hy3.out.later hb4)
  have Hp4 := Lib.hid (Hp3.out.later hb4)
  have Hq4 := Lib.hid sq
  clear hb4 sq Hu3 Hv3 Hx3 Hy3 Hp3 HB3
  go_wp2_with fail
  refine (same_at (catV a b) _ _ _ Hp4.out Hq4.out).mono ?_
  rintro e v5 ⟨rfl, hb5⟩
  have HB5 := Lib.hid (below_then HB4.out hb5)
  have Hu5 := Lib.hid (Hu4.out.later hb5)
  have Hv5 := Lib.hid (Hv4.out.later hb5)
  have Hx5 := Lib.hid (Hx4.out.later hb5)
  have Hy5 := Lib.hid (Hy4.out.later hb5)
  have Hp5 := Lib.hid (Hp4.out.later hb5)
  have Hq5 := Lib.hid (Hq4.out.later hb5)
  clear hb5 Hu4 Hv4 Hx4 Hy4 Hp4 Hq4 HB4
  generalize catE a b = ce
  go_wp2_with fail
  refine (slice_any _ a i j _ Hx5.out).mono ?_
  rintro e v6 ⟨p, rfl, sp, hb6⟩
  have HB6 := Lib.hid (below_then HB5.out hb6)
  have Hu6 := Lib.hid (Hu5.out.later hb6)
  have Hv6 := Lib.hid (Hv5.out.later hb6)
  have Hx6 := Lib.hid (Hx5.out.later hb6)
  have Hy6 := Lib.hid (Hy5.out.later hb6)
  have Hp6 := Lib.hid sp
  clear hb6 sp Hu5 Hv5 Hx5 Hy5 HB5
  go_wp2_with fail
  refine (refSlice_any _ a i j _ Hu6.out).mono ?_
  rintro e v7 ⟨q, rfl, sq, hb7⟩
  have HB7 := Lib.hid (below_then HB6.out hb7)
  have Hu7 := Lib.hid (Hu6.out.later hb7)
  have Hv7 := Lib.hid (Hv6.out.later hb7)
  have Hx7 := Lib.hid (Hx6.out.later hb7)
  have Hy7 := Lib.hid (Hy6.out.later hb7)
  have Hp7 := Lib.hid (Hp6.out.later hb7)
  have Hq7 := Lib.hid sq
  clear hb7 sq Hu6 Hv6 Hx6 Hy6 Hp6 HB6
  go_wp2_with fail
  refine (same_at (slcV a i j) _ _ _ Hp7.out Hq7.out).mono ?_
  rintro e v8 ⟨rfl, hb8⟩
  have HB8 := Lib.hid (below_then HB7.out hb8)
  have Hu8 := Lib.hid (Hu7.out.later hb8)
  have Hv8 := Lib.hid (Hv7.out.later hb8)
  have Hx8 := Lib.hid (Hx7.out.later hb8)
  have Hy8 := Lib.hid (Hy7.out.later hb8)
  have Hp8 := Lib.hid (Hp7.out.later hb8)
  have Hq8 := Lib.hid (Hq7.out.later hb8)
  clear hb8 Hu7 Hv7 Hx7 Hy7 Hp7 Hq7 HB7
  generalize slcE a i j = se
  go_wp2_with fail
  refine (put_any _ _ a b i j _ Hx8.out Hy8.out).mono ?_
  rintro e v9 ⟨p, rfl, sp, hb9⟩
  have HB9 := Lib.hid (below_then HB8.out hb9)
  have Hu9 := Lib.hid (Hu8.out.later hb9)
  have Hv9 := Lib.hid (Hv8.out.later hb9)
  have Hx9 := Lib.hid (Hx8.out.later hb9)
  have Hy9 := Lib.hid (Hy8.out.later hb9)
  have Hp9 := Lib.hid sp
  clear hb9 sp Hu8 Hv8 Hx8 Hy8 HB8
  go_wp2_with fail
  refine (refPut_any _ _ a b i j _ Hu9.out Hv9.out).mono ?_
  rintro e v10 ⟨q, rfl, sq, hb10⟩
  have HB10 := Lib.hid (below_then HB9.out hb10)
  have Hu10 := Lib.hid (Hu9.out.later hb10)
  have Hv10 := Lib.hid (Hv9.out.later hb10)
  have Hx10 := Lib.hid (Hx9.out.later hb10)
  have Hy10 := Lib.hid (Hy9.out.later hb10)
  have Hp10 := Lib.hid (Hp9.out.later hb10)
  have Hq10 := Lib.hid sq
  clear hb10 sq Hu9 Hv9 Hx9 Hy9 Hp9 HB9
  go_wp2_with fail
  refine (same_at (putV a i j b) _ _ _ Hp10.out Hq10.out).mono ?_
  rintro e v11 ⟨rfl, hb11⟩
  have HB11 := Lib.hid (below_then HB10.out hb11)
  have Hu11 := Lib.hid (Hu10.out.later hb11)
  have Hv11 := Lib.hid (Hv10.out.later hb11)
  have Hx11 := Lib.hid (Hx10.out.later hb11)
  have Hy11 := Lib.hid (Hy10.out.later hb11)
  have Hp11 := Lib.hid (Hp10.out.later hb11)
  have Hq11 := Lib.hid (Hq10.out.later hb11)
  clear hb11 Hu10 Hv10 Hx10 Hy10 Hp10 Hq10 HB10
  generalize putE a i j b = pe
  go_wp2_with fail
  refine (same_at a _ _ _ Hu11.out Hx11.out).mono ?_
  rintro e v12 ⟨rfl, hb12⟩
  have HB12 := Lib.hid (below_then HB11.out hb12)
  have Hu12 := Lib.hid (Hu11.out.later hb12)
  have Hv12 := Lib.hid (Hv11.out.later hb12)
  have Hx12 := Lib.hid (Hx11.out.later hb12)
  have Hy12 := Lib.hid (Hy11.out.later hb12)
  clear hb12 Hu11 Hv11 Hx11 Hy11 HB11
  go_wp2_with fail
  refine (same_at b _ _ _ Hv12.out Hy12.out).mono ?_
  rintro e v13 ⟨rfl, hb13⟩
  have HB13 := Lib.hid (below_then HB12.out hb13)
  have Hu13 := Lib.hid (Hu12.out.later hb13)
  have Hv13 := Lib.hid (Hv12.out.later hb13)
  have Hx13 := Lib.hid (Hx12.out.later hb13)
  have Hy13 := Lib.hid (Hy12.out.later hb13)
  clear hb13 Hu12 Hv12 Hx12 Hy12 HB12
  go_wp2_with fail
  refine (awake_any _).mono ?_
  rintro e v14 ⟨rfl, hb14⟩
  have HB14 := Lib.hid (below_then HB13.out hb14)
  have Hu14 := Lib.hid (Hu13.out.later hb14)
  have Hv14 := Lib.hid (Hv13.out.later hb14)
  have Hx14 := Lib.hid (Hx13.out.later hb14)
  have Hy14 := Lib.hid (Hy13.out.later hb14)
  clear hb14 Hu13 Hv13 Hx13 Hy13 HB13
  go_wp2
  go_ret
  exact ⟨rfl, HB14.out⟩
theorem pieces_long (u v : Value) (a b : List Nat) (i j : Int) (w : World) (hu : Sl w u a) (hv : Sl w v b) (hlong : longB [a, b] = true) :
    Calls Try.prog 6 #[u, v, .agg #[.int .i64 i, .int .i64 j]] w fun e w' => e = .returned (.bool true) ∧ Below w.heap.size w w' := by
  obtain ⟨A, c, hA, hn, _⟩ := id hu
  obtain ⟨A', c', hA', hn', _⟩ := id hv
  subst hA
  subst hA'
  have c0 : (w.alloc (.cells #[.int .i64 i, .int .i64 j] 41)).cell? ⟨w.heap.size, 0, none⟩ = some (.int .i64 i) := by rw [World.cell?_alloc_at _ _ _ _ rfl]; rfl
  have c1 : (w.alloc (.cells #[.int .i64 i, .int .i64 j] 41)).cell? ⟨w.heap.size, 1, none⟩ = some (.int .i64 j) := by rw [World.cell?_alloc_at _ _ _ _ rfl]; rfl
  have hbN : Hid (∀ n, Below w.heap.size w ((w.alloc (.cells #[.int .i64 i, .int .i64 j] 41)).drewN n)) := fun n => below_drewN (below_alloc w (.cells #[.int .i64 i, .int .i64 j] 41)) n
  have HU := Lib.hid hu
  have HV := Lib.hid hv
  clear hu hv
  go_enter Try.func6, Try.ntmps6
  go_wp2_with fail
  go_quiet (fail)
  generalize hW1 : World.drewN _ _ = W1
  have hb1 : Below w.heap.size w W1 := hW1 ▸ hbN.out _
  have hu1 := HU.out.later hb1
  have hv1 := HV.out.later hb1
  have HLo := Lib.hid (long_two hu1 hv1 hlong)
  have Hu0 := Lib.hid (hu1.later (below_alloc W1 (.cells #[.slice A a.length c, .slice A' b.length c'] 22)))
  have Hv0 := Lib.hid (hv1.later (below_alloc W1 (.cells #[.slice A a.length c, .slice A' b.length c'] 22)))
  have HB0 := Lib.hid (below_then hb1 (below_alloc W1 (.cells #[.slice A a.length c, .slice A' b.length c'] 22)))
  clear hlong hb1 hu1 hv1 HU HV hbN hW1 c0 c1
  go_wp2_with fail
  refine (HLo.out).mono ?_
  rintro e w' ⟨rfl, rfl⟩
  generalize W1.alloc _ = W0 at *
  go_wp2_with fail
  refine (awake_any _).mono ?_
  rintro e v1 ⟨rfl, hb1⟩
  have HB1 := Lib.hid (below_then HB0.out hb1)
  have Hu1 := Lib.hid (Hu0.out.later hb1)
  have Hv1 := Lib.hid (Hv0.out.later hb1)
  clear hb1 Hu0 Hv0 HB0
  go_wp2
  go_ret
  exact ⟨rfl, HB1.out⟩
theorem vecPieces_walk (u v : Value) (a b : List Nat) (i j : Int) (w : World) (hu : Sl w u a) (hv : Sl w v b) :
    Calls Try.prog 6 #[u, v, .agg #[.int .i64 i, .int .i64 j]] w fun e w' => e = .returned (.bool true) ∧ Below w.heap.size w w' := by
  cases hl : longB [a, b]
  · exact pieces_short u v a b i j w hu hv hl
  · exact pieces_long u v a b i j w hu hv hl

set_option maxRecDepth 100000 in
theorem vecPieces_lifted (os : Os) (started : os.Started) (H : Type) (enc : TypeId × Value → H) :
    ReturnsInHanded {} Try.checked os 6 .any (Rows.vecPiecesSpec.pre6 enc Try.prog Try.f6 [] false) (Rows.vecPiecesSpec.post enc Try.prog Try.f6 false true false false) := by
  refine returnsInHanded_of_change_sized (C := Try.checked) own started (by kernel_rfl) Try.func6
    (ChangeSpec.witness6 (enc := enc) (C := Try.checked) false ⟨#[], #[.slice none 0 0, .slice none 0 0, .agg #[.int .i64 0, .int .i64 0]], []⟩ 8 (by kernel_rfl) (by kernel_rfl) (by kernel_rfl) (by kernel_rfl)) ?_
  intro W base args ds gs before hval0 hW _ hsz0 _
  have hval : ∀ (j : Nat) t v, Try.f6.params[j]? = some t → args[j]? = some v → Value.okWide Try.prog W .any base t v := hval0
  have hsz : (DataW.weightsEach Try.prog (Try.f6.params.toList ++ Rows.vecPiecesSpec.plain.varTypes Try.prog) (ds ++ gs)).all (· ≤ reachBytes) = true := hsz0
  have hW' := hW
  obtain ⟨p, q, hA0, hV, rfl, hfz, hnd⟩ := hW
  have hA1 := hA0
  have hA : DataW.TrodAll enc Try.prog W 0 (fun _ => true) true Try.f6.params.toList args.toList ds p := hA0
  rw [Try.params6] at hA hval hsz
  obtain ⟨v0, v1, v2, d0, d1, d2, p0, p1, p2, rfl, rfl, rfl, h0, h1, h2⟩ := trodAll_three hA
  obtain ⟨rfl, rfl⟩ := trodVars_none hV
  obtain ⟨a, ha⟩ := sl_open (hval 0 22 v0 rfl rfl) h0 (fun elems spare hd => sized_slice hsz (j := 0) rfl (by rw [hd]; rfl) Try.underlying22)
  obtain ⟨b, hb⟩ := sl_open (hval 1 22 v1 rfl rfl) h1 (fun elems spare hd => sized_slice hsz (j := 1) rfl (by rw [hd]; rfl) Try.underlying22)
  obtain ⟨i, j, rfl⟩ := two_open (hval 2 41 v2 rfl rfl) h2

  clear hval0 hsz0
  simp only [List.append_nil] at hW' hA1
  refine (vecPieces_walk v0 v1 a b i j W ha hb).mono fun e W' ⟨he, hb⟩ => ?_
  subst he
  exact ⟨_, rfl, law_post (by rw [Try.params6]; exact types_ok [22, 22, 41] (by kernel_rfl)) (by kernel_rfl) rfl rfl hA1 hW' hb⟩

theorem vecPieces_holds : Rows.VecPiecesSaid :=
  OpenClaim.holds_of_wide 6 Try.f6 rfl rfl rfl rfl rfl rfl rfl ⟨rfl, rfl, rfl, rfl, rfl⟩ rfl rfl rfl rfl rfl (by kernel_rfl) Try.func6 (by kernel_rfl)
    (of_decide_eq_true (by kernel_rfl)) (by unfold Func.isWrapper; first | (rw [if_pos (by decide +kernel)]; kernel_rfl) | (rw [if_neg (by decide +kernel)]; exact ⟨rfl, rfl⟩))
    (fun os started H enc _ => vecPieces_lifted os started H enc)
#print axioms vecPieces_holds
end Go.Proofs.Ytkapephlfbabjaa
