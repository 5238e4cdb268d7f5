/- The laws' own check, awake, returns true, if the program's four functions keep their contracts. -/
import Derived.Test.YtfjeljehodbbmaaDoorPc
namespace Go.Proofs.YtfjeljehodbbmaaDoor
open Go.RowKit

/-- A fault in memory. -/
def Flt (w : World) (b : Nat) (c : Nat) (n : ByteArray) (x y : Nat) : Prop :=
  w.cell? ⟨b, 0, none⟩ = some (.int .i64 (c : Nat)) ∧ w.cell? ⟨b, 1, none⟩ = some (.string n) ∧ w.cell? ⟨b, 2, none⟩ = some (.int .i64 (x : Nat)) ∧ w.cell? ⟨b, 3, none⟩ = some (.int .i64 (y : Nat))
theorem Flt.new (w : World) (c : Nat) (n : ByteArray) (x y : Nat) : Flt (w.alloc (.cells #[.int .i64 (c : Nat), .string n, .int .i64 (x : Nat), .int .i64 (y : Nat)] 27)) w.heap.size c n x y := by
  refine ⟨?_, ?_, ?_, ?_⟩ <;> (rw [World.cell?_alloc_at _ _ _ _ rfl]; rfl)
theorem Flt.later {w w' : World} {b c x y : Nat} {n : ByteArray} (h : Flt w b c n x y) (hb : Below w.heap.size w w') : Flt w' b c n x y := by
  obtain ⟨h0, h1, h2, h3⟩ := h
  have hl := block_lt_of_cell h0
  exact ⟨(hb.cell (by exact hl)).trans h0, (hb.cell (by exact hl)).trans h1, (hb.cell (by exact hl)).trans h2, (hb.cell (by exact hl)).trans h3⟩
/-- A token in memory. -/
def TokAt (w : World) (b o : Nat) (a : TokA) : Prop :=
  w.cell? ⟨b, o, none⟩ = some (.int .i64 a.op) ∧ w.cell? ⟨b, o + 1, none⟩ = some (.string a.text) ∧ w.cell? ⟨b, o + 2, none⟩ = some (.int .i64 a.n) ∧ w.cell? ⟨b, o + 3, none⟩ = some (.int .i64 a.line) ∧ w.cell? ⟨b, o + 4, none⟩ = some (.int .i64 a.col)
theorem TokAt.later {w w' : World} {b o : Nat} {a : TokA} (h : TokAt w b o a) (hb : Below w.heap.size w w') : TokAt w' b o a := by
  obtain ⟨h0, h1, h2, h3, h4⟩ := h
  have hl := block_lt_of_cell h0
  exact ⟨(hb.cell (by exact hl)).trans h0, (hb.cell (by exact hl)).trans h1, (hb.cell (by exact hl)).trans h2, (hb.cell (by exact hl)).trans h3, (hb.cell (by exact hl)).trans h4⟩
def awL : List TokA := [⟨1, ⟨#[97]⟩, 0, 0, 0⟩, ⟨3, ⟨#[]⟩, 7, 0, 0⟩, ⟨6, ⟨#[120, 32, 121]⟩, 0, 0, 0⟩]
theorem aw_small : ∀ a ∈ awL, Small a := by
  intro a ha
  simp only [awL, List.mem_cons, List.not_mem_nil, or_false] at ha
  rcases ha with rfl | rfl | rfl
  all_goals exact ⟨by decide, by decide, by decide⟩
theorem aw_text : txtS awL = ⟨#[97, 32, 55, 32, 34, 120, 32, 121, 34]⟩ ∧ txtE awL = 0 := by
  have hp : allP awL = true := by kernel_rfl
  obtain ⟨h1, h2⟩ := txt_yes (l := awL) (by decide) hp
  refine ⟨?_, h2⟩
  rw [h1]
  have e : awL.map tokOf = [⟨1, [97], 0⟩, ⟨3, [], 7⟩, ⟨6, [120, 32, 121], 0⟩] := by kernel_rfl
  have e7 : wriL ⟨3, [], 7⟩ = [55] := by
    show decL 7 = [55]
    rw [dec_small (by decide)]; rfl
  rw [e, joinL, tailL, e7]
  rfl
theorem aw_tls (w : World) : Tls (w.alloc (.cells #[.int .i64 1, .string ⟨#[97]⟩, .int .i64 0, .int .i64 0, .int .i64 0, .int .i64 3, .string ⟨#[]⟩, .int .i64 7, .int .i64 0, .int .i64 0, .int .i64 6, .string ⟨#[120, 32, 121]⟩, .int .i64 0, .int .i64 0, .int .i64 0] 40)) (.slice (some ⟨w.heap.size, 0, none⟩) 3 3) awL := by
  refine ⟨_, 3, rfl, Nat.le_refl _, by decide, .inr ⟨w.heap.size, 0, rfl, fun k hk => ?_⟩⟩
  have h : k = 0 ∨ k = 1 ∨ k = 2 := by have : awL.length = 3 := rfl; omega
  rcases h with rfl | rfl | rfl
  all_goals
    refine ⟨?_, ?_, ?_, ?_, ?_⟩ <;> (rw [World.cell?_alloc_at _ _ _ _ rfl]; rfl)
set_option maxRecDepth 100000 in
set_option maxHeartbeats 4000000 in
theorem awake_of (HL : LexC 14) (HT : TextC 18) (HN : NameC 20) (HW : WordC 21) (w : World) (hw : Std w) :
    Calls Tryd.prog 13 #[] w fun e w' => e = .returned (.bool true) ∧ Below w.heap.size w w' := by
  have HStd := Lib.hid hw
  clear hw
  have H1 := Lib.hid (lex_at HL (s := ⟨#[113, 32, 60, 61, 32, 98, 34, 49, 48, 34, 32, 38, 32, 39, 49, 39, 59, 32, 45, 45, 32, 115, 111]⟩) (by decide) aw1.1 aw1.2.1 aw1.2.2.1 aw1.2.2.2)
  have H2 := Lib.hid (lex_at HL (by decide) aw2.1 aw2.2.1 aw2.2.2.1 aw2.2.2.2)
  have H3 := Lib.hid (lex_at HL (by decide) aw3.1 aw3.2.1 aw3.2.2.1 aw3.2.2.2)
  have HN1 := Lib.hid (name_at HN (s := ⟨#[65, 95, 49]⟩) (b := true) (by decide) (by kernel_rfl))
  have HN2 := Lib.hid (name_at HN (s := ⟨#[101, 110, 100]⟩) (b := false) (by decide) (by kernel_rfl))
  have HW1 := Lib.hid (word_at HW (s := ⟨#[101, 110, 100]⟩) (b := true) (by kernel_rfl))
  have HW2 := Lib.hid (word_at HW (s := ⟨#[101, 110, 100, 115]⟩) (b := false) (by kernel_rfl))
  have HTx : Hid (∀ (w : World) (k : Nat), k = w.heap.size → Std (w.alloc (.cells #[.int .i64 1, .string ⟨#[97]⟩, .int .i64 0, .int .i64 0, .int .i64 0, .int .i64 3, .string ⟨#[]⟩, .int .i64 7, .int .i64 0, .int .i64 0, .int .i64 6, .string ⟨#[120, 32, 121]⟩, .int .i64 0, .int .i64 0, .int .i64 0] 40)) → Calls Tryd.prog 18 #[.slice (some ⟨k, 0, none⟩) 3 3] (w.alloc (.cells #[.int .i64 1, .string ⟨#[97]⟩, .int .i64 0, .int .i64 0, .int .i64 0, .int .i64 3, .string ⟨#[]⟩, .int .i64 7, .int .i64 0, .int .i64 0, .int .i64 6, .string ⟨#[120, 32, 121]⟩, .int .i64 0, .int .i64 0, .int .i64 0] 40)) fun r w' => r = .returned (.tuple #[.string ⟨#[97, 32, 55, 32, 34, 120, 32, 121, 34]⟩, .int .i64 0]) ∧ Below (w.alloc (.cells #[.int .i64 1, .string ⟨#[97]⟩, .int .i64 0, .int .i64 0, .int .i64 0, .int .i64 3, .string ⟨#[]⟩, .int .i64 7, .int .i64 0, .int .i64 0, .int .i64 6, .string ⟨#[120, 32, 121]⟩, .int .i64 0, .int .i64 0, .int .i64 0] 40)).heap.size (w.alloc (.cells #[.int .i64 1, .string ⟨#[97]⟩, .int .i64 0, .int .i64 0, .int .i64 0, .int .i64 3, .string ⟨#[]⟩, .int .i64 7, .int .i64 0, .int .i64 0, .int .i64 6, .string ⟨#[120, 32, 121]⟩, .int .i64 0, .int .i64 0, .int .i64 0] 40)) w') := by
    intro w k hk hstd
    subst hk
    exact text_at HT aw_text.1 aw_text.2 (aw_tls w) aw_small hstd
  clear HL HT HN HW
  go_enter Tryd.func13, Tryd.ntmps13
  go_wp2_with fail
  refine (H1.out _ (by first | exact HStd.out)).mono ?_
  rintro e w1 ⟨v1, rfl, t1, hb1⟩
  obtain ⟨A, c1, rfl, hq1, _, hc1⟩ := t1
  have hl6 : awT.length = 6 := rfl
  obtain ⟨B, off, rfl, hc⟩ := hc1.resolve_left (by decide)
  have T2 : TokAt w1 B (off + 10) ⟨5, ⟨#[49, 48]⟩, 0, 1, 6⟩ := hc 2 (by decide)
  have T5 : TokAt w1 B (off + 25) ⟨7, ⟨#[59]⟩, 0, 1, 17⟩ := hc 5 (by decide)
  rw [hl6]
  clear hc hc1
  have hal := below_alloc w1 (.cells #[.int .i64 0, .string ⟨#[]⟩, .int .i64 0, .int .i64 0] 27)
  have F1 : Flt (w1.alloc (.cells #[.int .i64 0, .string ⟨#[]⟩, .int .i64 0, .int .i64 0] 27)) w1.heap.size 0 ⟨#[]⟩ 0 0 := Flt.new w1 0 ⟨#[]⟩ 0 0
  have HB1 := Lib.hid (below_then hb1 hal)
  have HT2 := Lib.hid (T2.later hal)
  have HT5 := Lib.hid (T5.later hal)
  have HF1 := Lib.hid F1
  clear T2 T5 hal F1 hb1
  go_wp2_with fail
  refine (H2.out _ (by first | exact HStd.out.later HB1.out | exact HStd.out)).mono ?_
  rintro e w2 ⟨v2, rfl, _, hb2⟩
  have hal := below_alloc w2 (.cells #[.int .i64 10, .string ⟨#[98]⟩, .int .i64 1, .int .i64 1] 27)
  have hb2a := below_then hb2 hal
  have F2 : Flt (w2.alloc (.cells #[.int .i64 10, .string ⟨#[98]⟩, .int .i64 1, .int .i64 1] 27)) w2.heap.size 10 ⟨#[98]⟩ 1 1 := Flt.new w2 10 ⟨#[98]⟩ 1 1
  have HB2 := Lib.hid (below_then HB1.out hb2a)
  have HT22 := Lib.hid (HT2.out.later hb2a)
  have HT52 := Lib.hid (HT5.out.later hb2a)
  have HF12 := Lib.hid (HF1.out.later hb2a)
  have HF2 := Lib.hid F2
  clear hal hb2a F2 hb2 HB1 HT2 HT5 HF1
  go_wp2_with fail
  refine (H3.out _ (by first | exact HStd.out.later HB2.out | exact HStd.out.later HB1.out | exact HStd.out)).mono ?_
  rintro e w3 ⟨v3, rfl, _, hb3⟩
  have hal := below_alloc w3 (.cells #[.int .i64 10, .string ⟨#[49]⟩, .int .i64 2, .int .i64 2] 27)
  have hb3a := below_then hb3 hal
  have F3 : Flt (w3.alloc (.cells #[.int .i64 10, .string ⟨#[49]⟩, .int .i64 2, .int .i64 2] 27)) w3.heap.size 10 ⟨#[49]⟩ 2 2 := Flt.new w3 10 ⟨#[49]⟩ 2 2
  have hal2 := below_alloc (w3.alloc (.cells #[.int .i64 10, .string ⟨#[49]⟩, .int .i64 2, .int .i64 2] 27)) (.cells #[.int .i64 1, .string ⟨#[97]⟩, .int .i64 0, .int .i64 0, .int .i64 0, .int .i64 3, .string ⟨#[]⟩, .int .i64 7, .int .i64 0, .int .i64 0, .int .i64 6, .string ⟨#[120, 32, 121]⟩, .int .i64 0, .int .i64 0, .int .i64 0] 40)
  have hb3b := below_then hb3a hal2
  have HB3 := Lib.hid (below_then HB2.out hb3b)
  have HT23 := Lib.hid (HT22.out.later hb3b)
  have HT53 := Lib.hid (HT52.out.later hb3b)
  have HF13 := Lib.hid (HF12.out.later hb3b)
  have HF23 := Lib.hid (HF2.out.later hb3b)
  have HF3 := Lib.hid (F3.later hal2)
  clear hal hb3a hb3b hal2 F3 hb3 HB2 HT22 HT52 HF12 HF2
  go_wp2_with fail
  refine (HTx.out (w3.alloc (.cells #[.int .i64 10, .string ⟨#[49]⟩, .int .i64 2, .int .i64 2] 27)) _ (by simp [World.size_alloc]) (HStd.out.later HB3.out)).mono ?_
  rintro e w4 ⟨rfl, hb4⟩
  have HB4 := Lib.hid (below_then HB3.out hb4)
  obtain ⟨a0, a1, a2, a3, a4⟩ := HT23.out.later hb4
  obtain ⟨b0, b1, b2, b3, b4⟩ := HT53.out.later hb4
  obtain ⟨f0, f1, f2, f3⟩ := HF13.out.later hb4
  obtain ⟨g0, g1, g2, g3⟩ := HF23.out.later hb4
  obtain ⟨h0, h1, h2, h3⟩ := HF3.out.later hb4
  have HT24 := Lib.hid (HT23.out.later hb4)
  clear hb4 HB3 HT23 HT53 HF13 HF23 HF3 HT24
  go_wp2_with fail
  refine (HN1.out _).mono ?_
  rintro e w5 ⟨rfl, hb5⟩
  have HB5 := Lib.hid (below_then HB4.out hb5)
  clear hb5 HB4
  go_wp2_with fail
  refine (HN2.out _).mono ?_
  rintro e w6 ⟨rfl, hb6⟩
  have HB6 := Lib.hid (below_then HB5.out hb6)
  clear hb6 HB5
  go_wp2_with fail
  refine (HW1.out _).mono ?_
  rintro e w7 ⟨rfl, hb7⟩
  have HB7 := Lib.hid (below_then HB6.out hb7)
  clear hb7 HB6
  go_wp2_with fail
  refine (HW2.out _).mono ?_
  rintro e w8 ⟨rfl, hb8⟩
  have HB8 := Lib.hid (below_then HB7.out hb8)
  clear hb8 HB7
  go_wp2
  go_ret
  exact ⟨rfl, HB8.out⟩
end Go.Proofs.YtfjeljehodbbmaaDoor
