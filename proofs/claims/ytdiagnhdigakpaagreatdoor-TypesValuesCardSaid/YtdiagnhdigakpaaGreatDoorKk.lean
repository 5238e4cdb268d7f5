/- What awake's fixed calls are about: two types, a value, and what the functions say of them. -/
import Derived.Test.YtdiagnhdigakpaaGreatDoorKj
namespace Go.Proofs.YtdiagnhdigakpaaGreatDoor
open Go.RowKit

def awI : Ty := .mk 3 0 noName [] []
def awT : Ty := .mk 6 2 noName [] [awI]
def awV : Va := .mk 6 0 [] [.mk 3 3 [] [], .mk 3 (-1) [] []]
def awU : Ty := .mk 5 0 ⟨#[112, 46, 116]⟩ [⟨#[97]⟩, ⟨#[98]⟩, ⟨#[99]⟩] []
def awX : Ty := .mk 4 2 noName [] []
theorem aw_goodI : Flat isNameL awI := .sc 3 (by omega)
theorem aw_goodT : Good isNameL awT := .arr 2 awI (by omega) (by omega) aw_goodI
theorem aw_validT : validT isNameL awT = true := good_valid aw_goodT
theorem aw_goodX : Good isNameL awX := .flat _ (.vec 2 (by omega) (by omega))
theorem aw_validX : validT isNameL awX = true := good_valid aw_goodX
theorem aw_names : namesOk isNameL [⟨#[97]⟩, ⟨#[98]⟩, ⟨#[99]⟩] = true := by kernel_rfl
theorem aw_goodU : Good isNameL awU := .flat _ (.en _ _ (by kernel_rfl) aw_names)
theorem aw_validU : validT isNameL awU = true := good_valid aw_goodU
theorem aw_has : HasG awT awV := .arr 2 noName [] awI _ rfl (by
  intro v hv
  simp only [List.mem_cons, List.not_mem_nil, or_false] at hv
  rcases hv with rfl | rfl
  · exact .int _ _ _ _ 3 (by omega) (by omega)
  · exact .int _ _ _ _ (-1) (by omega) (by omega))
theorem aw_hasT : hasT awT awV = true := by
  unfold hasT
  rw [aw_validT, of_hasG aw_has]
  rfl
theorem aw_smT : smT awT := by
  unfold awT awI
  rw [smT_def]
  refine ⟨by decide, by decide, by decide, by simp, ?_⟩
  intro e he
  rw [List.mem_singleton] at he
  subst he
  rw [smT_def]
  exact ⟨by decide, by decide, by decide, by simp, by simp⟩
theorem aw_smU : smT awU := by
  unfold awU
  rw [smT_def]
  refine ⟨by decide, by decide, by decide, ?_, by simp⟩
  intro s hs
  simp only [List.mem_cons, List.not_mem_nil, or_false] at hs
  rcases hs with rfl | rfl | rfl <;> decide
theorem aw_smX : smT awX := by
  unfold awX
  rw [smT_def]
  exact ⟨by decide, by decide, by decide, by simp, by simp⟩
theorem ito_small {m : Nat} (h : m < 10) : itoL (m : Int) = [UInt8.ofNat (48 + m)] := by
  rw [ito_nat]
  exact dec_small h
theorem aw_ito3 : itoL 3 = [51] := by
  rw [show (3 : Int) = ((3 : Nat) : Int) from rfl, ito_small (by omega)]
  rfl
theorem aw_ito2 : itoL 2 = [50] := by
  rw [show (2 : Int) = ((2 : Nat) : Int) from rfl, ito_small (by omega)]
  rfl
theorem aw_itom : itoL (-1) = [45, 49] := by
  unfold itoL Lib.itoa
  rw [if_pos (by omega), show (-1 : Int).natAbs = 1 from rfl, dec_same, dec_small (by omega)]
  rfl
theorem aw_textV : textV awT awV = [91, 51, 44, 45, 49, 93] := by
  unfold awT awV awI
  rw [textV_arr]
  rw [List.map_cons, List.map_cons, List.map_nil, textV_int, textV_int, aw_ito3, aw_itom, join_two, join_one]
  rfl
theorem aw_text : textR awT awV = [91, 51, 44, 45, 49, 93] ∧ hasE awT awV = 0 := by
  unfold textR hasE
  rw [aw_hasT, if_pos rfl, if_pos rfl, aw_textV]
  exact ⟨rfl, rfl⟩
theorem aw_widthU : widR awU = 2 ∧ widE awU = 0 := by
  unfold widR widE
  rw [aw_validU, if_pos rfl, if_pos rfl]
  unfold awU
  rw [widthT_enum]
  exact ⟨rfl, rfl⟩
theorem aw_widthT : widE awT = 16 := by
  unfold widE
  rw [aw_validT, if_pos rfl]
  unfold awT awI
  rw [widthT_arr, widthT_int]
  rfl
theorem aw_name : nameR awT = [97, 114, 114, 97, 121, 40, 50, 41, 32, 111, 102, 32, 105, 110, 116] ∧ valE awT = 0 := by
  unfold nameR valE
  rw [aw_validT, if_pos rfl, if_pos rfl]
  unfold awT awI
  rw [nameT_arr, nameT_int, aw_ito2]
  exact ⟨rfl, rfl⟩
theorem aw_first : firstR awX = .mk 4 0 [2, 2] [] ∧ valE awX = 0 := by
  unfold firstR valE
  rw [aw_validX, if_pos rfl, if_pos rfl]
  unfold awX
  rw [firstV_vec]
  exact ⟨rfl, rfl⟩
theorem aw_places : plcV awT = 2 := by
  unfold plcV
  rw [aw_validT, if_pos rfl]
  unfold awT awI
  rw [countT_arr, countT_mk _ _ _ _ _ (by omega) (by omega)]
  rfl
theorem aw_parse {v : Va} {E : Nat} (h : ParsedAs true awT [91, 51, 44, 45, 49, 93] v E) : v = awV ∧ E = 0 := by
  rcases h with ⟨h, _⟩ | ⟨_, h1, h2, h3⟩ | ⟨_, h1, _⟩
  · cases h
  · exact ⟨text_inj aw_goodT (hasG_of aw_goodT h1) aw_has (h2.trans aw_textV.symm), h3⟩
  · exact absurd aw_textV (h1 awV (of_hasG aw_has))
end Go.Proofs.YtdiagnhdigakpaaGreatDoor
/- The laws' own check, awake, returns true. -/
namespace Go.Proofs.YtdiagnhdigakpaaGreatDoor
open Go.RowKit

/-- awake's two types and its value, from block b on. -/
structure AwM (X : World) (b : Nat) : Prop where
  bt : Blk X (b + 1) 26 #[.int .i64 6, .int .i64 2, .string ⟨#[]⟩, .slice none 0 0, .slice (some ⟨b, 0, none⟩) 1 1]
  bv : Blk X (b + 1 + 1 + 1) 38 #[.int .i64 6, .int .i64 0, .slice none 0 0, .slice (some ⟨b + 1 + 1, 0, none⟩) 2 2]
  bu : Blk X (b + 1 + 1 + 1 + 1 + 1) 26 #[.int .i64 5, .int .i64 0, .string ⟨#[112, 46, 116]⟩, .slice (some ⟨b + 1 + 1 + 1 + 1, 0, none⟩) 3 3, .slice none 0 0]
  tc : TyC X awT [.int .i64 6, .int .i64 2, .string ⟨#[]⟩, .slice none 0 0, .slice (some ⟨b, 0, none⟩) 1 1]
  vc : VaC X awV [.int .i64 6, .int .i64 0, .slice none 0 0, .slice (some ⟨b + 1 + 1, 0, none⟩) 2 2]
  uc : TyC X awU [.int .i64 5, .int .i64 0, .string ⟨#[112, 46, 116]⟩, .slice (some ⟨b + 1 + 1 + 1 + 1, 0, none⟩) 3 3, .slice none 0 0]
theorem AwM.later {u u' : World} {b : Nat} (h : AwM u b) (hb : Below u.heap.size u u') : AwM u' b :=
  ⟨h.bt.later hb, h.bv.later hb, h.bu.later hb, TyC.later hb _ _ h.tc, VaC.later hb _ _ h.vc, TyC.later hb _ _ h.uc⟩
theorem tyI (u : World) : TyC u awI [.int .i64 3, .int .i64 0, .string ⟨#[]⟩, .slice none 0 0, .slice none 0 0] := by
  unfold awI
  rw [TyC]
  exact ⟨_, none, 0, rfl, ⟨none, 0, rfl, by simp, by simp, .inl rfl⟩, by simp, by simp, .inl rfl⟩
theorem vaI (u : World) (n : Int) : VaC u (.mk 3 n [] []) [.int .i64 3, .int .i64 n, .slice none 0 0, .slice none 0 0] := by
  rw [VaC]
  exact ⟨_, none, 0, rfl, ⟨none, 0, rfl, by simp, by simp, by simp, .inl rfl⟩, by simp, by simp, .inl rfl⟩
theorem AwM.of {u : World} {b : Nat} (h0 : Blk u b 26 #[.int .i64 3, .int .i64 0, .string ⟨#[]⟩, .slice none 0 0, .slice none 0 0])
    (h1 : Blk u (b + 1) 26 #[.int .i64 6, .int .i64 2, .string ⟨#[]⟩, .slice none 0 0, .slice (some ⟨b, 0, none⟩) 1 1])
    (h2 : Blk u (b + 1 + 1) 38 #[.int .i64 3, .int .i64 3, .slice none 0 0, .slice none 0 0, .int .i64 3, .int .i64 (-1), .slice none 0 0, .slice none 0 0])
    (h3 : Blk u (b + 1 + 1 + 1) 38 #[.int .i64 6, .int .i64 0, .slice none 0 0, .slice (some ⟨b + 1 + 1, 0, none⟩) 2 2])
    (h4 : Blk u (b + 1 + 1 + 1 + 1) 9 #[.string ⟨#[97]⟩, .string ⟨#[98]⟩, .string ⟨#[99]⟩])
    (h5 : Blk u (b + 1 + 1 + 1 + 1 + 1) 26 #[.int .i64 5, .int .i64 0, .string ⟨#[112, 46, 116]⟩, .slice (some ⟨b + 1 + 1 + 1 + 1, 0, none⟩) 3 3, .slice none 0 0]) : AwM u b := by
  refine ⟨h1, h3, h5, ?_, ?_, ?_⟩
  · unfold awT
    rw [TyC]
    refine ⟨_, _, 1, rfl, ⟨none, 0, rfl, by simp, by simp, .inl rfl⟩, by simp, by simp, .inr ⟨b, 0, rfl, ?_⟩⟩
    rw [TyAt]
    refine ⟨⟨_, tyI u, fun j hj => ?_⟩, by rw [TyAt]; trivial⟩
    rw [Nat.zero_add, h0.cell j]
    simp
  · unfold awV
    rw [VaC]
    refine ⟨_, _, 2, rfl, ⟨none, 0, rfl, by simp, by simp, by simp, .inl rfl⟩, by simp, by simp, .inr ⟨b + 1 + 1, 0, rfl, ?_⟩⟩
    rw [VaAt, VaAt]
    refine ⟨⟨_, vaI u 3, fun j hj => ?_⟩, ⟨_, vaI u (-1), fun j hj => ?_⟩, by rw [VaAt]; trivial⟩
    · rw [Nat.zero_add, h2.cell j]
      obtain rfl | rfl | rfl | rfl : j = 0 ∨ j = 1 ∨ j = 2 ∨ j = 3 := by omega
      all_goals rfl
    · rw [Nat.zero_add, h2.cell (4 + j)]
      obtain rfl | rfl | rfl | rfl : j = 0 ∨ j = 1 ∨ j = 2 ∨ j = 3 := by omega
      all_goals rfl
  · unfold awU
    rw [TyC]
    refine ⟨_, none, 0, rfl, ⟨_, 3, rfl, by simp, by simp, .inr ⟨b + 1 + 1 + 1 + 1, 0, rfl, fun k hk => ?_⟩⟩, by simp, by simp, .inl rfl⟩
    rw [Nat.zero_add, h4.cell k]
    have hk : k < 3 := hk
    obtain rfl | rfl | rfl : k = 0 ∨ k = 1 ∨ k = 2 := by omega
    all_goals rfl
end Go.Proofs.YtdiagnhdigakpaaGreatDoor
/- The laws' own check, awake, returns true: the walk. -/
namespace Go.Proofs.YtdiagnhdigakpaaGreatDoor
open Go.RowKit

theorem boxes6 (w : World) (t0 t1 t2 t3 t4 t5 : TypeId) (a b c d e f : Array Value) : Blk ((((((w.alloc (.cells a t0)).alloc (.cells b t1)).alloc (.cells c t2)).alloc (.cells d t3)).alloc (.cells e t4)).alloc (.cells f t5)) w.heap.size t0 a ∧
    Blk ((((((w.alloc (.cells a t0)).alloc (.cells b t1)).alloc (.cells c t2)).alloc (.cells d t3)).alloc (.cells e t4)).alloc (.cells f t5)) (w.heap.size + 1) t1 b ∧
    Blk ((((((w.alloc (.cells a t0)).alloc (.cells b t1)).alloc (.cells c t2)).alloc (.cells d t3)).alloc (.cells e t4)).alloc (.cells f t5)) (w.heap.size + 1 + 1) t2 c ∧
    Blk ((((((w.alloc (.cells a t0)).alloc (.cells b t1)).alloc (.cells c t2)).alloc (.cells d t3)).alloc (.cells e t4)).alloc (.cells f t5)) (w.heap.size + 1 + 1 + 1) t3 d ∧
    Blk ((((((w.alloc (.cells a t0)).alloc (.cells b t1)).alloc (.cells c t2)).alloc (.cells d t3)).alloc (.cells e t4)).alloc (.cells f t5)) (w.heap.size + 1 + 1 + 1 + 1) t4 e ∧
    Blk ((((((w.alloc (.cells a t0)).alloc (.cells b t1)).alloc (.cells c t2)).alloc (.cells d t3)).alloc (.cells e t4)).alloc (.cells f t5)) (w.heap.size + 1 + 1 + 1 + 1 + 1) t5 f ∧
    Below w.heap.size w ((((((w.alloc (.cells a t0)).alloc (.cells b t1)).alloc (.cells c t2)).alloc (.cells d t3)).alloc (.cells e t4)).alloc (.cells f t5)) := by
  obtain ⟨k0, k1, k2, kb, _⟩ := boxes3 w t0 t1 t2 a b c
  have s3 : (((w.alloc (.cells a t0)).alloc (.cells b t1)).alloc (.cells c t2)).heap.size = w.heap.size + 1 + 1 + 1 := by simp only [World.size_alloc]
  obtain ⟨k3, k4, k5, kc, _⟩ := boxes3 (((w.alloc (.cells a t0)).alloc (.cells b t1)).alloc (.cells c t2)) t3 t4 t5 d e f
  have h0 := k0.later kc
  have h1 := k1.later kc
  have h2 := k2.later kc
  rw [s3] at k3 k4 k5
  exact ⟨h0, h1, h2, k3, k4, k5, below_then kb kc⟩
theorem aw_world (w : World) : AwM ((((((w.alloc (.cells #[.int .i64 3, .int .i64 0, .string ⟨#[]⟩, .slice none 0 0, .slice none 0 0] 26)).alloc (.cells #[.int .i64 6, .int .i64 2, .string ⟨#[]⟩, .slice none 0 0, .slice (some ⟨w.heap.size, 0, none⟩) 1 1] 26)).alloc (.cells #[.int .i64 3, .int .i64 3, .slice none 0 0, .slice none 0 0, .int .i64 3, .int .i64 (-1), .slice none 0 0, .slice none 0 0] 38)).alloc (.cells #[.int .i64 6, .int .i64 0, .slice none 0 0, .slice (some ⟨w.heap.size + 1 + 1, 0, none⟩) 2 2] 38)).alloc (.cells #[.string ⟨#[97]⟩, .string ⟨#[98]⟩, .string ⟨#[99]⟩] 9)).alloc (.cells #[.int .i64 5, .int .i64 0, .string ⟨#[112, 46, 116]⟩, .slice (some ⟨w.heap.size + 1 + 1 + 1 + 1, 0, none⟩) 3 3, .slice none 0 0] 26)) w.heap.size ∧ Below w.heap.size w ((((((w.alloc (.cells #[.int .i64 3, .int .i64 0, .string ⟨#[]⟩, .slice none 0 0, .slice none 0 0] 26)).alloc (.cells #[.int .i64 6, .int .i64 2, .string ⟨#[]⟩, .slice none 0 0, .slice (some ⟨w.heap.size, 0, none⟩) 1 1] 26)).alloc (.cells #[.int .i64 3, .int .i64 3, .slice none 0 0, .slice none 0 0, .int .i64 3, .int .i64 (-1), .slice none 0 0, .slice none 0 0] 38)).alloc (.cells #[.int .i64 6, .int .i64 0, .slice none 0 0, .slice (some ⟨w.heap.size + 1 + 1, 0, none⟩) 2 2] 38)).alloc (.cells #[.string ⟨#[97]⟩, .string ⟨#[98]⟩, .string ⟨#[99]⟩] 9)).alloc (.cells #[.int .i64 5, .int .i64 0, .string ⟨#[112, 46, 116]⟩, .slice (some ⟨w.heap.size + 1 + 1 + 1 + 1, 0, none⟩) 3 3, .slice none 0 0] 26)) := by
  obtain ⟨h0, h1, h2, h3, h4, h5, hb⟩ := boxes6 w 26 26 38 38 9 26 #[.int .i64 3, .int .i64 0, .string ⟨#[]⟩, .slice none 0 0, .slice none 0 0] #[.int .i64 6, .int .i64 2, .string ⟨#[]⟩, .slice none 0 0, .slice (some ⟨w.heap.size, 0, none⟩) 1 1] #[.int .i64 3, .int .i64 3, .slice none 0 0, .slice none 0 0, .int .i64 3, .int .i64 (-1), .slice none 0 0, .slice none 0 0] #[.int .i64 6, .int .i64 0, .slice none 0 0, .slice (some ⟨w.heap.size + 1 + 1, 0, none⟩) 2 2] #[.string ⟨#[97]⟩, .string ⟨#[98]⟩, .string ⟨#[99]⟩] #[.int .i64 5, .int .i64 0, .string ⟨#[112, 46, 116]⟩, .slice (some ⟨w.heap.size + 1 + 1 + 1 + 1, 0, none⟩) 3 3, .slice none 0 0]
  exact ⟨AwM.of h0 h1 h2 h3 h4 h5, hb⟩
set_option maxRecDepth 100000 in
set_option maxHeartbeats 8000000 in
theorem awake_true (w : World) (hw : Std w) :
    Calls Tryz.prog 14 #[] w fun e w' => e = .returned (.bool true) ∧ Below w.heap.size w w' := by
  have HM := Lib.hid (aw_world w).1
  have HB := Lib.hid (aw_world w).2
  have HStd := Lib.hid hw
  clear hw
  have C1 : Hid (∀ u, AwM u w.heap.size → Std u → Calls Tryz.prog 34 #[.agg #[.int .i64 6, .int .i64 2, .string ⟨#[]⟩, .slice none 0 0, .slice (some ⟨w.heap.size, 0, none⟩) 1 1], .agg #[.int .i64 6, .int .i64 0, .slice none 0 0, .slice (some ⟨w.heap.size + 1 + 1, 0, none⟩) 2 2]] u fun e w' => e = .returned (.tuple #[.string ⟨#[91, 51, 44, 45, 49, 93]⟩, .int .i64 0]) ∧ Below u.heap.size u w') := fun u hm hs => by
    have := ptext_any awT awV _ _ u aw_smT hs hm.tc hm.vc
    rw [aw_text.1, aw_text.2] at this
    exact this
  have C2 : Hid (∀ u, AwM u w.heap.size → Calls Tryz.prog 25 #[.agg #[.int .i64 5, .int .i64 0, .string ⟨#[112, 46, 116]⟩, .slice (some ⟨w.heap.size + 1 + 1 + 1 + 1, 0, none⟩) 3 3, .slice none 0 0]] u fun e w' => e = .returned (.tuple #[.int .i64 2, .int .i64 0]) ∧ Below u.heap.size u w') := fun u hm => by
    have := width_any awU _ u aw_smU hm.uc
    rw [aw_widthU.1, aw_widthU.2] at this
    exact this
  have C3 : Hid (∀ u, AwM u w.heap.size → Calls Tryz.prog 25 #[.agg #[.int .i64 6, .int .i64 2, .string ⟨#[]⟩, .slice none 0 0, .slice (some ⟨w.heap.size, 0, none⟩) 1 1]] u fun e w' => e = .returned (.tuple #[.int .i64 (widR awT : Nat), .int .i64 16]) ∧ Below u.heap.size u w') := fun u hm => by
    have := width_any awT _ u aw_smT hm.tc
    rw [aw_widthT] at this
    exact this
  have C4 : Hid (∀ u, AwM u w.heap.size → Std u → Calls Tryz.prog 42 #[.agg #[.int .i64 6, .int .i64 2, .string ⟨#[]⟩, .slice none 0 0, .slice (some ⟨w.heap.size, 0, none⟩) 1 1], .string ⟨#[91, 51, 44, 45, 49, 93]⟩] u fun e w' => ∃ (A : Option Addr) (n c : Nat) (B : Option Addr) (m d : Nat), e = .returned (.tuple #[.agg #[.int .i64 6, .int .i64 0, .slice A n c, .slice B m d], .int .i64 0]) ∧ VaC w' awV [.int .i64 6, .int .i64 0, .slice A n c, .slice B m d] ∧ Below u.heap.size u w') := fun u hm hs => by
    have := pparse_any awT ⟨#[91, 51, 44, 45, 49, 93]⟩ _ u aw_smT (by decide) hs hm.tc
    rw [aw_validT] at this
    refine this.mono ?_
    rintro e w' ⟨v, E, A, n, c, B, m, d, rfl, hv, hp, hb⟩
    obtain ⟨rfl, rfl⟩ := aw_parse hp
    exact ⟨A, n, c, B, m, d, rfl, hv, hb⟩
  have C5 : Hid (∀ u, AwM u w.heap.size → Std u → Calls Tryz.prog 20 #[.agg #[.int .i64 6, .int .i64 2, .string ⟨#[]⟩, .slice none 0 0, .slice (some ⟨w.heap.size, 0, none⟩) 1 1]] u fun e w' => e = .returned (.tuple #[.string ⟨#[97, 114, 114, 97, 121, 40, 50, 41, 32, 111, 102, 32, 105, 110, 116]⟩, .int .i64 0]) ∧ Below u.heap.size u w') := fun u hm hs => by
    have := name_any awT _ u aw_smT hs hm.tc
    rw [aw_name.1, aw_name.2] at this
    exact this
  have C6 : Hid (∀ u, Calls Tryz.prog 22 #[.agg #[.int .i64 4, .int .i64 2, .string ⟨#[]⟩, .slice none 0 0, .slice none 0 0]] u fun e w' => ∃ (A : Option Addr) (c : Nat) (B : Option Addr) (m d : Nat), e = .returned (.tuple #[.agg #[.int .i64 4, .int .i64 0, .slice A 2 c, .slice B m d], .int .i64 0]) ∧ Lg.Sl w' (.slice A 2 c) [2, 2] ∧ Below u.heap.size u w') := fun u => by
    have := pfirst_any awX [.int .i64 4, .int .i64 2, .string ⟨#[]⟩, .slice none 0 0, .slice none 0 0] u aw_smX (by
      unfold awX
      rw [TyC]
      exact ⟨_, none, 0, rfl, ⟨none, 0, rfl, by simp, by simp, .inl rfl⟩, by simp, by simp, .inl rfl⟩)
    rw [aw_first.1, aw_first.2] at this
    refine this.mono ?_
    rintro e w' ⟨A, n, c, B, m, d, rfl, hv, hb⟩
    obtain ⟨C', x', p', D', y', q', hcs, hx1, hy1, hbs, -, -, -⟩ := vaC_open hv
    simp only [List.cons.injEq, Value.slice.injEq, and_true, true_and] at hcs
    obtain ⟨⟨rfl, rfl, rfl⟩, rfl, rfl, rfl⟩ := hcs
    subst hx1
    exact ⟨A, c, B, m, d, rfl, bitS_sl hbs (by decide), hb⟩
  have C7 : Hid (∀ u, AwM u w.heap.size → Calls Tryz.prog 27 #[.agg #[.int .i64 6, .int .i64 2, .string ⟨#[]⟩, .slice none 0 0, .slice (some ⟨w.heap.size, 0, none⟩) 1 1]] u fun e w' => e = .returned (.tuple #[.int .i64 2, .int .i64 0]) ∧ Below u.heap.size u w') := fun u hm => by
    have := places_any awT _ u aw_smT hm.tc
    rw [aw_places, aw_name.2] at this
    exact this
  have C8 : Hid (∀ u (A : Option Addr) (n c : Nat) (B : Option Addr) (m d : Nat), AwM u w.heap.size → VaC u awV [.int .i64 6, .int .i64 0, .slice A n c, .slice B m d] → Calls Tryz.prog 24 #[.agg #[.int .i64 6, .int .i64 0, .slice none 0 0, .slice (some ⟨w.heap.size + 1 + 1, 0, none⟩) 2 2], .agg #[.int .i64 6, .int .i64 0, .slice A n c, .slice B m d]] u fun e w' => e = .returned (.bool true) ∧ Below u.heap.size u w') := fun u A n c B m d hm hv => by
    have hsm : smV awV := by
      unfold awV
      rw [smV_def]
      refine ⟨by simp, by simp, ?_⟩
      intro v hv
      simp only [List.mem_cons, List.not_mem_nil, or_false] at hv
      rcases hv with rfl | rfl
      · rw [smV_def]; exact ⟨by simp, by simp, by simp⟩
      · rw [smV_def]; exact ⟨by simp, by simp, by simp⟩
    have := ralike_any awV awV _ _ u hsm hsm hm.vc hv
    rw [alikeV_refl] at this
    exact this
  have C9 : Hid (∀ u, AwM u w.heap.size → Calls Tryz.prog 16 #[.agg #[.int .i64 5, .int .i64 0, .string ⟨#[112, 46, 116]⟩, .slice (some ⟨w.heap.size + 1 + 1 + 1 + 1, 0, none⟩) 3 3, .slice none 0 0]] u fun e w' => e = .returned (.bool true) ∧ Below u.heap.size u w') := fun u hm => by
    have := pvalid_any awU _ u aw_smU hm.uc
    rw [aw_validU] at this
    exact this
  have C10 : Hid (∀ u, AwM u w.heap.size → Calls Tryz.prog 30 #[.agg #[.int .i64 6, .int .i64 2, .string ⟨#[]⟩, .slice none 0 0, .slice (some ⟨w.heap.size, 0, none⟩) 1 1], .agg #[.int .i64 6, .int .i64 0, .slice none 0 0, .slice (some ⟨w.heap.size + 1 + 1, 0, none⟩) 2 2]] u fun e w' => e = .returned (.bool true) ∧ Below u.heap.size u w') := fun u hm => by
    have := phas_any awT awV _ _ u aw_smT hm.tc hm.vc
    rw [aw_hasT] at this
    exact this
  have C11 : Hid (∀ u, AwM u w.heap.size → Calls Tryz.prog 18 #[.agg #[.int .i64 6, .int .i64 2, .string ⟨#[]⟩, .slice none 0 0, .slice (some ⟨w.heap.size, 0, none⟩) 1 1], .agg #[.int .i64 6, .int .i64 2, .string ⟨#[]⟩, .slice none 0 0, .slice (some ⟨w.heap.size, 0, none⟩) 1 1]] u fun e w' => e = .returned (.bool true) ∧ Below u.heap.size u w') := fun u hm => by
    have := psame_any awT awT _ _ u aw_smT aw_smT hm.tc hm.tc
    rw [sameT_iff.2 ⟨aw_validT, rfl⟩] at this
    exact this
  have C12 : Hid (∀ u, AwM u w.heap.size → Calls Tryz.prog 18 #[.agg #[.int .i64 6, .int .i64 2, .string ⟨#[]⟩, .slice none 0 0, .slice (some ⟨w.heap.size, 0, none⟩) 1 1], .agg #[.int .i64 5, .int .i64 0, .string ⟨#[112, 46, 116]⟩, .slice (some ⟨w.heap.size + 1 + 1 + 1 + 1, 0, none⟩) 3 3, .slice none 0 0]] u fun e w' => e = .returned (.bool false) ∧ Below u.heap.size u w') := fun u hm => by
    have := psame_any awT awU _ _ u aw_smT aw_smU hm.tc hm.uc
    rw [show sameT isNameL awT awU = false from Bool.eq_false_iff.2 fun h => by
      have := (sameT_iff.1 h).2
      unfold awT awU at this
      injection this with h1
      exact absurd h1 (by decide)] at this
    exact this
  go_enter Tryz.func14, Tryz.ntmps14
  go_wp2_with fail
  refine (C1.out _ HM.out (HStd.out.later HB.out)).mono ?_
  rintro e w1 ⟨rfl, hb1⟩
  have M1 := Lib.hid (HM.out.later hb1)
  have B1 := Lib.hid (below_then HB.out hb1)
  clear hb1
  obtain ⟨c0, c1, c2, c3, c4⟩ := fives M1.out.bu
  go_wp2_with fail
  refine (C2.out _ M1.out).mono ?_
  rintro e w2 ⟨rfl, hb⟩
  have M2 := Lib.hid (M1.out.later hb)
  have B2 := Lib.hid (below_then B1.out hb)
  clear hb c0 c1 c2 c3 c4
  obtain ⟨a0, a1, a2, a3, a4⟩ := fives M2.out.bt
  go_wp2_with fail
  refine (C3.out _ M2.out).mono ?_
  rintro e w3 ⟨rfl, hb⟩
  have M3 := Lib.hid (M2.out.later hb)
  have B3 := Lib.hid (below_then B2.out hb)
  clear hb a0 a1 a2 a3 a4
  obtain ⟨a0, a1, a2, a3, a4⟩ := fives M3.out.bt
  go_wp2_with fail
  refine (C4.out _ M3.out (HStd.out.later B3.out)).mono ?_
  rintro e w4 ⟨A, n, c, B, m, d, rfl, hv, hb⟩
  have P4 : Hid (Blk (w4.alloc (.cells #[.int .i64 6, .int .i64 0, .slice A n c, .slice B m d] 38)) w4.heap.size 38 #[.int .i64 6, .int .i64 0, .slice A n c, .slice B m d]) := Blk.new _ _ _
  have V4 := Lib.hid (VaC.later (below_alloc w4 (.cells #[.int .i64 6, .int .i64 0, .slice A n c, .slice B m d] 38)) _ _ hv)
  have M4 := Lib.hid ((M3.out.later hb).later (below_alloc w4 (.cells #[.int .i64 6, .int .i64 0, .slice A n c, .slice B m d] 38)))
  have B4 := Lib.hid (below_then (below_then B3.out hb) (below_alloc w4 (.cells #[.int .i64 6, .int .i64 0, .slice A n c, .slice B m d] 38)))
  obtain ⟨q4, hq4⟩ : ∃ q4, q4 = w4.heap.size := ⟨_, rfl⟩
  clear hb hv a0 a1 a2 a3 a4
  obtain ⟨a0, a1, a2, a3, a4⟩ := fives M4.out.bt
  go_wp2_with fail
  refine (C5.out _ M4.out (HStd.out.later B4.out)).mono ?_
  rintro e w5 ⟨rfl, hb⟩
  have P5 := Lib.hid (P4.out.later hb)
  have V5 := Lib.hid (VaC.later hb _ _ V4.out)
  have M5 := Lib.hid (M4.out.later hb)
  have B5 := Lib.hid (below_then B4.out hb)
  rw [← hq4] at P5 ⊢
  clear hb a0 a1 a2 a3 a4 P4 V4 hq4
  go_wp2_with fail
  refine (C6.out _).mono ?_
  rintro e w6 ⟨FA, fc, FB, fm, fd, rfl, hsl, hb⟩
  have F6 : Hid (Blk (w6.alloc (.cells #[.int .i64 4, .int .i64 0, .slice FA 2 fc, .slice FB fm fd] 38)) w6.heap.size 38 #[.int .i64 4, .int .i64 0, .slice FA 2 fc, .slice FB fm fd]) := Blk.new _ _ _
  have P6 := Lib.hid ((P5.out.later hb).later (below_alloc w6 (.cells #[.int .i64 4, .int .i64 0, .slice FA 2 fc, .slice FB fm fd] 38)))
  have V6 := Lib.hid (VaC.later (below_alloc w6 (.cells #[.int .i64 4, .int .i64 0, .slice FA 2 fc, .slice FB fm fd] 38)) _ _ (VaC.later hb _ _ V5.out))
  have M6 := Lib.hid ((M5.out.later hb).later (below_alloc w6 (.cells #[.int .i64 4, .int .i64 0, .slice FA 2 fc, .slice FB fm fd] 38)))
  have B6 := Lib.hid (below_then (below_then B5.out hb) (below_alloc w6 (.cells #[.int .i64 4, .int .i64 0, .slice FA 2 fc, .slice FB fm fd] 38)))
  have S6 := Lib.hid (bitS_sl ((sl_bitS hsl).later (below_alloc w6 (.cells #[.int .i64 4, .int .i64 0, .slice FA 2 fc, .slice FB fm fd] 38))) (by decide))
  obtain ⟨q6, hq6⟩ : ∃ q6, q6 = w6.heap.size := ⟨_, rfl⟩
  clear hb hsl
  obtain ⟨a0, a1, a2, a3, a4⟩ := fives M6.out.bt
  go_wp2_with fail
  refine (C7.out _ M6.out).mono ?_
  rintro e w7 ⟨rfl, hb⟩
  have F7 := Lib.hid (F6.out.later hb)
  have P7 := Lib.hid (P6.out.later hb)
  have V7 := Lib.hid (VaC.later hb _ _ V6.out)
  have M7 := Lib.hid (M6.out.later hb)
  have B7 := Lib.hid (below_then B6.out hb)
  have S7 := Lib.hid (bitS_sl ((sl_bitS S6.out).later hb) (by decide))
  rw [← hq6] at F7 ⊢
  clear hb a0 a1 a2 a3 a4 F6 V6 hq6
  obtain ⟨b0, b1, b2, b3⟩ := four M7.out.bv
  obtain ⟨d0, d1, d2, d3⟩ := four P7.out
  go_wp2_with fail
  refine (C8.out _ A n c B m d M7.out V7.out).mono ?_
  rintro e w8 ⟨rfl, hb⟩
  have F8 := Lib.hid (F7.out.later hb)
  have M8 := Lib.hid (M7.out.later hb)
  have B8 := Lib.hid (below_then B7.out hb)
  have S8 := Lib.hid ((sl_bitS S7.out).later hb)
  have HN8 := Lib.hid (below_alloc w8 (.cells #[.int .u8 2, .int .u8 2] 72))
  have HX8 : Hid (Calls Tryz.prog 38 #[.slice FA 2 fc, .slice (some ⟨w8.heap.size, 0, none⟩) 2 2] (w8.alloc (.cells #[.int .u8 2, .int .u8 2] 72)) fun e w' => e = .returned (.bool true) ∧ Below (w8.alloc (.cells #[.int .u8 2, .int .u8 2] 72)).heap.size (w8.alloc (.cells #[.int .u8 2, .int .u8 2] 72)) w') :=
    Lg.same_any _ _ [2, 2] [2, 2] _ (bitS_sl (S8.out.later HN8.out) (by decide)) (Lg.Sl.lit w8 [2, 2] #[.int .u8 2, .int .u8 2] rfl (by decide) (by decide) w8.heap.size rfl 2 2 rfl (by decide))
  have M9 := Lib.hid (M8.out.later HN8.out)
  have B9 := Lib.hid (below_then B8.out HN8.out)
  clear hb b0 b1 b2 b3 d0 d1 d2 d3
  obtain ⟨f0, f1, f2, f3⟩ := four F8.out
  go_wp2_with fail
  refine (HX8.out).mono ?_
  rintro e w9 ⟨rfl, hb⟩
  have M10 := Lib.hid (M9.out.later hb)
  have B10 := Lib.hid (below_then B9.out hb)
  clear hb f0 f1 f2 f3
  obtain ⟨c0, c1, c2, c3, c4⟩ := fives M10.out.bu
  go_wp2_with fail
  refine (C9.out _ M10.out).mono ?_
  rintro e w10 ⟨rfl, hb⟩
  have M11 := Lib.hid (M10.out.later hb)
  have B11 := Lib.hid (below_then B10.out hb)
  clear hb c0 c1 c2 c3 c4
  obtain ⟨a0, a1, a2, a3, a4⟩ := fives M11.out.bt
  obtain ⟨b0, b1, b2, b3⟩ := four M11.out.bv
  go_wp2_with fail
  refine (C10.out _ M11.out).mono ?_
  rintro e w11 ⟨rfl, hb⟩
  have M12 := Lib.hid (M11.out.later hb)
  have B12 := Lib.hid (below_then B11.out hb)
  clear hb a0 a1 a2 a3 a4 b0 b1 b2 b3
  obtain ⟨a0, a1, a2, a3, a4⟩ := fives M12.out.bt
  go_wp2_with fail
  refine (C11.out _ M12.out).mono ?_
  rintro e w12 ⟨rfl, hb⟩
  have M13 := Lib.hid (M12.out.later hb)
  have B13 := Lib.hid (below_then B12.out hb)
  clear hb a0 a1 a2 a3 a4
  obtain ⟨a0, a1, a2, a3, a4⟩ := fives M13.out.bt
  obtain ⟨c0, c1, c2, c3, c4⟩ := fives M13.out.bu
  go_wp2_with fail
  refine (C12.out _ M13.out).mono ?_
  rintro e w13 ⟨rfl, hb⟩
  have B14 := Lib.hid (below_then B13.out hb)
  clear hb a0 a1 a2 a3 a4 c0 c1 c2 c3 c4
  go_wp2
  go_ret
  exact ⟨rfl, B14.out⟩
end Go.Proofs.YtdiagnhdigakpaaGreatDoor
/- The contract of the program's clone, for any value; names of types that are no enumerations say the type. -/
namespace Go.Proofs.YtdiagnhdigakpaaGreatDoor
open Go.RowKit

theorem clone_upto : ∀ (n : Nat) (v : Va) (cs : List Value) (w : World), SizeOf.sizeOf v < n → smV v → VaC w v cs → Calls Tryz.prog 91 #[.agg cs.toArray] w (CopyOf w v)
  | 0, _, _, _, h, _, _ => absurd h (Nat.not_lt_zero _)
  | n + 1, .mk k m bs ls, cs, w, hz, hs, h => by
    obtain ⟨h1, h2, h3⟩ := (smV_def _ _ _ _).1 hs
    obtain ⟨C, x, p, D, y, q, rfl, rfl, rfl, hb, -, -, hL⟩ := vaC_open h
    obtain ⟨b', o', hD, hV⟩ := va_rows hL
    exact clone_at k m C D p q b' o' bs ls w (bitS_sl hb (by show bs.length ≤ _; omega)) h1 h2 hD hV (fun j hj u cs hu hc => clone_upto n _ cs u (size_in hz (List.getElem_mem hj)) (h3 _ (List.getElem_mem hj)) hc)
theorem pclone_any (v : Va) (cs : List Value) (w : World) (hs : smV v) (h : VaC w v cs) : Calls Tryz.prog 91 #[.agg cs.toArray] w (CopyOf w v) := clone_upto _ v cs w (Nat.lt_succ_self _) hs h
/-- Is it an enumeration, or an array of some? -/
def enumT : Ty → Bool
  | .mk k _ _ _ es => decide (k = 5) || (decide (k = 6) && (match es with | e :: _ => decide (e.kind = 5) | [] => false))
theorem flat_name_inj {t u : Ty} (ht : Flat isNameL t) (hu : Flat isNameL u) (h1 : ¬ t.kind = 5) (h2 : ¬ u.kind = 5) (h : nameT t = nameT u) : t = u := by
  cases ht with
  | sc k hk =>
    cases hu with
    | sc k' hk' =>
      rcases hk with rfl | rfl | rfl <;> rcases hk' with rfl | rfl | rfl
      all_goals first
        | rfl
        | (simp only [nameT_bit, nameT_bool, nameT_int] at h; exact absurd h (by decide))
    | vec l a b =>
      rw [nameT_vec] at h
      rcases hk with rfl | rfl | rfl
      · rw [nameT_bit] at h; exact absurd (List.cons.inj h).1 (by decide)
      · rw [nameT_bool] at h; exact absurd (List.cons.inj h).1 (by decide)
      · rw [nameT_int] at h; exact absurd (List.cons.inj h).1 (by decide)
    | en nm ns a b => exact absurd rfl h2
  | vec l a b =>
    cases hu with
    | sc k' hk' =>
      rw [nameT_vec] at h
      rcases hk' with rfl | rfl | rfl
      · rw [nameT_bit] at h; exact absurd (List.cons.inj h).1 (by decide)
      · rw [nameT_bool] at h; exact absurd (List.cons.inj h).1 (by decide)
      · rw [nameT_int] at h; exact absurd (List.cons.inj h).1 (by decide)
    | vec l' a' b' =>
      rw [nameT_vec, nameT_vec] at h
      have h := List.append_inj_left' (List.cons.inj (List.cons.inj (List.cons.inj (List.cons.inj h).2).2).2).2 rfl
      have := ito_inj h
      have : l = l' := by omega
      rw [this]
    | en nm ns a b => exact absurd rfl h2
  | en nm ns a b => exact absurd rfl h1
end Go.Proofs.YtdiagnhdigakpaaGreatDoor
