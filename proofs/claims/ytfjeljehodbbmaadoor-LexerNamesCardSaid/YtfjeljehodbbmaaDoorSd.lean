/- What the library's three variables hold, and that it stays so; the library's functions that the program calls, over lists of bytes. -/
import Derived.Test.YtfjeljehodbbmaaDoorSh
import Derived.Test.YtfjeljehodbbmaaDoorSt
import Derived.Test.YtfjeljehodbbmaaDoorPy
import Derived.Lib.AtoiErrMem
namespace Go.Proofs.YtfjeljehodbbmaaDoor
open Go.RowKit

/-- The table of powers of ten, and the two errors, as they are laid. -/
structure Std (w : World) : Prop where
  tab : Lib.TabIs Tryd.prog w "internal/strconv.uint64pow10" .u64 Lib.pow10Tab
  syn : ∃ tp p, w.var? Tryd.prog "strconv.ErrSyntax" = some #[.iface tp p]
  rng : ∃ tp p, w.var? Tryd.prog "strconv.ErrRange" = some #[.iface tp p]
theorem var_later {P : Program} {w w' : World} {n : String} {cs : Array Value} (h : w.var? P n = some cs) (hb : Below w.heap.size w w') : w'.var? P n = some cs := by
  unfold World.var? at *
  cases hg : P.globalNamed n with
  | none => simp [hg] at h
  | some g =>
    simp only [hg, Option.bind_some] at h ⊢
    have hlt : g < w.heap.size := by
      rcases Nat.lt_or_ge g w.heap.size with h' | h'
      · exact h'
      · rw [Array.getElem?_eq_none h'] at h; simp at h
    rw [hb.block g hlt]
    exact h
theorem Std.later {w w' : World} (h : Std w) (hb : Below w.heap.size w w') : Std w' := by
  obtain ⟨h0, ⟨t1, p1, h1⟩, ⟨t2, p2, h2⟩⟩ := h
  exact ⟨var_later h0 hb, ⟨t1, p1, var_later h1 hb⟩, ⟨t2, p2, var_later h2 hb⟩⟩
theorem below_grown (w : World) (k : Nat) (os : Array Obj) : Below w.heap.size w (Sort.grow (w.drewN k) os) :=
  ⟨rfl, rfl, rfl, by show w.heap.size ≤ (w.heap ++ os).size; rw [Array.size_append]; omega, fun j hj => by
    show ((w.drewN k).heap ++ os)[j]? = _
    rw [Array.getElem?_append_left (by show j < w.heap.size; omega)]
    rfl⟩

theorem index_any (s : ByteArray) (x : UInt8) (w : World) :
    Calls Tryd.prog 62 #[.string s, .int .u8 x.toNat] w fun e w' => e = .returned (.int .i64 (Lib.indexByte (bl s) x)) ∧ w = w' := by
  refine (Any.strings_IndexByte Tryd.lays137 s (x.toNat : Int) w).mono ?_
  rintro e w' ⟨rfl, rfl⟩
  exact ⟨by simp [bl], rfl⟩
theorem prefix_any (s p : ByteArray) (w : World) :
    Calls Tryd.prog 44 #[.string s, .string p] w fun e w' => e = .returned (.bool ((bl p).isPrefixOf (bl s))) ∧ w = w' := by
  refine (Any.strings_HasPrefix Tryd.lays99 s p w).mono ?_
  rintro e w' ⟨rfl, rfl⟩
  exact ⟨rfl, rfl⟩
theorem dec_same (n : Nat) : Lib.decDigits n = decL n := by
  induction n using Nat.strongRecOn with
  | ind n ih =>
    rw [Lib.decDigits, decL]
    by_cases h : n < 10
    · rw [dif_pos h, dif_pos h]
    · rw [dif_neg h, dif_neg h, ih (n / 10) (by omega)]
/-- How a number is written. -/
def itoL (n : Int) : List UInt8 := Lib.itoa n
theorem ito_nat (n : Nat) : itoL n = decL n := by
  unfold itoL Lib.itoa
  rw [if_neg (by omega), Int.toNat_natCast, dec_same]
theorem itoa_any (n : Int) (h0 : -9223372036854775808 ≤ n) (h1 : n ≤ 9223372036854775807) (w : World) (hw : Std w) :
    Calls Tryd.prog 56 #[.int .i64 n] w fun e w' => e = .returned (.string (sb (itoL n))) ∧ Below w.heap.size w w' := by
  refine (Any.strconv_Itoa Tryd.laysM171 n h0 h1 w hw.tab).mono ?_
  rintro e w' ⟨rfl, k, os, rfl⟩
  exact ⟨rfl, below_grown w k os⟩
/-- What the program's question to a number gives: the number, and whether it is one. -/
theorem atoi_good (s : ByteArray) (hs : s.size ≤ 140737488355328) (v : Int) (h : Lib.atoiAll (bl s) = .ok v) (w : World) :
    Calls Tryd.prog 65 #[.string s] w fun e w' => e = .returned (.tuple #[.int .i64 v, .nilIface]) ∧ Below w.heap.size w w' := by
  refine (Any.strconv_Atoi_ok Tryd.laysC172 s (by omega) v h w).mono ?_
  rintro e w' ⟨rfl, h⟩
  refine ⟨rfl, ?_⟩
  rcases h with rfl | ⟨t, rfl⟩
  · exact Below.refl _ _
  · exact Lib.bytesWorld_below _ _ _
theorem atoi_bad (s : ByteArray) (hs : s.size ≤ 140737488355328) (h : ∀ v, Lib.atoiAll (bl s) ≠ .ok v) (w : World) (hw : Std w) :
    Calls Tryd.prog 65 #[.string s] w fun e w' => (∃ n t p, e = .returned (.tuple #[.int .i64 n, .iface t (.pointer p)])) ∧ Below w.heap.size w w' := by
  obtain ⟨_, ⟨t1, p1, h1⟩, ⟨t2, p2, h2⟩⟩ := hw
  cases ha : Lib.atoiAll (bl s)
  case ok v => exact absurd ha (h v)
  case range =>
    refine (Any.strconv_Atoi_range_var Tryd.laysC172 s (by omega) ha t2 p2 w h2).mono ?_
    rintro e w' ⟨N, rfl, _, _, hb⟩
    exact ⟨⟨_, _, _, rfl⟩, hb⟩
  all_goals
    refine (Any.strconv_Atoi_syntax_var Tryd.laysC172 s (by omega) ha t1 p1 w h1).mono ?_
    rintro e w' ⟨N, rfl, _, _, hb⟩
    exact ⟨⟨_, _, _, rfl⟩, hb⟩
theorem join_any (bk o c : Nat) (xs : List ByteArray) (sep : ByteArray) (w : World)
    (hcells : ∀ (j : Nat) x, xs[j]? = some x → w.cell? ⟨bk, o + j, none⟩ = some (.string x)) (hbk : bk < w.heap.size) (hN : xs.length ≤ 140737488355328) (hcap : xs.length ≤ c)
    (hlen : (Lib.join (xs.map bl) (bl sep)).length ≤ 140737488355328) :
    Calls Tryd.prog 33 #[.slice (some ⟨bk, o, none⟩) xs.length c, .string sep] w fun e w' => e = .returned (.string (sb (Lib.join (xs.map bl) (bl sep)))) ∧ Below w.heap.size w w' :=
  Any.strings_Join Tryd.lays156 Tryd.Builder_Extra_156 bk o c xs sep w hcells hbk hN hcap hlen
/-- What strings.Cut gives at a separator of one byte. -/
theorem slice_at (x : UInt8) : (⟨#[x]⟩ : ByteArray).size = 1 := rfl
set_option maxRecDepth 100000 in
theorem index0_any (s : ByteArray) (x : UInt8) (w : World) :
    Calls Tryd.prog 76 #[.string s, .int .u8 x.toNat] w fun e w' => e = .returned (.int .i64 (Lib.indexByte (bl s) x)) ∧ w = w' := by
  go_enter Tryd.func76, Tryd.ntmps76
  go_wp2
  rw [run_callFunc_extern Tryd.func83 (by kernel_rfl) (by kernel_rfl) (by kernel_rfl) (e := Extern.BytealgIndexByte.indexByte) (by kernel_rfl), Lib.run_indexByteString]
  simp only [Result.andThen]
  rw [Oper.upon_value]
  go_wp2
  go_ret
  exact ⟨by simp [bl], rfl⟩
theorem index1_any (s : ByteArray) (x : UInt8) (w : World) :
    Calls Tryd.prog 82 #[.string s, .string ⟨#[x]⟩] w fun e w' => e = .returned (.int .i64 (Lib.indexByte (bl s) x)) ∧ w = w' := by
  by_cases h : bl s = [x]
  · have e : s = ⟨#[x]⟩ := bl_inj h
    subst e
    have hi : Lib.indexByte (bl ⟨#[x]⟩) x = 0 := by rw [h]; simp [Lib.indexByte]
    rw [hi]
    have t1 : ((⟨#[x]⟩ : ByteArray).toList == (⟨#[x]⟩ : ByteArray).toList) = true := by simp
    have z1 := slice_at x
    generalize (⟨#[x]⟩ : ByteArray) = y at *
    go_enter Tryd.func82, Tryd.ntmps82
    go_wp2
    go_ret
    exact ⟨rfl, rfl⟩
  · have t1 : ((⟨#[x]⟩ : ByteArray).toList == s.toList) = false := by
      rw [bl_toList, bl_toList, beq_eq_false_iff_ne]
      exact fun e => h e.symm
    have z1 := slice_at x
    have z2 : (⟨#[x]⟩ : ByteArray)[0]'(by rw [z1]; decide) = x := rfl
    have HI := Lib.hid (fun w => index0_any s x w)
    generalize (⟨#[x]⟩ : ByteArray) = y at *
    clear h
    go_enter Tryd.func82, Tryd.ntmps82
    go_wp2_with fail
    refine (HI.out _).mono ?_
    rintro e w' ⟨rfl, rfl⟩
    go_wp2
    go_ret
    exact ⟨rfl, rfl⟩
theorem cut_piece {s : ByteArray} {x : UInt8} (h : x ∈ bl s) : (befL x (bl s)).length + 1 ≤ s.size ∧ s.extract 0 (befL x (bl s)).length = sb (befL x (bl s)) := by
  obtain ⟨z, hz⟩ := bef_split h
  constructor
  · have := congrArg List.length hz
    rw [bl_len, List.length_append, List.length_cons] at this
    omega
  · exact bl_inj (by
      rw [bl_extract, bl_sb, List.drop_zero, Nat.sub_zero]
      exact tw_take _ _)
set_option maxHeartbeats 2000000 in
theorem cut0_any (s : ByteArray) (x : UInt8) (hs : s.size ≤ 140737488355328) (w : World) :
    Calls Tryd.prog 75 #[.string s, .string ⟨#[x]⟩] w fun e w' => (∃ t, e = .returned (.tuple #[.string (sb (befL x (bl s))), .string t, .bool (decide (x ∈ bl s))])) ∧ Below w.heap.size w w' := by
  have z1 := slice_at x
  have HI := Lib.hid (fun w => index1_any s x w)
  generalize (⟨#[x]⟩ : ByteArray) = y at *
  by_cases h : x ∈ bl s
  · rw [decide_eq_true h]
    obtain ⟨hl, he⟩ := cut_piece h
    have hi := idx_in h
    rw [hi] at HI
    generalize sb (befL x (bl s)) = r at *
    generalize (befL x (bl s)).length = n at *
    obtain ⟨m, hm⟩ : ∃ m, m = n + 1 := ⟨_, rfl⟩
    have hm' : (n : Int) + 1 = (m : Int) := by omega
    have hml : m ≤ s.size := by omega
    have hnl : n ≤ s.size := by omega
    clear hi h hl hm
    go_enter Tryd.func75, Tryd.ntmps75
    go_wp2_with fail
    refine (HI.out _).mono ?_
    rintro e w' ⟨rfl, rfl⟩
    go_wp2
    go_region
    go_wp2
    go_ret3
    exact ⟨⟨_, rfl⟩, below_drewN (Below.refl _ _) 1⟩
  · rw [decide_eq_false h]
    have hi := idx_out h
    rw [hi] at HI
    rw [show sb (befL x (bl s)) = s from by rw [bef_none h, sb_bl]]
    clear hi h
    go_enter Tryd.func75, Tryd.ntmps75
    go_wp2_with fail
    refine (HI.out _).mono ?_
    rintro e w' ⟨rfl, rfl⟩
    go_wp2
    go_ret3
    exact ⟨⟨_, rfl⟩, Below.refl _ _⟩
theorem cut_any (s : ByteArray) (x : UInt8) (hs : s.size ≤ 140737488355328) (w : World) :
    Calls Tryd.prog 61 #[.string s, .string ⟨#[x]⟩] w fun e w' => (∃ t, e = .returned (.tuple #[.string (sb (befL x (bl s))), .string t, .bool (decide (x ∈ bl s))])) ∧ Below w.heap.size w w' := by
  have HI := Lib.hid (fun w => cut0_any s x hs w)
  generalize (⟨#[x]⟩ : ByteArray) = y at *
  generalize sb (befL x (bl s)) = r at *
  generalize decide (x ∈ bl s) = b at *
  go_enter Tryd.func61, Tryd.ntmps61
  go_wp2_with fail
  refine (HI.out _).mono ?_
  rintro e w' ⟨⟨t, rfl⟩, hb⟩
  have HB := Lib.hid hb
  clear hb
  go_wp2
  go_ret3
  exact ⟨⟨_, rfl⟩, HB.out⟩
end Go.Proofs.YtfjeljehodbbmaaDoor
