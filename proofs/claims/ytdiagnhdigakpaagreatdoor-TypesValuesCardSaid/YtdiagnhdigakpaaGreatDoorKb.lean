/- Types and values as trees; what it means that cells in memory read as one; that it stays so; how an argument is opened. -/
import Derived.Test.YtdiagnhdigakpaaGreatDoorKa
import Derived.Test.YtdiagnhdigakpaaGreatDoorProg
import Derived.ProofKit
import Derived.OpenShut
import Derived.SliceStrings
import Derived.ChangeSlices
import Derived.Deep.Slices
import Derived.Deep.Fields
import Derived.ChangeSame
import Derived.Lib.Hide
import Derived.Below
import Derived.Test.YtdiagnhdigakpaaGreatDoorSh
import Derived.Lib.AtoiErrMem
import Derived.Lib.SlicesS
import Derived.Test.YtdiagnhdigakpaaGreatDoorRows
import Derived.LaidMore
import Derived.Stop.Joined
import Derived.Stop.LaidErr
import Derived.Lib.LaidTab
import Derived.Lay
namespace Go.Proofs.YtdiagnhdigakpaaGreatDoor
open Go.ChangeShapes Go.WideShapes Go.ChangeAt Go.WideMaps Go.WideElems Go.RowKit

/-- A type, as any five fields hold it. -/
inductive Ty where
  | mk (kind len : Int) (name : ByteArray) (names : List ByteArray) (elem : List Ty)
/-- A value, as any four fields hold it. -/
inductive Va where
  | mk (kind n : Int) (bits : List Nat) (list : List Va)
/-- v is a slice that reads as these strings. -/
def StrS (w : World) (v : Value) (l : List ByteArray) : Prop :=
  ∃ (A : Option Addr) (c : Nat), v = .slice A l.length c ∧ l.length ≤ c ∧ l.length ≤ 9223372036854775807 ∧
    (l = [] ∨ ∃ b off, A = some ⟨b, off, none⟩ ∧ ∀ (k : Nat) (h : k < l.length), w.cell? ⟨b, off + k, none⟩ = some (.string l[k]))
/-- v is a slice that reads as these bits. -/
def BitS (w : World) (v : Value) (l : List Nat) : Prop :=
  ∃ (A : Option Addr) (c : Nat), v = .slice A l.length c ∧ l.length ≤ c ∧ l.length ≤ 9223372036854775807 ∧ (∀ z ∈ l, z < 256) ∧
    (l = [] ∨ ∃ b off, A = some ⟨b, off, none⟩ ∧ ∀ (k : Nat) (h : k < l.length), w.cell? ⟨b, off + k, none⟩ = some (.int .u8 (l[k] : Nat)))
mutual
/-- These five cells read as the type. -/
def TyC (w : World) : Ty → List Value → Prop
  | .mk k l nm ns es, cs => ∃ (vn : Value) (A : Option Addr) (c : Nat), cs = [.int .i64 k, .int .i64 l, .string nm, vn, .slice A es.length c] ∧ StrS w vn ns ∧ es.length ≤ c ∧ es.length ≤ 9223372036854775807 ∧
      (es = [] ∨ ∃ b off, A = some ⟨b, off, none⟩ ∧ TyAt w es b off)
/-- From a place on there are cells of these types. -/
def TyAt (w : World) : List Ty → Nat → Nat → Prop
  | [], _, _ => True
  | t :: r, b, off => (∃ cs : List Value, TyC w t cs ∧ ∀ j, j < 5 → w.cell? ⟨b, off + j, none⟩ = cs[j]?) ∧ TyAt w r b (off + 5)
end
mutual
/-- These four cells read as the value. -/
def VaC (w : World) : Va → List Value → Prop
  | .mk k n bs ls, cs => ∃ (vb : Value) (A : Option Addr) (c : Nat), cs = [.int .i64 k, .int .i64 n, vb, .slice A ls.length c] ∧ BitS w vb bs ∧ ls.length ≤ c ∧ ls.length ≤ 9223372036854775807 ∧
      (ls = [] ∨ ∃ b off, A = some ⟨b, off, none⟩ ∧ VaAt w ls b off)
/-- From a place on there are cells of these values. -/
def VaAt (w : World) : List Va → Nat → Nat → Prop
  | [], _, _ => True
  | t :: r, b, off => (∃ cs : List Value, VaC w t cs ∧ ∀ j, j < 4 → w.cell? ⟨b, off + j, none⟩ = cs[j]?) ∧ VaAt w r b (off + 4)
end
theorem cell_stays {w w' : World} (hb : Below w.heap.size w w') {p : Addr} {u : Value} (h : w.cell? p = some u) : w'.cell? p = some u := by
  have hl := block_lt_of_cell h
  exact (hb.cell (by exact hl)).trans h
theorem StrS.later {w w' : World} {v : Value} {l : List ByteArray} (h : StrS w v l) (hb : Below w.heap.size w w') : StrS w' v l := by
  obtain ⟨A, c, e, h1, h2, hc⟩ := h
  refine ⟨A, c, e, h1, h2, ?_⟩
  rcases hc with hc | ⟨b, off, e', hc⟩
  · exact .inl hc
  · exact .inr ⟨b, off, e', fun k hk => cell_stays hb (hc k hk)⟩
theorem BitS.later {w w' : World} {v : Value} {l : List Nat} (h : BitS w v l) (hb : Below w.heap.size w w') : BitS w' v l := by
  obtain ⟨A, c, e, h1, h2, h3, hc⟩ := h
  refine ⟨A, c, e, h1, h2, h3, ?_⟩
  rcases hc with hc | ⟨b, off, e', hc⟩
  · exact .inl hc
  · exact .inr ⟨b, off, e', fun k hk => cell_stays hb (hc k hk)⟩
mutual
theorem TyC.later {w w' : World} (hb : Below w.heap.size w w') : ∀ (t : Ty) (cs : List Value), TyC w t cs → TyC w' t cs
  | .mk k l nm ns es, cs, h => by
    rw [TyC] at h ⊢
    obtain ⟨vn, A, c, e, hs, h1, h2, hc⟩ := h
    refine ⟨vn, A, c, e, hs.later hb, h1, h2, ?_⟩
    rcases hc with hc | ⟨b, off, e', hc⟩
    · exact .inl hc
    · exact .inr ⟨b, off, e', TyAt.later hb es b off hc⟩
theorem TyAt.later {w w' : World} (hb : Below w.heap.size w w') : ∀ (ts : List Ty) (b off : Nat), TyAt w ts b off → TyAt w' ts b off
  | [], _, _, _ => by rw [TyAt]; trivial
  | t :: r, b, off, h => by
    rw [TyAt] at h ⊢
    obtain ⟨⟨cs, h1, h2⟩, h3⟩ := h
    have hl : cs.length = 5 := by
      cases t
      rw [TyC] at h1
      obtain ⟨_, _, _, rfl, _⟩ := h1
      rfl
    refine ⟨⟨cs, TyC.later hb t cs h1, fun j hj => ?_⟩, TyAt.later hb r b (off + 5) h3⟩
    have := h2 j hj
    rw [List.getElem?_eq_getElem (by omega)] at this ⊢
    exact cell_stays hb this
end
mutual
theorem VaC.later {w w' : World} (hb : Below w.heap.size w w') : ∀ (t : Va) (cs : List Value), VaC w t cs → VaC w' t cs
  | .mk k n bs ls, cs, h => by
    rw [VaC] at h ⊢
    obtain ⟨vn, A, c, e, hs, h1, h2, hc⟩ := h
    refine ⟨vn, A, c, e, hs.later hb, h1, h2, ?_⟩
    rcases hc with hc | ⟨b, off, e', hc⟩
    · exact .inl hc
    · exact .inr ⟨b, off, e', VaAt.later hb ls b off hc⟩
theorem VaAt.later {w w' : World} (hb : Below w.heap.size w w') : ∀ (ts : List Va) (b off : Nat), VaAt w ts b off → VaAt w' ts b off
  | [], _, _, _ => by rw [VaAt]; trivial
  | t :: r, b, off, h => by
    rw [VaAt] at h ⊢
    obtain ⟨⟨cs, h1, h2⟩, h3⟩ := h
    have hl : cs.length = 4 := by
      cases t
      rw [VaC] at h1
      obtain ⟨_, _, _, rfl, _⟩ := h1
      rfl
    refine ⟨⟨cs, VaC.later hb t cs h1, fun j hj => ?_⟩, VaAt.later hb r b (off + 4) h3⟩
    have := h2 j hj
    rw [List.getElem?_eq_getElem (by omega)] at this ⊢
    exact cell_stays hb this
end
end Go.Proofs.YtdiagnhdigakpaaGreatDoor
/- What the library's variables hold, and that it stays so; the library's functions that the program calls, over lists of bytes. -/
namespace Go.Proofs.YtdiagnhdigakpaaGreatDoor
open Go.RowKit

/-- The table of powers of ten, and the two errors, as they are laid; the greatest length that strings.Index looks at is some int. -/
structure Std (w : World) : Prop where
  tab : Lib.TabIs Tryz.prog w "internal/strconv.uint64pow10" .u64 Lib.pow10Tab
  syn : ∃ tp p, w.var? Tryz.prog "strconv.ErrSyntax" = some #[.iface tp p]
  rng : ∃ tp p, w.var? Tryz.prog "strconv.ErrRange" = some #[.iface tp p]
  mlen : ∃ m, w.cell? ⟨3, 0, none⟩ = some (.int .i64 m)
theorem var_later {P : Program} {w w' : World} {n : String} {cs : Array Value} (h : w.var? P n = some cs) (hb : Below w.heap.size w w') : w'.var? P n = some cs := by
  unfold World.var? at *
  cases hg : P.globalNamed n with
  | none => simp [hg] at h
  | some g =>
    simp only [hg, Option.bind_some] at h ⊢
    have hlt : g < w.heap.size := by
      rcases Nat.lt_or_ge g w.heap.size with h' | h'
      · exact h'
      · rw [Array.getElem?_eq_none h'] at h; simp at h
    rw [hb.block g hlt]
    exact h
theorem Std.later {w w' : World} (h : Std w) (hb : Below w.heap.size w w') : Std w' := by
  obtain ⟨h0, ⟨t1, p1, h1⟩, ⟨t2, p2, h2⟩, ⟨m, h3⟩⟩ := h
  exact ⟨var_later h0 hb, ⟨t1, p1, var_later h1 hb⟩, ⟨t2, p2, var_later h2 hb⟩, ⟨m, cell_stays hb h3⟩⟩
theorem below_grown (w : World) (k : Nat) (os : Array Obj) : Below w.heap.size w (Sort.grow (w.drewN k) os) :=
  ⟨rfl, rfl, rfl, by show w.heap.size ≤ (w.heap ++ os).size; rw [Array.size_append]; omega, fun j hj => by
    show ((w.drewN k).heap ++ os)[j]? = _
    rw [Array.getElem?_append_left (by show j < w.heap.size; omega)]
    rfl⟩
theorem itoa_any (n : Int) (h0 : -9223372036854775808 ≤ n) (h1 : n ≤ 9223372036854775807) (w : World) (hw : Std w) :
    Calls Tryz.prog 106 #[.int .i64 n] w fun e w' => e = .returned (.string (sb (itoL n))) ∧ Below w.heap.size w w' := by
  refine (Tryz.strconv_Itoa n h0 h1 w hw.tab).mono ?_
  rintro e w' ⟨rfl, k, os, rfl⟩
  exact ⟨rfl, below_grown w k os⟩
/-- What the program's question to a number gives: the number, and whether it is one. -/
theorem atoi_good (s : ByteArray) (hs : s.size ≤ 140737488355328) (v : Int) (h : Lib.atoiAll (bl s) = .ok v) (w : World) :
    Calls Tryz.prog 121 #[.string s] w fun e w' => e = .returned (.tuple #[.int .i64 v, .nilIface]) ∧ Below w.heap.size w w' := by
  refine (Tryz.strconv_Atoi_ok s (by omega) v h w).mono ?_
  rintro e w' ⟨rfl, h⟩
  refine ⟨rfl, ?_⟩
  rcases h with rfl | ⟨t, rfl⟩
  · exact Below.refl _ _
  · exact Lib.bytesWorld_below _ _ _
theorem atoi_bad (s : ByteArray) (hs : s.size ≤ 140737488355328) (h : ∀ v, Lib.atoiAll (bl s) ≠ .ok v) (w : World) (hw : Std w) :
    Calls Tryz.prog 121 #[.string s] w fun e w' => (∃ n t p, e = .returned (.tuple #[.int .i64 n, .iface t (.pointer p)])) ∧ Below w.heap.size w w' := by
  obtain ⟨_, ⟨t1, p1, h1⟩, ⟨t2, p2, h2⟩, _⟩ := hw
  cases ha : Lib.atoiAll (bl s)
  case ok v => exact absurd ha (h v)
  case range =>
    refine (Tryz.strconv_Atoi_range_var s (by omega) ha t2 p2 w h2).mono ?_
    rintro e w' ⟨N, rfl, _, _, hb⟩
    exact ⟨⟨_, _, _, rfl⟩, hb⟩
  all_goals
    refine (Tryz.strconv_Atoi_syntax_var s (by omega) ha t1 p1 w h1).mono ?_
    rintro e w' ⟨N, rfl, _, _, hb⟩
    exact ⟨⟨_, _, _, rfl⟩, hb⟩
theorem join_any (bk o c : Nat) (xs : List ByteArray) (sep : ByteArray) (w : World)
    (hcells : ∀ (j : Nat) x, xs[j]? = some x → w.cell? ⟨bk, o + j, none⟩ = some (.string x)) (hbk : bk < w.heap.size) (hN : xs.length ≤ 140737488355328) (hcap : xs.length ≤ c)
    (hlen : ((bl sep).intercalate (xs.map bl)).length ≤ 140737488355328) :
    Calls Tryz.prog 116 #[.slice (some ⟨bk, o, none⟩) xs.length c, .string sep] w fun e w' => e = .returned (.string (sb ((bl sep).intercalate (xs.map bl)))) ∧ Below w.heap.size w w' :=
  Tryz.strings_Join bk o c xs sep w hcells hbk hN hcap hlen
theorem formatBool_any (b : Bool) (w : World) :
    Calls Tryz.prog 115 #[.bool b] w fun e w' => e = .returned (.string (if b then ⟨#[116, 114, 117, 101]⟩ else ⟨#[102, 97, 108, 115, 101]⟩)) ∧ w = w' := by
  refine (Tryz.strconv_FormatBool b w).mono ?_
  rintro e w' ⟨rfl, rfl⟩
  refine ⟨?_, rfl⟩
  cases b
  · have h : Lib.formatBool false = [102, 97, 108, 115, 101] := by decide +kernel
    rw [h]
    rfl
  · have h : Lib.formatBool true = [116, 114, 117, 101] := by decide +kernel
    rw [h]
    rfl
theorem trimPrefix_any (s p : ByteArray) (w : World) :
    Calls Tryz.prog 152 #[.string s, .string p] w fun e w' => e = .returned (.string (sb (Lib.trimPrefix (bl s) (bl p)))) ∧ w = w' := by
  refine (Tryz.strings_TrimPrefix s p w).mono ?_
  rintro e w' ⟨rfl, rfl⟩
  exact ⟨rfl, rfl⟩
theorem trimSuffix_any (s p : ByteArray) (hs : s.size ≤ 9223372036854775807) (w : World) :
    Calls Tryz.prog 151 #[.string s, .string p] w fun e w' => e = .returned (.string (sb (Lib.trimSuffix (bl s) (bl p)))) ∧ w = w' := by
  refine (Tryz.strings_TrimSuffix s p w hs).mono ?_
  rintro e w' ⟨rfl, rfl⟩
  exact ⟨rfl, rfl⟩
theorem bitsLen_any (n : Nat) (h : n ≤ 16) (w : World) :
    Calls Tryz.prog 107 #[.int .u64 n] w fun e w' => e = .returned (.int .i64 (Lib.bitLen n : Nat)) ∧ w = w' := by
  refine (Tryz.bits_Len n w (by omega) (by omega)).mono ?_
  rintro e w' ⟨rfl, rfl⟩
  exact ⟨by rw [Int.toNat_natCast], rfl⟩
theorem getD_at {l : List ByteArray} {j : Nat} (h : j < l.length) : l.getD j ByteArray.empty = l[j] := by
  rw [List.getD_eq_getElem?_getD, List.getElem?_eq_getElem h]
  rfl
theorem contains_any (ns : List ByteArray) (b off c : Nat) (x : ByteArray) (w : World) (n : Nat) (hn : n ≤ ns.length) (hl : ns.length ≤ 9223372036854775807)
    (hc : ∀ (k : Nat) (h : k < ns.length), w.cell? ⟨b, off + k, none⟩ = some (.string ns[k])) :
    Calls Tryz.prog 100 #[.slice (some ⟨b, off, none⟩) n c, .string x] w fun e w' => e = .returned (.bool (Lib.containsS (ns.take n) x)) ∧ w = w' := by
  refine (Tryz.slices_Contains_string b off n c ns x w hn (by omega) (fun j hj => by rw [getD_at hj]; exact hc j hj)).mono ?_
  rintro e w' ⟨rfl, rfl⟩
  exact ⟨rfl, rfl⟩
theorem equalS_any (v u : Value) (xs ys : List ByteArray) (w : World) (hv : StrS w v xs) (hu : StrS w u ys) :
    Calls Tryz.prog 104 #[v, u] w fun e w' => e = .returned (.bool (decide (xs = ys))) ∧ Below w.heap.size w w' := by
  obtain ⟨A, c, rfl, h1, h2, h3⟩ := hv
  obtain ⟨B, d, rfl, g1, g2, g3⟩ := hu
  by_cases hl : xs.length = ys.length
  · rcases h3 with rfl | ⟨b, o, rfl, h3⟩
    · have hy : ys = [] := List.eq_nil_of_length_eq_zero (by rw [← hl]; rfl)
      subst hy
      refine (Tryz.slices_Equal_string_empty A B c 0 d w (by omega)).mono ?_
      rintro e w' ⟨rfl, rfl⟩
      exact ⟨rfl, Below.refl _ _⟩
    · rcases g3 with rfl | ⟨b', o', rfl, g3⟩
      · have hx : xs = [] := List.eq_nil_of_length_eq_zero (by rw [hl]; rfl)
        subst hx
        refine (Tryz.slices_Equal_string_empty _ B c 0 d w (by omega)).mono ?_
        rintro e w' ⟨rfl, rfl⟩
        exact ⟨rfl, Below.refl _ _⟩
      · refine (Tryz.slices_Equal_string b o xs.length c b' o' ys.length d xs ys w (Nat.le_refl _) (Nat.le_refl _) h2 g2 (fun j hj => by rw [getD_at hj]; exact h3 j hj) (fun j hj => by rw [getD_at hj]; exact g3 j hj)).mono ?_
        rintro e w' ⟨rfl, q, rfl⟩
        refine ⟨?_, below_drewN (Below.refl _ _) q⟩
        rw [List.take_length, List.take_length]
  · refine (Tryz.slices_Equal_string_lens A B xs.length c ys.length d w hl).mono ?_
    rintro e w' ⟨rfl, rfl⟩
    refine ⟨?_, Below.refl _ _⟩
    rw [decide_eq_false (fun h => hl (by rw [h]))]
/-- Where a string stands among others: the first place, or -1. -/
theorem indexS_any (v : Value) (xs : List ByteArray) (x : ByteArray) (w : World) (hv : StrS w v xs) :
    Calls Tryz.prog 122 #[v, .string x] w fun e w' => e = .returned (.int .i64 (Lib.idxOfS xs x)) ∧ w = w' := by
  obtain ⟨A, c, rfl, h1, h2, h3⟩ := hv
  rcases h3 with rfl | ⟨b, o, rfl, h3⟩
  · refine (Tryz.slices_Index_string_empty A c x w).mono ?_
    rintro e w' ⟨rfl, rfl⟩
    exact ⟨rfl, rfl⟩
  · refine (Tryz.slices_Index_string b o xs.length c xs x w (Nat.le_refl _) h2 (fun j hj => by rw [getD_at hj]; exact h3 j hj)).mono ?_
    rintro e w' ⟨rfl, rfl⟩
    exact ⟨by rw [List.take_length], rfl⟩
end Go.Proofs.YtdiagnhdigakpaaGreatDoor
/- The listed package-level variables: from what the rows list to what the library's three variables hold. -/
namespace Go.Proofs.YtdiagnhdigakpaaGreatDoor
open Go.ChangeShapes Go.WideShapes Go.ChangeAt Go.WideMaps Go.WideElems Go.RowKit

def laid7 : List (String × DataW Unit) := [("math/bits.deBruijn32tab", Rows.laid_math_bits_deBruijn32tab), ("math/bits.deBruijn64tab", Rows.laid_math_bits_deBruijn64tab), ("internal/strconv.uint64pow10", Rows.laid_internal_strconv_uint64pow10), ("unicode/utf8.acceptRanges", Rows.laid_unicode_utf8_acceptRanges), ("strconv.ErrRange", Rows.laid_strconv_ErrRange), ("strconv.ErrSyntax", Rows.laid_strconv_ErrSyntax), ("unicode/utf8.first", Rows.laid_unicode_utf8_first)]

theorem own : ownKnob Tryz.prog.godebug = none := by kernel_rfl
theorem gPow : Tryz.prog.globalNamed "internal/strconv.uint64pow10" = some 2 := by kernel_rfl
theorem gRng : Tryz.prog.globalNamed "strconv.ErrRange" = some 1 := by kernel_rfl
theorem gSyn : Tryz.prog.globalNamed "strconv.ErrSyntax" = some 0 := by kernel_rfl
theorem tPow : (Tryz.prog.globals[2]?).map (·.type) = some 180 := by kernel_rfl
theorem tRng : (Tryz.prog.globals[1]?).map (·.type) = some 123 := by kernel_rfl
theorem tSyn : (Tryz.prog.globals[0]?).map (·.type) = some 123 := by kernel_rfl
theorem cU64 : Tryz.prog.cellsOf 99 = 1 := by kernel_rfl
theorem cPow : Tryz.prog.cellsOf 180 = 20 := by kernel_rfl
theorem cErr : Tryz.prog.cellsOf 185 = 1 := by kernel_rfl
theorem cStr : Tryz.prog.cellsOf 9 = 1 := by kernel_rfl
theorem starErr : "*" ++ "errors.errorString" = "*errors.errorString" := by decide
theorem rowErr (u : TypeId) (h : Tryz.prog.typeName? 3 u = some "*errors.errorString") : u = 183 :=
  typeName_ptr_named (nm := "errors.errorString") (by rw [starErr]; kernel_rfl) (by kernel_rfl) (by decide) u (by rw [starErr]; exact h)

theorem of_laid {W : World} (h : laidMetH Tryz.prog laid7 W) (hm : ∃ m, W.cell? ⟨3, 0, none⟩ = some (.int .i64 m)) : Std W := by
  rw [MakeChecks.laidMetH_plain _ _ _ (by kernel_rfl)] at h
  obtain ⟨a0, s0, hv0, -, -, -⟩ := laid_sentinel h.tail.tail.tail.tail gRng tRng Tryz.underlying123 rowErr Tryz.underlying183 Tryz.underlying185 rfl rfl Tryz.underlying9 cErr cStr
  obtain ⟨a1, s1, hv1, -, -, -⟩ := laid_sentinel h.tail.tail.tail.tail.tail gSyn tSyn Tryz.underlying123 rowErr Tryz.underlying183 Tryz.underlying185 rfl rfl Tryz.underlying9 cErr cStr
  exact ⟨Lib.tabIs_of_head gPow tPow Tryz.underlying180 Tryz.underlying99 cU64 cPow h.tail.tail, ⟨_, _, hv1⟩, ⟨_, _, hv0⟩, hm⟩

/-- A world in which all of it lies. -/
theorem laid_met (os : Os) (args : Array Value) : laidMetH Tryz.prog laid7 ((World.laidAll Tryz.prog os laid7).forCall (fun _ _ => 0) ⟨#[], args, []⟩).memory := by
  rw [MakeChecks.laidMetH_plain _ _ _ (by kernel_rfl)]
  exact laidMet_laidAll args (by kernel_rfl) (by kernel_rfl)
theorem laid_shaped (os : Os) : (World.laidAll Tryz.prog os laid7).Shaped Tryz.prog := World.shaped_of_ZipB (by kernel_rfl) (by kernel_rfl)
end Go.Proofs.YtdiagnhdigakpaaGreatDoor
/- The contracts of the reference's IsName, number and quoted. -/
namespace Go.Proofs.YtdiagnhdigakpaaGreatDoor
open Go.RowKit

theorem all_run {l : List UInt8} : decide (runN 1 l = l.length) = l.all innB := by
  have e : runN 1 l = (l.takeWhile innB).length := rfl
  rw [e]
  cases h : l.all innB with
  | true =>
    apply decide_eq_true
    have := (tw_stop (p := innB) (x := l) (z := []) h (by intro c hc; cases hc)).1
    rw [List.append_nil] at this
    rw [this]
  | false =>
    apply decide_eq_false
    intro hl
    have hs := tw_split innB l
    have ht := tw_all innB l
    have : l.dropWhile innB = [] := by
      have h2 := congrArg List.length hs
      rw [List.length_append, hl] at h2
      exact List.eq_nil_of_length_eq_zero (by omega)
    rw [this, List.append_nil] at hs
    rw [← hs, h] at ht
    cases ht
theorem hd_at {s : ByteArray} (h : 0 < s.size) : hdLet (bl s) = letN (s[0]).toNat := by
  have h2 := bl_get s 0 h
  cases hb : bl s with
  | nil => have := bl_len s; rw [hb] at this; rw [List.length_nil] at this; omega
  | cons c r =>
    simp only [hb, List.getElem_cons_zero] at h2
    rw [← h2]
    rfl
theorem isName_eq (s : ByteArray) : isNameL (bl s) = (decide (s.size ≤ 40) && (hdLet (bl s) && (decide (runN 1 (bl s) = s.size) && !isWordL (bl s)))) := by
  unfold isNameL
  rw [← bl_len s, all_run]
set_option maxHeartbeats 1000000 in
theorem refIsName_any (s : ByteArray) (w : World) :
    Calls Tryz.prog 62 #[.string s] w fun e w' => e = .returned (.bool (isNameL (bl s))) ∧ Below w.heap.size w w' := by
  rw [isName_eq]
  by_cases h0 : 0 < s.size
  · have d0 : decide ((1 : Int) ≤ (s.size : Int)) = true := by rw [decide_eq_true_eq]; omega
    have hh := hd_at h0
    have HL := Lib.hid (letter_at (s[0]).toNat)
    rw [← hh] at HL
    by_cases h40 : s.size ≤ 40
    · have d1 : decide ((s.size : Int) ≤ 40) = true := by rw [decide_eq_true_eq]; omega
      rw [decide_eq_true h40]
      have HR := Lib.hid (fun w => run_any s 0 1 (by omega) (Nat.zero_le _) (by omega) w)
      rw [List.drop_zero] at HR
      have HW := Lib.hid (refIsWord_any s)
      generalize hdLet (bl s) = hd at *
      generalize runN 1 (bl s) = r at *
      generalize isWordL (bl s) = iw at *
      cases hd
      · clear h40 hh
        go_enter Tryz.func62, Tryz.ntmps62
        go_wp2_with fail
        refine (HL.out _).mono ?_
        rintro e w' ⟨rfl, rfl⟩
        go_wp2
        go_ret
        exact ⟨rfl, Below.refl _ _⟩
      · by_cases hr : r = s.size
        · have d2 : ((r : Int) == (s.size : Int)) = true := by rw [beq_iff_eq]; omega
          rw [decide_eq_true hr]
          clear h40 hh hr
          cases iw
          all_goals
            go_enter Tryz.func62, Tryz.ntmps62
            go_wp2_with fail
            refine (HL.out _).mono ?_
            rintro e w' ⟨rfl, rfl⟩
            go_wp2_with fail
            refine (HR.out _).mono ?_
            rintro e w' ⟨rfl, rfl⟩
            go_wp2_with fail
            refine (HW.out _).mono ?_
            rintro e w' ⟨rfl, hb⟩
            have HB := Lib.hid hb
            clear hb
            go_wp2
            go_ret
            exact ⟨rfl, HB.out⟩
        · have d2 : ((r : Int) == (s.size : Int)) = false := by rw [beq_eq_false_iff_ne]; omega
          rw [decide_eq_false hr]
          clear h40 hh hr
          go_enter Tryz.func62, Tryz.ntmps62
          go_wp2_with fail
          refine (HL.out _).mono ?_
          rintro e w' ⟨rfl, rfl⟩
          go_wp2_with fail
          refine (HR.out _).mono ?_
          rintro e w' ⟨rfl, rfl⟩
          go_wp2
          go_ret
          exact ⟨rfl, Below.refl _ _⟩
    · have d1 : decide ((s.size : Int) ≤ 40) = false := by rw [decide_eq_false_iff_not]; omega
      rw [decide_eq_false h40]
      clear h40 hh
      go_enter Tryz.func62, Tryz.ntmps62
      go_wp2
      go_ret
      exact ⟨rfl, Below.refl _ _⟩
  · have d0 : decide ((1 : Int) ≤ (s.size : Int)) = false := by rw [decide_eq_false_iff_not]; omega
    have hn : bl s = [] := List.eq_nil_of_length_eq_zero (by rw [bl_len]; omega)
    rw [show hdLet (bl s) = false by rw [hn]; rfl, Bool.false_and, Bool.and_false]
    clear hn h0
    go_enter Tryz.func62, Tryz.ntmps62
    go_wp2
    go_ret
    exact ⟨rfl, Below.refl _ _⟩

/-- What number returns of digits. -/
def numI (l : List UInt8) : Int := if valL l ≤ maxI then (valL l : Int) else -1
theorem val_mono (a b : List UInt8) : valL a ≤ valL (a ++ b) := by
  unfold valL
  rw [List.foldl_append]
  generalize a.foldl (fun n c => 10 * n + (c.toNat - 48)) 0 = n
  have key : ∀ (b : List UInt8) (n : Nat), n ≤ b.foldl (fun n c => 10 * n + (c.toNat - 48)) n := by
    intro b
    induction b with
    | nil => intro n; exact Nat.le_refl _
    | cons c b ih => intro n; exact Nat.le_trans (by omega) (ih (10 * n + (c.toNat - 48)))
  exact key b n
theorem val_take {l : List UInt8} {k : Nat} (h : k < l.length) : valL (l.take (k + 1)) = 10 * valL (l.take k) + (l[k].toNat - 48) := by
  rw [List.take_succ_eq_append_getElem h, val_append]
theorem val_over {l : List UInt8} {k : Nat} (h : ¬ valL (l.take k) ≤ maxI) : numI l = -1 := by
  have := val_mono (l.take k) (l.drop k)
  rw [List.take_append_drop] at this
  unfold numI
  rw [if_neg (by omega)]
theorem val_end {l : List UInt8} {k : Nat} (h : ¬ k < l.length) (hv : valL (l.take k) ≤ maxI) : numI l = (valL (l.take k) : Int) := by
  rw [List.take_of_length_le (by omega)] at *
  unfold numI
  rw [if_pos hv]
theorem u8_digit {x : Nat} (h1 : 48 ≤ x) (h2 : x < 256) : IntKind.u8.wrap ((x : Int) - 48) = ((x - 48 : Nat) : Int) := by
  rw [IntKind.wrap_u8]; omega
end Go.Proofs.YtdiagnhdigakpaaGreatDoor
/- How arguments that are types, values, slices of values, arrays of values are opened: whatever can be read, reads as trees. -/
namespace Go.Proofs.YtdiagnhdigakpaaGreatDoor
open Go.ChangeShapes Go.WideShapes Go.ChangeAt Go.WideMaps Go.WideElems Go.RowKit

theorem dTy : Tryz.prog.cellsOf 26 = 5 := by kernel_rfl
theorem dVa : Tryz.prog.cellsOf 38 = 4 := by kernel_rfl
theorem dKind : Tryz.prog.cellsOf 22 = 1 := by kernel_rfl
theorem dInt : Tryz.prog.cellsOf 3 = 1 := by kernel_rfl
theorem dStr : Tryz.prog.cellsOf 9 = 1 := by kernel_rfl
theorem dBit : Tryz.prog.cellsOf 72 = 1 := by kernel_rfl
theorem dStrs : Tryz.prog.cellsOf 23 = 1 := by kernel_rfl
theorem dTys : Tryz.prog.cellsOf 24 = 1 := by kernel_rfl
theorem dBits : Tryz.prog.cellsOf 35 = 1 := by kernel_rfl
theorem dVas : Tryz.prog.cellsOf 36 = 1 := by kernel_rfl
theorem max_num : maxLen = 9223372036854775807 := by decide
theorem spot_none {w : World} {a : Addr} {u : Value} (h : w.cell? a = some u) : ∃ b o, a = ⟨b, o, none⟩ := by
  obtain ⟨b, o, spot⟩ := a
  have hs : spot = none := by simpa using World.cell?_spot h
  exact ⟨b, o, by rw [hs]⟩
section
variable {H : Type} {enc : TypeId × Value → H} {w : World} {base : Nat} {sp : Nat → Bool} {held : Bool}
theorem strs_read {fuel : Nat} {cs : List Value} {x : DataW H × List MemPlace} (h : DataW.trod enc Tryz.prog w base sp held fuel 23 cs = some x) : ∃ v l, cs = [v] ∧ StrS w v l := by
  rcases open_strings Tryz.underlying23 Tryz.underlying9 dStr h with ⟨rfl, _⟩ | ⟨a, len, cap, ss, rfl, _, hl, hm, hss, _, hc, _⟩
  · exact ⟨_, [], rfl, none, 0, rfl, by simp, by simp, .inl rfl⟩
  · rw [max_num] at hm
    have hle : len ≤ ss.length := by rw [hss]; split <;> omega
    have ht : (ss.take len).length = len := by rw [List.length_take]; omega
    refine ⟨_, ss.take len, rfl, some a, cap, by rw [ht], by omega, by omega, ?_⟩
    by_cases h0 : 0 < len
    · obtain ⟨b, o, rfl⟩ := spot_none (w := w) (a := a) (by have := hc 0 (by omega); simpa [Addr.add] using this)
      refine .inr ⟨b, o, rfl, fun k hk => ?_⟩
      rw [ht] at hk
      have := hc k (by omega)
      rw [add_plain] at this
      rw [this, List.getElem_take]
      simp [List.getD, List.getElem?_eq_getElem (show k < ss.length by omega)]
    · exact .inl (List.eq_nil_of_length_eq_zero (by omega))
theorem bits_read {fuel : Nat} {cs : List Value} {x : DataW H × List MemPlace} (h : DataW.trod enc Tryz.prog w base sp held fuel 35 cs = some x) : ∃ v l, cs = [v] ∧ BitS w v l := by
  rcases open_ints Tryz.underlying35 Tryz.underlying72 dBit h with ⟨rfl, _⟩ | ⟨a, len, cap, zs, rfl, _, hl, hm, hss, _, hc, hw⟩
  · exact ⟨_, [], rfl, none, 0, rfl, by simp, by simp, by simp, .inl rfl⟩
  · rw [max_num] at hm
    have hle : len ≤ zs.length := by rw [hss]; split <;> omega
    have ht : ((zs.take len).map Int.toNat).length = len := by rw [List.length_map, List.length_take]; omega
    refine ⟨_, (zs.take len).map Int.toNat, rfl, some a, cap, by rw [ht], by omega, by omega, ?_, ?_⟩
    · intro z hz
      obtain ⟨y, hy, rfl⟩ := List.mem_map.1 hz
      have := bounds_u8 (hw y (List.mem_of_mem_take hy))
      omega
    · by_cases h0 : 0 < len
      · obtain ⟨b, o, rfl, hc2⟩ := ints_at hc (by omega)
        refine .inr ⟨b, o, rfl, fun k hk => ?_⟩
        rw [ht] at hk
        have hk' : k < zs.length := by omega
        rw [hc2 k hk']
        have hb := bounds_u8 (hw zs[k] (List.getElem_mem hk'))
        simp [List.getD, List.getElem?_eq_getElem hk']
        omega
      · exact .inl (List.eq_nil_of_length_eq_zero (by omega))
/-- The single cell at a place of a struct. -/
theorem one_cell {cs : List Value} {k m : Nat} (hl : cs.length = m) (hk : k < m) : ∃ u, cs[k]? = some u ∧ (cs.drop k).take 1 = [u] :=
  ⟨_, List.getElem?_eq_getElem (by omega), by rw [List.drop_eq_getElem_cons (by omega)]; rfl⟩
/-- A row of structs, each of which reads as a tree. -/
theorem row_read {T : Type} {R : T → List Value → Prop} {t : TypeId} {size len : Nat} {a : Addr} {fuel : Nat} {elems : List (DataW H × List MemPlace)} (hsz : 0 < size)
    (hel : ∀ i, i < len → (w.cells? base (a.add (i * size)) size).bind (DataW.trod enc Tryz.prog w base sp held fuel t) = elems[i]?) (hlen : elems.length = len)
    (ih : ∀ cs x, DataW.trod enc Tryz.prog w base sp held fuel t cs = some x → ∃ v, R v cs) :
    ∃ l : List T, l.length = len ∧ (0 < len → ∃ b o, a = ⟨b, o, none⟩ ∧ ∀ (k : Nat) (hk : k < l.length), ∃ cs : List Value, R l[k] cs ∧ ∀ j, j < size → w.cell? ⟨b, o + k * size + j, none⟩ = cs[j]?) := by
  have key : ∀ i, i < len → ∃ cs', w.cells? base (a.add (i * size)) size = some cs' ∧ ∃ v, R v cs' := by
    intro i hi
    have h1 := hel i hi
    rw [List.getElem?_eq_getElem (by omega)] at h1
    obtain ⟨cs', h2, h3⟩ := Option.bind_eq_some_iff.1 h1
    exact ⟨cs', h2, ih cs' _ h3⟩
  by_cases h0 : 0 < len
  · obtain ⟨b, o, rfl⟩ : ∃ b o, a = ⟨b, o, none⟩ := by
      obtain ⟨cs', h2, _⟩ := key 0 h0
      obtain ⟨_, hl, hat⟩ := World.cells?_some h2
      have := hat 0 hsz
      rw [List.getElem?_eq_getElem (by omega)] at this
      exact spot_none (w := w) (by simpa [Addr.add] using this)
    have hT : Nonempty T := by obtain ⟨_, _, v, _⟩ := key 0 h0; exact ⟨v⟩
    have key2 : ∀ i, ∃ v : T, i < len → ∃ cs : List Value, R v cs ∧ ∀ j, j < size → w.cell? ⟨b, o + i * size + j, none⟩ = cs[j]? := by
      intro i
      by_cases hi : i < len
      · obtain ⟨cs', h2, v, hv⟩ := key i hi
        obtain ⟨_, _, hat⟩ := World.cells?_some h2
        exact ⟨v, fun _ => ⟨cs', hv, fun j hj => by rw [← hat j hj, add_plain, add_plain]⟩⟩
      · exact ⟨Classical.choice hT, fun h => absurd h hi⟩
    refine ⟨(List.range len).map fun i => Classical.choose (key2 i), by simp, fun _ => ⟨b, o, rfl, fun k hk => ?_⟩⟩
    rw [List.getElem_map, List.getElem_range]
    exact Classical.choose_spec (key2 k) (by simpa using hk)
  · exact ⟨[], by simp; omega, fun h => absurd h h0⟩
theorem tyAt_of {b : Nat} : ∀ (l : List Ty) (o : Nat), (∀ (k : Nat) (hk : k < l.length), ∃ cs : List Value, TyC w l[k] cs ∧ ∀ j, j < 5 → w.cell? ⟨b, o + k * 5 + j, none⟩ = cs[j]?) → TyAt w l b o
  | [], _, _ => by rw [TyAt]; trivial
  | t :: r, o, h => by
    rw [TyAt]
    refine ⟨?_, tyAt_of r (o + 5) fun k hk => ?_⟩
    · obtain ⟨cs, h1, h2⟩ := h 0 (by simp)
      exact ⟨cs, h1, fun j hj => by have := h2 j hj; simpa using this⟩
    · obtain ⟨cs, h1, h2⟩ := h (k + 1) (by simpa using hk)
      exact ⟨cs, by simpa using h1, fun j hj => by have := h2 j hj; rwa [show o + (k + 1) * 5 + j = o + 5 + k * 5 + j by omega] at this⟩
theorem vaAt_of {b : Nat} : ∀ (l : List Va) (o : Nat), (∀ (k : Nat) (hk : k < l.length), ∃ cs : List Value, VaC w l[k] cs ∧ ∀ j, j < 4 → w.cell? ⟨b, o + k * 4 + j, none⟩ = cs[j]?) → VaAt w l b o
  | [], _, _ => by rw [VaAt]; trivial
  | t :: r, o, h => by
    rw [VaAt]
    refine ⟨?_, vaAt_of r (o + 4) fun k hk => ?_⟩
    · obtain ⟨cs, h1, h2⟩ := h 0 (by simp)
      exact ⟨cs, h1, fun j hj => by have := h2 j hj; simpa using this⟩
    · obtain ⟨cs, h1, h2⟩ := h (k + 1) (by simpa using hk)
      exact ⟨cs, by simpa using h1, fun j hj => by have := h2 j hj; rwa [show o + (k + 1) * 4 + j = o + 4 + k * 4 + j by omega] at this⟩
set_option maxRecDepth 100000 in
theorem ty_read : ∀ (fuel : Nat) (cs : List Value) (x : DataW H × List MemPlace), DataW.trod enc Tryz.prog w base sp held fuel 26 cs = some x → ∃ t, TyC w t cs := by
  intro fuel
  induction fuel using Nat.strongRecOn with
  | ind fuel ih =>
  intro cs x h
  obtain ⟨xs, n, hn, _, hl, hxl, hf⟩ := DataW.trod_struct Tryz.underlying26 h
  rw [dTy] at hl
  have g : ∀ k, k < 5 → ∃ y, xs[k]? = some y := fun k hk => ⟨_, List.getElem?_eq_getElem (by rw [hxl]; exact hk)⟩
  obtain ⟨y0, e0⟩ := g 0 (by decide)
  obtain ⟨y1, e1⟩ := g 1 (by decide)
  obtain ⟨y2, e2⟩ := g 2 (by decide)
  obtain ⟨y3, e3⟩ := g 3 (by decide)
  obtain ⟨y4, e4⟩ := g 4 (by decide)
  obtain ⟨u0, a0, b0⟩ := one_cell hl (show 0 < 5 by decide)
  obtain ⟨u1, a1, b1⟩ := one_cell hl (show 1 < 5 by decide)
  obtain ⟨u2, a2, b2⟩ := one_cell hl (show 2 < 5 by decide)
  obtain ⟨u3, a3, b3⟩ := one_cell hl (show 3 < 5 by decide)
  obtain ⟨u4, a4, b4⟩ := one_cell hl (show 4 < 5 by decide)
  have f0 : DataW.trod enc Tryz.prog w base sp held n 22 ((cs.drop 0).take (Tryz.prog.cellsOf 22)) = xs[0]? := hf 0 _ rfl
  have f1 : DataW.trod enc Tryz.prog w base sp held n 3 ((cs.drop 1).take (Tryz.prog.cellsOf 3)) = xs[1]? := hf 1 _ rfl
  have f2 : DataW.trod enc Tryz.prog w base sp held n 9 ((cs.drop 2).take (Tryz.prog.cellsOf 9)) = xs[2]? := hf 2 _ rfl
  have f3 : DataW.trod enc Tryz.prog w base sp held n 23 ((cs.drop 3).take (Tryz.prog.cellsOf 23)) = xs[3]? := hf 3 _ rfl
  have f4 : DataW.trod enc Tryz.prog w base sp held n 24 ((cs.drop 4).take (Tryz.prog.cellsOf 24)) = xs[4]? := hf 4 _ rfl
  rw [dKind, b0, e0] at f0
  rw [dInt, b1, e1] at f1
  rw [dStr, b2, e2] at f2
  rw [dStrs, b3, e3] at f3
  rw [dTys, b4, e4] at f4
  obtain ⟨z0, r0, _, _⟩ := DataW.trod_int Tryz.underlying22 f0
  obtain ⟨z1, r1, _, _⟩ := DataW.trod_int Tryz.underlying3 f1
  obtain ⟨z2, r2, _, _⟩ := DataW.trod_string Tryz.underlying9 f2
  obtain ⟨v3, ns, r3, hns⟩ := strs_read f3
  obtain rfl := List.singleton_inj.1 r0
  obtain rfl := List.singleton_inj.1 r1
  obtain rfl := List.singleton_inj.1 r2
  obtain rfl := List.singleton_inj.1 r3
  have hcs : cs = [.int .i64 z0, .int .i64 z1, .string z2, u3, u4] := by
    apply List.ext_getElem?
    intro k
    match k with
    | 0 => exact a0
    | 1 => exact a1
    | 2 => exact a2
    | 3 => exact a3
    | 4 => exact a4
    | k + 5 => rw [List.getElem?_eq_none (by omega), List.getElem?_eq_none (by simp)]
  subst hcs
  rcases DataW.trod_slice Tryz.underlying24 f4 with ⟨r4, _⟩ | ⟨a, len, cap, elems, rest, n', hn', r4, _, _, hlc, hm, hlen, hel, _, _⟩
  · obtain rfl := List.singleton_inj.1 r4
    exact ⟨.mk z0 z1 z2 ns [], by rw [TyC]; exact ⟨_, _, _, rfl, hns, by simp, by simp, .inl rfl⟩⟩
  · obtain rfl := List.singleton_inj.1 r4
    rw [dTy] at hel
    rw [max_num] at hm
    obtain ⟨es, hes, hat⟩ := row_read (R := TyC w) (by decide) hel hlen (ih n' (by omega))
    subst hes
    refine ⟨.mk z0 z1 z2 ns es, ?_⟩
    rw [TyC]
    refine ⟨_, _, _, rfl, hns, hlc, by omega, ?_⟩
    by_cases h0 : 0 < es.length
    · obtain ⟨b, o, rfl, hat2⟩ := hat h0
      exact .inr ⟨b, o, rfl, tyAt_of es o hat2⟩
    · exact .inl (List.eq_nil_of_length_eq_zero (by omega))
set_option maxRecDepth 100000 in
theorem va_read : ∀ (fuel : Nat) (cs : List Value) (x : DataW H × List MemPlace), DataW.trod enc Tryz.prog w base sp held fuel 38 cs = some x → ∃ t, VaC w t cs := by
  intro fuel
  induction fuel using Nat.strongRecOn with
  | ind fuel ih =>
  intro cs x h
  obtain ⟨xs, n, hn, _, hl, hxl, hf⟩ := DataW.trod_struct Tryz.underlying38 h
  rw [dVa] at hl
  have g : ∀ k, k < 4 → ∃ y, xs[k]? = some y := fun k hk => ⟨_, List.getElem?_eq_getElem (by rw [hxl]; exact hk)⟩
  obtain ⟨y0, e0⟩ := g 0 (by decide)
  obtain ⟨y1, e1⟩ := g 1 (by decide)
  obtain ⟨y2, e2⟩ := g 2 (by decide)
  obtain ⟨y3, e3⟩ := g 3 (by decide)
  obtain ⟨u0, a0, b0⟩ := one_cell hl (show 0 < 4 by decide)
  obtain ⟨u1, a1, b1⟩ := one_cell hl (show 1 < 4 by decide)
  obtain ⟨u2, a2, b2⟩ := one_cell hl (show 2 < 4 by decide)
  obtain ⟨u3, a3, b3⟩ := one_cell hl (show 3 < 4 by decide)
  have f0 : DataW.trod enc Tryz.prog w base sp held n 22 ((cs.drop 0).take (Tryz.prog.cellsOf 22)) = xs[0]? := hf 0 _ rfl
  have f1 : DataW.trod enc Tryz.prog w base sp held n 3 ((cs.drop 1).take (Tryz.prog.cellsOf 3)) = xs[1]? := hf 1 _ rfl
  have f2 : DataW.trod enc Tryz.prog w base sp held n 35 ((cs.drop 2).take (Tryz.prog.cellsOf 35)) = xs[2]? := hf 2 _ rfl
  have f3 : DataW.trod enc Tryz.prog w base sp held n 36 ((cs.drop 3).take (Tryz.prog.cellsOf 36)) = xs[3]? := hf 3 _ rfl
  rw [dKind, b0, e0] at f0
  rw [dInt, b1, e1] at f1
  rw [dBits, b2, e2] at f2
  rw [dVas, b3, e3] at f3
  obtain ⟨z0, r0, _, _⟩ := DataW.trod_int Tryz.underlying22 f0
  obtain ⟨z1, r1, _, _⟩ := DataW.trod_int Tryz.underlying3 f1
  obtain ⟨v2, bs, r2, hbs⟩ := bits_read f2
  obtain rfl := List.singleton_inj.1 r0
  obtain rfl := List.singleton_inj.1 r1
  obtain rfl := List.singleton_inj.1 r2
  have hcs : cs = [.int .i64 z0, .int .i64 z1, u2, u3] := by
    apply List.ext_getElem?
    intro k
    match k with
    | 0 => exact a0
    | 1 => exact a1
    | 2 => exact a2
    | 3 => exact a3
    | k + 4 => rw [List.getElem?_eq_none (by omega), List.getElem?_eq_none (by simp)]
  subst hcs
  rcases DataW.trod_slice Tryz.underlying36 f3 with ⟨r3, _⟩ | ⟨a, len, cap, elems, rest, n', hn', r3, _, _, hlc, hm, hlen, hel, _, _⟩
  · obtain rfl := List.singleton_inj.1 r3
    exact ⟨.mk z0 z1 bs [], by rw [VaC]; exact ⟨_, _, _, rfl, hbs, by simp, by simp, .inl rfl⟩⟩
  · obtain rfl := List.singleton_inj.1 r3
    rw [dVa] at hel
    rw [max_num] at hm
    obtain ⟨ls, hls, hat⟩ := row_read (R := VaC w) (by decide) hel hlen (ih n' (by omega))
    subst hls
    refine ⟨.mk z0 z1 bs ls, ?_⟩
    rw [VaC]
    refine ⟨_, _, _, rfl, hbs, hlc, by omega, ?_⟩
    by_cases h0 : 0 < ls.length
    · obtain ⟨b, o, rfl, hat2⟩ := hat h0
      exact .inr ⟨b, o, rfl, vaAt_of ls o hat2⟩
    · exact .inl (List.eq_nil_of_length_eq_zero (by omega))
end
end Go.Proofs.YtdiagnhdigakpaaGreatDoor
/- What the document says of types and values, as functions of trees: validity, sameness, having a type, first values, names, widths, places. No program stands here. -/
namespace Go.Proofs.YtdiagnhdigakpaaGreatDoor

def Ty.kind : Ty → Int | .mk k _ _ _ _ => k
def Ty.len : Ty → Int | .mk _ l _ _ _ => l
def Ty.name : Ty → ByteArray | .mk _ _ n _ _ => n
def Ty.names : Ty → List ByteArray | .mk _ _ _ ns _ => ns
def Ty.elem : Ty → List Ty | .mk _ _ _ _ es => es
def Va.kind : Va → Int | .mk k _ _ _ => k
def Va.n : Va → Int | .mk _ n _ _ => n
def Va.bits : Va → List Nat | .mk _ _ bs _ => bs
def Va.list : Va → List Va | .mk _ _ _ ls => ls
def pathN (x : Nat) : Bool := decide (((97 ≤ x ∧ x ≤ 122) ∨ (65 ≤ x ∧ x ≤ 90)) ∨ (48 ≤ x ∧ x ≤ 57) ∨ x = 95 ∨ x = 46)
/-- From 1 to 100 letters, digits, _ and points. -/
def pathB (s : ByteArray) : Bool := s.data.toList.all (fun c => pathN c.toNat) && (decide (1 ≤ s.size) && decide (s.size ≤ 100))
/-- What is to be empty in a type that is no enumeration. -/
def bareT (nm : ByteArray) (ns : List ByteArray) : Bool := decide (nm.size = 0) && ns.isEmpty
/-- The names of an enumeration: names, no two the same. -/
def namesOk (isName : List UInt8 → Bool) (ns : List ByteArray) : Bool := decide (1 ≤ ns.length) && (decide (ns.length ≤ 16) && (ns.all (fun s => isName s.data.toList) && decide (ns.Nodup)))
/-- Is a type valid? (isName: what a name is) -/
def validT (isName : List UInt8 → Bool) : Ty → Bool
  | .mk k l nm ns es =>
    if k = 1 ∨ k = 2 ∨ k = 3 then decide (l = 0) && (bareT nm ns && es.isEmpty)
    else if k = 4 then decide (1 ≤ l ∧ l ≤ 64) && (bareT nm ns && es.isEmpty)
    else if k = 6 then decide (1 ≤ l ∧ l ≤ 64) && (bareT nm ns && (match es with | [e] => decide (e.kind ≠ 6) && validT isName e | _ => false))
    else if k = 5 then decide (l = 0) && (es.isEmpty && (pathB nm && namesOk isName ns))
    else false
/-- Are two types the same, if both are valid? -/
def alikeT : Ty → Ty → Bool
  | .mk k l nm ns es, .mk k' l' nm' ns' es' => decide (k = k') && (decide (l = l') && (decide (nm = nm') && (decide (ns = ns') && (match es, es' with | [], [] => true | [e], [e'] => alikeT e e' | _, _ => false))))
def sameT (isName : List UInt8 → Bool) (t u : Ty) : Bool := validT isName t && (validT isName u && alikeT t u)
/-- Has a value a type, if that is valid? -/
def hasV : Ty → Va → Bool
  | .mk k l _ ns es, .mk k' n bs ls => decide (k' = k) &&
    (if k = 1 then decide (n = 0) && (decide (bs.length = 1) && (bs.all (fun b => decide (b ≤ 3)) && ls.isEmpty))
     else if k = 2 then decide (n = 0 ∨ n = 1) && (bs.isEmpty && ls.isEmpty)
     else if k = 3 then decide (-2147483648 ≤ n ∧ n ≤ 2147483647) && (bs.isEmpty && ls.isEmpty)
     else if k = 4 then decide (n = 0) && (decide ((bs.length : Int) = l) && (bs.all (fun b => decide (b ≤ 3)) && ls.isEmpty))
     else if k = 5 then decide (0 ≤ n ∧ n < ns.length) && (bs.isEmpty && ls.isEmpty)
     else decide (n = 0) && (bs.isEmpty && (decide ((ls.length : Int) = l) && (match es with | [e] => ls.all (fun w => hasV e w) | _ => false))))
mutual
/-- Are two values the same, whatever their types? -/
def alikeV : Va → Va → Bool
  | .mk k n bs ls, .mk k' n' bs' ls' => decide (k = k') && (decide (n = n') && (decide (bs = bs') && alikeVs ls ls'))
def alikeVs : List Va → List Va → Bool
  | [], [] => true
  | v :: r, w :: s => alikeV v w && alikeVs r s
  | _, _ => false
end
/-- The first value of a type. -/
def firstV : Ty → Va
  | .mk k l _ _ es =>
    if k = 1 then .mk 1 0 [2] []
    else if k = 4 then .mk 4 0 (List.replicate l.toNat 2) []
    else if k = 6 then .mk 6 0 [] (match es with | [e] => List.replicate l.toNat (firstV e) | _ => [])
    else .mk k 0 [] []
/-- How many bits a value of a type has (of an int: none). -/
def encN (n : Nat) : Nat := if n ≤ 2 then 1 else if n ≤ 4 then 2 else if n ≤ 8 then 3 else 4
def widthT : Ty → Option Nat
  | .mk k l _ ns es =>
    if k = 3 then none
    else if k = 4 then some l.toNat
    else if k = 5 then some (encN ns.length)
    else if k = 6 then (match es with | [e] => (widthT e).map (· * l.toNat) | _ => none)
    else some 1
def bitT : Ty := .mk 1 0 ⟨#[]⟩ [] []
/-- The types at the scalar places. -/
def placesT : Ty → List Ty
  | .mk k l nm ns es =>
    if k = 4 then List.replicate l.toNat bitT
    else if k = 6 then (match es with | [e] => (List.replicate l.toNat (placesT e)).flatten | _ => [])
    else [.mk k l nm ns es]
mutual
/-- The values at the scalar places. -/
def splitV : Va → List Va
  | .mk k n bs ls => if k = 4 then bs.map (fun b => .mk 1 0 [b] []) else if k = 6 then splitVs ls else [.mk k n bs ls]
def splitVs : List Va → List Va
  | [] => []
  | v :: r => splitV v ++ splitVs r
end
mutual
/-- How many parts of some are left behind a value; below 0: it has more. -/
def partsV : Va → Int → Int
  | .mk _ _ bs ls, left => partsVs ls (left - (1 + bs.length))
def partsVs : List Va → Int → Int
  | [], left => left
  | v :: r, left => if left < 0 then left else partsVs r (partsV v left)
end
mutual
/-- Has a raw type few parts? -/
def smallT : Ty → Bool
  | .mk _ _ nm ns es => decide (nm.size ≤ 300) && (decide (ns.length ≤ 40) && (decide (es.length ≤ 3) && (ns.all (fun s => decide (s.size ≤ 100)) && smallTs es)))
def smallTs : List Ty → Bool
  | [] => true
  | t :: r => (decide (t.elem.length ≤ 2) && smallT t) && smallTs r
end
end Go.Proofs.YtdiagnhdigakpaaGreatDoor
