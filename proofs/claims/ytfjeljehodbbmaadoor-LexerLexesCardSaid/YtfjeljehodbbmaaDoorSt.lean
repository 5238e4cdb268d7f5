/- Strings as lists of bytes; the contracts of the reference's member, Words, Signs, IsWord, IsName, number and quoted. -/
import Derived.Test.YtfjeljehodbbmaaDoorKc
import Derived.Deep.QuietTactic
import Derived.BigQuiet
import Derived.Deep.Draws
namespace Go.Proofs.YtfjeljehodbbmaaDoor
open Go.RowKit

theorem below_alloc (w : World) (o : Obj) : Below w.heap.size w (w.alloc o) := (Below.refl _ _).alloc (Nat.le_refl _) o
theorem below_then {w w1 w2 : World} (h : Below w.heap.size w w1) (h' : Below w1.heap.size w1 w2) : Below w.heap.size w w2 := h.trans (h'.mono h.size)
/-- A list of bytes as a string. -/
def sb (l : List UInt8) : ByteArray := ⟨l.toArray⟩
theorem bl_sb (l : List UInt8) : bl (sb l) = l := by unfold bl sb; simp
theorem sb_bl (s : ByteArray) : sb (bl s) = s := by unfold bl sb; simp
theorem bl_inj {s t : ByteArray} (h : bl s = bl t) : s = t := by rw [← sb_bl s, ← sb_bl t, h]
theorem sb_size (l : List UInt8) : (sb l).size = l.length := by show l.toArray.size = _; simp
theorem bl_extract (s : ByteArray) (i j : Nat) : bl (s.extract i j) = ((bl s).drop i).take (j - i) := by unfold bl; simp [List.extract_eq_take_drop]
theorem bl_append (s t : ByteArray) : bl (s ++ t) = bl s ++ bl t := by unfold bl; exact ByteArray.toList_data_append
theorem bl_toList (s : ByteArray) : s.toList = bl s := ByteArray.toList_eq s

def memL (l : List (List UInt8)) (x : List UInt8) : Bool := l.contains x
/-- v is a slice of strings with these bytes. -/
def Ss (w : World) (v : Value) (l : List (List UInt8)) : Prop :=
  ∃ b c, v = .slice (some ⟨b, 0, none⟩) l.length c ∧ l.length ≤ c ∧ l.length ≤ 1000 ∧ ∀ (k : Nat) (h : k < l.length), w.cell? ⟨b, k, none⟩ = some (.string (sb l[k]))
theorem contains_stop {l : List (List UInt8)} {k : Nat} {x : List UInt8} (h : k < l.length) (he : l[k] = x) : memL l x = true := by
  unfold memL
  rw [List.contains_iff_mem, ← he]
  exact List.getElem_mem h
theorem not_contains_more {l : List (List UInt8)} {k : Nat} {x : List UInt8} (h : k < l.length) (hk : memL (l.take k) x = false) (hne : l[k] ≠ x) : memL (l.take (k + 1)) x = false := by
  unfold memL at *
  rw [List.take_succ_eq_append_getElem h]
  have h1 : x ∉ l.take k := by
    intro hm
    rw [List.contains_iff_mem.2 hm] at hk
    cases hk
  cases hc : (l.take k ++ [l[k]]).contains x with
  | false => rfl
  | true =>
    rw [List.contains_iff_mem, List.mem_append] at hc
    rcases hc with hc | hc
    · exact absurd hc h1
    · exact absurd (List.mem_singleton.1 hc).symm hne
set_option maxHeartbeats 1000000 in
theorem member_any (v : Value) (l : List (List UInt8)) (s : ByteArray) (w : World) (h : Ss w v l) :
    Calls Tryd.prog 38 #[v, .string s] w fun e w' => e = .returned (.bool (memL l (bl s))) ∧ w = w' := by
  obtain ⟨b, c, rfl, hq, hn, hc⟩ := h
  go_enter Tryd.func38, Tryd.ntmps38
  go_wp2_with fail
  go_loop [9] (fun i => ∃ k : Nat, k ≤ l.length ∧ i = .int .i64 k ∧ Hid (memL (l.take k) (bl s) = false)) (fun i => l.length - (intOf i).toNat)
  case atStart => exact ⟨0, Nat.zero_le _, rfl, by show _ = _; rw [List.take_zero]; rfl⟩
  case round =>
    obtain ⟨k, hk, rfl, hr⟩ := hrel
    by_cases hlt : k < l.length
    · have g := hc k hlt
      clear hc
      by_cases he : l[k] = bl s
      · have HR := Lib.hid (contains_stop hlt he)
        have t : ((sb l[k]).toList == s.toList) = true := by rw [bl_toList, bl_toList, bl_sb, he]; simp
        have HE : Hid (sb l[k] = s) := bl_inj (by rw [bl_sb]; exact he)
        generalize sb l[k] = x at g t HE
        clear he hr
        go_wp2
        go_ret
        exact ⟨ret_bool HR.out.symm, rfl⟩
      · have HR := Lib.hid (not_contains_more hlt hr.out he)
        have t : ((sb l[k]).toList == s.toList) = false := by rw [bl_toList, bl_toList, bl_sb, beq_eq_false_iff_ne]; exact he
        generalize sb l[k] = x at g t
        clear he hr
        go_wp2
        go_round
        case rel => exact ⟨k + 1, by omega, by go_num, HR⟩
        case measure => simp [intOf]; omega
    · have HR : Hid (memL l (bl s) = false) := by have := hr.out; rwa [List.take_of_length_le (by omega)] at this
      clear hc hr
      go_wp2
      go_ret
      exact ⟨ret_bool HR.out.symm, rfl⟩

/-- Strings that are laid anew. -/
theorem Ss.laid (w : World) (l : List (List UInt8)) (cs : Array Value) (t : TypeId) (n : Nat) (hcs : cs.toList = l.map fun x => .string (sb x)) (hn : n = l.length) (hl : l.length ≤ 1000) : Ss (w.alloc (.cells cs t)) (.slice (some ⟨w.heap.size, 0, none⟩) n n) l := by
  subst hn
  refine ⟨w.heap.size, l.length, rfl, Nat.le_refl _, hl, fun k hk => ?_⟩
  rw [World.cell?_alloc_at _ _ _ _ rfl]
  show cs[k]? = _
  rw [← Array.getElem?_toList, hcs, List.getElem?_map, List.getElem?_eq_getElem hk]
  rfl
set_option maxRecDepth 100000 in
theorem words_any (w : World) :
    Calls Tryd.prog 39 #[] w fun e w' => ∃ v, e = .returned v ∧ Ss w' v wordsL ∧ Below w.heap.size w w' := by
  go_enter Tryd.func39, Tryd.ntmps39
  go_wp2
  go_ret
  exact ⟨_, rfl, Ss.laid w wordsL _ _ _ (by kernel_rfl) rfl (by decide), below_alloc _ _⟩
set_option maxRecDepth 100000 in
theorem signs_any (w : World) :
    Calls Tryd.prog 41 #[] w fun e w' => ∃ v, e = .returned v ∧ Ss w' v signsL ∧ Below w.heap.size w w' := by
  go_enter Tryd.func41, Tryd.ntmps41
  go_wp2
  go_ret
  exact ⟨_, rfl, Ss.laid w signsL _ _ _ (by kernel_rfl) rfl (by decide), below_alloc _ _⟩
theorem refIsWord_any (s : ByteArray) (w : World) :
    Calls Tryd.prog 23 #[.string s] w fun e w' => e = .returned (.bool (isWordL (bl s))) ∧ Below w.heap.size w w' := by
  go_enter Tryd.func23, Tryd.ntmps23
  go_wp2_with fail
  refine (words_any _).mono ?_
  rintro e w1 ⟨v, rfl, hs, hb⟩
  have HS := Lib.hid hs
  have HB := Lib.hid hb
  clear hs hb
  go_wp2_with fail
  refine (member_any _ _ s _ HS.out).mono ?_
  rintro e w' ⟨rfl, rfl⟩
  have HM : Hid (memL wordsL (bl s) = isWordL (bl s)) := rfl
  generalize memL wordsL (bl s) = m at HM
  go_wp2
  go_ret
  exact ⟨ret_bool HM.out, HB.out⟩
end Go.Proofs.YtfjeljehodbbmaaDoor
