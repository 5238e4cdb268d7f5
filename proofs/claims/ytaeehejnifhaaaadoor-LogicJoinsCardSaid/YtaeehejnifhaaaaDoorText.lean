/- The contracts of Text and the reference's Text and Parse. -/
import Derived.Test.YtaeehejnifhaaaaDoorStr
namespace Go.Proofs.YtaeehejnifhaaaaDoor
open Go.RowKit

/-- What Text returns: the bytes, the highest bit first. -/
def txt (zs : List Nat) (k : Nat) : List UInt8 := ((zs.take k).map ltr).reverse
def strOf (l : List UInt8) : ByteArray := ⟨l.toArray⟩
def txtV (zs : List Nat) : ByteArray := if isV zs then strOf (zs.map ltr).reverse else strOf []
def txtE (zs : List Nat) : Nat := if isV zs then 0 else 2
theorem txt_succ {zs : List Nat} {k : Nat} (h : k < zs.length) : txt zs (k + 1) = ltr zs[k] :: txt zs k := by
  unfold txt
  rw [List.take_succ_eq_append_getElem h, List.map_append, List.reverse_append]; rfl
theorem txt_end {zs : List Nat} {k : Nat} (h : ¬ k < zs.length) : txt zs k = (zs.map ltr).reverse := by
  unfold txt; rw [List.take_of_length_le (by omega)]
theorem isV_bits {zs : List Nat} (h : isV zs = true) : bitsB zs = true ∧ 1 ≤ zs.length ∧ zs.length ≤ 64 := by
  unfold isV at h
  simp at h
  exact ⟨h.2, h.1.1, h.1.2⟩
theorem strOf_add (x : UInt8) (l : List UInt8) : strOf [x] ++ strOf l = strOf (x :: l) := by
  unfold strOf
  rw [ByteArray.mk_append_mk]; simp

theorem strOf_size (l : List UInt8) : (strOf l).size = l.length := by show l.toArray.size = _; simp
theorem ret_si {a b : ByteArray} {k' : IntKind} {c d : Int} (h : a = b) (h' : c = d) : Ending.returned (.tuple #[.string a, .int k' c]) = .returned (.tuple #[.string b, .int k' d]) := by rw [h, h']

set_option maxHeartbeats 1000000 in
theorem refText_any (v : Value) (zs : List Nat) (w : World) (h : Sl w v zs) :
    Calls Tryd.prog 36 #[v] w fun e w' => e = .returned (.tuple #[.string (txtV zs), .int .i64 (txtE zs : Nat)]) ∧ w = w' := by
  have hI := refIs_any v zs w h
  obtain ⟨A, c, rfl, hn, hz, hc⟩ := h
  clear hz
  by_cases hv : isV zs = true
  · have hV : txtV zs = strOf (zs.map ltr).reverse := by unfold txtV; rw [if_pos hv]
    have hE : txtE zs = 0 := by unfold txtE; rw [if_pos hv]
    rw [hV, hE, ← txt_end (k := zs.length) (by omega)]
    rw [hv] at hI
    have HI := Lib.hid hI
    have HB := Lib.hid (isV_bits hv)
    have h64 := (isV_bits hv).2.2
    clear hI hv hV hE hn
    go_enter Tryd.func36, Tryd.ntmps36
    go_wp2_with (go_at_call 28; refine (HI.out).mono ?_; rintro e w' ⟨rfl, rfl⟩)
    go_loop [4, 12] (fun t i => ∃ k : Nat, k ≤ zs.length ∧ i = .int .i64 k ∧ t = .string (strOf (txt zs k))) (fun _ i => zs.length - (intOf i).toNat)
    case atStart => exact ⟨0, Nat.zero_le _, rfl, rfl⟩
    case round =>
      obtain ⟨k, hk, rfl, rfl⟩ := hrel
      by_cases hlt : k < zs.length
      · rcases hc with rfl | ⟨b, off, rfl, hc⟩
        · exact absurd hlt (by simp)
        have g := hc k hlt
        clear hc
        have h3 := bitsB_at HB.out.1 hlt
        have HR := Lib.hid (txt_succ hlt)
        have hlen : (txt zs k).length ≤ 64 := by unfold txt; simp; omega
        generalize zs[k] = z at g h3 HR
        generalize txt zs k = T at hlen HR
        have hsz := strOf_size T
        have hsz' : (strOf T).size ≤ 64 := by omega
        clear hsz hlen
        obtain rfl | rfl | rfl | rfl : z = 0 ∨ z = 1 ∨ z = 2 ∨ z = 3 := by omega
        all_goals
          go_wp2
          go_round
          case rel => exact ⟨k + 1, by omega, by go_num, by rw [HR.out, ← strOf_add]; rfl⟩
          case measure => simp [intOf]; omega
      · have HR := Lib.hid (txt_end (zs := zs) (k := k) hlt)
        have HR' := Lib.hid (txt_end (zs := zs) (k := zs.length) (by omega))
        clear hc
        go_wp2
        go_ret2
        exact ⟨ret_si (by rw [HR.out, HR'.out]) rfl, rfl⟩
  · have hv' : isV zs = false := by simpa using hv
    have hV : txtV zs = strOf [] := by unfold txtV; rw [if_neg hv]
    have hE : txtE zs = 2 := by unfold txtE; rw [if_neg hv]
    rw [hV, hE]
    rw [hv'] at hI
    have HI := Lib.hid hI
    clear hI hv hv' hV hE hn hc
    go_enter Tryd.func36, Tryd.ntmps36
    go_wp2_with (go_at_call 28; refine (HI.out).mono ?_; rintro e w' ⟨rfl, rfl⟩)
    go_ret2
    exact ⟨rfl, rfl⟩

/-- A row of bytes of the call's own that is filled from behind. -/
def byteCells (l : List UInt8) : List Value := l.map fun x => .int .u8 (x.toNat : Nat)
def fillT (n k : Nat) (ys : List UInt8) : List UInt8 := List.replicate (n - k) 0 ++ ys
theorem fillT_set {n k : Nat} (h : k < n) (ys : List UInt8) (z : UInt8) : (byteCells (fillT n k ys)).set (n - 1 - k) (.int .u8 (z.toNat : Nat)) = byteCells (fillT n (k + 1) (z :: ys)) := by
  unfold byteCells fillT
  rw [← List.map_set]
  congr 1
  rw [List.set_append_left _ _ (by simp; omega)]
  have : n - k = (n - 1 - k) + 1 := by omega
  rw [this, List.replicate_succ', List.set_append_right _ _ (by simp), List.length_replicate, Nat.sub_self, show n - (k + 1) = n - 1 - k by omega, List.append_assoc]
  rfl
theorem Tryd.infoByte : (Tryd.prog.info? 5).map (fun i => (i.zero, i.size, i.bytes)) = some (some (.int .u8 0), 1, 1) := by kernel_rfl
theorem wpList_make_bytes {ops : Array Oper} {rest : List Oper} {o : Oper} {a : Act} {Q : Exit → Act → World → Prop} {w : World} (hg : o.guard = none) (l c : Operand) (hop : o.op = Op.makeSlice 68 l c)
    (n : Nat) (hl : a.eval l = .int .i64 (n : Int)) (hc : a.eval c = .int .i64 (n : Int)) (hn : n ≤ 140737488355328)
    (hK : ∀ w', w'.ownsRow w.heap.size 5 1 (.slice (some ⟨w.heap.size, 0, none⟩) n n) n (byteCells (List.replicate n 0)) → Below w.heap.size w w' → wpList Tryd.prog ops Q rest (a.put o.dst (.slice (some ⟨w.heap.size, 0, none⟩) n n)) w') :
    wpList Tryd.prog ops Q (o :: rest) a w := by
  obtain ⟨i, hi, hz, hsize, hby⟩ := info_parts Tryd.infoByte
  refine wpList_make_full _ hg l c 68 hop w.heap.size 5 i (.int .u8 0) 1 Tryd.underlying68 hi hz hsize _ _ _ _ n hl hc rfl rfl (by rw [hby]; omega) (by unfold maxLen; omega) (Nat.le_refl _) ?_
  intro w1 hown hg1
  refine hK w1 ?_ ((Below.refl _ _).grown hg1 (Nat.le_refl _) (fun k hk => by cases hk))
  rw [show (madeCells (Value.cells (.int .u8 0)) (n * 1)).toList = List.replicate (n * 1) (.int .u8 0) from toList_madeCells_one _ _, Nat.mul_one] at hown
  simpa [byteCells] using hown

set_option maxHeartbeats 1000000 in
theorem text_any (v : Value) (zs : List Nat) (w : World) (h : Sl w v zs) :
    Calls Tryd.prog 35 #[v] w fun e w' => e = .returned (.tuple #[.string (txtV zs), .int .i64 (txtE zs : Nat)]) ∧ Below w.heap.size w w' := by
  have hI := is_any v zs w h
  obtain ⟨A, c, rfl, hn, hz, hc⟩ := h
  clear hz
  by_cases hv : isV zs = true
  · have hV : txtV zs = strOf (zs.map ltr).reverse := by unfold txtV; rw [if_pos hv]
    have hE : txtE zs = 0 := by unfold txtE; rw [if_pos hv]
    rw [hV, hE, ← txt_end (k := zs.length) (by omega)]
    rw [hv] at hI
    have HI := Lib.hid hI
    have HB := Lib.hid (isV_bits hv)
    have h64 := (isV_bits hv).2.2
    have h01 := (isV_bits hv).2.1
    clear hI hv hV hE hn
    go_enter Tryd.func35, Tryd.ntmps35
    go_wp2_with (first | (go_at_call 27; refine (HI.out).mono ?_; rintro e w' ⟨rfl, rfl⟩) | (refine wpList_make_bytes rfl _ _ rfl zs.length rfl rfl (by omega) ?_; intro w1 hown1 hb1))
    have HO1 := Lib.hid hown1
    have HB1 := Lib.hid hb1
    clear hown1 hb1
    go_loopw [14] (fun i wr => ∃ k : Nat, k ≤ zs.length ∧ i = .int .i64 k ∧ wr.ownsRow w.heap.size 5 1 (.slice (some ⟨w.heap.size, 0, none⟩) zs.length zs.length) zs.length (byteCells (fillT zs.length k (txt zs k))) ∧ Below w.heap.size w wr) (fun i _ => zs.length - (intOf i).toNat)
    case atStart => exact ⟨0, Nat.zero_le _, rfl, by simpa [fillT, txt] using HO1.out, HB1.out⟩
    case round =>
      obtain ⟨k, hk, rfl, hown, hb⟩ := hrel
      have HO := Lib.hid hown
      have Hb := Lib.hid hb
      clear hown hb
      by_cases hlt : k < zs.length
      · rcases hc with rfl | ⟨b, off, rfl, hc⟩
        · exact absurd hlt (by simp)
        have g := (Hb.out.cell (block_lt_of_cell (hc k hlt))).trans (hc k hlt)
        clear hc
        have h3 := bitsB_at HB.out.1 hlt
        have HR := Lib.hid (txt_succ hlt)
        have hfl : (byteCells (fillT zs.length k (txt zs k))).length = zs.length := by simp [byteCells, fillT, txt]; omega
        obtain ⟨y, gc⟩ : ∃ y, wr.cell? ⟨w.heap.size, zs.length - 1 - k, none⟩ = some y := ⟨_, (HO.out.cellAt (zs.length - 1 - k) (by omega)).trans (List.getElem?_eq_getElem (by rw [hfl]; omega))⟩
        have gf := HO.out.frozenAt (zs.length - 1 - k)
        have HS := Lib.hid (HO.out.stored (zs.length - 1 - k) (.int .u8 ((ltr zs[k]).toNat : Nat)))
        rw [fillT_set hlt, ← txt_succ hlt] at HS
        have HBn : Hid (Below w.heap.size w (wr.setCell ⟨w.heap.size, zs.length - 1 - k, none⟩ (.int .u8 ((ltr zs[k]).toNat : Nat)))) := Hb.out.setCell (Nat.le_refl _) _
        generalize zs[k] = z at g h3 HR HS HBn
        clear hfl
        obtain rfl | rfl | rfl | rfl : z = 0 ∨ z = 1 ∨ z = 2 ∨ z = 3 := by omega
        all_goals
          go_wp2
          go_roundw
          case rel => exact ⟨k + 1, by omega, by go_num, HS.out.1, HBn.out⟩
          case measure => simp [intOf]; omega
      · have HR := Lib.hid (txt_end (zs := zs) (k := k) hlt)
        have HR' := Lib.hid (txt_end (zs := zs) (k := zs.length) (by omega))
        have hlen : ((zs.map ltr).reverse).length = zs.length := by simp
        have hconv : (convert 68 9 (.slice (some ⟨w.heap.size, 0, none⟩) zs.length zs.length)).run Tryd.prog wr = .ok (.string (strOf (zs.map ltr).reverse)) wr := by
          have := run_convert_bytes_back (P := Tryd.prog) wr 68 9 5 ⟨w.heap.size, 0, none⟩ zs.length (zs.map ltr).reverse Tryd.underlying68 Tryd.underlying5 Tryd.underlying9 (fun j hj => by
            have hc := HO.out.cellAt j (by omega)
            rw [HR.out] at hc
            have : (Addr.mk w.heap.size 0 none).add j = ⟨w.heap.size, j, none⟩ := by unfold Addr.add; by_cases h0 : j = 0 <;> simp [h0]
            rw [this, hc]
            simp only [byteCells, fillT, show zs.length - k = 0 by omega, List.replicate_zero, List.nil_append, List.getElem?_map]
            rw [List.getElem?_eq_getElem hj]
            rfl)
          rw [hlen] at this
          exact this
        clear hc hlen
        go_wp2
        go_ret2
        exact ⟨ret_si (by rw [HR'.out]) rfl, Hb.out⟩
  · have hv' : isV zs = false := by simpa using hv
    have hV : txtV zs = strOf [] := by unfold txtV; rw [if_neg hv]
    have hE : txtE zs = 2 := by unfold txtE; rw [if_neg hv]
    rw [hV, hE]
    rw [hv'] at hI
    have HI := Lib.hid hI
    clear hI hv hv' hV hE hn hc
    go_enter Tryd.func35, Tryd.ntmps35
    go_wp2_with (go_at_call 27; refine (HI.out).mono ?_; rintro e w' ⟨rfl, rfl⟩)
    go_ret2
    exact ⟨rfl, Below.refl _ _⟩
end Go.Proofs.YtaeehejnifhaaaaDoor
