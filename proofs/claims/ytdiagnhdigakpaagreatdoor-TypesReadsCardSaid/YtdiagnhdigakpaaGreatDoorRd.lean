/- The contract of the reference's Parse, arrays; any type. -/
import Derived.Test.YtdiagnhdigakpaaGreatDoorRc
import Derived.Test.YtdiagnhdigakpaaGreatDoorKf
namespace Go.Proofs.YtdiagnhdigakpaaGreatDoor
open Go.RowKit

/-- From a place on there are cells of these strings. -/
def PcAt (w : World) (g o : Nat) (ps : List ByteArray) : Prop := ∀ (j : Nat) (h : j < ps.length), w.cell? ⟨g, o + j, none⟩ = some (.string ps[j])
theorem PcAt.turn {w w' : World} {g o : Nat} {ps : List ByteArray} (h : PcAt w g o ps) (hk : w'.heap[g]? = w.heap[g]?) : PcAt w' g o ps := fun j hj => cell_turn hk (h j hj)
theorem arr_pieces {l : Nat} {e : Ty} (h1 : 1 ≤ l) (h2 : l ≤ 64) (he : Flat isNameL e) {s q : List UInt8} (hq : q = (s.drop 1).take (s.length - 1 - 1)) (x : Va) (hx : hasV (.mk 6 (l : Nat) noName [] [e]) x = true) (ht : textV (.mk 6 (l : Nat) noName [] [e]) x = s) :
    ∃ ls : List Va, x = .mk 6 0 [] ls ∧ splitC q = ls.map (fun v => textV e v) ∧ ∀ w ∈ ls, HasF e w := by
  cases hasG_of (.arr l e h1 h2 he) hx with
  | flat _ _ hv => cases hv
  | arr _ _ _ _ ls hl hh =>
  refine ⟨ls, rfl, ?_, hh⟩
  rw [textV_arr] at ht
  have hn : ls ≠ [] := by intro e; subst e; simp at hl; omega
  have : q = [44].intercalate (ls.map fun v => textV e v) := by
    rw [hq, ← ht]
    simp
  rw [this, splitC_join (by simpa using hn) (by intro y hy; obtain ⟨w, hw, rfl⟩ := List.mem_map.1 hy; exact flat_comma he (hh w hw))]
theorem arr_text {l : Nat} {e : Ty} (h1 : 1 ≤ l) (h2 : l ≤ 64) (he : Flat isNameL e) {s : List UInt8} (x : Va) (hx : hasV (.mk 6 (l : Nat) noName [] [e]) x = true) (ht : textV (.mk 6 (l : Nat) noName [] [e]) x = s) : 2 ≤ s.length ∧ s.head? = some 91 := by
  cases hasG_of (.arr l e h1 h2 he) hx with
  | flat _ _ hv => cases hv
  | arr _ _ _ _ ls hl hh =>
  rw [textV_arr] at ht
  rw [← ht]
  exact ⟨by simp, rfl⟩
theorem uq_of {e : Ty} (he : Flat isNameL e) {x : Va} {s : List UInt8} (h1 : hasV e x = true) (h2 : textV e x = s) : ∀ y, hasV e y = true → textV e y = s → x = y :=
  fun _y hy ht => flat_text_inj he (hasF_of he h1) (hasF_of he hy) (h2.trans ht.symm)
theorem uq_arr {l : Nat} {e : Ty} (h1 : 1 ≤ l) (h2 : l ≤ 64) (he : Flat isNameL e) {s q : List UInt8} (hq : q = (s.drop 1).take (s.length - 1 - 1)) {vs : List Va} {ps : List ByteArray} (hp : ps.map bl = splitC q) (hl : vs.length = ps.length) (hu : Uq e vs ps) :
    ∀ x, hasV (.mk 6 (l : Nat) noName [] [e]) x = true → textV (.mk 6 (l : Nat) noName [] [e]) x = s → Va.mk 6 0 [] vs = x := by
  intro x hx ht
  obtain ⟨ls, rfl, hs, hh⟩ := arr_pieces h1 h2 he hq x hx ht
  have hm := hp.trans hs
  have hlen := congrArg List.length hm
  rw [List.length_map, List.length_map] at hlen
  have : vs = ls := by
    apply List.ext_getElem (by omega)
    intro j hj hj'
    refine hu j hj (by omega) _ (of_hasF (hh _ (List.getElem_mem hj'))) ?_
    have := List.getElem_of_eq hm.symm (i := j) (by rw [List.length_map]; exact hj')
    rw [List.getElem_map, List.getElem_map] at this
    exact this
  rw [this]
theorem no_arr {l : Nat} {e : Ty} (h1 : 1 ≤ l) (h2 : l ≤ 64) (he : Flat isNameL e) {s q : List UInt8} (hq : q = (s.drop 1).take (s.length - 1 - 1)) {ps : List ByteArray} (hp : ps.map bl = splitC q) {k : Nat} (hk : k < ps.length) (hn : ∀ y, hasV e y = true → textV e y ≠ bl ps[k]) :
    ∀ x, hasV (.mk 6 (l : Nat) noName [] [e]) x = true → textV (.mk 6 (l : Nat) noName [] [e]) x ≠ s := by
  intro x hx ht
  obtain ⟨ls, rfl, hs, hh⟩ := arr_pieces h1 h2 he hq x hx ht
  have hm := hp.trans hs
  have hlen := congrArg List.length hm
  rw [List.length_map, List.length_map] at hlen
  have hj' : k < ls.length := by omega
  refine hn ls[k] (of_hasF (hh _ (List.getElem_mem hj'))) ?_
  have := List.getElem_of_eq hm.symm (i := k) (by rw [List.length_map]; exact hj')
  rw [List.getElem_map, List.getElem_map] at this
  exact this
theorem parMid_list {w wx : World} {p : Nat} {t : Ty} {s : List UInt8} {tcs : Array Value} {vs : List Va} {A : Option Addr} {c G : Nat} (hV : Blk wx p 38 #[.int .i64 6, .int .i64 0, .slice none 0 0, .slice A vs.length c]) (hT : Blk wx w.heap.size 26 tcs) (hK : Blk wx (w.heap.size + 1) 38 #[.int .i64 0, .int .i64 0, .slice none 0 0, .slice none 0 0]) (hB : Below w.heap.size w wx)
    (ho : OwnV (fun b => p < b) wx G (.slice A vs.length c) vs) (hG : p < G) (hu : ∀ x, hasV t x = true → textV t x = s → .mk 6 0 [] vs = x) : ParMid w p t s tcs wx :=
  ⟨.mk 6 0 [] vs, none, 0, 0, A, vs.length, c, hV, vaP_iff.2 ⟨_, _, rfl, bitP_nil _, ho.vas (fun b hb _ => by omega) (fun b hb _ => hb)⟩, hT, hK, hB, hu⟩
set_option maxRecDepth 100000 in
set_option maxHeartbeats 16000000 in
theorem rpar_arr (l : Nat) (h1 : 1 ≤ l) (h2 : l ≤ 64) (et : Ty) (he' : Flat isNameL et) (v3 : Value) (b off d : Nat) (k1 l1 : Int) (nm1 : ByteArray) (A1 A2 : Option Addr) (n1 c1 n2 c2 : Nat) (s : ByteArray) (hsz : s.size ≤ 20000) (w : World)
    (h5 : Hid (Ty5 w b off k1 l1 nm1 (.slice A1 n1 c1) (.slice A2 n2 c2)))
    (HS : Hid (∀ (u : World) (x : ByteArray), Below w.heap.size w u → x.size ≤ s.size → Calls Tryz.prog 43 #[.agg #[.int .i64 k1, .int .i64 l1, .string nm1, .slice A1 n1 c1, .slice A2 n2 c2], .string x] u (ParsePostP true et (bl x) u)))
    (HA : Hid (∀ u, Below w.heap.size w u → Calls Tryz.prog 17 #[.agg #[.int .i64 6, .int .i64 (l : Nat), .string noName, v3, .slice (some ⟨b, off, none⟩) 1 d]] u fun e w' => e = .returned (.bool true) ∧ Below u.heap.size u w'))
    (HF : Hid (∀ u v cs, Below w.heap.size w u → VaC u v cs → Calls Tryz.prog 31 #[.agg #[.int .i64 6, .int .i64 (l : Nat), .string noName, v3, .slice (some ⟨b, off, none⟩) 1 d], .agg cs.toArray] u fun e w' => e = .returned (.bool (hasV (.mk 6 (l : Nat) noName [] [et]) v)) ∧ Below u.heap.size u w'))
    (HW : Hid (∀ u v cs, Below w.heap.size w u → hasV (.mk 6 (l : Nat) noName [] [et]) v = true → VaC u v cs → Calls Tryz.prog 79 #[.agg #[.int .i64 6, .int .i64 (l : Nat), .string noName, v3, .slice (some ⟨b, off, none⟩) 1 d], .agg cs.toArray] u (WriPost (textV (.mk 6 (l : Nat) noName [] [et]) v) u))) :
    Calls Tryz.prog 43 #[.agg #[.int .i64 6, .int .i64 (l : Nat), .string noName, v3, .slice (some ⟨b, off, none⟩) 1 d], .string s] w (ParsePostP true (.mk 6 (l : Nat) noName [] [et]) (bl s) w) := by
  have H2 := Lib.hid (boxes2 w 26 38 #[.int .i64 6, .int .i64 (l : Nat), .string noName, v3, .slice (some ⟨b, off, none⟩) 1 d] #[.int .i64 0, .int .i64 0, .slice none 0 0, .slice none 0 0])
  have H0 := Lib.hid H2.out.2.2.1
  have hs4 : w.heap.size ≤ w.heap.size + 1 := by omega
  go_enter Tryz.func43, Tryz.ntmps43
  go_wp2_with fail
  refine (HA.out _ H0.out).mono ?_
  rintro e w1 ⟨rfl, hb1⟩
  have H1 := Lib.hid (below_then H0.out hb1)
  have K1 := Lib.hid (H2.out.2.1.later hb1)
  have T1 := Lib.hid (H2.out.1.later hb1)
  have hp1 := K1.out.lt
  have HZ := Lib.hid (below_alloc w1 (.cells #[.int .i64 6, .int .i64 0, .slice none 0 0, .slice none 0 0] 38))
  obtain ⟨p0, p1, p2, p3, p4⟩ := fives T1.out
  have T2 := Lib.hid (T1.out.later HZ.out)
  have K2 := Lib.hid (K1.out.later HZ.out)
  have B2 := Lib.hid (below_then H1.out HZ.out)
  have V2 := Lib.hid (Blk.new w1 38 #[.int .i64 6, .int .i64 0, .slice none 0 0, .slice none 0 0])
  have hz2 := World.size_alloc w1 (.cells #[.int .i64 6, .int .i64 0, .slice none 0 0, .slice none 0 0] 38)
  clear hb1 H2 H0 H1 K1 T1 HA HZ
  obtain ⟨r0, r1, r2, r3, r4⟩ := fives T2.out
  go_upto_block 0 with fail
  clear p0 p1 p2 p3 p4 r0 r1 r2 r3 r4
  generalize w1.alloc (.cells #[.int .i64 6, .int .i64 0, .slice none 0 0, .slice none 0 0] 38) = W at *
  generalize w1.heap.size = p at *
  go_cut [7, 8, 10, 11, 12] (fun s7 s8 s10 s11 s12 wx => ParMid w p (.mk 6 (l : Nat) noName [] [et]) (bl s) #[.int .i64 6, .int .i64 (l : Nat), .string noName, v3, .slice (some ⟨b, off, none⟩) 1 d] wx)
  case first =>
    clear HF HW
    obtain ⟨t0, t1, t2, t3, t4⟩ := fives T2.out
    obtain ⟨v0, v1, v2, v3'⟩ := four V2.out
    by_cases hA : s.size < 2
    · have d1 : decide ((s.size : Int) < 2) = true := by rw [decide_eq_true_eq]; omega
      have HNo : Hid (∀ x, hasV (.mk 6 (l : Nat) noName [] [et]) x = true → textV (.mk 6 (l : Nat) noName [] [et]) x ≠ bl s) := fun x hx he => by
        have := (arr_text h1 h2 he' x hx he).1
        rw [bl_len] at this
        omega
      clear hA
      obtain ⟨c0, c1, c2, c3⟩ := four K2.out
      have f0 := K2.out.free 0
      have f1 := K2.out.free 1
      have f2 := K2.out.free 2
      have f3 := K2.out.free 3
      go_wp2
      refine bodyPost_ret (by simp [results, Tryz.results43, go_sem, c0, c1, c2, c3]; try rfl) rfl ?_
      exact ⟨zeroV, 44, none, 0, 0, none, 0, 0, rfl, none_p _ _ _ _, .inr (.inr ⟨rfl, HNo.out, rfl, rfl⟩), set4_below B2.out hs4 _ _ _ _⟩
    have d1 : decide ((s.size : Int) < 2) = false := by rw [decide_eq_false_iff_not]; omega
    have s0 : 0 < s.size := by omega
    have hb0 := bl_get s 0 s0
    by_cases h91 : s[0].toNat = 91
    case neg =>
      have d2 : ((s[0].toNat : Int) != 91) = true := by rw [bne_iff_ne]; omega
      have HNo : Hid (∀ x, hasV (.mk 6 (l : Nat) noName [] [et]) x = true → textV (.mk 6 (l : Nat) noName [] [et]) x ≠ bl s) := fun x hx he => by
        have := (arr_text h1 h2 he' x hx he).2
        rw [List.head?_eq_getElem?, List.getElem?_eq_getElem (by rw [bl_len]; exact s0), hb0] at this
        exact h91 (by rw [Option.some.inj this]; rfl)
      clear hA h91 hb0
      obtain ⟨c0, c1, c2, c3⟩ := four K2.out
      have f0 := K2.out.free 0
      have f1 := K2.out.free 1
      have f2 := K2.out.free 2
      have f3 := K2.out.free 3
      go_wp2
      refine bodyPost_ret (by simp [results, Tryz.results43, go_sem, c0, c1, c2, c3]; try rfl) rfl ?_
      exact ⟨zeroV, 44, none, 0, 0, none, 0, 0, rfl, none_p _ _ _ _, .inr (.inr ⟨rfl, HNo.out, rfl, rfl⟩), set4_below B2.out hs4 _ _ _ _⟩
    have d2 : ((s[0].toNat : Int) != 91) = false := by rw [bne_eq_false_iff_eq]; omega
    obtain ⟨q, hq⟩ : ∃ q, q = s.size - 1 := ⟨_, rfl⟩
    have hq1 : (s.size : Int) - 1 = (q : Int) := by omega
    have hq2 : (1 : Int) ≤ (q : Int) := by omega
    have hq3 : (q : Int) ≤ (s.size : Int) := by omega
    have HQ : Hid (bl (s.extract 1 q) = ((bl s).drop 1).take ((bl s).length - 1 - 1)) := by
      show _ = _
      rw [bl_extract, bl_len, hq]
    have hqz : (s.extract 1 q).size ≤ s.size := by rw [ByteArray.size_extract]; omega
    have HP := Lib.hid (fun (u : World) => pieces_any (s.extract 1 q) (by omega) u)
    have HQz := Lib.hid hqz
    clear hqz hA h91 hb0 hq
    go_wp2_with fail
    generalize s.extract 1 q = sq at HP HQ HQz ⊢
    refine (HP.out _).mono ?_
    rintro e9 w3 ⟨vps, ps, rfl, hown, hmap, hb⟩
    have hps : ps ≠ [] := fun h0 => splitC_none (bl sq) (by rw [← hmap, h0]; rfl)
    have hpl : ps.length ≤ 20001 := by
      have := congrArg List.length hmap
      rw [List.length_map] at this
      have h9 := splitC_len (bl sq)
      rw [bl_len] at h9
      have := HQz.out
      omega
    have hpz : ∀ x ∈ ps, x.size ≤ s.size := fun x hx => by
      have := splitC_le (bl sq) (bl x) (by rw [← hmap]; exact List.mem_map.2 ⟨x, hx, rfl⟩)
      rw [bl_len, bl_len] at this
      have := HQz.out
      omega
    obtain ⟨A9, c9, rfl, -, -, hcs⟩ := hown.strP (S := fun b => p < b ∧ b < w3.heap.size) (fun b hb1 h => ⟨by omega, h⟩)
    obtain ⟨gb, gof, rfl, ⟨hgp, hgl⟩, hcell⟩ := hcs.resolve_left hps
    obtain ⟨G, hG⟩ : ∃ G, G = w3.heap.size := ⟨_, rfl⟩
    have hpG : p < G := by have := hb.size; omega
    have PC3 : Hid (PcAt w3 gb gof ps) := hcell
    have HMp := Lib.hid hmap
    have HPz := Lib.hid hpz
    have T3 := Lib.hid (T2.out.later hb)
    have K3 := Lib.hid (K2.out.later hb)
    have V3 := Lib.hid (V2.out.later hb)
    have B3 := Lib.hid (below_then B2.out hb)
    have O3 : Hid (OwnV (fun b => p < b) w3 G (.slice none 0 0) []) := OwnV.nil _ (by omega)
    have hU3 : Hid (Uq et [] ps) := fun j hj => absurd hj (Nat.not_lt_zero _)
    rw [← hG] at hgl
    clear t0 t1 t2 t3 t4 v0 v1 v2 v3' hown hmap hb hcell hcs hpz hG HP d1 d2
    go_wp2_with fail
    go_loopw [96] (fun i wr => ∃ (k : Nat) (vs : List Va) (vl : Value), k ≤ ps.length ∧ i = .int .i64 k ∧ Hid (vs.length = k) ∧ Hid (Uq et vs ps) ∧ Hid (Blk wr p 38 #[.int .i64 6, .int .i64 0, .slice none 0 0, vl]) ∧ Hid (Blk wr (w.heap.size + 1) 38 #[.int .i64 0, .int .i64 0, .slice none 0 0, .slice none 0 0]) ∧ Hid (Blk wr w.heap.size 26 #[.int .i64 6, .int .i64 (l : Nat), .string noName, v3, .slice (some ⟨b, off, none⟩) 1 d]) ∧ Hid (PcAt wr gb gof ps) ∧ Hid (OwnV (fun b => p < b) wr G vl vs) ∧ Hid (Below w.heap.size w wr)) (fun i _ => ps.length - (intOf i).toNat)
    case atStart => exact ⟨0, [], .slice none 0 0, Nat.zero_le _, rfl, rfl, hU3, V3, K3, T3, PC3, O3, B3⟩
    case round =>
      obtain ⟨k, vs, vl, hk, rfl, HN, HU, NV, NK, NT, NC, NO, NB⟩ := hrel
      clear T2 K2 V2 B2 T3 K3 V3 B3 O3 hU3 PC3
      by_cases hlt : k < ps.length
      · have dk : decide ((k : Int) < (ps.length : Int)) = true := by rw [decide_eq_true_eq]; omega
        have dk2 : decide (k < ps.length) = true := by rw [decide_eq_true_eq]; omega
        have hki : (k : Int) < (ps.length : Int) := by omega
        have hk0 : (0 : Int) ≤ (k : Int) := by omega
        have hpk := NC.out k hlt
        obtain ⟨e0, e1, e2, e3, e4⟩ := fives NT.out
        obtain ⟨ec_0, ec_1, ec_2, ec_3, ec_4⟩ := h5.out.later NB.out
        have HX := Lib.hid (HS.out wr ps[k] NB.out (HPz.out _ (List.getElem_mem hlt)))
        have HNo := Lib.hid (fun h => no_arr (l := l) h1 h2 he' HQ.out HMp.out hlt h)
        have HUm := Lib.hid (show ∀ x : Va, hasV et x = true → textV et x = bl ps[k] → Uq et (vs ++ [x]) ps from fun x hx ht => HU.out.more HN.out hlt (uq_of he' hx ht))
        have HL := Lib.hid (show vs.length < 100000 by have := HN.out; omega)
        have HL5 := Lib.hid (show ∀ x : Va, (vs ++ [x]).length = k + 1 from fun x => by rw [List.length_append, List.length_singleton, HN.out])
        obtain ⟨pk, hpke⟩ : ∃ pk, ps[k] = pk := ⟨_, rfl⟩
        rw [hpke] at hpk HX HUm HNo
        clear hpke
        unfold ParsePostP at HX
        go_wp2_with fail
        refine (HX.out).mono ?_
        rintro e9 w3 ⟨x, E, A3, n3, c3, A4, n4, c4, rfl, hvp, hpa, hb⟩
        clear e0 e1 e2 e3 e4 ec_0 ec_1 ec_2 ec_3 ec_4
        rcases hpa with ⟨h, _⟩ | ⟨_, hx1, hx2, rfl⟩ | ⟨_, hx1, rfl, rfl⟩
        · cases h
        · have HUx := Lib.hid (HUm.out x hx1 hx2)
          have Z3 := Lib.hid (below_alloc w3 (.cells #[.int .i64 x.kind, .int .i64 x.n, .slice A3 n3 c3, .slice A4 n4 c4] 38))
          have HB3 := Lib.hid (below_then hb Z3.out)
          have Z4 := Lib.hid (below_then Z3.out (below_alloc (w3.alloc (.cells #[.int .i64 x.kind, .int .i64 x.n, .slice A3 n3 c3, .slice A4 n4 c4] 38)) (.cells #[.int .i64 x.kind, .int .i64 x.n, .slice A3 n3 c3, .slice A4 n4 c4] 38)))
          have HB4 := Lib.hid (below_then hb Z4.out)
          have hsz := NO.out.2.2
          have HP4 := Lib.hid (VaP.later (VaP.mono (S' := fun b => p < b ∧ vl.ownBlock ≠ some b) hvp (fun b hb1 _ => ⟨show p < b by (have hb1 : wr.heap.size ≤ b := hb1; omega), fun e => by (have hb1 : wr.heap.size ≤ b := hb1; have h3 := (NO.out.lt b e).2; omega)⟩)) Z4.out)
          have V3 := Lib.hid (NV.out.later HB3.out)
          have V4 := Lib.hid (NV.out.later HB4.out)
          have K4 := Lib.hid (NK.out.later HB4.out)
          have T4 := Lib.hid (NT.out.later HB4.out)
          have B4 := Lib.hid (below_then NB.out HB4.out)
          have C4 := Lib.hid (NC.out.turn (HB4.out.block gb (by omega)))
          have XN : Hid (Blk (w3.alloc (.cells #[.int .i64 x.kind, .int .i64 x.n, .slice A3 n3 c3, .slice A4 n4 c4] 38)) w3.heap.size 38 #[.int .i64 x.kind, .int .i64 x.n, .slice A3 n3 c3, .slice A4 n4 c4]) := Blk.new _ _ _
          obtain ⟨a0, a1, a2, a3⟩ := four V3.out
          obtain ⟨x0, x1, x2, x3⟩ := four XN.out
          have hnc := new_cells (w3.alloc (.cells #[.int .i64 x.kind, .int .i64 x.n, .slice A3 n3 c3, .slice A4 n4 c4] 38)) 38 (.int .i64 x.kind) (.int .i64 x.n) (.slice A3 n3 c3) (.slice A4 n4 c4)
          rw [World.size_alloc] at hnc
          have HNC := Lib.hid hnc
          clear hb hvp hnc hx1 hx2
          go_wp2_with (at_builtin; refine wpList_append_va rfl _ _ rfl G vl vs x _ _ _ _ rfl rfl (NO.out.kept HB4.out) HP4.out HNC.out HL.out ?_; intro v5 w5 hown5 hb5 _ _; obtain ⟨A5, q5, hv5⟩ := hown5.shape; rw [HL5.out] at hv5; subst hv5; have V5 := Lib.hid (V4.out.keep (hb5 _ (Nat.le_refl _)) hpG); have K5 := Lib.hid (K4.out.keep (hb5 _ (Nat.le_refl _)) (by omega)); have T5 := Lib.hid (T4.out.keep (hb5 _ (Nat.le_refl _)) (by omega)); have C5 := Lib.hid (C4.out.turn ((hb5 _ (Nat.le_refl _)).block gb hgl)); obtain ⟨s0', s1', s2', s3'⟩ := four V5.out; have sf := V5.out.free 3; have O5 := Lib.hid hown5; have B5 := Lib.hid (B4.out.trans ((hb5 _ (Nat.le_refl _)).mono (show w.heap.size ≤ G by omega))); clear hown5 hb5)
          go_wp2
          go_roundw
          case rel =>
            refine ⟨k + 1, vs ++ [x], _, by omega, by go_num, HL5.out x, HUx, V5.out.set 3 _, K5.out.other (show p ≠ w.heap.size + 1 by omega) _, T5.out.other (show p ≠ w.heap.size by omega) _, C5.out.turn (Below.heap_setCell _ _ _ _ (show gb ≠ p by omega)), ?_, B5.out.setCell (p := ⟨p, 3, none⟩) (show w.heap.size ≤ p by omega) _⟩
            exact O5.out.setLow (a := ⟨p, 3, none⟩) hpG (fun b (hb : p < b) => show b ≠ p by omega) _
          case measure => simp [intOf]; omega
        · have HNx := Lib.hid (HNo.out hx1)
          have Z3 := Lib.hid (below_alloc w3 (.cells #[.int .i64 zeroV.kind, .int .i64 zeroV.n, .slice A3 n3 c3, .slice A4 n4 c4] 38))
          have HB3 := Lib.hid (below_then hb Z3.out)
          have K4 := Lib.hid (NK.out.later HB3.out)
          have B4 := Lib.hid (below_then NB.out HB3.out)
          clear hb hvp hx1
          obtain ⟨c0, c1, c2, c3⟩ := four K4.out
          have f0 := K4.out.free 0
          have f1 := K4.out.free 1
          have f2 := K4.out.free 2
          have f3 := K4.out.free 3
          go_wp2
          refine bodyPost_ret (by simp [results, Tryz.results43, go_sem, c0, c1, c2, c3]; try rfl) rfl ?_
          exact ⟨zeroV, 44, none, 0, 0, none, 0, 0, rfl, none_p _ _ _ _, .inr (.inr ⟨rfl, HNx.out, rfl, rfl⟩), set4_below B4.out hs4 _ _ _ _⟩
      · obtain rfl : k = ps.length := by omega
        have dk : decide ((ps.length : Int) < (ps.length : Int)) = false := by rw [decide_eq_false_iff_not]; omega
        have dk2 : decide (ps.length < ps.length) = false := by rw [decide_eq_false_iff_not]; omega
        have HUn := Lib.hid (uq_arr (l := l) h1 h2 he' HQ.out HMp.out HN.out HU.out)
        obtain ⟨A6, q6, hv6⟩ := NO.out.shape
        subst hv6
        go_wp2
        go_meet
        exact parMid_list NV.out NT.out NK.out NB.out NO.out hpG HUn.out
  case rest =>
    clear V2 T2 K2 B2
    obtain ⟨v, A, n, c, B, m, dd, hV, hP, hT, hK, hB, hU⟩ := hcut
    have V3 := Lib.hid hV
    have VP := Lib.hid hP
    have T3 := Lib.hid hT
    have K3 := Lib.hid hK
    have H3 := Lib.hid hB
    have HU := Lib.hid hU
    have HFv := Lib.hid (HF.out _ v _ H3.out (VaP.toC _ _ VP.out))
    have HWv := Lib.hid (fun (hh : hasV (.mk 6 (l : Nat) noName [] [et]) v = true) (u : World) (hbu : Below wc.heap.size wc u) => HW.out u v _ (below_then H3.out hbu) hh (VaP.toC _ _ (VP.out.later hbu)))
    clear hV hP hT hK hB hU HF HW
    obtain ⟨p0, p1, p2, p3, p4⟩ := fives T3.out
    obtain ⟨q0, q1, q2, q3⟩ := four V3.out
    cases hf : hasV (.mk 6 (l : Nat) noName [] [et]) v with
    | false =>
      rw [hf] at HFv
      have HNo : Hid (∀ x, hasV (.mk 6 (l : Nat) noName [] [et]) x = true → textV (.mk 6 (l : Nat) noName [] [et]) x ≠ bl s) := fun x hx he => by
        rw [HU.out x hx he, hx] at hf
        cases hf
      clear hf HU HWv
      go_wp2_with fail
      refine (HFv.out).mono ?_
      rintro e w4 ⟨rfl, hb4⟩
      have H4 := Lib.hid (below_then H3.out hb4)
      have K4 := Lib.hid (K3.out.later hb4)
      obtain ⟨c0, c1, c2, c3⟩ := four K4.out
      have f0 := K4.out.free 0
      have f1 := K4.out.free 1
      have f2 := K4.out.free 2
      have f3 := K4.out.free 3
      clear hb4 p0 p1 p2 p3 p4 q0 q1 q2 q3
      go_wp2
      refine bodyPost_ret (by simp [results, Tryz.results43, go_sem, c0, c1, c2, c3]; try rfl) rfl ?_
      exact ⟨zeroV, 44, none, 0, 0, none, 0, 0, rfl, none_p _ _ _ _, .inr (.inr ⟨rfl, HNo.out, rfl, rfl⟩), set4_below H4.out hs4 _ _ _ _⟩
    | true =>
      rw [hf] at HFv
      have HWw := Lib.hid (HWv.out hf)
      have HV := Lib.hid hf
      unfold WriPost at HWw
      clear hf HWv
      by_cases he : textV (.mk 6 (l : Nat) noName [] [et]) v = bl s
      · have HE := Lib.hid he
        rw [he, sb_bl] at HWw
        have heq : (s.toList == s.toList) = true := beq_self_eq_true _
        clear he
        go_wp2_with fail
        refine (HFv.out).mono ?_
        rintro e w4 ⟨rfl, hb4⟩
        have H4 := Lib.hid (below_then H3.out hb4)
        have HB4 := Lib.hid hb4
        have K4 := Lib.hid (K3.out.later hb4)
        have T4 := Lib.hid (T3.out.later hb4)
        have V4 := Lib.hid (V3.out.later hb4)
        clear hb4 p0 p1 p2 p3 p4 q0 q1 q2 q3
        obtain ⟨p0, p1, p2, p3, p4⟩ := fives T4.out
        obtain ⟨q0, q1, q2, q3⟩ := four V4.out
        go_wp2_with fail
        refine (HWw.out _ HB4.out).mono ?_
        rintro e w5 ⟨rfl, hb5⟩
        have H5 := Lib.hid (below_then H4.out hb5)
        have K5 := Lib.hid (K4.out.later hb5)
        have V5 := Lib.hid (V4.out.later hb5)
        have VP5 := Lib.hid ((VP.out.later HB4.out).later hb5)
        clear hb5 p0 p1 p2 p3 p4 q0 q1 q2 q3
        obtain ⟨q0, q1, q2, q3⟩ := four V5.out
        obtain ⟨c0, c1, c2, c3⟩ := four K5.out
        have f0 := K5.out.free 0
        have f1 := K5.out.free 1
        have f2 := K5.out.free 2
        have f3 := K5.out.free 3
        go_wp2
        refine bodyPost_ret (by simp [results, Tryz.results43, go_sem, c0, c1, c2, c3]; try rfl) rfl ?_
        exact ⟨v, 0, A, n, c, B, m, dd, rfl, VaP.mono (VP5.out.set4 (fun b (hb : p < b) => by omega) _ _ _ _) (fun b (hb : p < b) _ => by omega), .inr (.inl ⟨rfl, HV.out, HE.out, rfl⟩), set4_below H5.out hs4 _ _ _ _⟩
      · have HNo : Hid (∀ x, hasV (.mk 6 (l : Nat) noName [] [et]) x = true → textV (.mk 6 (l : Nat) noName [] [et]) x ≠ bl s) := fun x hx h2 => by
          rw [HU.out x hx h2] at he
          exact he h2
        have hne : ((sb (textV (.mk 6 (l : Nat) noName [] [et]) v)).toList == s.toList) = false := str_ne (fun h => he (by rw [← h, bl_sb]))
        generalize sb (textV (.mk 6 (l : Nat) noName [] [et]) v) = y at HWw hne
        clear he
        go_wp2_with fail
        refine (HFv.out).mono ?_
        rintro e w4 ⟨rfl, hb4⟩
        have H4 := Lib.hid (below_then H3.out hb4)
        have HB4 := Lib.hid hb4
        have K4 := Lib.hid (K3.out.later hb4)
        have T4 := Lib.hid (T3.out.later hb4)
        have V4 := Lib.hid (V3.out.later hb4)
        clear hb4 p0 p1 p2 p3 p4 q0 q1 q2 q3
        obtain ⟨p0, p1, p2, p3, p4⟩ := fives T4.out
        obtain ⟨q0, q1, q2, q3⟩ := four V4.out
        go_wp2_with fail
        refine (HWw.out _ HB4.out).mono ?_
        rintro e w5 ⟨rfl, hb5⟩
        have H5 := Lib.hid (below_then H4.out hb5)
        have K5 := Lib.hid (K4.out.later hb5)
        clear hb5 p0 p1 p2 p3 p4 q0 q1 q2 q3
        obtain ⟨c0, c1, c2, c3⟩ := four K5.out
        have f0 := K5.out.free 0
        have f1 := K5.out.free 1
        have f2 := K5.out.free 2
        have f3 := K5.out.free 3
        go_wp2
        refine bodyPost_ret (by simp [results, Tryz.results43, go_sem, c0, c1, c2, c3]; try rfl) rfl ?_
        exact ⟨zeroV, 44, none, 0, 0, none, 0, 0, rfl, none_p _ _ _ _, .inr (.inr ⟨rfl, HNo.out, rfl, rfl⟩), set4_below H5.out hs4 _ _ _ _⟩
theorem rparse_any (t : Ty) (s : ByteArray) (cs : List Value) (w : World) (ht : smT t) (hs : s.size ≤ 20000) (h : TyC w t cs) :
    Calls Tryz.prog 43 #[.agg cs.toArray, .string s] w (ParsePostP (validT isNameL t) t (bl s) w) := by
  have key : ∀ (t : Ty) (cs : List Value) (w : World) (s : ByteArray), smT t → s.size ≤ 20000 → Flat isNameL t → TyC w t cs → Calls Tryz.prog 43 #[.agg cs.toArray, .string s] w (ParsePostP true t (bl s) w) := by
    intro t cs w s ht hs hf h
    have h0 := h
    have hv := flat_valid hf
    obtain ⟨k, l, nm, ns, es⟩ := t
    have he : es = [] := (flat_kind hf).2
    subst he
    obtain ⟨A, n, c, B, m, d, rfl, hn, hm, hst, -⟩ := tyC_open h
    exact rpar_flat k l nm ns hf A B n c m d s hs w hst
      (fun u hu => by have := valid_any _ _ u ht.nm (h0.later hu); rwa [hv] at this)
      (fun u v cs hu hvc => rhas_flat hf ht.nm (h0.later hu) hvc)
      (fun u v cs hu hh hvc => rwritten_flat hf (hasF_of hf hh) (h0.later hu) hvc)
  have h0 := h
  cases hv : validT isNameL t with
  | false =>
    obtain ⟨A, n, c, B, m, d, rfl, _⟩ := tyC_open h
    exact rpar_bad _ _ _ _ _ t s w (fun u hu => by have := valid_any t _ u ht.nm (h0.later hu); rwa [hv] at this)
  | true =>
    cases valid_good hv with
    | flat _ hf => exact key t cs w s ht hs hf h
    | arr l e h1 h2 he =>
      obtain ⟨A, n, c, B, m, d, rfl, hn, rfl, hst, hT⟩ := tyC_open h
      rcases hT with hT | ⟨b, off, rfl, hT⟩
      · cases hT
      obtain ⟨A1, n1, c1, A2, n2, c2, k1, k5⟩ := one_open hT
      have hse : smT e := ((smT_def _ _ _ _ _).1 ht).2.2.2.2 e (by simp)
      exact rpar_arr l h1 h2 e he _ b off d e.kind e.len e.name A1 A2 n1 c1 n2 c2 s hs w k5
        (fun u x hu hx => key e _ u x hse (by omega) he (TyC.later hu _ _ k1))
        (fun u hu => by have := valid_any _ _ u ht.nm (h0.later hu); rwa [hv] at this)
        (fun u v cs hu hvc => rhas_good (.arr l e h1 h2 he) ht.nm (h0.later hu) hvc)
        (fun u v cs hu hh hvc => rwritten_any (.arr l e h1 h2 he) ht (hasG_of (.arr l e h1 h2 he) hh) (h0.later hu) hvc)
end Go.Proofs.YtdiagnhdigakpaaGreatDoor
