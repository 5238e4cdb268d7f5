/-
  No cell of these rows narrows 'for every input' (looked for: loops, veiled, ifaces, maps, wideKeys, modest, calm, conditions, laid).
  DERIVED. THE GIVEN ROWS OF THIS SEAT. 12 by the template 'for every input the law returns true; each argument reads behind the call as it read before'; 0 by the template 'total and deterministic' (their statements: YtkapephlfbabjaaTotals.lean).
  GIVEN WITH THE SEED: the statements are not yours to turn. If you find one false, say at which input.
  Laid BY PROGRAM, IN A SANDBOX (cutbox-rows.mjs): the forced cells as the released guide's own fill.sh prints them over the translation dcf4705c603e0ddd… (all of the seat's roots in one cut). By AI agents, Wed Nov 11 2026. No macro, syntax, notation, axiom, sorry.
-/
import Derived.Test.YtkapephlfbabjaaChecked
import GoSem.Claim
import GoSem.ClaimJoined
import GoSem.ClaimMapViews
import Derived.JoinedTies
import Derived.KernelRfl
namespace Go.Proofs.Ytkapephlfbabjaa
/- THE CELL 'sum', in the pinned program and in every row, IS THE sha256 OF THE DUMP (.gsa) THAT YtkapephlfbabjaaProg.lean LOADS. Nothing in Lean hashes anything: it is a label: what it is worth is what the hold of that sum in a sandbox is worth. -/
noncomputable def Try.pinned : Pinned := { name := "ytkapephlfbabjaa", sum := "dcf4705c603e0dddc1705d542287ce91245bc117045b151c54b23ed38799ed9d", checked := Try.checked }
namespace Rows
def none {H : Type} : Left H := { results := [], args := [] }

/-- 'netwrightlaw02.VecNumbers': WHATEVER THE INPUT: true; the input reads as it did. -/
def vecNumbersSpec : ChangeSpec := { name := "vecNumbers", fn := fun _ => fun
  | [d1, d2, d3] => { results := [.lit (.bool true)], args := [d1, d2, d3] }
  | _ => none }
def vecNumbersRow : OpenClaim := { program := "ytkapephlfbabjaa", sum := "dcf4705c603e0dddc1705d542287ce91245bc117045b151c54b23ed38799ed9d", func := "netwright/netwrightlaw02.VecNumbers", spec := "vecNumbers", unfollowed := true, recurses := true, apart := false }
def VecNumbersSaid : Prop := vecNumbersRow.holds Try.pinned (OpenSpec.ofChange vecNumbersSpec)

/-- ITS FALSE NEIGHBOUR: 'it returns false'. Refute it at one input. -/
def vecNumbersWrong : ChangeSpec := { name := "vecNumbers", fn := fun _ => fun
  | [d1, d2, d3] => { results := [.lit (.bool false)], args := [d1, d2, d3] }
  | _ => none }
def VecNumbersWrongFalsely : Prop := vecNumbersRow.holds Try.pinned (OpenSpec.ofChange vecNumbersWrong)

/-- 'netwrightlaw02.VecSums': WHATEVER THE INPUT: true; the input reads as it did. -/
def vecSumsSpec : ChangeSpec := { name := "vecSums", fn := fun _ => fun
  | [d1, d2] => { results := [.lit (.bool true)], args := [d1, d2] }
  | _ => none }
def vecSumsRow : OpenClaim := { program := "ytkapephlfbabjaa", sum := "dcf4705c603e0dddc1705d542287ce91245bc117045b151c54b23ed38799ed9d", func := "netwright/netwrightlaw02.VecSums", spec := "vecSums", unfollowed := true, recurses := true, apart := false }
def VecSumsSaid : Prop := vecSumsRow.holds Try.pinned (OpenSpec.ofChange vecSumsSpec)

/-- ITS FALSE NEIGHBOUR: 'it returns false'. Refute it at one input. -/
def vecSumsWrong : ChangeSpec := { name := "vecSums", fn := fun _ => fun
  | [d1, d2] => { results := [.lit (.bool false)], args := [d1, d2] }
  | _ => none }
def VecSumsWrongFalsely : Prop := vecSumsRow.holds Try.pinned (OpenSpec.ofChange vecSumsWrong)

/-- 'netwrightlaw02.VecShifts': WHATEVER THE INPUT: true; the input reads as it did. -/
def vecShiftsSpec : ChangeSpec := { name := "vecShifts", fn := fun _ => fun
  | [d1, d2] => { results := [.lit (.bool true)], args := [d1, d2] }
  | _ => none }
def vecShiftsRow : OpenClaim := { program := "ytkapephlfbabjaa", sum := "dcf4705c603e0dddc1705d542287ce91245bc117045b151c54b23ed38799ed9d", func := "netwright/netwrightlaw02.VecShifts", spec := "vecShifts", unfollowed := true, recurses := true, apart := false }
def VecShiftsSaid : Prop := vecShiftsRow.holds Try.pinned (OpenSpec.ofChange vecShiftsSpec)

/-- ITS FALSE NEIGHBOUR: 'it returns false'. Refute it at one input. -/
def vecShiftsWrong : ChangeSpec := { name := "vecShifts", fn := fun _ => fun
  | [d1, d2] => { results := [.lit (.bool false)], args := [d1, d2] }
  | _ => none }
def VecShiftsWrongFalsely : Prop := vecShiftsRow.holds Try.pinned (OpenSpec.ofChange vecShiftsWrong)

/-- 'netwrightlaw02.VecPieces': WHATEVER THE INPUT: true; the input reads as it did. -/
def vecPiecesSpec : ChangeSpec := { name := "vecPieces", fn := fun _ => fun
  | [d1, d2, d3] => { results := [.lit (.bool true)], args := [d1, d2, d3] }
  | _ => none }
def vecPiecesRow : OpenClaim := { program := "ytkapephlfbabjaa", sum := "dcf4705c603e0dddc1705d542287ce91245bc117045b151c54b23ed38799ed9d", func := "netwright/netwrightlaw02.VecPieces", spec := "vecPieces", unfollowed := true, recurses := true, apart := false }
def VecPiecesSaid : Prop := vecPiecesRow.holds Try.pinned (OpenSpec.ofChange vecPiecesSpec)

/-- ITS FALSE NEIGHBOUR: 'it returns false'. Refute it at one input. -/
def vecPiecesWrong : ChangeSpec := { name := "vecPieces", fn := fun _ => fun
  | [d1, d2, d3] => { results := [.lit (.bool false)], args := [d1, d2, d3] }
  | _ => none }
def VecPiecesWrongFalsely : Prop := vecPiecesRow.holds Try.pinned (OpenSpec.ofChange vecPiecesWrong)

/-- 'netwrightlaw02.VecInts': WHATEVER THE INPUT: true; the input reads as it did. -/
def vecIntsSpec : ChangeSpec := { name := "vecInts", fn := fun _ => fun
  | [d1, d2, d3] => { results := [.lit (.bool true)], args := [d1, d2, d3] }
  | _ => none }
def vecIntsRow : OpenClaim := { program := "ytkapephlfbabjaa", sum := "dcf4705c603e0dddc1705d542287ce91245bc117045b151c54b23ed38799ed9d", func := "netwright/netwrightlaw02.VecInts", spec := "vecInts", unfollowed := true, recurses := true, apart := false }
def VecIntsSaid : Prop := vecIntsRow.holds Try.pinned (OpenSpec.ofChange vecIntsSpec)

/-- ITS FALSE NEIGHBOUR: 'it returns false'. Refute it at one input. -/
def vecIntsWrong : ChangeSpec := { name := "vecInts", fn := fun _ => fun
  | [d1, d2, d3] => { results := [.lit (.bool false)], args := [d1, d2, d3] }
  | _ => none }
def VecIntsWrongFalsely : Prop := vecIntsRow.holds Try.pinned (OpenSpec.ofChange vecIntsWrong)

/-- 'netwrightlaw02.VecRing': WHATEVER THE INPUT: true; the input reads as it did. -/
def vecRingSpec : ChangeSpec := { name := "vecRing", fn := fun _ => fun
  | [d1, d2, d3] => { results := [.lit (.bool true)], args := [d1, d2, d3] }
  | _ => none }
def vecRingRow : OpenClaim := { program := "ytkapephlfbabjaa", sum := "dcf4705c603e0dddc1705d542287ce91245bc117045b151c54b23ed38799ed9d", func := "netwright/netwrightlaw02.VecRing", spec := "vecRing", unfollowed := true, recurses := true, apart := false }
def VecRingSaid : Prop := vecRingRow.holds Try.pinned (OpenSpec.ofChange vecRingSpec)

/-- ITS FALSE NEIGHBOUR: 'it returns false'. Refute it at one input. -/
def vecRingWrong : ChangeSpec := { name := "vecRing", fn := fun _ => fun
  | [d1, d2, d3] => { results := [.lit (.bool false)], args := [d1, d2, d3] }
  | _ => none }
def VecRingWrongFalsely : Prop := vecRingRow.holds Try.pinned (OpenSpec.ofChange vecRingWrong)

/-- 'netwrightlaw02.VecMoves': WHATEVER THE INPUT: true; the input reads as it did. -/
def vecMovesSpec : ChangeSpec := { name := "vecMoves", fn := fun _ => fun
  | [d1, d2] => { results := [.lit (.bool true)], args := [d1, d2] }
  | _ => none }
def vecMovesRow : OpenClaim := { program := "ytkapephlfbabjaa", sum := "dcf4705c603e0dddc1705d542287ce91245bc117045b151c54b23ed38799ed9d", func := "netwright/netwrightlaw02.VecMoves", spec := "vecMoves", unfollowed := true, recurses := true, apart := false }
def VecMovesSaid : Prop := vecMovesRow.holds Try.pinned (OpenSpec.ofChange vecMovesSpec)

/-- ITS FALSE NEIGHBOUR: 'it returns false'. Refute it at one input. -/
def vecMovesWrong : ChangeSpec := { name := "vecMoves", fn := fun _ => fun
  | [d1, d2] => { results := [.lit (.bool false)], args := [d1, d2] }
  | _ => none }
def VecMovesWrongFalsely : Prop := vecMovesRow.holds Try.pinned (OpenSpec.ofChange vecMovesWrong)

/-- 'netwrightlaw02.VecCuts': WHATEVER THE INPUT: true; the input reads as it did. -/
def vecCutsSpec : ChangeSpec := { name := "vecCuts", fn := fun _ => fun
  | [d1, d2, d3] => { results := [.lit (.bool true)], args := [d1, d2, d3] }
  | _ => none }
def vecCutsRow : OpenClaim := { program := "ytkapephlfbabjaa", sum := "dcf4705c603e0dddc1705d542287ce91245bc117045b151c54b23ed38799ed9d", func := "netwright/netwrightlaw02.VecCuts", spec := "vecCuts", unfollowed := true, recurses := true, apart := false }
def VecCutsSaid : Prop := vecCutsRow.holds Try.pinned (OpenSpec.ofChange vecCutsSpec)

/-- ITS FALSE NEIGHBOUR: 'it returns false'. Refute it at one input. -/
def vecCutsWrong : ChangeSpec := { name := "vecCuts", fn := fun _ => fun
  | [d1, d2, d3] => { results := [.lit (.bool false)], args := [d1, d2, d3] }
  | _ => none }
def VecCutsWrongFalsely : Prop := vecCutsRow.holds Try.pinned (OpenSpec.ofChange vecCutsWrong)

/-- 'netwrightlaw02.VecOne': WHATEVER THE INPUT: true; the input reads as it did. -/
def vecOneSpec : ChangeSpec := { name := "vecOne", fn := fun _ => fun
  | [d1, d2] => { results := [.lit (.bool true)], args := [d1, d2] }
  | _ => none }
def vecOneRow : OpenClaim := { program := "ytkapephlfbabjaa", sum := "dcf4705c603e0dddc1705d542287ce91245bc117045b151c54b23ed38799ed9d", func := "netwright/netwrightlaw02.VecOne", spec := "vecOne", unfollowed := true, recurses := true, apart := false }
def VecOneSaid : Prop := vecOneRow.holds Try.pinned (OpenSpec.ofChange vecOneSpec)

/-- ITS FALSE NEIGHBOUR: 'it returns false'. Refute it at one input. -/
def vecOneWrong : ChangeSpec := { name := "vecOne", fn := fun _ => fun
  | [d1, d2] => { results := [.lit (.bool false)], args := [d1, d2] }
  | _ => none }
def VecOneWrongFalsely : Prop := vecOneRow.holds Try.pinned (OpenSpec.ofChange vecOneWrong)

/-- 'netwrightlaw02.VecKnown': WHATEVER THE INPUT: true; the input reads as it did. -/
def vecKnownSpec : ChangeSpec := { name := "vecKnown", fn := fun _ => fun
  | [d] => { results := [.lit (.bool true)], args := [d] }
  | _ => none }
def vecKnownRow : OpenClaim := { program := "ytkapephlfbabjaa", sum := "dcf4705c603e0dddc1705d542287ce91245bc117045b151c54b23ed38799ed9d", func := "netwright/netwrightlaw02.VecKnown", spec := "vecKnown", unfollowed := true, recurses := true, apart := false }
def VecKnownSaid : Prop := vecKnownRow.holds Try.pinned (OpenSpec.ofChange vecKnownSpec)

/-- ITS FALSE NEIGHBOUR: 'it returns false'. Refute it at one input. -/
def vecKnownWrong : ChangeSpec := { name := "vecKnown", fn := fun _ => fun
  | [d] => { results := [.lit (.bool false)], args := [d] }
  | _ => none }
def VecKnownWrongFalsely : Prop := vecKnownRow.holds Try.pinned (OpenSpec.ofChange vecKnownWrong)

/-- 'netwrightlaw02.VecQuotients': WHATEVER THE INPUT: true; the input reads as it did. -/
def vecQuotientsSpec : ChangeSpec := { name := "vecQuotients", fn := fun _ => fun
  | [d1, d2] => { results := [.lit (.bool true)], args := [d1, d2] }
  | _ => none }
def vecQuotientsRow : OpenClaim := { program := "ytkapephlfbabjaa", sum := "dcf4705c603e0dddc1705d542287ce91245bc117045b151c54b23ed38799ed9d", func := "netwright/netwrightlaw02.VecQuotients", spec := "vecQuotients", unfollowed := true, recurses := true, apart := false }
def VecQuotientsSaid : Prop := vecQuotientsRow.holds Try.pinned (OpenSpec.ofChange vecQuotientsSpec)

/-- ITS FALSE NEIGHBOUR: 'it returns false'. Refute it at one input. -/
def vecQuotientsWrong : ChangeSpec := { name := "vecQuotients", fn := fun _ => fun
  | [d1, d2] => { results := [.lit (.bool false)], args := [d1, d2] }
  | _ => none }
def VecQuotientsWrongFalsely : Prop := vecQuotientsRow.holds Try.pinned (OpenSpec.ofChange vecQuotientsWrong)

/-- 'netwrightlaw02.VecTurns': WHATEVER THE INPUT: true; the input reads as it did. -/
def vecTurnsSpec : ChangeSpec := { name := "vecTurns", fn := fun _ => fun
  | [d1, d2, d3] => { results := [.lit (.bool true)], args := [d1, d2, d3] }
  | _ => none }
def vecTurnsRow : OpenClaim := { program := "ytkapephlfbabjaa", sum := "dcf4705c603e0dddc1705d542287ce91245bc117045b151c54b23ed38799ed9d", func := "netwright/netwrightlaw02.VecTurns", spec := "vecTurns", unfollowed := true, recurses := true, apart := false }
def VecTurnsSaid : Prop := vecTurnsRow.holds Try.pinned (OpenSpec.ofChange vecTurnsSpec)

/-- ITS FALSE NEIGHBOUR: 'it returns false'. Refute it at one input. -/
def vecTurnsWrong : ChangeSpec := { name := "vecTurns", fn := fun _ => fun
  | [d1, d2, d3] => { results := [.lit (.bool false)], args := [d1, d2, d3] }
  | _ => none }
def VecTurnsWrongFalsely : Prop := vecTurnsRow.holds Try.pinned (OpenSpec.ofChange vecTurnsWrong)

/- THE SECOND FORM. 'bulk': how many values and letters a reading holds, each counted each time it is reached (what is shared counts as often as it is met; a slice's spare places count too). A statement '..UptoSaid' is the law's where the arguments, and the package variables that the reading takes, are together of bulk at most 1048576: NARROWER than '..Said'. Prove '..Said' where nothing that the law and all that it calls make is longer than what came in: it says more and counts as full. Else prove '..UptoSaid'. A law counts once. -/
mutual
def uptoBulk {H : Type} : DataW H → Nat
  | .lit (.string bytes) => bytes.length + 1
  | .lit _ => 1
  | .nil => 1
  | .ptr d => uptoBulk d + 1
  | .slice elems spare => uptoBulkAll elems + uptoBulkAll spare + 1
  | .agg parts => uptoBulkAll parts + 1
  | .iface _ d => uptoBulk d + 1
  | .map entries => uptoBulkEntries entries + 1
  | .held _ => 1
def uptoBulkAll {H : Type} : List (DataW H) → Nat
  | [] => 0
  | d :: r => uptoBulk d + uptoBulkAll r
def uptoBulkEntries {H : Type} : List (Lit × DataW H) → Nat
  | [] => 0
  | x :: r => uptoBulkEntry x + uptoBulkEntries r
def uptoBulkEntry {H : Type} : Lit × DataW H → Nat
  | (.string bytes, d) => bytes.length + uptoBulk d + 1
  | (_, d) => uptoBulk d + 1
 end
def uptoSmall : (H : Type) → List (DataW H) → Bool := fun _ ds => decide (uptoBulkAll ds ≤ 1048576)
def OpenSpec.upto (s : _root_.Go.ChangeSpec) : _root_.Go.OpenSpec := { _root_.Go.OpenSpec.ofChange s with cond := some uptoSmall }

/-- 'netwrightlaw02.VecNumbers', WHERE WHAT IT READS IS OF BULK AT MOST 1048576: true; the input reads as it did. -/
def vecNumbersUptoRow : OpenClaim := { program := "ytkapephlfbabjaa", sum := "dcf4705c603e0dddc1705d542287ce91245bc117045b151c54b23ed38799ed9d", func := "netwright/netwrightlaw02.VecNumbers", spec := "vecNumbers", unfollowed := true, recurses := true, apart := false, narrowed := true }
def VecNumbersUptoSaid : Prop := vecNumbersUptoRow.holds Try.pinned (OpenSpec.upto vecNumbersSpec)

/-- 'netwrightlaw02.VecSums', WHERE WHAT IT READS IS OF BULK AT MOST 1048576: true; the input reads as it did. -/
def vecSumsUptoRow : OpenClaim := { program := "ytkapephlfbabjaa", sum := "dcf4705c603e0dddc1705d542287ce91245bc117045b151c54b23ed38799ed9d", func := "netwright/netwrightlaw02.VecSums", spec := "vecSums", unfollowed := true, recurses := true, apart := false, narrowed := true }
def VecSumsUptoSaid : Prop := vecSumsUptoRow.holds Try.pinned (OpenSpec.upto vecSumsSpec)

/-- 'netwrightlaw02.VecShifts', WHERE WHAT IT READS IS OF BULK AT MOST 1048576: true; the input reads as it did. -/
def vecShiftsUptoRow : OpenClaim := { program := "ytkapephlfbabjaa", sum := "dcf4705c603e0dddc1705d542287ce91245bc117045b151c54b23ed38799ed9d", func := "netwright/netwrightlaw02.VecShifts", spec := "vecShifts", unfollowed := true, recurses := true, apart := false, narrowed := true }
def VecShiftsUptoSaid : Prop := vecShiftsUptoRow.holds Try.pinned (OpenSpec.upto vecShiftsSpec)

/-- 'netwrightlaw02.VecPieces', WHERE WHAT IT READS IS OF BULK AT MOST 1048576: true; the input reads as it did. -/
def vecPiecesUptoRow : OpenClaim := { program := "ytkapephlfbabjaa", sum := "dcf4705c603e0dddc1705d542287ce91245bc117045b151c54b23ed38799ed9d", func := "netwright/netwrightlaw02.VecPieces", spec := "vecPieces", unfollowed := true, recurses := true, apart := false, narrowed := true }
def VecPiecesUptoSaid : Prop := vecPiecesUptoRow.holds Try.pinned (OpenSpec.upto vecPiecesSpec)

/-- 'netwrightlaw02.VecInts', WHERE WHAT IT READS IS OF BULK AT MOST 1048576: true; the input reads as it did. -/
def vecIntsUptoRow : OpenClaim := { program := "ytkapephlfbabjaa", sum := "dcf4705c603e0dddc1705d542287ce91245bc117045b151c54b23ed38799ed9d", func := "netwright/netwrightlaw02.VecInts", spec := "vecInts", unfollowed := true, recurses := true, apart := false, narrowed := true }
def VecIntsUptoSaid : Prop := vecIntsUptoRow.holds Try.pinned (OpenSpec.upto vecIntsSpec)

/-- 'netwrightlaw02.VecRing', WHERE WHAT IT READS IS OF BULK AT MOST 1048576: true; the input reads as it did. -/
def vecRingUptoRow : OpenClaim := { program := "ytkapephlfbabjaa", sum := "dcf4705c603e0dddc1705d542287ce91245bc117045b151c54b23ed38799ed9d", func := "netwright/netwrightlaw02.VecRing", spec := "vecRing", unfollowed := true, recurses := true, apart := false, narrowed := true }
def VecRingUptoSaid : Prop := vecRingUptoRow.holds Try.pinned (OpenSpec.upto vecRingSpec)

/-- 'netwrightlaw02.VecMoves', WHERE WHAT IT READS IS OF BULK AT MOST 1048576: true; the input reads as it did. -/
def vecMovesUptoRow : OpenClaim := { program := "ytkapephlfbabjaa", sum := "dcf4705c603e0dddc1705d542287ce91245bc117045b151c54b23ed38799ed9d", func := "netwright/netwrightlaw02.VecMoves", spec := "vecMoves", unfollowed := true, recurses := true, apart := false, narrowed := true }
def VecMovesUptoSaid : Prop := vecMovesUptoRow.holds Try.pinned (OpenSpec.upto vecMovesSpec)

/-- 'netwrightlaw02.VecCuts', WHERE WHAT IT READS IS OF BULK AT MOST 1048576: true; the input reads as it did. -/
def vecCutsUptoRow : OpenClaim := { program := "ytkapephlfbabjaa", sum := "dcf4705c603e0dddc1705d542287ce91245bc117045b151c54b23ed38799ed9d", func := "netwright/netwrightlaw02.VecCuts", spec := "vecCuts", unfollowed := true, recurses := true, apart := false, narrowed := true }
def VecCutsUptoSaid : Prop := vecCutsUptoRow.holds Try.pinned (OpenSpec.upto vecCutsSpec)

/-- 'netwrightlaw02.VecOne', WHERE WHAT IT READS IS OF BULK AT MOST 1048576: true; the input reads as it did. -/
def vecOneUptoRow : OpenClaim := { program := "ytkapephlfbabjaa", sum := "dcf4705c603e0dddc1705d542287ce91245bc117045b151c54b23ed38799ed9d", func := "netwright/netwrightlaw02.VecOne", spec := "vecOne", unfollowed := true, recurses := true, apart := false, narrowed := true }
def VecOneUptoSaid : Prop := vecOneUptoRow.holds Try.pinned (OpenSpec.upto vecOneSpec)

/-- 'netwrightlaw02.VecKnown', WHERE WHAT IT READS IS OF BULK AT MOST 1048576: true; the input reads as it did. -/
def vecKnownUptoRow : OpenClaim := { program := "ytkapephlfbabjaa", sum := "dcf4705c603e0dddc1705d542287ce91245bc117045b151c54b23ed38799ed9d", func := "netwright/netwrightlaw02.VecKnown", spec := "vecKnown", unfollowed := true, recurses := true, apart := false, narrowed := true }
def VecKnownUptoSaid : Prop := vecKnownUptoRow.holds Try.pinned (OpenSpec.upto vecKnownSpec)

/-- 'netwrightlaw02.VecQuotients', WHERE WHAT IT READS IS OF BULK AT MOST 1048576: true; the input reads as it did. -/
def vecQuotientsUptoRow : OpenClaim := { program := "ytkapephlfbabjaa", sum := "dcf4705c603e0dddc1705d542287ce91245bc117045b151c54b23ed38799ed9d", func := "netwright/netwrightlaw02.VecQuotients", spec := "vecQuotients", unfollowed := true, recurses := true, apart := false, narrowed := true }
def VecQuotientsUptoSaid : Prop := vecQuotientsUptoRow.holds Try.pinned (OpenSpec.upto vecQuotientsSpec)

/-- 'netwrightlaw02.VecTurns', WHERE WHAT IT READS IS OF BULK AT MOST 1048576: true; the input reads as it did. -/
def vecTurnsUptoRow : OpenClaim := { program := "ytkapephlfbabjaa", sum := "dcf4705c603e0dddc1705d542287ce91245bc117045b151c54b23ed38799ed9d", func := "netwright/netwrightlaw02.VecTurns", spec := "vecTurns", unfollowed := true, recurses := true, apart := false, narrowed := true }
def VecTurnsUptoSaid : Prop := vecTurnsUptoRow.holds Try.pinned (OpenSpec.upto vecTurnsSpec)

end Rows
end Go.Proofs.Ytkapephlfbabjaa
