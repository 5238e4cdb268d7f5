/-
  NARROWER THAN 'FOR EVERY INPUT', by the rows' own cells (each row's printed sentence says how): LogicTables: laid · LogicResolves: laid · LogicVectors: laid · LogicJoins: laid · LogicReads: laid · LogicTexts: laid · LogicOrders: laid · LogicOpposites: laid · LogicKnown: laid · LogicDriven: laid.
  DERIVED. THE GIVEN ROWS OF THIS SEAT. 10 by the template 'for every input the law returns true; each argument reads behind the call as it read before'; 0 by the template 'total and deterministic' (their statements: YtaeehejnifhaaaaDoorTotals.lean).
  GIVEN WITH THE SEED: the statements are not yours to turn. If you find one false, say at which input.
  Laid BY PROGRAM, IN A SANDBOX (cutbox-rows.mjs): the forced cells as the released guide's own fill.sh prints them over the translation 938e3bec7103c17a… (all of the seat's roots in one cut). By AI agents, Wed Nov 11 2026. No macro, syntax, notation, axiom, sorry.
-/
import Derived.Test.YtaeehejnifhaaaaDoorChecked
import GoSem.Claim
import GoSem.ClaimJoined
import GoSem.ClaimMapViews
import Derived.JoinedTies
import Derived.KernelRfl
namespace Go.Proofs.YtaeehejnifhaaaaDoor
/- THE CELL 'sum', in the pinned program and in every row, IS THE sha256 OF THE DUMP (.gsa) THAT YtaeehejnifhaaaaDoorProg.lean LOADS. Nothing in Lean hashes anything: it is a label: what it is worth is what the hold of that sum in a sandbox is worth. -/
noncomputable def Tryd.pinned : Pinned := { name := "ytaeehejnifhaaaadoor", sum := "938e3bec7103c17a3a62d4530b7d7aa4ad24ed90979b2bab2fb3019b4d9f4d62", checked := Tryd.checked }
namespace Rows
def none {H : Type} : Left H := { results := [], args := [] }

/- WHAT THE LISTED PACKAGE-LEVEL VARIABLES READ AS WHEN THE CALL BEGINS. Each datum BY PROGRAM (the guide's laid-datum.mjs) off the statement by which the dump's own 'gosem.cut.vars' lays the variable. In a bare row this is a premise. The card (YtaeehejnifhaaaaDoorCards.lean) ties it to the program's text. -/
def laid_netwright_logic_andTable {H : Type} : DataW H := .agg [.agg [.lit (.int .u8 0), .lit (.int .u8 0), .lit (.int .u8 0), .lit (.int .u8 0)], .agg [.lit (.int .u8 0), .lit (.int .u8 1), .lit (.int .u8 2), .lit (.int .u8 2)], .agg [.lit (.int .u8 0), .lit (.int .u8 2), .lit (.int .u8 2), .lit (.int .u8 2)], .agg [.lit (.int .u8 0), .lit (.int .u8 2), .lit (.int .u8 2), .lit (.int .u8 2)]]
def laid_netwright_logic_orTable {H : Type} : DataW H := .agg [.agg [.lit (.int .u8 0), .lit (.int .u8 1), .lit (.int .u8 2), .lit (.int .u8 2)], .agg [.lit (.int .u8 1), .lit (.int .u8 1), .lit (.int .u8 1), .lit (.int .u8 1)], .agg [.lit (.int .u8 2), .lit (.int .u8 1), .lit (.int .u8 2), .lit (.int .u8 2)], .agg [.lit (.int .u8 2), .lit (.int .u8 1), .lit (.int .u8 2), .lit (.int .u8 2)]]
def laid_netwright_logic_xorTable {H : Type} : DataW H := .agg [.agg [.lit (.int .u8 0), .lit (.int .u8 1), .lit (.int .u8 2), .lit (.int .u8 2)], .agg [.lit (.int .u8 1), .lit (.int .u8 0), .lit (.int .u8 2), .lit (.int .u8 2)], .agg [.lit (.int .u8 2), .lit (.int .u8 2), .lit (.int .u8 2), .lit (.int .u8 2)], .agg [.lit (.int .u8 2), .lit (.int .u8 2), .lit (.int .u8 2), .lit (.int .u8 2)]]
def laid_netwright_logic_notTable {H : Type} : DataW H := .agg [.lit (.int .u8 1), .lit (.int .u8 0), .lit (.int .u8 2), .lit (.int .u8 2)]
def laid_netwright_logic_resolveTable {H : Type} : DataW H := .agg [.agg [.lit (.int .u8 0), .lit (.int .u8 2), .lit (.int .u8 2), .lit (.int .u8 0)], .agg [.lit (.int .u8 2), .lit (.int .u8 1), .lit (.int .u8 2), .lit (.int .u8 1)], .agg [.lit (.int .u8 2), .lit (.int .u8 2), .lit (.int .u8 2), .lit (.int .u8 2)], .agg [.lit (.int .u8 0), .lit (.int .u8 1), .lit (.int .u8 2), .lit (.int .u8 3)]]

/-- 'netwrightlaw01.LogicTables': WHATEVER THE INPUT: true; the input reads as it did. -/
def logicTablesSpec : ChangeSpec := { name := "logicTables", fn := fun _ => fun
  | [d1, d2, d3] => { results := [.lit (.bool true)], args := [d1, d2, d3] }
  | _ => none }
def logicTablesRow : OpenClaim := { program := "ytaeehejnifhaaaadoor", sum := "938e3bec7103c17a3a62d4530b7d7aa4ad24ed90979b2bab2fb3019b4d9f4d62", func := "netwright/netwrightlaw01.LogicTables", spec := "logicTables", inPlace := ["internal/bytealg.IndexByteString"], named := ["netwright/logic.andTable", "netwright/logic.orTable", "netwright/logic.xorTable", "netwright/logic.notTable", "netwright/logic.resolveTable"], apart := false, laid := [("netwright/logic.andTable", laid_netwright_logic_andTable), ("netwright/logic.orTable", laid_netwright_logic_orTable), ("netwright/logic.xorTable", laid_netwright_logic_xorTable), ("netwright/logic.notTable", laid_netwright_logic_notTable), ("netwright/logic.resolveTable", laid_netwright_logic_resolveTable)] }
def LogicTablesSaid : Prop := logicTablesRow.holds Tryd.pinned (OpenSpec.ofChange logicTablesSpec)

/-- ITS FALSE NEIGHBOUR: 'it returns false'. Refute it at one input. -/
def logicTablesWrong : ChangeSpec := { name := "logicTables", fn := fun _ => fun
  | [d1, d2, d3] => { results := [.lit (.bool false)], args := [d1, d2, d3] }
  | _ => none }
def LogicTablesWrongFalsely : Prop := logicTablesRow.holds Tryd.pinned (OpenSpec.ofChange logicTablesWrong)

/-- 'netwrightlaw01.LogicResolves': WHATEVER THE INPUT: true; the input reads as it did. -/
def logicResolvesSpec : ChangeSpec := { name := "logicResolves", fn := fun _ => fun
  | [d] => { results := [.lit (.bool true)], args := [d] }
  | _ => none }
def logicResolvesRow : OpenClaim := { program := "ytaeehejnifhaaaadoor", sum := "938e3bec7103c17a3a62d4530b7d7aa4ad24ed90979b2bab2fb3019b4d9f4d62", func := "netwright/netwrightlaw01.LogicResolves", spec := "logicResolves", inPlace := ["internal/bytealg.IndexByteString"], named := ["netwright/logic.andTable", "netwright/logic.orTable", "netwright/logic.xorTable", "netwright/logic.notTable", "netwright/logic.resolveTable"], apart := false, laid := [("netwright/logic.andTable", laid_netwright_logic_andTable), ("netwright/logic.orTable", laid_netwright_logic_orTable), ("netwright/logic.xorTable", laid_netwright_logic_xorTable), ("netwright/logic.notTable", laid_netwright_logic_notTable), ("netwright/logic.resolveTable", laid_netwright_logic_resolveTable)] }
def LogicResolvesSaid : Prop := logicResolvesRow.holds Tryd.pinned (OpenSpec.ofChange logicResolvesSpec)

/-- ITS FALSE NEIGHBOUR: 'it returns false'. Refute it at one input. -/
def logicResolvesWrong : ChangeSpec := { name := "logicResolves", fn := fun _ => fun
  | [d] => { results := [.lit (.bool false)], args := [d] }
  | _ => none }
def LogicResolvesWrongFalsely : Prop := logicResolvesRow.holds Tryd.pinned (OpenSpec.ofChange logicResolvesWrong)

/-- 'netwrightlaw01.LogicVectors': WHATEVER THE INPUT: true; the input reads as it did. -/
def logicVectorsSpec : ChangeSpec := { name := "logicVectors", fn := fun _ => fun
  | [d1, d2, d3] => { results := [.lit (.bool true)], args := [d1, d2, d3] }
  | _ => none }
def logicVectorsRow : OpenClaim := { program := "ytaeehejnifhaaaadoor", sum := "938e3bec7103c17a3a62d4530b7d7aa4ad24ed90979b2bab2fb3019b4d9f4d62", func := "netwright/netwrightlaw01.LogicVectors", spec := "logicVectors", inPlace := ["internal/bytealg.IndexByteString"], unfollowed := true, recurses := true, named := ["netwright/logic.andTable", "netwright/logic.orTable", "netwright/logic.xorTable", "netwright/logic.notTable", "netwright/logic.resolveTable"], apart := false, laid := [("netwright/logic.andTable", laid_netwright_logic_andTable), ("netwright/logic.orTable", laid_netwright_logic_orTable), ("netwright/logic.xorTable", laid_netwright_logic_xorTable), ("netwright/logic.notTable", laid_netwright_logic_notTable), ("netwright/logic.resolveTable", laid_netwright_logic_resolveTable)] }
def LogicVectorsSaid : Prop := logicVectorsRow.holds Tryd.pinned (OpenSpec.ofChange logicVectorsSpec)

/-- ITS FALSE NEIGHBOUR: 'it returns false'. Refute it at one input. -/
def logicVectorsWrong : ChangeSpec := { name := "logicVectors", fn := fun _ => fun
  | [d1, d2, d3] => { results := [.lit (.bool false)], args := [d1, d2, d3] }
  | _ => none }
def LogicVectorsWrongFalsely : Prop := logicVectorsRow.holds Tryd.pinned (OpenSpec.ofChange logicVectorsWrong)

/-- 'netwrightlaw01.LogicJoins': WHATEVER THE INPUT: true; the input reads as it did. -/
def logicJoinsSpec : ChangeSpec := { name := "logicJoins", fn := fun _ => fun
  | [d] => { results := [.lit (.bool true)], args := [d] }
  | _ => none }
def logicJoinsRow : OpenClaim := { program := "ytaeehejnifhaaaadoor", sum := "938e3bec7103c17a3a62d4530b7d7aa4ad24ed90979b2bab2fb3019b4d9f4d62", func := "netwright/netwrightlaw01.LogicJoins", spec := "logicJoins", inPlace := ["internal/bytealg.IndexByteString"], named := ["netwright/logic.andTable", "netwright/logic.orTable", "netwright/logic.xorTable", "netwright/logic.notTable", "netwright/logic.resolveTable"], apart := false, laid := [("netwright/logic.andTable", laid_netwright_logic_andTable), ("netwright/logic.orTable", laid_netwright_logic_orTable), ("netwright/logic.xorTable", laid_netwright_logic_xorTable), ("netwright/logic.notTable", laid_netwright_logic_notTable), ("netwright/logic.resolveTable", laid_netwright_logic_resolveTable)] }
def LogicJoinsSaid : Prop := logicJoinsRow.holds Tryd.pinned (OpenSpec.ofChange logicJoinsSpec)

/-- ITS FALSE NEIGHBOUR: 'it returns false'. Refute it at one input. -/
def logicJoinsWrong : ChangeSpec := { name := "logicJoins", fn := fun _ => fun
  | [d] => { results := [.lit (.bool false)], args := [d] }
  | _ => none }
def LogicJoinsWrongFalsely : Prop := logicJoinsRow.holds Tryd.pinned (OpenSpec.ofChange logicJoinsWrong)

/-- 'netwrightlaw01.LogicReads': WHATEVER THE INPUT: true; the input reads as it did. -/
def logicReadsSpec : ChangeSpec := { name := "logicReads", fn := fun _ => fun
  | [d] => { results := [.lit (.bool true)], args := [d] }
  | _ => none }
def logicReadsRow : OpenClaim := { program := "ytaeehejnifhaaaadoor", sum := "938e3bec7103c17a3a62d4530b7d7aa4ad24ed90979b2bab2fb3019b4d9f4d62", func := "netwright/netwrightlaw01.LogicReads", spec := "logicReads", inPlace := ["internal/bytealg.IndexByteString"], named := ["netwright/logic.andTable", "netwright/logic.orTable", "netwright/logic.xorTable", "netwright/logic.notTable", "netwright/logic.resolveTable"], apart := false, laid := [("netwright/logic.andTable", laid_netwright_logic_andTable), ("netwright/logic.orTable", laid_netwright_logic_orTable), ("netwright/logic.xorTable", laid_netwright_logic_xorTable), ("netwright/logic.notTable", laid_netwright_logic_notTable), ("netwright/logic.resolveTable", laid_netwright_logic_resolveTable)] }
def LogicReadsSaid : Prop := logicReadsRow.holds Tryd.pinned (OpenSpec.ofChange logicReadsSpec)

/-- ITS FALSE NEIGHBOUR: 'it returns false'. Refute it at one input. -/
def logicReadsWrong : ChangeSpec := { name := "logicReads", fn := fun _ => fun
  | [d] => { results := [.lit (.bool false)], args := [d] }
  | _ => none }
def LogicReadsWrongFalsely : Prop := logicReadsRow.holds Tryd.pinned (OpenSpec.ofChange logicReadsWrong)

/-- 'netwrightlaw01.LogicTexts': WHATEVER THE INPUT: true; the input reads as it did. -/
def logicTextsSpec : ChangeSpec := { name := "logicTexts", fn := fun _ => fun
  | [d] => { results := [.lit (.bool true)], args := [d] }
  | _ => none }
def logicTextsRow : OpenClaim := { program := "ytaeehejnifhaaaadoor", sum := "938e3bec7103c17a3a62d4530b7d7aa4ad24ed90979b2bab2fb3019b4d9f4d62", func := "netwright/netwrightlaw01.LogicTexts", spec := "logicTexts", inPlace := ["internal/bytealg.IndexByteString"], named := ["netwright/logic.andTable", "netwright/logic.orTable", "netwright/logic.xorTable", "netwright/logic.notTable", "netwright/logic.resolveTable"], apart := false, laid := [("netwright/logic.andTable", laid_netwright_logic_andTable), ("netwright/logic.orTable", laid_netwright_logic_orTable), ("netwright/logic.xorTable", laid_netwright_logic_xorTable), ("netwright/logic.notTable", laid_netwright_logic_notTable), ("netwright/logic.resolveTable", laid_netwright_logic_resolveTable)] }
def LogicTextsSaid : Prop := logicTextsRow.holds Tryd.pinned (OpenSpec.ofChange logicTextsSpec)

/-- ITS FALSE NEIGHBOUR: 'it returns false'. Refute it at one input. -/
def logicTextsWrong : ChangeSpec := { name := "logicTexts", fn := fun _ => fun
  | [d] => { results := [.lit (.bool false)], args := [d] }
  | _ => none }
def LogicTextsWrongFalsely : Prop := logicTextsRow.holds Tryd.pinned (OpenSpec.ofChange logicTextsWrong)

/-- 'netwrightlaw01.LogicOrders': WHATEVER THE INPUT: true; the input reads as it did. -/
def logicOrdersSpec : ChangeSpec := { name := "logicOrders", fn := fun _ => fun
  | [d1, d2, d3] => { results := [.lit (.bool true)], args := [d1, d2, d3] }
  | _ => none }
def logicOrdersRow : OpenClaim := { program := "ytaeehejnifhaaaadoor", sum := "938e3bec7103c17a3a62d4530b7d7aa4ad24ed90979b2bab2fb3019b4d9f4d62", func := "netwright/netwrightlaw01.LogicOrders", spec := "logicOrders", inPlace := ["internal/bytealg.IndexByteString"], named := ["netwright/logic.andTable", "netwright/logic.orTable", "netwright/logic.xorTable", "netwright/logic.notTable", "netwright/logic.resolveTable"], apart := false, laid := [("netwright/logic.andTable", laid_netwright_logic_andTable), ("netwright/logic.orTable", laid_netwright_logic_orTable), ("netwright/logic.xorTable", laid_netwright_logic_xorTable), ("netwright/logic.notTable", laid_netwright_logic_notTable), ("netwright/logic.resolveTable", laid_netwright_logic_resolveTable)] }
def LogicOrdersSaid : Prop := logicOrdersRow.holds Tryd.pinned (OpenSpec.ofChange logicOrdersSpec)

/-- ITS FALSE NEIGHBOUR: 'it returns false'. Refute it at one input. -/
def logicOrdersWrong : ChangeSpec := { name := "logicOrders", fn := fun _ => fun
  | [d1, d2, d3] => { results := [.lit (.bool false)], args := [d1, d2, d3] }
  | _ => none }
def LogicOrdersWrongFalsely : Prop := logicOrdersRow.holds Tryd.pinned (OpenSpec.ofChange logicOrdersWrong)

/-- 'netwrightlaw01.LogicOpposites': WHATEVER THE INPUT: true; the input reads as it did. -/
def logicOppositesSpec : ChangeSpec := { name := "logicOpposites", fn := fun _ => fun
  | [d1, d2] => { results := [.lit (.bool true)], args := [d1, d2] }
  | _ => none }
def logicOppositesRow : OpenClaim := { program := "ytaeehejnifhaaaadoor", sum := "938e3bec7103c17a3a62d4530b7d7aa4ad24ed90979b2bab2fb3019b4d9f4d62", func := "netwright/netwrightlaw01.LogicOpposites", spec := "logicOpposites", inPlace := ["internal/bytealg.IndexByteString"], named := ["netwright/logic.andTable", "netwright/logic.orTable", "netwright/logic.xorTable", "netwright/logic.notTable", "netwright/logic.resolveTable"], apart := false, laid := [("netwright/logic.andTable", laid_netwright_logic_andTable), ("netwright/logic.orTable", laid_netwright_logic_orTable), ("netwright/logic.xorTable", laid_netwright_logic_xorTable), ("netwright/logic.notTable", laid_netwright_logic_notTable), ("netwright/logic.resolveTable", laid_netwright_logic_resolveTable)] }
def LogicOppositesSaid : Prop := logicOppositesRow.holds Tryd.pinned (OpenSpec.ofChange logicOppositesSpec)

/-- ITS FALSE NEIGHBOUR: 'it returns false'. Refute it at one input. -/
def logicOppositesWrong : ChangeSpec := { name := "logicOpposites", fn := fun _ => fun
  | [d1, d2] => { results := [.lit (.bool false)], args := [d1, d2] }
  | _ => none }
def LogicOppositesWrongFalsely : Prop := logicOppositesRow.holds Tryd.pinned (OpenSpec.ofChange logicOppositesWrong)

/-- 'netwrightlaw01.LogicKnown': WHATEVER THE INPUT: true; the input reads as it did. -/
def logicKnownSpec : ChangeSpec := { name := "logicKnown", fn := fun _ => fun
  | [d1, d2] => { results := [.lit (.bool true)], args := [d1, d2] }
  | _ => none }
def logicKnownRow : OpenClaim := { program := "ytaeehejnifhaaaadoor", sum := "938e3bec7103c17a3a62d4530b7d7aa4ad24ed90979b2bab2fb3019b4d9f4d62", func := "netwright/netwrightlaw01.LogicKnown", spec := "logicKnown", inPlace := ["internal/bytealg.IndexByteString"], named := ["netwright/logic.andTable", "netwright/logic.orTable", "netwright/logic.xorTable", "netwright/logic.notTable", "netwright/logic.resolveTable"], apart := false, laid := [("netwright/logic.andTable", laid_netwright_logic_andTable), ("netwright/logic.orTable", laid_netwright_logic_orTable), ("netwright/logic.xorTable", laid_netwright_logic_xorTable), ("netwright/logic.notTable", laid_netwright_logic_notTable), ("netwright/logic.resolveTable", laid_netwright_logic_resolveTable)] }
def LogicKnownSaid : Prop := logicKnownRow.holds Tryd.pinned (OpenSpec.ofChange logicKnownSpec)

/-- ITS FALSE NEIGHBOUR: 'it returns false'. Refute it at one input. -/
def logicKnownWrong : ChangeSpec := { name := "logicKnown", fn := fun _ => fun
  | [d1, d2] => { results := [.lit (.bool false)], args := [d1, d2] }
  | _ => none }
def LogicKnownWrongFalsely : Prop := logicKnownRow.holds Tryd.pinned (OpenSpec.ofChange logicKnownWrong)

/-- 'netwrightlaw01.LogicDriven': WHATEVER THE INPUT: true; the input reads as it did. -/
def logicDrivenSpec : ChangeSpec := { name := "logicDriven", fn := fun _ => fun
  | [d1, d2] => { results := [.lit (.bool true)], args := [d1, d2] }
  | _ => none }
def logicDrivenRow : OpenClaim := { program := "ytaeehejnifhaaaadoor", sum := "938e3bec7103c17a3a62d4530b7d7aa4ad24ed90979b2bab2fb3019b4d9f4d62", func := "netwright/netwrightlaw01.LogicDriven", spec := "logicDriven", inPlace := ["internal/bytealg.IndexByteString"], named := ["netwright/logic.andTable", "netwright/logic.orTable", "netwright/logic.xorTable", "netwright/logic.notTable", "netwright/logic.resolveTable"], apart := false, laid := [("netwright/logic.andTable", laid_netwright_logic_andTable), ("netwright/logic.orTable", laid_netwright_logic_orTable), ("netwright/logic.xorTable", laid_netwright_logic_xorTable), ("netwright/logic.notTable", laid_netwright_logic_notTable), ("netwright/logic.resolveTable", laid_netwright_logic_resolveTable)] }
def LogicDrivenSaid : Prop := logicDrivenRow.holds Tryd.pinned (OpenSpec.ofChange logicDrivenSpec)

/-- ITS FALSE NEIGHBOUR: 'it returns false'. Refute it at one input. -/
def logicDrivenWrong : ChangeSpec := { name := "logicDriven", fn := fun _ => fun
  | [d1, d2] => { results := [.lit (.bool false)], args := [d1, d2] }
  | _ => none }
def LogicDrivenWrongFalsely : Prop := logicDrivenRow.holds Tryd.pinned (OpenSpec.ofChange logicDrivenWrong)

/- THE SECOND FORM. 'bulk': how many values and letters a reading holds, each counted each time it is reached (what is shared counts as often as it is met; a slice's spare places count too). A statement '..UptoSaid' is the law's where the arguments, and the package variables that the reading takes, are together of bulk at most 1048576: NARROWER than '..Said'. Prove '..Said' where nothing that the law and all that it calls make is longer than what came in: it says more and counts as full. Else prove '..UptoSaid'. A law counts once. -/
mutual
def uptoBulk {H : Type} : DataW H → Nat
  | .lit (.string bytes) => bytes.length + 1
  | .lit _ => 1
  | .nil => 1
  | .ptr d => uptoBulk d + 1
  | .slice elems spare => uptoBulkAll elems + uptoBulkAll spare + 1
  | .agg parts => uptoBulkAll parts + 1
  | .iface _ d => uptoBulk d + 1
  | .map entries => uptoBulkEntries entries + 1
  | .held _ => 1
def uptoBulkAll {H : Type} : List (DataW H) → Nat
  | [] => 0
  | d :: r => uptoBulk d + uptoBulkAll r
def uptoBulkEntries {H : Type} : List (Lit × DataW H) → Nat
  | [] => 0
  | x :: r => uptoBulkEntry x + uptoBulkEntries r
def uptoBulkEntry {H : Type} : Lit × DataW H → Nat
  | (.string bytes, d) => bytes.length + uptoBulk d + 1
  | (_, d) => uptoBulk d + 1
 end
def uptoSmall : (H : Type) → List (DataW H) → Bool := fun _ ds => decide (uptoBulkAll ds ≤ 1048576)
def OpenSpec.upto (s : _root_.Go.ChangeSpec) : _root_.Go.OpenSpec := { _root_.Go.OpenSpec.ofChange s with cond := some uptoSmall }

/-- 'netwrightlaw01.LogicTables', WHERE WHAT IT READS IS OF BULK AT MOST 1048576: true; the input reads as it did. -/
def logicTablesUptoRow : OpenClaim := { program := "ytaeehejnifhaaaadoor", sum := "938e3bec7103c17a3a62d4530b7d7aa4ad24ed90979b2bab2fb3019b4d9f4d62", func := "netwright/netwrightlaw01.LogicTables", spec := "logicTables", inPlace := ["internal/bytealg.IndexByteString"], named := ["netwright/logic.andTable", "netwright/logic.orTable", "netwright/logic.xorTable", "netwright/logic.notTable", "netwright/logic.resolveTable"], apart := false, laid := [("netwright/logic.andTable", laid_netwright_logic_andTable), ("netwright/logic.orTable", laid_netwright_logic_orTable), ("netwright/logic.xorTable", laid_netwright_logic_xorTable), ("netwright/logic.notTable", laid_netwright_logic_notTable), ("netwright/logic.resolveTable", laid_netwright_logic_resolveTable)], narrowed := true }
def LogicTablesUptoSaid : Prop := logicTablesUptoRow.holds Tryd.pinned (OpenSpec.upto logicTablesSpec)

/-- 'netwrightlaw01.LogicResolves', WHERE WHAT IT READS IS OF BULK AT MOST 1048576: true; the input reads as it did. -/
def logicResolvesUptoRow : OpenClaim := { program := "ytaeehejnifhaaaadoor", sum := "938e3bec7103c17a3a62d4530b7d7aa4ad24ed90979b2bab2fb3019b4d9f4d62", func := "netwright/netwrightlaw01.LogicResolves", spec := "logicResolves", inPlace := ["internal/bytealg.IndexByteString"], named := ["netwright/logic.andTable", "netwright/logic.orTable", "netwright/logic.xorTable", "netwright/logic.notTable", "netwright/logic.resolveTable"], apart := false, laid := [("netwright/logic.andTable", laid_netwright_logic_andTable), ("netwright/logic.orTable", laid_netwright_logic_orTable), ("netwright/logic.xorTable", laid_netwright_logic_xorTable), ("netwright/logic.notTable", laid_netwright_logic_notTable), ("netwright/logic.resolveTable", laid_netwright_logic_resolveTable)], narrowed := true }
def LogicResolvesUptoSaid : Prop := logicResolvesUptoRow.holds Tryd.pinned (OpenSpec.upto logicResolvesSpec)

/-- 'netwrightlaw01.LogicVectors', WHERE WHAT IT READS IS OF BULK AT MOST 1048576: true; the input reads as it did. -/
def logicVectorsUptoRow : OpenClaim := { program := "ytaeehejnifhaaaadoor", sum := "938e3bec7103c17a3a62d4530b7d7aa4ad24ed90979b2bab2fb3019b4d9f4d62", func := "netwright/netwrightlaw01.LogicVectors", spec := "logicVectors", inPlace := ["internal/bytealg.IndexByteString"], unfollowed := true, recurses := true, named := ["netwright/logic.andTable", "netwright/logic.orTable", "netwright/logic.xorTable", "netwright/logic.notTable", "netwright/logic.resolveTable"], apart := false, laid := [("netwright/logic.andTable", laid_netwright_logic_andTable), ("netwright/logic.orTable", laid_netwright_logic_orTable), ("netwright/logic.xorTable", laid_netwright_logic_xorTable), ("netwright/logic.notTable", laid_netwright_logic_notTable), ("netwright/logic.resolveTable", laid_netwright_logic_resolveTable)], narrowed := true }
def LogicVectorsUptoSaid : Prop := logicVectorsUptoRow.holds Tryd.pinned (OpenSpec.upto logicVectorsSpec)

/-- 'netwrightlaw01.LogicJoins', WHERE WHAT IT READS IS OF BULK AT MOST 1048576: true; the input reads as it did. -/
def logicJoinsUptoRow : OpenClaim := { program := "ytaeehejnifhaaaadoor", sum := "938e3bec7103c17a3a62d4530b7d7aa4ad24ed90979b2bab2fb3019b4d9f4d62", func := "netwright/netwrightlaw01.LogicJoins", spec := "logicJoins", inPlace := ["internal/bytealg.IndexByteString"], named := ["netwright/logic.andTable", "netwright/logic.orTable", "netwright/logic.xorTable", "netwright/logic.notTable", "netwright/logic.resolveTable"], apart := false, laid := [("netwright/logic.andTable", laid_netwright_logic_andTable), ("netwright/logic.orTable", laid_netwright_logic_orTable), ("netwright/logic.xorTable", laid_netwright_logic_xorTable), ("netwright/logic.notTable", laid_netwright_logic_notTable), ("netwright/logic.resolveTable", laid_netwright_logic_resolveTable)], narrowed := true }
def LogicJoinsUptoSaid : Prop := logicJoinsUptoRow.holds Tryd.pinned (OpenSpec.upto logicJoinsSpec)

/-- 'netwrightlaw01.LogicReads', WHERE WHAT IT READS IS OF BULK AT MOST 1048576: true; the input reads as it did. -/
def logicReadsUptoRow : OpenClaim := { program := "ytaeehejnifhaaaadoor", sum := "938e3bec7103c17a3a62d4530b7d7aa4ad24ed90979b2bab2fb3019b4d9f4d62", func := "netwright/netwrightlaw01.LogicReads", spec := "logicReads", inPlace := ["internal/bytealg.IndexByteString"], named := ["netwright/logic.andTable", "netwright/logic.orTable", "netwright/logic.xorTable", "netwright/logic.notTable", "netwright/logic.resolveTable"], apart := false, laid := [("netwright/logic.andTable", laid_netwright_logic_andTable), ("netwright/logic.orTable", laid_netwright_logic_orTable), ("netwright/logic.xorTable", laid_netwright_logic_xorTable), ("netwright/logic.notTable", laid_netwright_logic_notTable), ("netwright/logic.resolveTable", laid_netwright_logic_resolveTable)], narrowed := true }
def LogicReadsUptoSaid : Prop := logicReadsUptoRow.holds Tryd.pinned (OpenSpec.upto logicReadsSpec)

/-- 'netwrightlaw01.LogicTexts', WHERE WHAT IT READS IS OF BULK AT MOST 1048576: true; the input reads as it did. -/
def logicTextsUptoRow : OpenClaim := { program := "ytaeehejnifhaaaadoor", sum := "938e3bec7103c17a3a62d4530b7d7aa4ad24ed90979b2bab2fb3019b4d9f4d62", func := "netwright/netwrightlaw01.LogicTexts", spec := "logicTexts", inPlace := ["internal/bytealg.IndexByteString"], named := ["netwright/logic.andTable", "netwright/logic.orTable", "netwright/logic.xorTable", "netwright/logic.notTable", "netwright/logic.resolveTable"], apart := false, laid := [("netwright/logic.andTable", laid_netwright_logic_andTable), ("netwright/logic.orTable", laid_netwright_logic_orTable), ("netwright/logic.xorTable", laid_netwright_logic_xorTable), ("netwright/logic.notTable", laid_netwright_logic_notTable), ("netwright/logic.resolveTable", laid_netwright_logic_resolveTable)], narrowed := true }
def LogicTextsUptoSaid : Prop := logicTextsUptoRow.holds Tryd.pinned (OpenSpec.upto logicTextsSpec)

/-- 'netwrightlaw01.LogicOrders', WHERE WHAT IT READS IS OF BULK AT MOST 1048576: true; the input reads as it did. -/
def logicOrdersUptoRow : OpenClaim := { program := "ytaeehejnifhaaaadoor", sum := "938e3bec7103c17a3a62d4530b7d7aa4ad24ed90979b2bab2fb3019b4d9f4d62", func := "netwright/netwrightlaw01.LogicOrders", spec := "logicOrders", inPlace := ["internal/bytealg.IndexByteString"], named := ["netwright/logic.andTable", "netwright/logic.orTable", "netwright/logic.xorTable", "netwright/logic.notTable", "netwright/logic.resolveTable"], apart := false, laid := [("netwright/logic.andTable", laid_netwright_logic_andTable), ("netwright/logic.orTable", laid_netwright_logic_orTable), ("netwright/logic.xorTable", laid_netwright_logic_xorTable), ("netwright/logic.notTable", laid_netwright_logic_notTable), ("netwright/logic.resolveTable", laid_netwright_logic_resolveTable)], narrowed := true }
def LogicOrdersUptoSaid : Prop := logicOrdersUptoRow.holds Tryd.pinned (OpenSpec.upto logicOrdersSpec)

/-- 'netwrightlaw01.LogicOpposites', WHERE WHAT IT READS IS OF BULK AT MOST 1048576: true; the input reads as it did. -/
def logicOppositesUptoRow : OpenClaim := { program := "ytaeehejnifhaaaadoor", sum := "938e3bec7103c17a3a62d4530b7d7aa4ad24ed90979b2bab2fb3019b4d9f4d62", func := "netwright/netwrightlaw01.LogicOpposites", spec := "logicOpposites", inPlace := ["internal/bytealg.IndexByteString"], named := ["netwright/logic.andTable", "netwright/logic.orTable", "netwright/logic.xorTable", "netwright/logic.notTable", "netwright/logic.resolveTable"], apart := false, laid := [("netwright/logic.andTable", laid_netwright_logic_andTable), ("netwright/logic.orTable", laid_netwright_logic_orTable), ("netwright/logic.xorTable", laid_netwright_logic_xorTable), ("netwright/logic.notTable", laid_netwright_logic_notTable), ("netwright/logic.resolveTable", laid_netwright_logic_resolveTable)], narrowed := true }
def LogicOppositesUptoSaid : Prop := logicOppositesUptoRow.holds Tryd.pinned (OpenSpec.upto logicOppositesSpec)

/-- 'netwrightlaw01.LogicKnown', WHERE WHAT IT READS IS OF BULK AT MOST 1048576: true; the input reads as it did. -/
def logicKnownUptoRow : OpenClaim := { program := "ytaeehejnifhaaaadoor", sum := "938e3bec7103c17a3a62d4530b7d7aa4ad24ed90979b2bab2fb3019b4d9f4d62", func := "netwright/netwrightlaw01.LogicKnown", spec := "logicKnown", inPlace := ["internal/bytealg.IndexByteString"], named := ["netwright/logic.andTable", "netwright/logic.orTable", "netwright/logic.xorTable", "netwright/logic.notTable", "netwright/logic.resolveTable"], apart := false, laid := [("netwright/logic.andTable", laid_netwright_logic_andTable), ("netwright/logic.orTable", laid_netwright_logic_orTable), ("netwright/logic.xorTable", laid_netwright_logic_xorTable), ("netwright/logic.notTable", laid_netwright_logic_notTable), ("netwright/logic.resolveTable", laid_netwright_logic_resolveTable)], narrowed := true }
def LogicKnownUptoSaid : Prop := logicKnownUptoRow.holds Tryd.pinned (OpenSpec.upto logicKnownSpec)

/-- 'netwrightlaw01.LogicDriven', WHERE WHAT IT READS IS OF BULK AT MOST 1048576: true; the input reads as it did. -/
def logicDrivenUptoRow : OpenClaim := { program := "ytaeehejnifhaaaadoor", sum := "938e3bec7103c17a3a62d4530b7d7aa4ad24ed90979b2bab2fb3019b4d9f4d62", func := "netwright/netwrightlaw01.LogicDriven", spec := "logicDriven", inPlace := ["internal/bytealg.IndexByteString"], named := ["netwright/logic.andTable", "netwright/logic.orTable", "netwright/logic.xorTable", "netwright/logic.notTable", "netwright/logic.resolveTable"], apart := false, laid := [("netwright/logic.andTable", laid_netwright_logic_andTable), ("netwright/logic.orTable", laid_netwright_logic_orTable), ("netwright/logic.xorTable", laid_netwright_logic_xorTable), ("netwright/logic.notTable", laid_netwright_logic_notTable), ("netwright/logic.resolveTable", laid_netwright_logic_resolveTable)], narrowed := true }
def LogicDrivenUptoSaid : Prop := logicDrivenUptoRow.holds Tryd.pinned (OpenSpec.upto logicDrivenSpec)

end Rows
end Go.Proofs.YtaeehejnifhaaaaDoor
