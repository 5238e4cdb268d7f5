/-
  DERIVED. GIVEN WITH THE SEED: THE CARDS: each row of YtaeehejnifhaaaaDoorRows.lean that lists a variable, with what it lists TIED to the program's text (the seventh form; the later family's looks); each row that meets fmt, with fmt's text TOLD by the authors' own Lean function (tested against real Go, not proved from fmt's source: count such statements apart). THE CARD IS WHAT COUNTS. Prove the row's statement (the work); the ties are given (YtaeehejnifhaaaaDoorTie.lean); close each card by the builder's one call (the guide's Derived/Test/ToyasCard.lean, 'card_holds'). Laid BY PROGRAM, IN A SANDBOX (cutbox-door.mjs). By AI agents, Wed Nov 11 2026. No macro, syntax, notation, axiom, sorry.
-/
import Derived.Test.YtaeehejnifhaaaaDoorRows
import GoSem.ClaimSeven
namespace Go.Proofs.YtaeehejnifhaaaaDoor
namespace Rows

/-- THE TIED CARD OF 'netwrightlaw01.LogicTables'. -/
def logicTablesCard : Claim7 := { stood := { row := logicTablesRow, standIns := [], harness := (true, "539f503b5f98863825ebaa78deff8593473a77920b1726f7130f7c3991f35232"), looks := false }, kinds := [], alts := [], laidByText := true, laidKinds := [.data, .data, .data, .data, .data], laidTests := true, laidLooks := .later }
def LogicTablesCardSaid : Prop := Claim7.holds Tryd.pinned (.plain (OpenSpec.ofChange logicTablesSpec)) logicTablesCard

/-- THE TIED CARD OF 'netwrightlaw01.LogicResolves'. -/
def logicResolvesCard : Claim7 := { stood := { row := logicResolvesRow, standIns := [], harness := (true, "539f503b5f98863825ebaa78deff8593473a77920b1726f7130f7c3991f35232"), looks := false }, kinds := [], alts := [], laidByText := true, laidKinds := [.data, .data, .data, .data, .data], laidTests := true, laidLooks := .later }
def LogicResolvesCardSaid : Prop := Claim7.holds Tryd.pinned (.plain (OpenSpec.ofChange logicResolvesSpec)) logicResolvesCard

/-- THE TIED CARD OF 'netwrightlaw01.LogicVectors'. -/
def logicVectorsCard : Claim7 := { stood := { row := logicVectorsRow, standIns := [], harness := (true, "539f503b5f98863825ebaa78deff8593473a77920b1726f7130f7c3991f35232"), looks := false }, kinds := [], alts := [], laidByText := true, laidKinds := [.data, .data, .data, .data, .data], laidTests := true, laidLooks := .later }
def LogicVectorsCardSaid : Prop := Claim7.holds Tryd.pinned (.plain (OpenSpec.ofChange logicVectorsSpec)) logicVectorsCard

/-- THE TIED CARD OF 'netwrightlaw01.LogicJoins'. -/
def logicJoinsCard : Claim7 := { stood := { row := logicJoinsRow, standIns := [], harness := (true, "539f503b5f98863825ebaa78deff8593473a77920b1726f7130f7c3991f35232"), looks := false }, kinds := [], alts := [], laidByText := true, laidKinds := [.data, .data, .data, .data, .data], laidTests := true, laidLooks := .later }
def LogicJoinsCardSaid : Prop := Claim7.holds Tryd.pinned (.plain (OpenSpec.ofChange logicJoinsSpec)) logicJoinsCard

/-- THE TIED CARD OF 'netwrightlaw01.LogicReads'. -/
def logicReadsCard : Claim7 := { stood := { row := logicReadsRow, standIns := [], harness := (true, "539f503b5f98863825ebaa78deff8593473a77920b1726f7130f7c3991f35232"), looks := false }, kinds := [], alts := [], laidByText := true, laidKinds := [.data, .data, .data, .data, .data], laidTests := true, laidLooks := .later }
def LogicReadsCardSaid : Prop := Claim7.holds Tryd.pinned (.plain (OpenSpec.ofChange logicReadsSpec)) logicReadsCard

/-- THE TIED CARD OF 'netwrightlaw01.LogicTexts'. -/
def logicTextsCard : Claim7 := { stood := { row := logicTextsRow, standIns := [], harness := (true, "539f503b5f98863825ebaa78deff8593473a77920b1726f7130f7c3991f35232"), looks := false }, kinds := [], alts := [], laidByText := true, laidKinds := [.data, .data, .data, .data, .data], laidTests := true, laidLooks := .later }
def LogicTextsCardSaid : Prop := Claim7.holds Tryd.pinned (.plain (OpenSpec.ofChange logicTextsSpec)) logicTextsCard

/-- THE TIED CARD OF 'netwrightlaw01.LogicOrders'. -/
def logicOrdersCard : Claim7 := { stood := { row := logicOrdersRow, standIns := [], harness := (true, "539f503b5f98863825ebaa78deff8593473a77920b1726f7130f7c3991f35232"), looks := false }, kinds := [], alts := [], laidByText := true, laidKinds := [.data, .data, .data, .data, .data], laidTests := true, laidLooks := .later }
def LogicOrdersCardSaid : Prop := Claim7.holds Tryd.pinned (.plain (OpenSpec.ofChange logicOrdersSpec)) logicOrdersCard

/-- THE TIED CARD OF 'netwrightlaw01.LogicOpposites'. -/
def logicOppositesCard : Claim7 := { stood := { row := logicOppositesRow, standIns := [], harness := (true, "539f503b5f98863825ebaa78deff8593473a77920b1726f7130f7c3991f35232"), looks := false }, kinds := [], alts := [], laidByText := true, laidKinds := [.data, .data, .data, .data, .data], laidTests := true, laidLooks := .later }
def LogicOppositesCardSaid : Prop := Claim7.holds Tryd.pinned (.plain (OpenSpec.ofChange logicOppositesSpec)) logicOppositesCard

/-- THE TIED CARD OF 'netwrightlaw01.LogicKnown'. -/
def logicKnownCard : Claim7 := { stood := { row := logicKnownRow, standIns := [], harness := (true, "539f503b5f98863825ebaa78deff8593473a77920b1726f7130f7c3991f35232"), looks := false }, kinds := [], alts := [], laidByText := true, laidKinds := [.data, .data, .data, .data, .data], laidTests := true, laidLooks := .later }
def LogicKnownCardSaid : Prop := Claim7.holds Tryd.pinned (.plain (OpenSpec.ofChange logicKnownSpec)) logicKnownCard

/-- THE TIED CARD OF 'netwrightlaw01.LogicDriven'. -/
def logicDrivenCard : Claim7 := { stood := { row := logicDrivenRow, standIns := [], harness := (true, "539f503b5f98863825ebaa78deff8593473a77920b1726f7130f7c3991f35232"), looks := false }, kinds := [], alts := [], laidByText := true, laidKinds := [.data, .data, .data, .data, .data], laidTests := true, laidLooks := .later }
def LogicDrivenCardSaid : Prop := Claim7.holds Tryd.pinned (.plain (OpenSpec.ofChange logicDrivenSpec)) logicDrivenCard

/-- THE SECOND FORM's CARD OF 'netwrightlaw01.LogicTables'. -/
def logicTablesUptoCard : Claim7 := { stood := { row := logicTablesUptoRow, standIns := [], harness := (true, "539f503b5f98863825ebaa78deff8593473a77920b1726f7130f7c3991f35232"), looks := false }, kinds := [], alts := [], laidByText := true, laidKinds := [.data, .data, .data, .data, .data], laidTests := true, laidLooks := .later }
def LogicTablesUptoCardSaid : Prop := Claim7.holds Tryd.pinned (.plain (OpenSpec.upto logicTablesSpec)) logicTablesUptoCard

/-- THE SECOND FORM's CARD OF 'netwrightlaw01.LogicResolves'. -/
def logicResolvesUptoCard : Claim7 := { stood := { row := logicResolvesUptoRow, standIns := [], harness := (true, "539f503b5f98863825ebaa78deff8593473a77920b1726f7130f7c3991f35232"), looks := false }, kinds := [], alts := [], laidByText := true, laidKinds := [.data, .data, .data, .data, .data], laidTests := true, laidLooks := .later }
def LogicResolvesUptoCardSaid : Prop := Claim7.holds Tryd.pinned (.plain (OpenSpec.upto logicResolvesSpec)) logicResolvesUptoCard

/-- THE SECOND FORM's CARD OF 'netwrightlaw01.LogicVectors'. -/
def logicVectorsUptoCard : Claim7 := { stood := { row := logicVectorsUptoRow, standIns := [], harness := (true, "539f503b5f98863825ebaa78deff8593473a77920b1726f7130f7c3991f35232"), looks := false }, kinds := [], alts := [], laidByText := true, laidKinds := [.data, .data, .data, .data, .data], laidTests := true, laidLooks := .later }
def LogicVectorsUptoCardSaid : Prop := Claim7.holds Tryd.pinned (.plain (OpenSpec.upto logicVectorsSpec)) logicVectorsUptoCard

/-- THE SECOND FORM's CARD OF 'netwrightlaw01.LogicJoins'. -/
def logicJoinsUptoCard : Claim7 := { stood := { row := logicJoinsUptoRow, standIns := [], harness := (true, "539f503b5f98863825ebaa78deff8593473a77920b1726f7130f7c3991f35232"), looks := false }, kinds := [], alts := [], laidByText := true, laidKinds := [.data, .data, .data, .data, .data], laidTests := true, laidLooks := .later }
def LogicJoinsUptoCardSaid : Prop := Claim7.holds Tryd.pinned (.plain (OpenSpec.upto logicJoinsSpec)) logicJoinsUptoCard

/-- THE SECOND FORM's CARD OF 'netwrightlaw01.LogicReads'. -/
def logicReadsUptoCard : Claim7 := { stood := { row := logicReadsUptoRow, standIns := [], harness := (true, "539f503b5f98863825ebaa78deff8593473a77920b1726f7130f7c3991f35232"), looks := false }, kinds := [], alts := [], laidByText := true, laidKinds := [.data, .data, .data, .data, .data], laidTests := true, laidLooks := .later }
def LogicReadsUptoCardSaid : Prop := Claim7.holds Tryd.pinned (.plain (OpenSpec.upto logicReadsSpec)) logicReadsUptoCard

/-- THE SECOND FORM's CARD OF 'netwrightlaw01.LogicTexts'. -/
def logicTextsUptoCard : Claim7 := { stood := { row := logicTextsUptoRow, standIns := [], harness := (true, "539f503b5f98863825ebaa78deff8593473a77920b1726f7130f7c3991f35232"), looks := false }, kinds := [], alts := [], laidByText := true, laidKinds := [.data, .data, .data, .data, .data], laidTests := true, laidLooks := .later }
def LogicTextsUptoCardSaid : Prop := Claim7.holds Tryd.pinned (.plain (OpenSpec.upto logicTextsSpec)) logicTextsUptoCard

/-- THE SECOND FORM's CARD OF 'netwrightlaw01.LogicOrders'. -/
def logicOrdersUptoCard : Claim7 := { stood := { row := logicOrdersUptoRow, standIns := [], harness := (true, "539f503b5f98863825ebaa78deff8593473a77920b1726f7130f7c3991f35232"), looks := false }, kinds := [], alts := [], laidByText := true, laidKinds := [.data, .data, .data, .data, .data], laidTests := true, laidLooks := .later }
def LogicOrdersUptoCardSaid : Prop := Claim7.holds Tryd.pinned (.plain (OpenSpec.upto logicOrdersSpec)) logicOrdersUptoCard

/-- THE SECOND FORM's CARD OF 'netwrightlaw01.LogicOpposites'. -/
def logicOppositesUptoCard : Claim7 := { stood := { row := logicOppositesUptoRow, standIns := [], harness := (true, "539f503b5f98863825ebaa78deff8593473a77920b1726f7130f7c3991f35232"), looks := false }, kinds := [], alts := [], laidByText := true, laidKinds := [.data, .data, .data, .data, .data], laidTests := true, laidLooks := .later }
def LogicOppositesUptoCardSaid : Prop := Claim7.holds Tryd.pinned (.plain (OpenSpec.upto logicOppositesSpec)) logicOppositesUptoCard

/-- THE SECOND FORM's CARD OF 'netwrightlaw01.LogicKnown'. -/
def logicKnownUptoCard : Claim7 := { stood := { row := logicKnownUptoRow, standIns := [], harness := (true, "539f503b5f98863825ebaa78deff8593473a77920b1726f7130f7c3991f35232"), looks := false }, kinds := [], alts := [], laidByText := true, laidKinds := [.data, .data, .data, .data, .data], laidTests := true, laidLooks := .later }
def LogicKnownUptoCardSaid : Prop := Claim7.holds Tryd.pinned (.plain (OpenSpec.upto logicKnownSpec)) logicKnownUptoCard

/-- THE SECOND FORM's CARD OF 'netwrightlaw01.LogicDriven'. -/
def logicDrivenUptoCard : Claim7 := { stood := { row := logicDrivenUptoRow, standIns := [], harness := (true, "539f503b5f98863825ebaa78deff8593473a77920b1726f7130f7c3991f35232"), looks := false }, kinds := [], alts := [], laidByText := true, laidKinds := [.data, .data, .data, .data, .data], laidTests := true, laidLooks := .later }
def LogicDrivenUptoCardSaid : Prop := Claim7.holds Tryd.pinned (.plain (OpenSpec.upto logicDrivenSpec)) logicDrivenUptoCard
end Rows
end Go.Proofs.YtaeehejnifhaaaaDoor
