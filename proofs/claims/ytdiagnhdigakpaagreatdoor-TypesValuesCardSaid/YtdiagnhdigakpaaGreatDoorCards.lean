/-
  DERIVED. GIVEN WITH THE SEED: THE CARDS: each row of YtdiagnhdigakpaaGreatDoorRows.lean that lists a variable, with what it lists TIED to the program's text (the seventh form; the later family's looks); each row that meets fmt, with fmt's text TOLD by the authors' own Lean function (tested against real Go, not proved from fmt's source: count such statements apart). THE CARD IS WHAT COUNTS. Prove the row's statement (the work); the ties are given (YtdiagnhdigakpaaGreatDoorTie.lean); close each card by the builder's one call (the guide's Derived/Test/ToyasCard.lean, 'card_holds'). Laid BY PROGRAM, IN A SANDBOX (cutbox-door.mjs). By AI agents, Wed Nov 11 2026. No macro, syntax, notation, axiom, sorry.
-/
import Derived.Test.YtdiagnhdigakpaaGreatDoorRows
import GoSem.ClaimSeven
namespace Go.Proofs.YtdiagnhdigakpaaGreatDoor
namespace Rows

/-- THE TIED CARD OF 'netwrightlaw04.TypesTypes'. -/
def typesTypesCard : Claim7 := { stood := { row := typesTypesRow, standIns := [], harness := (true, "de59b3f34d11561108b7850a753ca77f5526a90e35d1a91a5a54a0a86ac52d1f"), looks := true }, kinds := [], alts := [], laidByText := true, laidKinds := [.data, .data, .data, .data, .sentinel, .sentinel, .pinned], laidTests := true, laidLooks := .later }
def TypesTypesCardSaid : Prop := Claim7.holds Tryz.pinned (.plain (OpenSpec.ofChange typesTypesSpec)) typesTypesCard

/-- THE TIED CARD OF 'netwrightlaw04.TypesValues'. -/
def typesValuesCard : Claim7 := { stood := { row := typesValuesRow, standIns := [], harness := (true, "de59b3f34d11561108b7850a753ca77f5526a90e35d1a91a5a54a0a86ac52d1f"), looks := true }, kinds := [], alts := [], laidByText := true, laidKinds := [.data, .data, .data, .data, .sentinel, .sentinel, .pinned], laidTests := true, laidLooks := .later }
def TypesValuesCardSaid : Prop := Claim7.holds Tryz.pinned (.plain (OpenSpec.ofChange typesValuesSpec)) typesValuesCard

/-- THE TIED CARD OF 'netwrightlaw04.TypesReads'. -/
def typesReadsCard : Claim7 := { stood := { row := typesReadsRow, standIns := [], harness := (true, "de59b3f34d11561108b7850a753ca77f5526a90e35d1a91a5a54a0a86ac52d1f"), looks := true }, kinds := [], alts := [], laidByText := true, laidKinds := [.data, .data, .data, .data, .sentinel, .sentinel, .pinned], laidTests := true, laidLooks := .later }
def TypesReadsCardSaid : Prop := Claim7.holds Tryz.pinned (.plain (OpenSpec.ofChange typesReadsSpec)) typesReadsCard

/-- THE TIED CARD OF 'netwrightlaw04.TypesElements'. -/
def typesElementsCard : Claim7 := { stood := { row := typesElementsRow, standIns := [], harness := (true, "de59b3f34d11561108b7850a753ca77f5526a90e35d1a91a5a54a0a86ac52d1f"), looks := true }, kinds := [], alts := [], laidByText := true, laidKinds := [.data, .data, .data, .data, .sentinel, .sentinel, .pinned], laidTests := true, laidLooks := .later }
def TypesElementsCardSaid : Prop := Claim7.holds Tryz.pinned (.plain (OpenSpec.ofChange typesElementsSpec)) typesElementsCard

/-- THE TIED CARD OF 'netwrightlaw04.TypesBits'. -/
def typesBitsCard : Claim7 := { stood := { row := typesBitsRow, standIns := [], harness := (true, "de59b3f34d11561108b7850a753ca77f5526a90e35d1a91a5a54a0a86ac52d1f"), looks := true }, kinds := [], alts := [], laidByText := true, laidKinds := [.data, .data, .data, .data, .sentinel, .sentinel, .pinned], laidTests := true, laidLooks := .later }
def TypesBitsCardSaid : Prop := Claim7.holds Tryz.pinned (.plain (OpenSpec.ofChange typesBitsSpec)) typesBitsCard

/-- THE TIED CARD OF 'netwrightlaw04.TypesJoins'. -/
def typesJoinsCard : Claim7 := { stood := { row := typesJoinsRow, standIns := [], harness := (true, "de59b3f34d11561108b7850a753ca77f5526a90e35d1a91a5a54a0a86ac52d1f"), looks := true }, kinds := [], alts := [], laidByText := true, laidKinds := [.data, .data, .data, .data, .sentinel, .sentinel, .pinned], laidTests := true, laidLooks := .later }
def TypesJoinsCardSaid : Prop := Claim7.holds Tryz.pinned (.plain (OpenSpec.ofChange typesJoinsSpec)) typesJoinsCard

/-- THE TIED CARD OF 'netwrightlaw04.TypesBack'. -/
def typesBackCard : Claim7 := { stood := { row := typesBackRow, standIns := [], harness := (true, "de59b3f34d11561108b7850a753ca77f5526a90e35d1a91a5a54a0a86ac52d1f"), looks := true }, kinds := [], alts := [], laidByText := true, laidKinds := [.data, .data, .data, .data, .sentinel, .sentinel, .pinned], laidTests := true, laidLooks := .later }
def TypesBackCardSaid : Prop := Claim7.holds Tryz.pinned (.plain (OpenSpec.ofChange typesBackSpec)) typesBackCard

/-- THE TIED CARD OF 'netwrightlaw04.TypesFirst'. -/
def typesFirstCard : Claim7 := { stood := { row := typesFirstRow, standIns := [], harness := (true, "de59b3f34d11561108b7850a753ca77f5526a90e35d1a91a5a54a0a86ac52d1f"), looks := true }, kinds := [], alts := [], laidByText := true, laidKinds := [.data, .data, .data, .data, .sentinel, .sentinel, .pinned], laidTests := true, laidLooks := .later }
def TypesFirstCardSaid : Prop := Claim7.holds Tryz.pinned (.plain (OpenSpec.ofChange typesFirstSpec)) typesFirstCard

/-- THE TIED CARD OF 'netwrightlaw04.TypesPuts'. -/
def typesPutsCard : Claim7 := { stood := { row := typesPutsRow, standIns := [], harness := (true, "de59b3f34d11561108b7850a753ca77f5526a90e35d1a91a5a54a0a86ac52d1f"), looks := true }, kinds := [], alts := [], laidByText := true, laidKinds := [.data, .data, .data, .data, .sentinel, .sentinel, .pinned], laidTests := true, laidLooks := .later }
def TypesPutsCardSaid : Prop := Claim7.holds Tryz.pinned (.plain (OpenSpec.ofChange typesPutsSpec)) typesPutsCard

/-- THE TIED CARD OF 'netwrightlaw04.TypesNames'. -/
def typesNamesCard : Claim7 := { stood := { row := typesNamesRow, standIns := [], harness := (true, "de59b3f34d11561108b7850a753ca77f5526a90e35d1a91a5a54a0a86ac52d1f"), looks := true }, kinds := [], alts := [], laidByText := true, laidKinds := [.data, .data, .data, .data, .sentinel, .sentinel, .pinned], laidTests := true, laidLooks := .later }
def TypesNamesCardSaid : Prop := Claim7.holds Tryz.pinned (.plain (OpenSpec.ofChange typesNamesSpec)) typesNamesCard

/-- THE SECOND FORM's CARD OF 'netwrightlaw04.TypesTypes'. -/
def typesTypesUptoCard : Claim7 := { stood := { row := typesTypesUptoRow, standIns := [], harness := (true, "de59b3f34d11561108b7850a753ca77f5526a90e35d1a91a5a54a0a86ac52d1f"), looks := true }, kinds := [], alts := [], laidByText := true, laidKinds := [.data, .data, .data, .data, .sentinel, .sentinel, .pinned], laidTests := true, laidLooks := .later }
def TypesTypesUptoCardSaid : Prop := Claim7.holds Tryz.pinned (.plain (OpenSpec.upto typesTypesSpec)) typesTypesUptoCard

/-- THE SECOND FORM's CARD OF 'netwrightlaw04.TypesValues'. -/
def typesValuesUptoCard : Claim7 := { stood := { row := typesValuesUptoRow, standIns := [], harness := (true, "de59b3f34d11561108b7850a753ca77f5526a90e35d1a91a5a54a0a86ac52d1f"), looks := true }, kinds := [], alts := [], laidByText := true, laidKinds := [.data, .data, .data, .data, .sentinel, .sentinel, .pinned], laidTests := true, laidLooks := .later }
def TypesValuesUptoCardSaid : Prop := Claim7.holds Tryz.pinned (.plain (OpenSpec.upto typesValuesSpec)) typesValuesUptoCard

/-- THE SECOND FORM's CARD OF 'netwrightlaw04.TypesReads'. -/
def typesReadsUptoCard : Claim7 := { stood := { row := typesReadsUptoRow, standIns := [], harness := (true, "de59b3f34d11561108b7850a753ca77f5526a90e35d1a91a5a54a0a86ac52d1f"), looks := true }, kinds := [], alts := [], laidByText := true, laidKinds := [.data, .data, .data, .data, .sentinel, .sentinel, .pinned], laidTests := true, laidLooks := .later }
def TypesReadsUptoCardSaid : Prop := Claim7.holds Tryz.pinned (.plain (OpenSpec.upto typesReadsSpec)) typesReadsUptoCard

/-- THE SECOND FORM's CARD OF 'netwrightlaw04.TypesElements'. -/
def typesElementsUptoCard : Claim7 := { stood := { row := typesElementsUptoRow, standIns := [], harness := (true, "de59b3f34d11561108b7850a753ca77f5526a90e35d1a91a5a54a0a86ac52d1f"), looks := true }, kinds := [], alts := [], laidByText := true, laidKinds := [.data, .data, .data, .data, .sentinel, .sentinel, .pinned], laidTests := true, laidLooks := .later }
def TypesElementsUptoCardSaid : Prop := Claim7.holds Tryz.pinned (.plain (OpenSpec.upto typesElementsSpec)) typesElementsUptoCard

/-- THE SECOND FORM's CARD OF 'netwrightlaw04.TypesBits'. -/
def typesBitsUptoCard : Claim7 := { stood := { row := typesBitsUptoRow, standIns := [], harness := (true, "de59b3f34d11561108b7850a753ca77f5526a90e35d1a91a5a54a0a86ac52d1f"), looks := true }, kinds := [], alts := [], laidByText := true, laidKinds := [.data, .data, .data, .data, .sentinel, .sentinel, .pinned], laidTests := true, laidLooks := .later }
def TypesBitsUptoCardSaid : Prop := Claim7.holds Tryz.pinned (.plain (OpenSpec.upto typesBitsSpec)) typesBitsUptoCard

/-- THE SECOND FORM's CARD OF 'netwrightlaw04.TypesJoins'. -/
def typesJoinsUptoCard : Claim7 := { stood := { row := typesJoinsUptoRow, standIns := [], harness := (true, "de59b3f34d11561108b7850a753ca77f5526a90e35d1a91a5a54a0a86ac52d1f"), looks := true }, kinds := [], alts := [], laidByText := true, laidKinds := [.data, .data, .data, .data, .sentinel, .sentinel, .pinned], laidTests := true, laidLooks := .later }
def TypesJoinsUptoCardSaid : Prop := Claim7.holds Tryz.pinned (.plain (OpenSpec.upto typesJoinsSpec)) typesJoinsUptoCard

/-- THE SECOND FORM's CARD OF 'netwrightlaw04.TypesBack'. -/
def typesBackUptoCard : Claim7 := { stood := { row := typesBackUptoRow, standIns := [], harness := (true, "de59b3f34d11561108b7850a753ca77f5526a90e35d1a91a5a54a0a86ac52d1f"), looks := true }, kinds := [], alts := [], laidByText := true, laidKinds := [.data, .data, .data, .data, .sentinel, .sentinel, .pinned], laidTests := true, laidLooks := .later }
def TypesBackUptoCardSaid : Prop := Claim7.holds Tryz.pinned (.plain (OpenSpec.upto typesBackSpec)) typesBackUptoCard

/-- THE SECOND FORM's CARD OF 'netwrightlaw04.TypesFirst'. -/
def typesFirstUptoCard : Claim7 := { stood := { row := typesFirstUptoRow, standIns := [], harness := (true, "de59b3f34d11561108b7850a753ca77f5526a90e35d1a91a5a54a0a86ac52d1f"), looks := true }, kinds := [], alts := [], laidByText := true, laidKinds := [.data, .data, .data, .data, .sentinel, .sentinel, .pinned], laidTests := true, laidLooks := .later }
def TypesFirstUptoCardSaid : Prop := Claim7.holds Tryz.pinned (.plain (OpenSpec.upto typesFirstSpec)) typesFirstUptoCard

/-- THE SECOND FORM's CARD OF 'netwrightlaw04.TypesPuts'. -/
def typesPutsUptoCard : Claim7 := { stood := { row := typesPutsUptoRow, standIns := [], harness := (true, "de59b3f34d11561108b7850a753ca77f5526a90e35d1a91a5a54a0a86ac52d1f"), looks := true }, kinds := [], alts := [], laidByText := true, laidKinds := [.data, .data, .data, .data, .sentinel, .sentinel, .pinned], laidTests := true, laidLooks := .later }
def TypesPutsUptoCardSaid : Prop := Claim7.holds Tryz.pinned (.plain (OpenSpec.upto typesPutsSpec)) typesPutsUptoCard

/-- THE SECOND FORM's CARD OF 'netwrightlaw04.TypesNames'. -/
def typesNamesUptoCard : Claim7 := { stood := { row := typesNamesUptoRow, standIns := [], harness := (true, "de59b3f34d11561108b7850a753ca77f5526a90e35d1a91a5a54a0a86ac52d1f"), looks := true }, kinds := [], alts := [], laidByText := true, laidKinds := [.data, .data, .data, .data, .sentinel, .sentinel, .pinned], laidTests := true, laidLooks := .later }
def TypesNamesUptoCardSaid : Prop := Claim7.holds Tryz.pinned (.plain (OpenSpec.upto typesNamesSpec)) typesNamesUptoCard
end Rows
end Go.Proofs.YtdiagnhdigakpaaGreatDoor
