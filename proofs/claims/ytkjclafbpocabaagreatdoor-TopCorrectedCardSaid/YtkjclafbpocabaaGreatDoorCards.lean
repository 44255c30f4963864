/-
  DERIVED. GIVEN WITH THE SEED: THE CARDS: each row of YtkjclafbpocabaaGreatDoorRows.lean that lists a variable, with what it lists TIED to the program's text (the seventh form; the later family's looks); each row that meets fmt, with fmt's text TOLD by the authors' own Lean function (tested against real Go, not proved from fmt's source: count such statements apart). THE CARD IS WHAT COUNTS. Prove the row's statement (the work); the ties are given (YtkjclafbpocabaaGreatDoorTie.lean); close each card by the builder's one call (the guide's Derived/Test/ToyasCard.lean, 'card_holds'). Laid BY PROGRAM, IN A SANDBOX (cutbox-door.mjs). By AI agents, Wed Nov 11 2026. No macro, syntax, notation, axiom, sorry.
-/
import Derived.Test.YtkjclafbpocabaaGreatDoorRows
import GoSem.ClaimSeven
namespace Go.Proofs.YtkjclafbpocabaaGreatDoor
namespace Rows

/-- THE TIED CARD OF 'chitilaw02.CordOlds'. -/
def cordOldsCard : Claim7 := { stood := { row := cordOldsRow, standIns := [], harness := (true, "9b5b155f78c541fb38721ded6dfe4a2bc540fa58df583453fcbcfc205afd93c7"), looks := false }, kinds := [], alts := [], laidByText := true, laidKinds := [.data, .data, .data], laidTests := true, laidLooks := .later }
def CordOldsCardSaid : Prop := Claim7.holds Tryz.pinned (.plain (OpenSpec.ofChange cordOldsSpec)) cordOldsCard

/-- THE TIED CARD OF 'chitilaw02.CordExtends'. -/
def cordExtendsCard : Claim7 := { stood := { row := cordExtendsRow, standIns := [], harness := (true, "9b5b155f78c541fb38721ded6dfe4a2bc540fa58df583453fcbcfc205afd93c7"), looks := false }, kinds := [], alts := [], laidByText := true, laidKinds := [.data, .data, .data], laidTests := true, laidLooks := .later }
def CordExtendsCardSaid : Prop := Claim7.holds Tryz.pinned (.plain (OpenSpec.ofChange cordExtendsSpec)) cordExtendsCard

/-- THE TIED CARD OF 'chitilaw02.CordTakes'. -/
def cordTakesCard : Claim7 := { stood := { row := cordTakesRow, standIns := [], harness := (true, "9b5b155f78c541fb38721ded6dfe4a2bc540fa58df583453fcbcfc205afd93c7"), looks := false }, kinds := [], alts := [], laidByText := true, laidKinds := [.data, .data, .data], laidTests := true, laidLooks := .later }
def CordTakesCardSaid : Prop := Claim7.holds Tryz.pinned (.plain (OpenSpec.ofChange cordTakesSpec)) cordTakesCard

/-- THE TIED CARD OF 'chitilaw02.CordOffs'. -/
def cordOffsCard : Claim7 := { stood := { row := cordOffsRow, standIns := [], harness := (true, "9b5b155f78c541fb38721ded6dfe4a2bc540fa58df583453fcbcfc205afd93c7"), looks := false }, kinds := [], alts := [], laidByText := true, laidKinds := [.data, .data, .data], laidTests := true, laidLooks := .later }
def CordOffsCardSaid : Prop := Claim7.holds Tryz.pinned (.plain (OpenSpec.ofChange cordOffsSpec)) cordOffsCard

/-- THE TIED CARD OF 'chitilaw02.CordNears'. -/
def cordNearsCard : Claim7 := { stood := { row := cordNearsRow, standIns := [], harness := (true, "9b5b155f78c541fb38721ded6dfe4a2bc540fa58df583453fcbcfc205afd93c7"), looks := false }, kinds := [], alts := [], laidByText := true, laidKinds := [.data, .data, .data], laidTests := true, laidLooks := .later }
def CordNearsCardSaid : Prop := Claim7.holds Tryz.pinned (.plain (OpenSpec.ofChange cordNearsSpec)) cordNearsCard

/-- THE TIED CARD OF 'chitilaw02.CordRules'. -/
def cordRulesCard : Claim7 := { stood := { row := cordRulesRow, standIns := [], harness := (true, "9b5b155f78c541fb38721ded6dfe4a2bc540fa58df583453fcbcfc205afd93c7"), looks := false }, kinds := [], alts := [], laidByText := true, laidKinds := [.data, .data, .data], laidTests := true, laidLooks := .later }
def CordRulesCardSaid : Prop := Claim7.holds Tryz.pinned (.plain (OpenSpec.ofChange cordRulesSpec)) cordRulesCard

/-- THE TIED CARD OF 'chitilaw02.CordCompares'. -/
def cordComparesCard : Claim7 := { stood := { row := cordComparesRow, standIns := [], harness := (true, "9b5b155f78c541fb38721ded6dfe4a2bc540fa58df583453fcbcfc205afd93c7"), looks := false }, kinds := [], alts := [], laidByText := true, laidKinds := [.data, .data, .data], laidTests := true, laidLooks := .later }
def CordComparesCardSaid : Prop := Claim7.holds Tryz.pinned (.plain (OpenSpec.ofChange cordComparesSpec)) cordComparesCard

/-- THE TIED CARD OF 'chitilaw02.CordBytes'. -/
def cordBytesCard : Claim7 := { stood := { row := cordBytesRow, standIns := [], harness := (true, "9b5b155f78c541fb38721ded6dfe4a2bc540fa58df583453fcbcfc205afd93c7"), looks := false }, kinds := [], alts := [], laidByText := true, laidKinds := [.data, .data, .data], laidTests := true, laidLooks := .later }
def CordBytesCardSaid : Prop := Claim7.holds Tryz.pinned (.plain (OpenSpec.ofChange cordBytesSpec)) cordBytesCard

/-- THE TIED CARD OF 'chitilaw02.CordCorrects'. -/
def cordCorrectsCard : Claim7 := { stood := { row := cordCorrectsRow, standIns := [], harness := (true, "9b5b155f78c541fb38721ded6dfe4a2bc540fa58df583453fcbcfc205afd93c7"), looks := false }, kinds := [], alts := [], laidByText := true, laidKinds := [.data, .data, .data], laidTests := true, laidLooks := .later }
def CordCorrectsCardSaid : Prop := Claim7.holds Tryz.pinned (.plain (OpenSpec.ofChange cordCorrectsSpec)) cordCorrectsCard

/-- THE TIED CARD OF 'chitilaw02.CordRest'. -/
def cordRestCard : Claim7 := { stood := { row := cordRestRow, standIns := [], harness := (true, "9b5b155f78c541fb38721ded6dfe4a2bc540fa58df583453fcbcfc205afd93c7"), looks := false }, kinds := [], alts := [], laidByText := true, laidKinds := [.data, .data, .data], laidTests := true, laidLooks := .later }
def CordRestCardSaid : Prop := Claim7.holds Tryz.pinned (.plain (OpenSpec.ofChange cordRestSpec)) cordRestCard

/-- THE TIED CARD OF 'chitilaw02.CordNearest'. -/
def cordNearestCard : Claim7 := { stood := { row := cordNearestRow, standIns := [], harness := (true, "9b5b155f78c541fb38721ded6dfe4a2bc540fa58df583453fcbcfc205afd93c7"), looks := false }, kinds := [], alts := [], laidByText := true, laidKinds := [.data, .data, .data], laidTests := true, laidLooks := .later }
def CordNearestCardSaid : Prop := Claim7.holds Tryz.pinned (.plain (OpenSpec.ofChange cordNearestSpec)) cordNearestCard

/-- THE TIED CARD OF 'chitilaw02.CordMoves'. -/
def cordMovesCard : Claim7 := { stood := { row := cordMovesRow, standIns := [], harness := (true, "9b5b155f78c541fb38721ded6dfe4a2bc540fa58df583453fcbcfc205afd93c7"), looks := false }, kinds := [], alts := [], laidByText := true, laidKinds := [.data, .data, .data], laidTests := true, laidLooks := .later }
def CordMovesCardSaid : Prop := Claim7.holds Tryz.pinned (.plain (OpenSpec.ofChange cordMovesSpec)) cordMovesCard

/-- THE TIED CARD OF 'chitilaw02.CordExact'. -/
def cordExactCard : Claim7 := { stood := { row := cordExactRow, standIns := [], harness := (true, "9b5b155f78c541fb38721ded6dfe4a2bc540fa58df583453fcbcfc205afd93c7"), looks := false }, kinds := [], alts := [], laidByText := true, laidKinds := [.data, .data, .data], laidTests := true, laidLooks := .later }
def CordExactCardSaid : Prop := Claim7.holds Tryz.pinned (.plain (OpenSpec.ofChange cordExactSpec)) cordExactCard

/-- THE TIED CARD OF 'chititop.TopCorrected'. -/
def topCorrectedCard : Claim7 := { stood := { row := topCorrectedRow, standIns := [], harness := (true, "9b5b155f78c541fb38721ded6dfe4a2bc540fa58df583453fcbcfc205afd93c7"), looks := false }, kinds := [], alts := [], laidByText := true, laidKinds := [.data, .data, .data], laidTests := true, laidLooks := .later }
def TopCorrectedCardSaid : Prop := Claim7.holds Tryz.pinned (.plain (OpenSpec.ofChange topCorrectedSpec)) topCorrectedCard

/-- THE TIED CARD OF 'chititop.TopYears'. -/
def topYearsCard : Claim7 := { stood := { row := topYearsRow, standIns := [], harness := (true, "9b5b155f78c541fb38721ded6dfe4a2bc540fa58df583453fcbcfc205afd93c7"), looks := false }, kinds := [], alts := [], laidByText := true, laidKinds := [.data, .data, .data], laidTests := true, laidLooks := .later }
def TopYearsCardSaid : Prop := Claim7.holds Tryz.pinned (.plain (OpenSpec.ofChange topYearsSpec)) topYearsCard

/-- THE SECOND FORM's CARD OF 'chitilaw02.CordOlds'. -/
def cordOldsUptoCard : Claim7 := { stood := { row := cordOldsUptoRow, standIns := [], harness := (true, "9b5b155f78c541fb38721ded6dfe4a2bc540fa58df583453fcbcfc205afd93c7"), looks := false }, kinds := [], alts := [], laidByText := true, laidKinds := [.data, .data, .data], laidTests := true, laidLooks := .later }
def CordOldsUptoCardSaid : Prop := Claim7.holds Tryz.pinned (.plain (OpenSpec.upto cordOldsSpec)) cordOldsUptoCard

/-- THE SECOND FORM's CARD OF 'chitilaw02.CordExtends'. -/
def cordExtendsUptoCard : Claim7 := { stood := { row := cordExtendsUptoRow, standIns := [], harness := (true, "9b5b155f78c541fb38721ded6dfe4a2bc540fa58df583453fcbcfc205afd93c7"), looks := false }, kinds := [], alts := [], laidByText := true, laidKinds := [.data, .data, .data], laidTests := true, laidLooks := .later }
def CordExtendsUptoCardSaid : Prop := Claim7.holds Tryz.pinned (.plain (OpenSpec.upto cordExtendsSpec)) cordExtendsUptoCard

/-- THE SECOND FORM's CARD OF 'chitilaw02.CordTakes'. -/
def cordTakesUptoCard : Claim7 := { stood := { row := cordTakesUptoRow, standIns := [], harness := (true, "9b5b155f78c541fb38721ded6dfe4a2bc540fa58df583453fcbcfc205afd93c7"), looks := false }, kinds := [], alts := [], laidByText := true, laidKinds := [.data, .data, .data], laidTests := true, laidLooks := .later }
def CordTakesUptoCardSaid : Prop := Claim7.holds Tryz.pinned (.plain (OpenSpec.upto cordTakesSpec)) cordTakesUptoCard

/-- THE SECOND FORM's CARD OF 'chitilaw02.CordOffs'. -/
def cordOffsUptoCard : Claim7 := { stood := { row := cordOffsUptoRow, standIns := [], harness := (true, "9b5b155f78c541fb38721ded6dfe4a2bc540fa58df583453fcbcfc205afd93c7"), looks := false }, kinds := [], alts := [], laidByText := true, laidKinds := [.data, .data, .data], laidTests := true, laidLooks := .later }
def CordOffsUptoCardSaid : Prop := Claim7.holds Tryz.pinned (.plain (OpenSpec.upto cordOffsSpec)) cordOffsUptoCard

/-- THE SECOND FORM's CARD OF 'chitilaw02.CordNears'. -/
def cordNearsUptoCard : Claim7 := { stood := { row := cordNearsUptoRow, standIns := [], harness := (true, "9b5b155f78c541fb38721ded6dfe4a2bc540fa58df583453fcbcfc205afd93c7"), looks := false }, kinds := [], alts := [], laidByText := true, laidKinds := [.data, .data, .data], laidTests := true, laidLooks := .later }
def CordNearsUptoCardSaid : Prop := Claim7.holds Tryz.pinned (.plain (OpenSpec.upto cordNearsSpec)) cordNearsUptoCard

/-- THE SECOND FORM's CARD OF 'chitilaw02.CordRules'. -/
def cordRulesUptoCard : Claim7 := { stood := { row := cordRulesUptoRow, standIns := [], harness := (true, "9b5b155f78c541fb38721ded6dfe4a2bc540fa58df583453fcbcfc205afd93c7"), looks := false }, kinds := [], alts := [], laidByText := true, laidKinds := [.data, .data, .data], laidTests := true, laidLooks := .later }
def CordRulesUptoCardSaid : Prop := Claim7.holds Tryz.pinned (.plain (OpenSpec.upto cordRulesSpec)) cordRulesUptoCard

/-- THE SECOND FORM's CARD OF 'chitilaw02.CordCompares'. -/
def cordComparesUptoCard : Claim7 := { stood := { row := cordComparesUptoRow, standIns := [], harness := (true, "9b5b155f78c541fb38721ded6dfe4a2bc540fa58df583453fcbcfc205afd93c7"), looks := false }, kinds := [], alts := [], laidByText := true, laidKinds := [.data, .data, .data], laidTests := true, laidLooks := .later }
def CordComparesUptoCardSaid : Prop := Claim7.holds Tryz.pinned (.plain (OpenSpec.upto cordComparesSpec)) cordComparesUptoCard

/-- THE SECOND FORM's CARD OF 'chitilaw02.CordBytes'. -/
def cordBytesUptoCard : Claim7 := { stood := { row := cordBytesUptoRow, standIns := [], harness := (true, "9b5b155f78c541fb38721ded6dfe4a2bc540fa58df583453fcbcfc205afd93c7"), looks := false }, kinds := [], alts := [], laidByText := true, laidKinds := [.data, .data, .data], laidTests := true, laidLooks := .later }
def CordBytesUptoCardSaid : Prop := Claim7.holds Tryz.pinned (.plain (OpenSpec.upto cordBytesSpec)) cordBytesUptoCard

/-- THE SECOND FORM's CARD OF 'chitilaw02.CordCorrects'. -/
def cordCorrectsUptoCard : Claim7 := { stood := { row := cordCorrectsUptoRow, standIns := [], harness := (true, "9b5b155f78c541fb38721ded6dfe4a2bc540fa58df583453fcbcfc205afd93c7"), looks := false }, kinds := [], alts := [], laidByText := true, laidKinds := [.data, .data, .data], laidTests := true, laidLooks := .later }
def CordCorrectsUptoCardSaid : Prop := Claim7.holds Tryz.pinned (.plain (OpenSpec.upto cordCorrectsSpec)) cordCorrectsUptoCard

/-- THE SECOND FORM's CARD OF 'chitilaw02.CordRest'. -/
def cordRestUptoCard : Claim7 := { stood := { row := cordRestUptoRow, standIns := [], harness := (true, "9b5b155f78c541fb38721ded6dfe4a2bc540fa58df583453fcbcfc205afd93c7"), looks := false }, kinds := [], alts := [], laidByText := true, laidKinds := [.data, .data, .data], laidTests := true, laidLooks := .later }
def CordRestUptoCardSaid : Prop := Claim7.holds Tryz.pinned (.plain (OpenSpec.upto cordRestSpec)) cordRestUptoCard

/-- THE SECOND FORM's CARD OF 'chitilaw02.CordNearest'. -/
def cordNearestUptoCard : Claim7 := { stood := { row := cordNearestUptoRow, standIns := [], harness := (true, "9b5b155f78c541fb38721ded6dfe4a2bc540fa58df583453fcbcfc205afd93c7"), looks := false }, kinds := [], alts := [], laidByText := true, laidKinds := [.data, .data, .data], laidTests := true, laidLooks := .later }
def CordNearestUptoCardSaid : Prop := Claim7.holds Tryz.pinned (.plain (OpenSpec.upto cordNearestSpec)) cordNearestUptoCard

/-- THE SECOND FORM's CARD OF 'chitilaw02.CordMoves'. -/
def cordMovesUptoCard : Claim7 := { stood := { row := cordMovesUptoRow, standIns := [], harness := (true, "9b5b155f78c541fb38721ded6dfe4a2bc540fa58df583453fcbcfc205afd93c7"), looks := false }, kinds := [], alts := [], laidByText := true, laidKinds := [.data, .data, .data], laidTests := true, laidLooks := .later }
def CordMovesUptoCardSaid : Prop := Claim7.holds Tryz.pinned (.plain (OpenSpec.upto cordMovesSpec)) cordMovesUptoCard

/-- THE SECOND FORM's CARD OF 'chitilaw02.CordExact'. -/
def cordExactUptoCard : Claim7 := { stood := { row := cordExactUptoRow, standIns := [], harness := (true, "9b5b155f78c541fb38721ded6dfe4a2bc540fa58df583453fcbcfc205afd93c7"), looks := false }, kinds := [], alts := [], laidByText := true, laidKinds := [.data, .data, .data], laidTests := true, laidLooks := .later }
def CordExactUptoCardSaid : Prop := Claim7.holds Tryz.pinned (.plain (OpenSpec.upto cordExactSpec)) cordExactUptoCard

/-- THE SECOND FORM's CARD OF 'chititop.TopCorrected'. -/
def topCorrectedUptoCard : Claim7 := { stood := { row := topCorrectedUptoRow, standIns := [], harness := (true, "9b5b155f78c541fb38721ded6dfe4a2bc540fa58df583453fcbcfc205afd93c7"), looks := false }, kinds := [], alts := [], laidByText := true, laidKinds := [.data, .data, .data], laidTests := true, laidLooks := .later }
def TopCorrectedUptoCardSaid : Prop := Claim7.holds Tryz.pinned (.plain (OpenSpec.upto topCorrectedSpec)) topCorrectedUptoCard

/-- THE SECOND FORM's CARD OF 'chititop.TopYears'. -/
def topYearsUptoCard : Claim7 := { stood := { row := topYearsUptoRow, standIns := [], harness := (true, "9b5b155f78c541fb38721ded6dfe4a2bc540fa58df583453fcbcfc205afd93c7"), looks := false }, kinds := [], alts := [], laidByText := true, laidKinds := [.data, .data, .data], laidTests := true, laidLooks := .later }
def TopYearsUptoCardSaid : Prop := Claim7.holds Tryz.pinned (.plain (OpenSpec.upto topYearsSpec)) topYearsUptoCard
end Rows
end Go.Proofs.YtkjclafbpocabaaGreatDoor
