/-
  DERIVED. GIVEN WITH THE SEED: THE CARDS: each row of YtehpmdmfolmaoaaDoorRows.lean that lists a variable, with what it lists TIED to the program's text (the seventh form; the later family's looks); each row that meets fmt, with fmt's text TOLD by the authors' own Lean function (tested against real Go, not proved from fmt's source: count such statements apart). THE CARD IS WHAT COUNTS. Prove the row's statement (the work); the ties are given (YtehpmdmfolmaoaaDoorTie.lean); close each card by the builder's one call (the guide's Derived/Test/ToyasCard.lean, 'card_holds'). Laid BY PROGRAM, IN A SANDBOX (cutbox-door.mjs). By AI agents, Wed Nov 11 2026. No macro, syntax, notation, axiom, sorry.
-/
import Derived.Test.YtehpmdmfolmaoaaDoorRows
import GoSem.ClaimSeven
namespace Go.Proofs.YtehpmdmfolmaoaaDoor
namespace Rows

/-- THE TIED CARD OF 'laws.FnSpansAdd'. -/
def fnSpansAddCard : Claim7 := { stood := { row := fnSpansAddRow, standIns := [], harness := (true, "04d00f8789932f3d2ecb1c618322c7b5e38b818f35267c0c56f265085f5e9369"), looks := false }, kinds := [], alts := [], laidByText := true, laidKinds := [.data], laidTests := true, laidLooks := .later }
def FnSpansAddCardSaid : Prop := Claim7.holds Tryd.pinned (.plain (OpenSpec.ofChange fnSpansAddSpec)) fnSpansAddCard

/-- THE TIED CARD OF 'laws.FnSpansCut'. -/
def fnSpansCutCard : Claim7 := { stood := { row := fnSpansCutRow, standIns := [], harness := (true, "04d00f8789932f3d2ecb1c618322c7b5e38b818f35267c0c56f265085f5e9369"), looks := false }, kinds := [], alts := [], laidByText := true, laidKinds := [.data], laidTests := true, laidLooks := .later }
def FnSpansCutCardSaid : Prop := Claim7.holds Tryd.pinned (.plain (OpenSpec.ofChange fnSpansCutSpec)) fnSpansCutCard

/-- THE TIED CARD OF 'laws.FnSpansMeet'. -/
def fnSpansMeetCard : Claim7 := { stood := { row := fnSpansMeetRow, standIns := [], harness := (true, "04d00f8789932f3d2ecb1c618322c7b5e38b818f35267c0c56f265085f5e9369"), looks := false }, kinds := [], alts := [], laidByText := true, laidKinds := [.data], laidTests := true, laidLooks := .later }
def FnSpansMeetCardSaid : Prop := Claim7.holds Tryd.pinned (.plain (OpenSpec.ofChange fnSpansMeetSpec)) fnSpansMeetCard

/-- THE TIED CARD OF 'laws.FnSpansHave'. -/
def fnSpansHaveCard : Claim7 := { stood := { row := fnSpansHaveRow, standIns := [], harness := (true, "04d00f8789932f3d2ecb1c618322c7b5e38b818f35267c0c56f265085f5e9369"), looks := false }, kinds := [], alts := [], laidByText := true, laidKinds := [.data], laidTests := true, laidLooks := .later }
def FnSpansHaveCardSaid : Prop := Claim7.holds Tryd.pinned (.plain (OpenSpec.ofChange fnSpansHaveSpec)) fnSpansHaveCard

/-- THE TIED CARD OF 'laws.FnSpansTurn'. -/
def fnSpansTurnCard : Claim7 := { stood := { row := fnSpansTurnRow, standIns := [], harness := (true, "04d00f8789932f3d2ecb1c618322c7b5e38b818f35267c0c56f265085f5e9369"), looks := false }, kinds := [], alts := [], laidByText := true, laidKinds := [.data], laidTests := true, laidLooks := .later }
def FnSpansTurnCardSaid : Prop := Claim7.holds Tryd.pinned (.plain (OpenSpec.ofChange fnSpansTurnSpec)) fnSpansTurnCard

/-- THE TIED CARD OF 'laws.FnSpansWhole'. -/
def fnSpansWholeCard : Claim7 := { stood := { row := fnSpansWholeRow, standIns := [], harness := (true, "04d00f8789932f3d2ecb1c618322c7b5e38b818f35267c0c56f265085f5e9369"), looks := false }, kinds := [], alts := [], laidByText := true, laidKinds := [.data], laidTests := true, laidLooks := .later }
def FnSpansWholeCardSaid : Prop := Claim7.holds Tryd.pinned (.plain (OpenSpec.ofChange fnSpansWholeSpec)) fnSpansWholeCard

/-- THE TIED CARD OF 'laws.FnSpansParts'. -/
def fnSpansPartsCard : Claim7 := { stood := { row := fnSpansPartsRow, standIns := [], harness := (true, "04d00f8789932f3d2ecb1c618322c7b5e38b818f35267c0c56f265085f5e9369"), looks := false }, kinds := [], alts := [], laidByText := true, laidKinds := [.data], laidTests := true, laidLooks := .later }
def FnSpansPartsCardSaid : Prop := Claim7.holds Tryd.pinned (.plain (OpenSpec.ofChange fnSpansPartsSpec)) fnSpansPartsCard

/-- THE TIED CARD OF 'laws.FnSpansLess'. -/
def fnSpansLessCard : Claim7 := { stood := { row := fnSpansLessRow, standIns := [], harness := (true, "04d00f8789932f3d2ecb1c618322c7b5e38b818f35267c0c56f265085f5e9369"), looks := false }, kinds := [], alts := [], laidByText := true, laidKinds := [.data], laidTests := true, laidLooks := .later }
def FnSpansLessCardSaid : Prop := Claim7.holds Tryd.pinned (.plain (OpenSpec.ofChange fnSpansLessSpec)) fnSpansLessCard

/-- THE SECOND FORM's CARD OF 'laws.FnSpansAdd'. -/
def fnSpansAddUptoCard : Claim7 := { stood := { row := fnSpansAddUptoRow, standIns := [], harness := (true, "04d00f8789932f3d2ecb1c618322c7b5e38b818f35267c0c56f265085f5e9369"), looks := false }, kinds := [], alts := [], laidByText := true, laidKinds := [.data], laidTests := true, laidLooks := .later }
def FnSpansAddUptoCardSaid : Prop := Claim7.holds Tryd.pinned (.plain (OpenSpec.upto fnSpansAddSpec)) fnSpansAddUptoCard

/-- THE SECOND FORM's CARD OF 'laws.FnSpansCut'. -/
def fnSpansCutUptoCard : Claim7 := { stood := { row := fnSpansCutUptoRow, standIns := [], harness := (true, "04d00f8789932f3d2ecb1c618322c7b5e38b818f35267c0c56f265085f5e9369"), looks := false }, kinds := [], alts := [], laidByText := true, laidKinds := [.data], laidTests := true, laidLooks := .later }
def FnSpansCutUptoCardSaid : Prop := Claim7.holds Tryd.pinned (.plain (OpenSpec.upto fnSpansCutSpec)) fnSpansCutUptoCard

/-- THE SECOND FORM's CARD OF 'laws.FnSpansMeet'. -/
def fnSpansMeetUptoCard : Claim7 := { stood := { row := fnSpansMeetUptoRow, standIns := [], harness := (true, "04d00f8789932f3d2ecb1c618322c7b5e38b818f35267c0c56f265085f5e9369"), looks := false }, kinds := [], alts := [], laidByText := true, laidKinds := [.data], laidTests := true, laidLooks := .later }
def FnSpansMeetUptoCardSaid : Prop := Claim7.holds Tryd.pinned (.plain (OpenSpec.upto fnSpansMeetSpec)) fnSpansMeetUptoCard

/-- THE SECOND FORM's CARD OF 'laws.FnSpansHave'. -/
def fnSpansHaveUptoCard : Claim7 := { stood := { row := fnSpansHaveUptoRow, standIns := [], harness := (true, "04d00f8789932f3d2ecb1c618322c7b5e38b818f35267c0c56f265085f5e9369"), looks := false }, kinds := [], alts := [], laidByText := true, laidKinds := [.data], laidTests := true, laidLooks := .later }
def FnSpansHaveUptoCardSaid : Prop := Claim7.holds Tryd.pinned (.plain (OpenSpec.upto fnSpansHaveSpec)) fnSpansHaveUptoCard

/-- THE SECOND FORM's CARD OF 'laws.FnSpansTurn'. -/
def fnSpansTurnUptoCard : Claim7 := { stood := { row := fnSpansTurnUptoRow, standIns := [], harness := (true, "04d00f8789932f3d2ecb1c618322c7b5e38b818f35267c0c56f265085f5e9369"), looks := false }, kinds := [], alts := [], laidByText := true, laidKinds := [.data], laidTests := true, laidLooks := .later }
def FnSpansTurnUptoCardSaid : Prop := Claim7.holds Tryd.pinned (.plain (OpenSpec.upto fnSpansTurnSpec)) fnSpansTurnUptoCard

/-- THE SECOND FORM's CARD OF 'laws.FnSpansWhole'. -/
def fnSpansWholeUptoCard : Claim7 := { stood := { row := fnSpansWholeUptoRow, standIns := [], harness := (true, "04d00f8789932f3d2ecb1c618322c7b5e38b818f35267c0c56f265085f5e9369"), looks := false }, kinds := [], alts := [], laidByText := true, laidKinds := [.data], laidTests := true, laidLooks := .later }
def FnSpansWholeUptoCardSaid : Prop := Claim7.holds Tryd.pinned (.plain (OpenSpec.upto fnSpansWholeSpec)) fnSpansWholeUptoCard

/-- THE SECOND FORM's CARD OF 'laws.FnSpansParts'. -/
def fnSpansPartsUptoCard : Claim7 := { stood := { row := fnSpansPartsUptoRow, standIns := [], harness := (true, "04d00f8789932f3d2ecb1c618322c7b5e38b818f35267c0c56f265085f5e9369"), looks := false }, kinds := [], alts := [], laidByText := true, laidKinds := [.data], laidTests := true, laidLooks := .later }
def FnSpansPartsUptoCardSaid : Prop := Claim7.holds Tryd.pinned (.plain (OpenSpec.upto fnSpansPartsSpec)) fnSpansPartsUptoCard

/-- THE SECOND FORM's CARD OF 'laws.FnSpansLess'. -/
def fnSpansLessUptoCard : Claim7 := { stood := { row := fnSpansLessUptoRow, standIns := [], harness := (true, "04d00f8789932f3d2ecb1c618322c7b5e38b818f35267c0c56f265085f5e9369"), looks := false }, kinds := [], alts := [], laidByText := true, laidKinds := [.data], laidTests := true, laidLooks := .later }
def FnSpansLessUptoCardSaid : Prop := Claim7.holds Tryd.pinned (.plain (OpenSpec.upto fnSpansLessSpec)) fnSpansLessUptoCard
end Rows
end Go.Proofs.YtehpmdmfolmaoaaDoor
