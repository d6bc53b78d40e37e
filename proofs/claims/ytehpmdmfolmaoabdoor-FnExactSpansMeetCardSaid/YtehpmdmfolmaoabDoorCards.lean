/-
  DERIVED. GIVEN WITH THE SEED: THE CARDS: each row of YtehpmdmfolmaoabDoorRows.lean that lists a variable, with what it lists TIED to the program's text (the seventh form; the later family's looks); each row that meets fmt, with fmt's text TOLD by the authors' own Lean function (tested against real Go, not proved from fmt's source: count such statements apart). THE CARD IS WHAT COUNTS. Prove the row's statement (the work); the ties are given (YtehpmdmfolmaoabDoorTie.lean); close each card by the builder's one call (the guide's Derived/Test/ToyasCard.lean, 'card_holds'). Laid BY PROGRAM, IN A SANDBOX (cutbox-door.mjs). By AI agents, Wed Nov 11 2026. No macro, syntax, notation, axiom, sorry.
-/
import Derived.Test.YtehpmdmfolmaoabDoorRows
import GoSem.ClaimSeven
namespace Go.Proofs.YtehpmdmfolmaoabDoor
namespace Rows

/-- THE TIED CARD OF 'laws.FnTextDiff'. -/
def fnTextDiffCard : Claim7 := { stood := { row := fnTextDiffRow, standIns := [], harness := (true, "cec10548aca341ee9ce7b3a895c5a8a8ef347c0ef9184770501cc62605f6a9a5"), looks := false }, kinds := [], alts := [], laidByText := true, laidKinds := [.data], laidTests := true, laidLooks := .later }
def FnTextDiffCardSaid : Prop := Claim7.holds Tryd.pinned (.plain (OpenSpec.ofChange fnTextDiffSpec)) fnTextDiffCard

/-- THE TIED CARD OF 'laws.FnExactSpansAdd'. -/
def fnExactSpansAddCard : Claim7 := { stood := { row := fnExactSpansAddRow, standIns := [], harness := (true, "cec10548aca341ee9ce7b3a895c5a8a8ef347c0ef9184770501cc62605f6a9a5"), looks := false }, kinds := [], alts := [], laidByText := true, laidKinds := [.data], laidTests := true, laidLooks := .later }
def FnExactSpansAddCardSaid : Prop := Claim7.holds Tryd.pinned (.plain (OpenSpec.ofChange fnExactSpansAddSpec)) fnExactSpansAddCard

/-- THE TIED CARD OF 'laws.FnExactSpansCut'. -/
def fnExactSpansCutCard : Claim7 := { stood := { row := fnExactSpansCutRow, standIns := [], harness := (true, "cec10548aca341ee9ce7b3a895c5a8a8ef347c0ef9184770501cc62605f6a9a5"), looks := false }, kinds := [], alts := [], laidByText := true, laidKinds := [.data], laidTests := true, laidLooks := .later }
def FnExactSpansCutCardSaid : Prop := Claim7.holds Tryd.pinned (.plain (OpenSpec.ofChange fnExactSpansCutSpec)) fnExactSpansCutCard

/-- THE TIED CARD OF 'laws.FnExactSpansMeet'. -/
def fnExactSpansMeetCard : Claim7 := { stood := { row := fnExactSpansMeetRow, standIns := [], harness := (true, "cec10548aca341ee9ce7b3a895c5a8a8ef347c0ef9184770501cc62605f6a9a5"), looks := false }, kinds := [], alts := [], laidByText := true, laidKinds := [.data], laidTests := true, laidLooks := .later }
def FnExactSpansMeetCardSaid : Prop := Claim7.holds Tryd.pinned (.plain (OpenSpec.ofChange fnExactSpansMeetSpec)) fnExactSpansMeetCard

/-- THE SECOND FORM's CARD OF 'laws.FnTextDiff'. -/
def fnTextDiffUptoCard : Claim7 := { stood := { row := fnTextDiffUptoRow, standIns := [], harness := (true, "cec10548aca341ee9ce7b3a895c5a8a8ef347c0ef9184770501cc62605f6a9a5"), looks := false }, kinds := [], alts := [], laidByText := true, laidKinds := [.data], laidTests := true, laidLooks := .later }
def FnTextDiffUptoCardSaid : Prop := Claim7.holds Tryd.pinned (.plain (OpenSpec.upto fnTextDiffSpec)) fnTextDiffUptoCard

/-- THE SECOND FORM's CARD OF 'laws.FnExactSpansAdd'. -/
def fnExactSpansAddUptoCard : Claim7 := { stood := { row := fnExactSpansAddUptoRow, standIns := [], harness := (true, "cec10548aca341ee9ce7b3a895c5a8a8ef347c0ef9184770501cc62605f6a9a5"), looks := false }, kinds := [], alts := [], laidByText := true, laidKinds := [.data], laidTests := true, laidLooks := .later }
def FnExactSpansAddUptoCardSaid : Prop := Claim7.holds Tryd.pinned (.plain (OpenSpec.upto fnExactSpansAddSpec)) fnExactSpansAddUptoCard

/-- THE SECOND FORM's CARD OF 'laws.FnExactSpansCut'. -/
def fnExactSpansCutUptoCard : Claim7 := { stood := { row := fnExactSpansCutUptoRow, standIns := [], harness := (true, "cec10548aca341ee9ce7b3a895c5a8a8ef347c0ef9184770501cc62605f6a9a5"), looks := false }, kinds := [], alts := [], laidByText := true, laidKinds := [.data], laidTests := true, laidLooks := .later }
def FnExactSpansCutUptoCardSaid : Prop := Claim7.holds Tryd.pinned (.plain (OpenSpec.upto fnExactSpansCutSpec)) fnExactSpansCutUptoCard

/-- THE SECOND FORM's CARD OF 'laws.FnExactSpansMeet'. -/
def fnExactSpansMeetUptoCard : Claim7 := { stood := { row := fnExactSpansMeetUptoRow, standIns := [], harness := (true, "cec10548aca341ee9ce7b3a895c5a8a8ef347c0ef9184770501cc62605f6a9a5"), looks := false }, kinds := [], alts := [], laidByText := true, laidKinds := [.data], laidTests := true, laidLooks := .later }
def FnExactSpansMeetUptoCardSaid : Prop := Claim7.holds Tryd.pinned (.plain (OpenSpec.upto fnExactSpansMeetSpec)) fnExactSpansMeetUptoCard
end Rows
end Go.Proofs.YtehpmdmfolmaoabDoor
