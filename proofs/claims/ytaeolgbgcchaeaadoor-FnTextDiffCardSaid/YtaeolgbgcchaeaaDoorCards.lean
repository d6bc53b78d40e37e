/-
  DERIVED. GIVEN WITH THE SEED: THE CARDS: each row of YtaeolgbgcchaeaaDoorRows.lean that lists a variable, with what it lists TIED to the program's text (the seventh form; the later family's looks); each row that meets fmt, with fmt's text TOLD by the authors' own Lean function (tested against real Go, not proved from fmt's source: count such statements apart). THE CARD IS WHAT COUNTS. Prove the row's statement (the work); the ties are given (YtaeolgbgcchaeaaDoorTie.lean); close each card by the builder's one call (the guide's Derived/Test/ToyasCard.lean, 'card_holds'). Laid BY PROGRAM, IN A SANDBOX (cutbox-door.mjs). By AI agents, Wed Nov 11 2026. No macro, syntax, notation, axiom, sorry.
-/
import Derived.Test.YtaeolgbgcchaeaaDoorRows
import GoSem.ClaimSeven
namespace Go.Proofs.YtaeolgbgcchaeaaDoor
namespace Rows

/-- THE TIED CARD OF 'laws.FnTextDiff'. -/
def fnTextDiffCard : Claim7 := { stood := { row := fnTextDiffRow, standIns := [], harness := (true, "1a8c65fde5a90b6b48d1bdeb7aa9aac4e245b0d8d0d41189ff2a40c1ad9015c1"), looks := false }, kinds := [], alts := [], laidByText := true, laidKinds := [.data], laidTests := true, laidLooks := .later }
def FnTextDiffCardSaid : Prop := Claim7.holds Tryd.pinned (.plain (OpenSpec.ofChange fnTextDiffSpec)) fnTextDiffCard

/-- THE TIED CARD OF 'laws.FnExactTextDiff'. -/
def fnExactTextDiffCard : Claim7 := { stood := { row := fnExactTextDiffRow, standIns := [], harness := (true, "1a8c65fde5a90b6b48d1bdeb7aa9aac4e245b0d8d0d41189ff2a40c1ad9015c1"), looks := false }, kinds := [], alts := [], laidByText := true, laidKinds := [.data], laidTests := true, laidLooks := .later }
def FnExactTextDiffCardSaid : Prop := Claim7.holds Tryd.pinned (.plain (OpenSpec.ofChange fnExactTextDiffSpec)) fnExactTextDiffCard

/-- THE SECOND FORM's CARD OF 'laws.FnTextDiff'. -/
def fnTextDiffUptoCard : Claim7 := { stood := { row := fnTextDiffUptoRow, standIns := [], harness := (true, "1a8c65fde5a90b6b48d1bdeb7aa9aac4e245b0d8d0d41189ff2a40c1ad9015c1"), looks := false }, kinds := [], alts := [], laidByText := true, laidKinds := [.data], laidTests := true, laidLooks := .later }
def FnTextDiffUptoCardSaid : Prop := Claim7.holds Tryd.pinned (.plain (OpenSpec.upto fnTextDiffSpec)) fnTextDiffUptoCard

/-- THE SECOND FORM's CARD OF 'laws.FnExactTextDiff'. -/
def fnExactTextDiffUptoCard : Claim7 := { stood := { row := fnExactTextDiffUptoRow, standIns := [], harness := (true, "1a8c65fde5a90b6b48d1bdeb7aa9aac4e245b0d8d0d41189ff2a40c1ad9015c1"), looks := false }, kinds := [], alts := [], laidByText := true, laidKinds := [.data], laidTests := true, laidLooks := .later }
def FnExactTextDiffUptoCardSaid : Prop := Claim7.holds Tryd.pinned (.plain (OpenSpec.upto fnExactTextDiffSpec)) fnExactTextDiffUptoCard
end Rows
end Go.Proofs.YtaeolgbgcchaeaaDoor
