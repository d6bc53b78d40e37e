/-
  DERIVED. GIVEN WITH THE SEED: THE CARDS: each row of YteglfdcoeogilaaDoorRows.lean that lists a variable, with what it lists TIED to the program's text (the seventh form; the later family's looks); each row that meets fmt, with fmt's text TOLD by the authors' own Lean function (tested against real Go, not proved from fmt's source: count such statements apart). THE CARD IS WHAT COUNTS. Prove the row's statement (the work); the ties are given (YteglfdcoeogilaaDoorTie.lean); close each card by the builder's one call (the guide's Derived/Test/ToyasCard.lean, 'card_holds'). Laid BY PROGRAM, IN A SANDBOX (cutbox-door.mjs). By AI agents, Wed Nov 11 2026. No macro, syntax, notation, axiom, sorry.
-/
import Derived.Test.YteglfdcoeogilaaDoorRows
import GoSem.ClaimSeven
namespace Go.Proofs.YteglfdcoeogilaaDoor
namespace Rows

/-- THE TIED CARD OF 'laws.FnSpansLess'. -/
def fnSpansLessCard : Claim7 := { stood := { row := fnSpansLessRow, standIns := [], harness := (true, "e2b7f1de9c6d9b0ed9861c6956dea09200ba450ed06e096acb3ba9fd20d955d3"), looks := false }, kinds := [], alts := [], laidByText := true, laidKinds := [.data], laidTests := true, laidLooks := .later }
def FnSpansLessCardSaid : Prop := Claim7.holds Tryd.pinned (.plain (OpenSpec.ofChange fnSpansLessSpec)) fnSpansLessCard

/-- THE TIED CARD OF 'laws.FnTextDiff'. -/
def fnTextDiffCard : Claim7 := { stood := { row := fnTextDiffRow, standIns := [], harness := (true, "e2b7f1de9c6d9b0ed9861c6956dea09200ba450ed06e096acb3ba9fd20d955d3"), looks := false }, kinds := [], alts := [], laidByText := true, laidKinds := [.data], laidTests := true, laidLooks := .later }
def FnTextDiffCardSaid : Prop := Claim7.holds Tryd.pinned (.plain (OpenSpec.ofChange fnTextDiffSpec)) fnTextDiffCard

/-- THE SECOND FORM's CARD OF 'laws.FnSpansLess'. -/
def fnSpansLessUptoCard : Claim7 := { stood := { row := fnSpansLessUptoRow, standIns := [], harness := (true, "e2b7f1de9c6d9b0ed9861c6956dea09200ba450ed06e096acb3ba9fd20d955d3"), looks := false }, kinds := [], alts := [], laidByText := true, laidKinds := [.data], laidTests := true, laidLooks := .later }
def FnSpansLessUptoCardSaid : Prop := Claim7.holds Tryd.pinned (.plain (OpenSpec.upto fnSpansLessSpec)) fnSpansLessUptoCard

/-- THE SECOND FORM's CARD OF 'laws.FnTextDiff'. -/
def fnTextDiffUptoCard : Claim7 := { stood := { row := fnTextDiffUptoRow, standIns := [], harness := (true, "e2b7f1de9c6d9b0ed9861c6956dea09200ba450ed06e096acb3ba9fd20d955d3"), looks := false }, kinds := [], alts := [], laidByText := true, laidKinds := [.data], laidTests := true, laidLooks := .later }
def FnTextDiffUptoCardSaid : Prop := Claim7.holds Tryd.pinned (.plain (OpenSpec.upto fnTextDiffSpec)) fnTextDiffUptoCard
end Rows
end Go.Proofs.YteglfdcoeogilaaDoor
