/-
  DERIVED. GIVEN WITH THE SEED: THE CARDS: each row of YtadoihddmbbjoaaDoorRows.lean that lists a variable, with what it lists TIED to the program's text (the seventh form; the later family's looks); each row that meets fmt, with fmt's text TOLD by the authors' own Lean function (tested against real Go, not proved from fmt's source: count such statements apart). THE CARD IS WHAT COUNTS. Prove the row's statement (the work); the ties are given (YtadoihddmbbjoaaDoorTie.lean); close each card by the builder's one call (the guide's Derived/Test/ToyasCard.lean, 'card_holds'). Laid BY PROGRAM, IN A SANDBOX (cutbox-door.mjs). By AI agents, Wed Nov 11 2026. No macro, syntax, notation, axiom, sorry.
-/
import Derived.Test.YtadoihddmbbjoaaDoorRows
import GoSem.ClaimSeven
namespace Go.Proofs.YtadoihddmbbjoaaDoor
namespace Rows

/-- THE TIED CARD OF 'laws.FnExactStoreDo'. -/
def fnExactStoreDoCard : Claim7 := { stood := { row := fnExactStoreDoRow, standIns := [], harness := (true, "2988dbd3109003f43bc2072eadc89325fc2a9b3fdfcab04700eaa374322b3fb5"), looks := true }, kinds := [], alts := [], laidByText := true, laidKinds := [.sentinel, .sentinel, .sentinel, .sentinel], laidTests := true, laidLooks := .later }
def FnExactStoreDoCardSaid : Prop := Claim7.holds Tryd.pinned (.plain (OpenSpec.ofChange fnExactStoreDoSpec)) fnExactStoreDoCard

/-- THE TIED CARD OF 'laws.FnStoreDo'. -/
def fnStoreDoCard : Claim7 := { stood := { row := fnStoreDoRow, standIns := [], harness := (true, "2988dbd3109003f43bc2072eadc89325fc2a9b3fdfcab04700eaa374322b3fb5"), looks := true }, kinds := [], alts := [], laidByText := true, laidKinds := [.sentinel, .sentinel, .sentinel, .sentinel], laidTests := true, laidLooks := .later }
def FnStoreDoCardSaid : Prop := Claim7.holds Tryd.pinned (.plain (OpenSpec.ofChange fnStoreDoSpec)) fnStoreDoCard

/-- THE TIED CARD OF 'laws.FnStoreApart'. -/
def fnStoreApartCard : Claim7 := { stood := { row := fnStoreApartRow, standIns := [], harness := (true, "2988dbd3109003f43bc2072eadc89325fc2a9b3fdfcab04700eaa374322b3fb5"), looks := true }, kinds := [], alts := [], laidByText := true, laidKinds := [.sentinel, .sentinel, .sentinel, .sentinel], laidTests := true, laidLooks := .later }
def FnStoreApartCardSaid : Prop := Claim7.holds Tryd.pinned (.plain (OpenSpec.ofChange fnStoreApartSpec)) fnStoreApartCard

/-- THE SECOND FORM's CARD OF 'laws.FnExactStoreDo'. -/
def fnExactStoreDoUptoCard : Claim7 := { stood := { row := fnExactStoreDoUptoRow, standIns := [], harness := (true, "2988dbd3109003f43bc2072eadc89325fc2a9b3fdfcab04700eaa374322b3fb5"), looks := true }, kinds := [], alts := [], laidByText := true, laidKinds := [.sentinel, .sentinel, .sentinel, .sentinel], laidTests := true, laidLooks := .later }
def FnExactStoreDoUptoCardSaid : Prop := Claim7.holds Tryd.pinned (.plain (OpenSpec.upto fnExactStoreDoSpec)) fnExactStoreDoUptoCard

/-- THE SECOND FORM's CARD OF 'laws.FnStoreDo'. -/
def fnStoreDoUptoCard : Claim7 := { stood := { row := fnStoreDoUptoRow, standIns := [], harness := (true, "2988dbd3109003f43bc2072eadc89325fc2a9b3fdfcab04700eaa374322b3fb5"), looks := true }, kinds := [], alts := [], laidByText := true, laidKinds := [.sentinel, .sentinel, .sentinel, .sentinel], laidTests := true, laidLooks := .later }
def FnStoreDoUptoCardSaid : Prop := Claim7.holds Tryd.pinned (.plain (OpenSpec.upto fnStoreDoSpec)) fnStoreDoUptoCard

/-- THE SECOND FORM's CARD OF 'laws.FnStoreApart'. -/
def fnStoreApartUptoCard : Claim7 := { stood := { row := fnStoreApartUptoRow, standIns := [], harness := (true, "2988dbd3109003f43bc2072eadc89325fc2a9b3fdfcab04700eaa374322b3fb5"), looks := true }, kinds := [], alts := [], laidByText := true, laidKinds := [.sentinel, .sentinel, .sentinel, .sentinel], laidTests := true, laidLooks := .later }
def FnStoreApartUptoCardSaid : Prop := Claim7.holds Tryd.pinned (.plain (OpenSpec.upto fnStoreApartSpec)) fnStoreApartUptoCard
end Rows
end Go.Proofs.YtadoihddmbbjoaaDoor
