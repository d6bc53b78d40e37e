/-
  NARROWER THAN 'FOR EVERY INPUT', by the rows' own cells (each row's printed sentence says how): FnSpansAdd: laid · FnSpansCut: laid · FnSpansMeet: laid · FnSpansHave: laid · FnSpansTurn: laid · FnSpansWhole: laid · FnSpansParts: laid · FnSpansLess: laid.
  DERIVED. THE GIVEN ROWS OF THIS SEAT. 8 by the template 'for every input the law returns true; each argument reads behind the call as it read before'; 0 by the template 'total and deterministic' (their statements: YtehpmdmfolmaoaaDoorTotals.lean).
  GIVEN WITH THE SEED: the statements are not yours to turn. If you find one false, say at which input.
  Laid BY PROGRAM, IN A SANDBOX (cutbox-rows.mjs): the forced cells as the released guide's own fill.sh prints them over the translation e1c4ed381502addb… (all of the seat's roots in one cut). By AI agents, Wed Nov 11 2026. No macro, syntax, notation, axiom, sorry.
-/
import Derived.Test.YtehpmdmfolmaoaaDoorChecked
import GoSem.Claim
import GoSem.ClaimJoined
import GoSem.ClaimMapViews
import Derived.JoinedTies
import Derived.KernelRfl
namespace Go.Proofs.YtehpmdmfolmaoaaDoor
/- THE CELL 'sum', in the pinned program and in every row, IS THE sha256 OF THE DUMP (.gsa) THAT YtehpmdmfolmaoaaDoorProg.lean LOADS. Nothing in Lean hashes anything: it is a label: what it is worth is what the hold of that sum in a sandbox is worth. -/
noncomputable def Tryd.pinned : Pinned := { name := "ytehpmdmfolmaoaadoor", sum := "e1c4ed381502addbe19f0506a8f1c333acebf159a163fc0229996f0017a5c298", checked := Tryd.checked }
namespace Rows
def none {H : Type} : Left H := { results := [], args := [] }

/- WHAT THE LISTED PACKAGE-LEVEL VARIABLES READ AS WHEN THE CALL BEGINS. Each datum BY PROGRAM (the guide's laid-datum.mjs) off the statement by which the dump's own 'gosem.cut.vars' lays the variable. In a bare row this is a premise. The card (YtehpmdmfolmaoaaDoorCards.lean) ties it to the program's text. -/
def laid_math_bits_deBruijn64tab {H : Type} : DataW H := .agg [.lit (.int .u8 0), .lit (.int .u8 1), .lit (.int .u8 56), .lit (.int .u8 2), .lit (.int .u8 57), .lit (.int .u8 49), .lit (.int .u8 28), .lit (.int .u8 3), .lit (.int .u8 61), .lit (.int .u8 58), .lit (.int .u8 42), .lit (.int .u8 50), .lit (.int .u8 38), .lit (.int .u8 29), .lit (.int .u8 17), .lit (.int .u8 4), .lit (.int .u8 62), .lit (.int .u8 47), .lit (.int .u8 59), .lit (.int .u8 36), .lit (.int .u8 45), .lit (.int .u8 43), .lit (.int .u8 51), .lit (.int .u8 22), .lit (.int .u8 53), .lit (.int .u8 39), .lit (.int .u8 33), .lit (.int .u8 30), .lit (.int .u8 24), .lit (.int .u8 18), .lit (.int .u8 12), .lit (.int .u8 5), .lit (.int .u8 63), .lit (.int .u8 55), .lit (.int .u8 48), .lit (.int .u8 27), .lit (.int .u8 60), .lit (.int .u8 41), .lit (.int .u8 37), .lit (.int .u8 16), .lit (.int .u8 46), .lit (.int .u8 35), .lit (.int .u8 44), .lit (.int .u8 21), .lit (.int .u8 52), .lit (.int .u8 32), .lit (.int .u8 23), .lit (.int .u8 11), .lit (.int .u8 54), .lit (.int .u8 26), .lit (.int .u8 40), .lit (.int .u8 15), .lit (.int .u8 34), .lit (.int .u8 20), .lit (.int .u8 31), .lit (.int .u8 10), .lit (.int .u8 25), .lit (.int .u8 14), .lit (.int .u8 19), .lit (.int .u8 9), .lit (.int .u8 13), .lit (.int .u8 8), .lit (.int .u8 7), .lit (.int .u8 6)]

/-- 'laws.FnSpansAdd': WHATEVER THE INPUT: true; the input reads as it did. -/
def fnSpansAddSpec : ChangeSpec := { name := "fnSpansAdd", fn := fun _ => fun
  | [d] => { results := [.lit (.bool true)], args := [d] }
  | _ => none }
def fnSpansAddRow : OpenClaim := { program := "ytehpmdmfolmaoaadoor", sum := "e1c4ed381502addbe19f0506a8f1c333acebf159a163fc0229996f0017a5c298", func := "loop.example/pannage/laws.FnSpansAdd", spec := "fnSpansAdd", unfollowed := true, recurses := true, named := ["math/bits.deBruijn64tab"], apart := false, laid := [("math/bits.deBruijn64tab", laid_math_bits_deBruijn64tab)] }
def FnSpansAddSaid : Prop := fnSpansAddRow.holds Tryd.pinned (OpenSpec.ofChange fnSpansAddSpec)

/-- ITS FALSE NEIGHBOUR: 'it returns false'. Refute it at one input. -/
def fnSpansAddWrong : ChangeSpec := { name := "fnSpansAdd", fn := fun _ => fun
  | [d] => { results := [.lit (.bool false)], args := [d] }
  | _ => none }
def FnSpansAddWrongFalsely : Prop := fnSpansAddRow.holds Tryd.pinned (OpenSpec.ofChange fnSpansAddWrong)

/-- 'laws.FnSpansCut': WHATEVER THE INPUT: true; the input reads as it did. -/
def fnSpansCutSpec : ChangeSpec := { name := "fnSpansCut", fn := fun _ => fun
  | [d] => { results := [.lit (.bool true)], args := [d] }
  | _ => none }
def fnSpansCutRow : OpenClaim := { program := "ytehpmdmfolmaoaadoor", sum := "e1c4ed381502addbe19f0506a8f1c333acebf159a163fc0229996f0017a5c298", func := "loop.example/pannage/laws.FnSpansCut", spec := "fnSpansCut", unfollowed := true, recurses := true, named := ["math/bits.deBruijn64tab"], apart := false, laid := [("math/bits.deBruijn64tab", laid_math_bits_deBruijn64tab)] }
def FnSpansCutSaid : Prop := fnSpansCutRow.holds Tryd.pinned (OpenSpec.ofChange fnSpansCutSpec)

/-- ITS FALSE NEIGHBOUR: 'it returns false'. Refute it at one input. -/
def fnSpansCutWrong : ChangeSpec := { name := "fnSpansCut", fn := fun _ => fun
  | [d] => { results := [.lit (.bool false)], args := [d] }
  | _ => none }
def FnSpansCutWrongFalsely : Prop := fnSpansCutRow.holds Tryd.pinned (OpenSpec.ofChange fnSpansCutWrong)

/-- 'laws.FnSpansMeet': WHATEVER THE INPUT: true; the input reads as it did. -/
def fnSpansMeetSpec : ChangeSpec := { name := "fnSpansMeet", fn := fun _ => fun
  | [d] => { results := [.lit (.bool true)], args := [d] }
  | _ => none }
def fnSpansMeetRow : OpenClaim := { program := "ytehpmdmfolmaoaadoor", sum := "e1c4ed381502addbe19f0506a8f1c333acebf159a163fc0229996f0017a5c298", func := "loop.example/pannage/laws.FnSpansMeet", spec := "fnSpansMeet", unfollowed := true, recurses := true, named := ["math/bits.deBruijn64tab"], apart := false, laid := [("math/bits.deBruijn64tab", laid_math_bits_deBruijn64tab)] }
def FnSpansMeetSaid : Prop := fnSpansMeetRow.holds Tryd.pinned (OpenSpec.ofChange fnSpansMeetSpec)

/-- ITS FALSE NEIGHBOUR: 'it returns false'. Refute it at one input. -/
def fnSpansMeetWrong : ChangeSpec := { name := "fnSpansMeet", fn := fun _ => fun
  | [d] => { results := [.lit (.bool false)], args := [d] }
  | _ => none }
def FnSpansMeetWrongFalsely : Prop := fnSpansMeetRow.holds Tryd.pinned (OpenSpec.ofChange fnSpansMeetWrong)

/-- 'laws.FnSpansHave': WHATEVER THE INPUT: true; the input reads as it did. -/
def fnSpansHaveSpec : ChangeSpec := { name := "fnSpansHave", fn := fun _ => fun
  | [d] => { results := [.lit (.bool true)], args := [d] }
  | _ => none }
def fnSpansHaveRow : OpenClaim := { program := "ytehpmdmfolmaoaadoor", sum := "e1c4ed381502addbe19f0506a8f1c333acebf159a163fc0229996f0017a5c298", func := "loop.example/pannage/laws.FnSpansHave", spec := "fnSpansHave", unfollowed := true, recurses := true, named := ["math/bits.deBruijn64tab"], apart := false, laid := [("math/bits.deBruijn64tab", laid_math_bits_deBruijn64tab)] }
def FnSpansHaveSaid : Prop := fnSpansHaveRow.holds Tryd.pinned (OpenSpec.ofChange fnSpansHaveSpec)

/-- ITS FALSE NEIGHBOUR: 'it returns false'. Refute it at one input. -/
def fnSpansHaveWrong : ChangeSpec := { name := "fnSpansHave", fn := fun _ => fun
  | [d] => { results := [.lit (.bool false)], args := [d] }
  | _ => none }
def FnSpansHaveWrongFalsely : Prop := fnSpansHaveRow.holds Tryd.pinned (OpenSpec.ofChange fnSpansHaveWrong)

/-- 'laws.FnSpansTurn': WHATEVER THE INPUT: true; the input reads as it did. -/
def fnSpansTurnSpec : ChangeSpec := { name := "fnSpansTurn", fn := fun _ => fun
  | [d1, d2] => { results := [.lit (.bool true)], args := [d1, d2] }
  | _ => none }
def fnSpansTurnRow : OpenClaim := { program := "ytehpmdmfolmaoaadoor", sum := "e1c4ed381502addbe19f0506a8f1c333acebf159a163fc0229996f0017a5c298", func := "loop.example/pannage/laws.FnSpansTurn", spec := "fnSpansTurn", unfollowed := true, recurses := true, named := ["math/bits.deBruijn64tab"], apart := false, laid := [("math/bits.deBruijn64tab", laid_math_bits_deBruijn64tab)] }
def FnSpansTurnSaid : Prop := fnSpansTurnRow.holds Tryd.pinned (OpenSpec.ofChange fnSpansTurnSpec)

/-- ITS FALSE NEIGHBOUR: 'it returns false'. Refute it at one input. -/
def fnSpansTurnWrong : ChangeSpec := { name := "fnSpansTurn", fn := fun _ => fun
  | [d1, d2] => { results := [.lit (.bool false)], args := [d1, d2] }
  | _ => none }
def FnSpansTurnWrongFalsely : Prop := fnSpansTurnRow.holds Tryd.pinned (OpenSpec.ofChange fnSpansTurnWrong)

/-- 'laws.FnSpansWhole': WHATEVER THE INPUT: true; the input reads as it did. -/
def fnSpansWholeSpec : ChangeSpec := { name := "fnSpansWhole", fn := fun _ => fun
  | [d] => { results := [.lit (.bool true)], args := [d] }
  | _ => none }
def fnSpansWholeRow : OpenClaim := { program := "ytehpmdmfolmaoaadoor", sum := "e1c4ed381502addbe19f0506a8f1c333acebf159a163fc0229996f0017a5c298", func := "loop.example/pannage/laws.FnSpansWhole", spec := "fnSpansWhole", unfollowed := true, recurses := true, named := ["math/bits.deBruijn64tab"], apart := false, laid := [("math/bits.deBruijn64tab", laid_math_bits_deBruijn64tab)] }
def FnSpansWholeSaid : Prop := fnSpansWholeRow.holds Tryd.pinned (OpenSpec.ofChange fnSpansWholeSpec)

/-- ITS FALSE NEIGHBOUR: 'it returns false'. Refute it at one input. -/
def fnSpansWholeWrong : ChangeSpec := { name := "fnSpansWhole", fn := fun _ => fun
  | [d] => { results := [.lit (.bool false)], args := [d] }
  | _ => none }
def FnSpansWholeWrongFalsely : Prop := fnSpansWholeRow.holds Tryd.pinned (OpenSpec.ofChange fnSpansWholeWrong)

/-- 'laws.FnSpansParts': WHATEVER THE INPUT: true; the input reads as it did. -/
def fnSpansPartsSpec : ChangeSpec := { name := "fnSpansParts", fn := fun _ => fun
  | [d] => { results := [.lit (.bool true)], args := [d] }
  | _ => none }
def fnSpansPartsRow : OpenClaim := { program := "ytehpmdmfolmaoaadoor", sum := "e1c4ed381502addbe19f0506a8f1c333acebf159a163fc0229996f0017a5c298", func := "loop.example/pannage/laws.FnSpansParts", spec := "fnSpansParts", unfollowed := true, recurses := true, named := ["math/bits.deBruijn64tab"], apart := false, laid := [("math/bits.deBruijn64tab", laid_math_bits_deBruijn64tab)] }
def FnSpansPartsSaid : Prop := fnSpansPartsRow.holds Tryd.pinned (OpenSpec.ofChange fnSpansPartsSpec)

/-- ITS FALSE NEIGHBOUR: 'it returns false'. Refute it at one input. -/
def fnSpansPartsWrong : ChangeSpec := { name := "fnSpansParts", fn := fun _ => fun
  | [d] => { results := [.lit (.bool false)], args := [d] }
  | _ => none }
def FnSpansPartsWrongFalsely : Prop := fnSpansPartsRow.holds Tryd.pinned (OpenSpec.ofChange fnSpansPartsWrong)

/-- 'laws.FnSpansLess': WHATEVER THE INPUT: true; the input reads as it did. -/
def fnSpansLessSpec : ChangeSpec := { name := "fnSpansLess", fn := fun _ => fun
  | [d] => { results := [.lit (.bool true)], args := [d] }
  | _ => none }
def fnSpansLessRow : OpenClaim := { program := "ytehpmdmfolmaoaadoor", sum := "e1c4ed381502addbe19f0506a8f1c333acebf159a163fc0229996f0017a5c298", func := "loop.example/pannage/laws.FnSpansLess", spec := "fnSpansLess", unfollowed := true, recurses := true, named := ["math/bits.deBruijn64tab"], apart := false, laid := [("math/bits.deBruijn64tab", laid_math_bits_deBruijn64tab)] }
def FnSpansLessSaid : Prop := fnSpansLessRow.holds Tryd.pinned (OpenSpec.ofChange fnSpansLessSpec)

/-- ITS FALSE NEIGHBOUR: 'it returns false'. Refute it at one input. -/
def fnSpansLessWrong : ChangeSpec := { name := "fnSpansLess", fn := fun _ => fun
  | [d] => { results := [.lit (.bool false)], args := [d] }
  | _ => none }
def FnSpansLessWrongFalsely : Prop := fnSpansLessRow.holds Tryd.pinned (OpenSpec.ofChange fnSpansLessWrong)

/- THE SECOND FORM. 'bulk': how many values and letters a reading holds, each counted each time it is reached (what is shared counts as often as it is met; a slice's spare places count too). A statement '..UptoSaid' is the law's where the arguments, and the package variables that the reading takes, are together of bulk at most 1048576: NARROWER than '..Said'. Prove '..Said' where nothing that the law and all that it calls make is longer than what came in: it says more and counts as full. Else prove '..UptoSaid'. A law counts once. -/
mutual
def uptoBulk {H : Type} : DataW H → Nat
  | .lit (.string bytes) => bytes.length + 1
  | .lit _ => 1
  | .nil => 1
  | .ptr d => uptoBulk d + 1
  | .slice elems spare => uptoBulkAll elems + uptoBulkAll spare + 1
  | .agg parts => uptoBulkAll parts + 1
  | .iface _ d => uptoBulk d + 1
  | .map entries => uptoBulkEntries entries + 1
  | .held _ => 1
def uptoBulkAll {H : Type} : List (DataW H) → Nat
  | [] => 0
  | d :: r => uptoBulk d + uptoBulkAll r
def uptoBulkEntries {H : Type} : List (Lit × DataW H) → Nat
  | [] => 0
  | x :: r => uptoBulkEntry x + uptoBulkEntries r
def uptoBulkEntry {H : Type} : Lit × DataW H → Nat
  | (.string bytes, d) => bytes.length + uptoBulk d + 1
  | (_, d) => uptoBulk d + 1
 end
def uptoSmall : (H : Type) → List (DataW H) → Bool := fun _ ds => decide (uptoBulkAll ds ≤ 1048576)
def OpenSpec.upto (s : _root_.Go.ChangeSpec) : _root_.Go.OpenSpec := { _root_.Go.OpenSpec.ofChange s with cond := some uptoSmall }

/-- 'laws.FnSpansAdd', WHERE WHAT IT READS IS OF BULK AT MOST 1048576: true; the input reads as it did. -/
def fnSpansAddUptoRow : OpenClaim := { program := "ytehpmdmfolmaoaadoor", sum := "e1c4ed381502addbe19f0506a8f1c333acebf159a163fc0229996f0017a5c298", func := "loop.example/pannage/laws.FnSpansAdd", spec := "fnSpansAdd", unfollowed := true, recurses := true, named := ["math/bits.deBruijn64tab"], apart := false, laid := [("math/bits.deBruijn64tab", laid_math_bits_deBruijn64tab)], narrowed := true }
def FnSpansAddUptoSaid : Prop := fnSpansAddUptoRow.holds Tryd.pinned (OpenSpec.upto fnSpansAddSpec)

/-- 'laws.FnSpansCut', WHERE WHAT IT READS IS OF BULK AT MOST 1048576: true; the input reads as it did. -/
def fnSpansCutUptoRow : OpenClaim := { program := "ytehpmdmfolmaoaadoor", sum := "e1c4ed381502addbe19f0506a8f1c333acebf159a163fc0229996f0017a5c298", func := "loop.example/pannage/laws.FnSpansCut", spec := "fnSpansCut", unfollowed := true, recurses := true, named := ["math/bits.deBruijn64tab"], apart := false, laid := [("math/bits.deBruijn64tab", laid_math_bits_deBruijn64tab)], narrowed := true }
def FnSpansCutUptoSaid : Prop := fnSpansCutUptoRow.holds Tryd.pinned (OpenSpec.upto fnSpansCutSpec)

/-- 'laws.FnSpansMeet', WHERE WHAT IT READS IS OF BULK AT MOST 1048576: true; the input reads as it did. -/
def fnSpansMeetUptoRow : OpenClaim := { program := "ytehpmdmfolmaoaadoor", sum := "e1c4ed381502addbe19f0506a8f1c333acebf159a163fc0229996f0017a5c298", func := "loop.example/pannage/laws.FnSpansMeet", spec := "fnSpansMeet", unfollowed := true, recurses := true, named := ["math/bits.deBruijn64tab"], apart := false, laid := [("math/bits.deBruijn64tab", laid_math_bits_deBruijn64tab)], narrowed := true }
def FnSpansMeetUptoSaid : Prop := fnSpansMeetUptoRow.holds Tryd.pinned (OpenSpec.upto fnSpansMeetSpec)

/-- 'laws.FnSpansHave', WHERE WHAT IT READS IS OF BULK AT MOST 1048576: true; the input reads as it did. -/
def fnSpansHaveUptoRow : OpenClaim := { program := "ytehpmdmfolmaoaadoor", sum := "e1c4ed381502addbe19f0506a8f1c333acebf159a163fc0229996f0017a5c298", func := "loop.example/pannage/laws.FnSpansHave", spec := "fnSpansHave", unfollowed := true, recurses := true, named := ["math/bits.deBruijn64tab"], apart := false, laid := [("math/bits.deBruijn64tab", laid_math_bits_deBruijn64tab)], narrowed := true }
def FnSpansHaveUptoSaid : Prop := fnSpansHaveUptoRow.holds Tryd.pinned (OpenSpec.upto fnSpansHaveSpec)

/-- 'laws.FnSpansTurn', WHERE WHAT IT READS IS OF BULK AT MOST 1048576: true; the input reads as it did. -/
def fnSpansTurnUptoRow : OpenClaim := { program := "ytehpmdmfolmaoaadoor", sum := "e1c4ed381502addbe19f0506a8f1c333acebf159a163fc0229996f0017a5c298", func := "loop.example/pannage/laws.FnSpansTurn", spec := "fnSpansTurn", unfollowed := true, recurses := true, named := ["math/bits.deBruijn64tab"], apart := false, laid := [("math/bits.deBruijn64tab", laid_math_bits_deBruijn64tab)], narrowed := true }
def FnSpansTurnUptoSaid : Prop := fnSpansTurnUptoRow.holds Tryd.pinned (OpenSpec.upto fnSpansTurnSpec)

/-- 'laws.FnSpansWhole', WHERE WHAT IT READS IS OF BULK AT MOST 1048576: true; the input reads as it did. -/
def fnSpansWholeUptoRow : OpenClaim := { program := "ytehpmdmfolmaoaadoor", sum := "e1c4ed381502addbe19f0506a8f1c333acebf159a163fc0229996f0017a5c298", func := "loop.example/pannage/laws.FnSpansWhole", spec := "fnSpansWhole", unfollowed := true, recurses := true, named := ["math/bits.deBruijn64tab"], apart := false, laid := [("math/bits.deBruijn64tab", laid_math_bits_deBruijn64tab)], narrowed := true }
def FnSpansWholeUptoSaid : Prop := fnSpansWholeUptoRow.holds Tryd.pinned (OpenSpec.upto fnSpansWholeSpec)

/-- 'laws.FnSpansParts', WHERE WHAT IT READS IS OF BULK AT MOST 1048576: true; the input reads as it did. -/
def fnSpansPartsUptoRow : OpenClaim := { program := "ytehpmdmfolmaoaadoor", sum := "e1c4ed381502addbe19f0506a8f1c333acebf159a163fc0229996f0017a5c298", func := "loop.example/pannage/laws.FnSpansParts", spec := "fnSpansParts", unfollowed := true, recurses := true, named := ["math/bits.deBruijn64tab"], apart := false, laid := [("math/bits.deBruijn64tab", laid_math_bits_deBruijn64tab)], narrowed := true }
def FnSpansPartsUptoSaid : Prop := fnSpansPartsUptoRow.holds Tryd.pinned (OpenSpec.upto fnSpansPartsSpec)

/-- 'laws.FnSpansLess', WHERE WHAT IT READS IS OF BULK AT MOST 1048576: true; the input reads as it did. -/
def fnSpansLessUptoRow : OpenClaim := { program := "ytehpmdmfolmaoaadoor", sum := "e1c4ed381502addbe19f0506a8f1c333acebf159a163fc0229996f0017a5c298", func := "loop.example/pannage/laws.FnSpansLess", spec := "fnSpansLess", unfollowed := true, recurses := true, named := ["math/bits.deBruijn64tab"], apart := false, laid := [("math/bits.deBruijn64tab", laid_math_bits_deBruijn64tab)], narrowed := true }
def FnSpansLessUptoSaid : Prop := fnSpansLessUptoRow.holds Tryd.pinned (OpenSpec.upto fnSpansLessSpec)

end Rows
end Go.Proofs.YtehpmdmfolmaoaaDoor
