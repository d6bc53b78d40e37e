/-
  No cell of these rows narrows 'for every input' (looked for: loops, veiled, ifaces, maps, wideKeys, modest, calm, conditions, laid).
  DERIVED. THE GIVEN ROWS OF THIS SEAT. 10 by the template 'for every input the law returns true; each argument reads behind the call as it read before'; 0 by the template 'total and deterministic' (their statements: YteglfdcoeogilaaTotals.lean).
  GIVEN WITH THE SEED: the statements are not yours to turn. If you find one false, say at which input.
  Laid BY PROGRAM, IN A SANDBOX (cutbox-rows.mjs): the forced cells as the released guide's own fill.sh prints them over the translation b6aecb4bb566b81f… (all of the seat's roots in one cut). By AI agents, Wed Nov 11 2026. No macro, syntax, notation, axiom, sorry.
-/
import Derived.Test.YteglfdcoeogilaaChecked
import GoSem.Claim
import GoSem.ClaimJoined
import GoSem.ClaimMapViews
import Derived.JoinedTies
import Derived.KernelRfl
namespace Go.Proofs.Yteglfdcoeogilaa
/- THE CELL 'sum', in the pinned program and in every row, IS THE sha256 OF THE DUMP (.gsa) THAT YteglfdcoeogilaaProg.lean LOADS. Nothing in Lean hashes anything: it is a label: what it is worth is what the hold of that sum in a sandbox is worth. -/
noncomputable def Try.pinned : Pinned := { name := "yteglfdcoeogilaa", sum := "b6aecb4bb566b81fed67548f10f523b33b7ef234674fa74aa94b0004020e0617", checked := Try.checked }
namespace Rows
def none {H : Type} : Left H := { results := [], args := [] }

/-- 'laws.FnLayAt': WHATEVER THE INPUT: true; the input reads as it did. -/
def fnLayAtSpec : ChangeSpec := { name := "fnLayAt", fn := fun _ => fun
  | [d] => { results := [.lit (.bool true)], args := [d] }
  | _ => none }
def fnLayAtRow : OpenClaim := { program := "yteglfdcoeogilaa", sum := "b6aecb4bb566b81fed67548f10f523b33b7ef234674fa74aa94b0004020e0617", func := "loop.example/pannage/laws.FnLayAt", spec := "fnLayAt", apart := false }
def FnLayAtSaid : Prop := fnLayAtRow.holds Try.pinned (OpenSpec.ofChange fnLayAtSpec)

/-- ITS FALSE NEIGHBOUR: 'it returns false'. Refute it at one input. -/
def fnLayAtWrong : ChangeSpec := { name := "fnLayAt", fn := fun _ => fun
  | [d] => { results := [.lit (.bool false)], args := [d] }
  | _ => none }
def FnLayAtWrongFalsely : Prop := fnLayAtRow.holds Try.pinned (OpenSpec.ofChange fnLayAtWrong)

/-- 'laws.FnLayBack': WHATEVER THE INPUT: true; the input reads as it did. -/
def fnLayBackSpec : ChangeSpec := { name := "fnLayBack", fn := fun _ => fun
  | [d] => { results := [.lit (.bool true)], args := [d] }
  | _ => none }
def fnLayBackRow : OpenClaim := { program := "yteglfdcoeogilaa", sum := "b6aecb4bb566b81fed67548f10f523b33b7ef234674fa74aa94b0004020e0617", func := "loop.example/pannage/laws.FnLayBack", spec := "fnLayBack", apart := false }
def FnLayBackSaid : Prop := fnLayBackRow.holds Try.pinned (OpenSpec.ofChange fnLayBackSpec)

/-- ITS FALSE NEIGHBOUR: 'it returns false'. Refute it at one input. -/
def fnLayBackWrong : ChangeSpec := { name := "fnLayBack", fn := fun _ => fun
  | [d] => { results := [.lit (.bool false)], args := [d] }
  | _ => none }
def FnLayBackWrongFalsely : Prop := fnLayBackRow.holds Try.pinned (OpenSpec.ofChange fnLayBackWrong)

/-- 'laws.FnLayParts': WHATEVER THE INPUT: true; the input reads as it did. -/
def fnLayPartsSpec : ChangeSpec := { name := "fnLayParts", fn := fun _ => fun
  | [d] => { results := [.lit (.bool true)], args := [d] }
  | _ => none }
def fnLayPartsRow : OpenClaim := { program := "yteglfdcoeogilaa", sum := "b6aecb4bb566b81fed67548f10f523b33b7ef234674fa74aa94b0004020e0617", func := "loop.example/pannage/laws.FnLayParts", spec := "fnLayParts", unfollowed := true, recurses := true, apart := false }
def FnLayPartsSaid : Prop := fnLayPartsRow.holds Try.pinned (OpenSpec.ofChange fnLayPartsSpec)

/-- ITS FALSE NEIGHBOUR: 'it returns false'. Refute it at one input. -/
def fnLayPartsWrong : ChangeSpec := { name := "fnLayParts", fn := fun _ => fun
  | [d] => { results := [.lit (.bool false)], args := [d] }
  | _ => none }
def FnLayPartsWrongFalsely : Prop := fnLayPartsRow.holds Try.pinned (OpenSpec.ofChange fnLayPartsWrong)

/-- 'laws.FnLayText': WHATEVER THE INPUT: true; the input reads as it did. -/
def fnLayTextSpec : ChangeSpec := { name := "fnLayText", fn := fun _ => fun
  | [d] => { results := [.lit (.bool true)], args := [d] }
  | _ => none }
def fnLayTextRow : OpenClaim := { program := "yteglfdcoeogilaa", sum := "b6aecb4bb566b81fed67548f10f523b33b7ef234674fa74aa94b0004020e0617", func := "loop.example/pannage/laws.FnLayText", spec := "fnLayText", unfollowed := true, recurses := true, apart := false }
def FnLayTextSaid : Prop := fnLayTextRow.holds Try.pinned (OpenSpec.ofChange fnLayTextSpec)

/-- ITS FALSE NEIGHBOUR: 'it returns false'. Refute it at one input. -/
def fnLayTextWrong : ChangeSpec := { name := "fnLayText", fn := fun _ => fun
  | [d] => { results := [.lit (.bool false)], args := [d] }
  | _ => none }
def FnLayTextWrongFalsely : Prop := fnLayTextRow.holds Try.pinned (OpenSpec.ofChange fnLayTextWrong)

/-- 'laws.FnLayLong': WHATEVER THE INPUT: true; the input reads as it did. -/
def fnLayLongSpec : ChangeSpec := { name := "fnLayLong", fn := fun _ => fun
  | [d] => { results := [.lit (.bool true)], args := [d] }
  | _ => none }
def fnLayLongRow : OpenClaim := { program := "yteglfdcoeogilaa", sum := "b6aecb4bb566b81fed67548f10f523b33b7ef234674fa74aa94b0004020e0617", func := "loop.example/pannage/laws.FnLayLong", spec := "fnLayLong", apart := false }
def FnLayLongSaid : Prop := fnLayLongRow.holds Try.pinned (OpenSpec.ofChange fnLayLongSpec)

/-- ITS FALSE NEIGHBOUR: 'it returns false'. Refute it at one input. -/
def fnLayLongWrong : ChangeSpec := { name := "fnLayLong", fn := fun _ => fun
  | [d] => { results := [.lit (.bool false)], args := [d] }
  | _ => none }
def FnLayLongWrongFalsely : Prop := fnLayLongRow.holds Try.pinned (OpenSpec.ofChange fnLayLongWrong)

/-- 'laws.FnLayObjs': WHATEVER THE INPUT: true; the input reads as it did. -/
def fnLayObjsSpec : ChangeSpec := { name := "fnLayObjs", fn := fun _ => fun
  | [d] => { results := [.lit (.bool true)], args := [d] }
  | _ => none }
def fnLayObjsRow : OpenClaim := { program := "yteglfdcoeogilaa", sum := "b6aecb4bb566b81fed67548f10f523b33b7ef234674fa74aa94b0004020e0617", func := "loop.example/pannage/laws.FnLayObjs", spec := "fnLayObjs", unfollowed := true, recurses := true, apart := false }
def FnLayObjsSaid : Prop := fnLayObjsRow.holds Try.pinned (OpenSpec.ofChange fnLayObjsSpec)

/-- ITS FALSE NEIGHBOUR: 'it returns false'. Refute it at one input. -/
def fnLayObjsWrong : ChangeSpec := { name := "fnLayObjs", fn := fun _ => fun
  | [d] => { results := [.lit (.bool false)], args := [d] }
  | _ => none }
def FnLayObjsWrongFalsely : Prop := fnLayObjsRow.holds Try.pinned (OpenSpec.ofChange fnLayObjsWrong)

/-- 'laws.FnLayWrite': WHATEVER THE INPUT: true; the input reads as it did. -/
def fnLayWriteSpec : ChangeSpec := { name := "fnLayWrite", fn := fun _ => fun
  | [d] => { results := [.lit (.bool true)], args := [d] }
  | _ => none }
def fnLayWriteRow : OpenClaim := { program := "yteglfdcoeogilaa", sum := "b6aecb4bb566b81fed67548f10f523b33b7ef234674fa74aa94b0004020e0617", func := "loop.example/pannage/laws.FnLayWrite", spec := "fnLayWrite", unfollowed := true, recurses := true, apart := false }
def FnLayWriteSaid : Prop := fnLayWriteRow.holds Try.pinned (OpenSpec.ofChange fnLayWriteSpec)

/-- ITS FALSE NEIGHBOUR: 'it returns false'. Refute it at one input. -/
def fnLayWriteWrong : ChangeSpec := { name := "fnLayWrite", fn := fun _ => fun
  | [d] => { results := [.lit (.bool false)], args := [d] }
  | _ => none }
def FnLayWriteWrongFalsely : Prop := fnLayWriteRow.holds Try.pinned (OpenSpec.ofChange fnLayWriteWrong)

/-- 'laws.FnLayOne': WHATEVER THE INPUT: true; the input reads as it did. -/
def fnLayOneSpec : ChangeSpec := { name := "fnLayOne", fn := fun _ => fun
  | [d] => { results := [.lit (.bool true)], args := [d] }
  | _ => none }
def fnLayOneRow : OpenClaim := { program := "yteglfdcoeogilaa", sum := "b6aecb4bb566b81fed67548f10f523b33b7ef234674fa74aa94b0004020e0617", func := "loop.example/pannage/laws.FnLayOne", spec := "fnLayOne", unfollowed := true, recurses := true, apart := false }
def FnLayOneSaid : Prop := fnLayOneRow.holds Try.pinned (OpenSpec.ofChange fnLayOneSpec)

/-- ITS FALSE NEIGHBOUR: 'it returns false'. Refute it at one input. -/
def fnLayOneWrong : ChangeSpec := { name := "fnLayOne", fn := fun _ => fun
  | [d] => { results := [.lit (.bool false)], args := [d] }
  | _ => none }
def FnLayOneWrongFalsely : Prop := fnLayOneRow.holds Try.pinned (OpenSpec.ofChange fnLayOneWrong)

/-- 'laws.FnLayPieces': WHATEVER THE INPUT: true; the input reads as it did. -/
def fnLayPiecesSpec : ChangeSpec := { name := "fnLayPieces", fn := fun _ => fun
  | [d] => { results := [.lit (.bool true)], args := [d] }
  | _ => none }
def fnLayPiecesRow : OpenClaim := { program := "yteglfdcoeogilaa", sum := "b6aecb4bb566b81fed67548f10f523b33b7ef234674fa74aa94b0004020e0617", func := "loop.example/pannage/laws.FnLayPieces", spec := "fnLayPieces", unfollowed := true, recurses := true, apart := false }
def FnLayPiecesSaid : Prop := fnLayPiecesRow.holds Try.pinned (OpenSpec.ofChange fnLayPiecesSpec)

/-- ITS FALSE NEIGHBOUR: 'it returns false'. Refute it at one input. -/
def fnLayPiecesWrong : ChangeSpec := { name := "fnLayPieces", fn := fun _ => fun
  | [d] => { results := [.lit (.bool false)], args := [d] }
  | _ => none }
def FnLayPiecesWrongFalsely : Prop := fnLayPiecesRow.holds Try.pinned (OpenSpec.ofChange fnLayPiecesWrong)

/-- 'laws.FnLayCut': WHATEVER THE INPUT: true; the input reads as it did. -/
def fnLayCutSpec : ChangeSpec := { name := "fnLayCut", fn := fun _ => fun
  | [d1, d2] => { results := [.lit (.bool true)], args := [d1, d2] }
  | _ => none }
def fnLayCutRow : OpenClaim := { program := "yteglfdcoeogilaa", sum := "b6aecb4bb566b81fed67548f10f523b33b7ef234674fa74aa94b0004020e0617", func := "loop.example/pannage/laws.FnLayCut", spec := "fnLayCut", unfollowed := true, recurses := true, apart := false }
def FnLayCutSaid : Prop := fnLayCutRow.holds Try.pinned (OpenSpec.ofChange fnLayCutSpec)

/-- ITS FALSE NEIGHBOUR: 'it returns false'. Refute it at one input. -/
def fnLayCutWrong : ChangeSpec := { name := "fnLayCut", fn := fun _ => fun
  | [d1, d2] => { results := [.lit (.bool false)], args := [d1, d2] }
  | _ => none }
def FnLayCutWrongFalsely : Prop := fnLayCutRow.holds Try.pinned (OpenSpec.ofChange fnLayCutWrong)

/- THE SECOND FORM. 'bulk': how many values and letters a reading holds, each counted each time it is reached (what is shared counts as often as it is met; a slice's spare places count too). A statement '..UptoSaid' is the law's where the arguments, and the package variables that the reading takes, are together of bulk at most 1048576: NARROWER than '..Said'. Prove '..Said' where nothing that the law and all that it calls make is longer than what came in: it says more and counts as full. Else prove '..UptoSaid'. A law counts once. -/
mutual
def uptoBulk {H : Type} : DataW H → Nat
  | .lit (.string bytes) => bytes.length + 1
  | .lit _ => 1
  | .nil => 1
  | .ptr d => uptoBulk d + 1
  | .slice elems spare => uptoBulkAll elems + uptoBulkAll spare + 1
  | .agg parts => uptoBulkAll parts + 1
  | .iface _ d => uptoBulk d + 1
  | .map entries => uptoBulkEntries entries + 1
  | .held _ => 1
def uptoBulkAll {H : Type} : List (DataW H) → Nat
  | [] => 0
  | d :: r => uptoBulk d + uptoBulkAll r
def uptoBulkEntries {H : Type} : List (Lit × DataW H) → Nat
  | [] => 0
  | x :: r => uptoBulkEntry x + uptoBulkEntries r
def uptoBulkEntry {H : Type} : Lit × DataW H → Nat
  | (.string bytes, d) => bytes.length + uptoBulk d + 1
  | (_, d) => uptoBulk d + 1
 end
def uptoSmall : (H : Type) → List (DataW H) → Bool := fun _ ds => decide (uptoBulkAll ds ≤ 1048576)
def OpenSpec.upto (s : _root_.Go.ChangeSpec) : _root_.Go.OpenSpec := { _root_.Go.OpenSpec.ofChange s with cond := some uptoSmall }

/-- 'laws.FnLayAt', WHERE WHAT IT READS IS OF BULK AT MOST 1048576: true; the input reads as it did. -/
def fnLayAtUptoRow : OpenClaim := { program := "yteglfdcoeogilaa", sum := "b6aecb4bb566b81fed67548f10f523b33b7ef234674fa74aa94b0004020e0617", func := "loop.example/pannage/laws.FnLayAt", spec := "fnLayAt", apart := false, narrowed := true }
def FnLayAtUptoSaid : Prop := fnLayAtUptoRow.holds Try.pinned (OpenSpec.upto fnLayAtSpec)

/-- 'laws.FnLayBack', WHERE WHAT IT READS IS OF BULK AT MOST 1048576: true; the input reads as it did. -/
def fnLayBackUptoRow : OpenClaim := { program := "yteglfdcoeogilaa", sum := "b6aecb4bb566b81fed67548f10f523b33b7ef234674fa74aa94b0004020e0617", func := "loop.example/pannage/laws.FnLayBack", spec := "fnLayBack", apart := false, narrowed := true }
def FnLayBackUptoSaid : Prop := fnLayBackUptoRow.holds Try.pinned (OpenSpec.upto fnLayBackSpec)

/-- 'laws.FnLayParts', WHERE WHAT IT READS IS OF BULK AT MOST 1048576: true; the input reads as it did. -/
def fnLayPartsUptoRow : OpenClaim := { program := "yteglfdcoeogilaa", sum := "b6aecb4bb566b81fed67548f10f523b33b7ef234674fa74aa94b0004020e0617", func := "loop.example/pannage/laws.FnLayParts", spec := "fnLayParts", unfollowed := true, recurses := true, apart := false, narrowed := true }
def FnLayPartsUptoSaid : Prop := fnLayPartsUptoRow.holds Try.pinned (OpenSpec.upto fnLayPartsSpec)

/-- 'laws.FnLayText', WHERE WHAT IT READS IS OF BULK AT MOST 1048576: true; the input reads as it did. -/
def fnLayTextUptoRow : OpenClaim := { program := "yteglfdcoeogilaa", sum := "b6aecb4bb566b81fed67548f10f523b33b7ef234674fa74aa94b0004020e0617", func := "loop.example/pannage/laws.FnLayText", spec := "fnLayText", unfollowed := true, recurses := true, apart := false, narrowed := true }
def FnLayTextUptoSaid : Prop := fnLayTextUptoRow.holds Try.pinned (OpenSpec.upto fnLayTextSpec)

/-- 'laws.FnLayLong', WHERE WHAT IT READS IS OF BULK AT MOST 1048576: true; the input reads as it did. -/
def fnLayLongUptoRow : OpenClaim := { program := "yteglfdcoeogilaa", sum := "b6aecb4bb566b81fed67548f10f523b33b7ef234674fa74aa94b0004020e0617", func := "loop.example/pannage/laws.FnLayLong", spec := "fnLayLong", apart := false, narrowed := true }
def FnLayLongUptoSaid : Prop := fnLayLongUptoRow.holds Try.pinned (OpenSpec.upto fnLayLongSpec)

/-- 'laws.FnLayObjs', WHERE WHAT IT READS IS OF BULK AT MOST 1048576: true; the input reads as it did. -/
def fnLayObjsUptoRow : OpenClaim := { program := "yteglfdcoeogilaa", sum := "b6aecb4bb566b81fed67548f10f523b33b7ef234674fa74aa94b0004020e0617", func := "loop.example/pannage/laws.FnLayObjs", spec := "fnLayObjs", unfollowed := true, recurses := true, apart := false, narrowed := true }
def FnLayObjsUptoSaid : Prop := fnLayObjsUptoRow.holds Try.pinned (OpenSpec.upto fnLayObjsSpec)

/-- 'laws.FnLayWrite', WHERE WHAT IT READS IS OF BULK AT MOST 1048576: true; the input reads as it did. -/
def fnLayWriteUptoRow : OpenClaim := { program := "yteglfdcoeogilaa", sum := "b6aecb4bb566b81fed67548f10f523b33b7ef234674fa74aa94b0004020e0617", func := "loop.example/pannage/laws.FnLayWrite", spec := "fnLayWrite", unfollowed := true, recurses := true, apart := false, narrowed := true }
def FnLayWriteUptoSaid : Prop := fnLayWriteUptoRow.holds Try.pinned (OpenSpec.upto fnLayWriteSpec)

/-- 'laws.FnLayOne', WHERE WHAT IT READS IS OF BULK AT MOST 1048576: true; the input reads as it did. -/
def fnLayOneUptoRow : OpenClaim := { program := "yteglfdcoeogilaa", sum := "b6aecb4bb566b81fed67548f10f523b33b7ef234674fa74aa94b0004020e0617", func := "loop.example/pannage/laws.FnLayOne", spec := "fnLayOne", unfollowed := true, recurses := true, apart := false, narrowed := true }
def FnLayOneUptoSaid : Prop := fnLayOneUptoRow.holds Try.pinned (OpenSpec.upto fnLayOneSpec)

/-- 'laws.FnLayPieces', WHERE WHAT IT READS IS OF BULK AT MOST 1048576: true; the input reads as it did. -/
def fnLayPiecesUptoRow : OpenClaim := { program := "yteglfdcoeogilaa", sum := "b6aecb4bb566b81fed67548f10f523b33b7ef234674fa74aa94b0004020e0617", func := "loop.example/pannage/laws.FnLayPieces", spec := "fnLayPieces", unfollowed := true, recurses := true, apart := false, narrowed := true }
def FnLayPiecesUptoSaid : Prop := fnLayPiecesUptoRow.holds Try.pinned (OpenSpec.upto fnLayPiecesSpec)

/-- 'laws.FnLayCut', WHERE WHAT IT READS IS OF BULK AT MOST 1048576: true; the input reads as it did. -/
def fnLayCutUptoRow : OpenClaim := { program := "yteglfdcoeogilaa", sum := "b6aecb4bb566b81fed67548f10f523b33b7ef234674fa74aa94b0004020e0617", func := "loop.example/pannage/laws.FnLayCut", spec := "fnLayCut", unfollowed := true, recurses := true, apart := false, narrowed := true }
def FnLayCutUptoSaid : Prop := fnLayCutUptoRow.holds Try.pinned (OpenSpec.upto fnLayCutSpec)

end Rows
end Go.Proofs.Yteglfdcoeogilaa
