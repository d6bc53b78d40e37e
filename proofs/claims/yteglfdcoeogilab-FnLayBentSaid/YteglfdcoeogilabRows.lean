/-
  No cell of these rows narrows 'for every input' (looked for: loops, veiled, ifaces, maps, wideKeys, modest, calm, conditions, laid).
  DERIVED. THE GIVEN ROWS OF THIS SEAT. 8 by the template 'for every input the law returns true; each argument reads behind the call as it read before'; 0 by the template 'total and deterministic' (their statements: YteglfdcoeogilabTotals.lean).
  GIVEN WITH THE SEED: the statements are not yours to turn. If you find one false, say at which input.
  Laid BY PROGRAM, IN A SANDBOX (cutbox-rows.mjs): the forced cells as the released guide's own fill.sh prints them over the translation c668475ab4b40d20… (all of the seat's roots in one cut). By AI agents, Wed Nov 11 2026. No macro, syntax, notation, axiom, sorry.
-/
import Derived.Test.YteglfdcoeogilabChecked
import GoSem.Claim
import GoSem.ClaimJoined
import GoSem.ClaimMapViews
import Derived.JoinedTies
import Derived.KernelRfl
namespace Go.Proofs.Yteglfdcoeogilab
/- THE CELL 'sum', in the pinned program and in every row, IS THE sha256 OF THE DUMP (.gsa) THAT YteglfdcoeogilabProg.lean LOADS. Nothing in Lean hashes anything: it is a label: what it is worth is what the hold of that sum in a sandbox is worth. -/
noncomputable def Try.pinned : Pinned := { name := "yteglfdcoeogilab", sum := "c668475ab4b40d20c39a7790b1d97ce588d0015b2250d75ac279745911263a3f", checked := Try.checked }
namespace Rows
def none {H : Type} : Left H := { results := [], args := [] }

/-- 'laws.FnLayBent': WHATEVER THE INPUT: true; the input reads as it did. -/
def fnLayBentSpec : ChangeSpec := { name := "fnLayBent", fn := fun _ => fun
  | [d] => { results := [.lit (.bool true)], args := [d] }
  | _ => none }
def fnLayBentRow : OpenClaim := { program := "yteglfdcoeogilab", sum := "c668475ab4b40d20c39a7790b1d97ce588d0015b2250d75ac279745911263a3f", func := "loop.example/pannage/laws.FnLayBent", spec := "fnLayBent", unfollowed := true, recurses := true, apart := false }
def FnLayBentSaid : Prop := fnLayBentRow.holds Try.pinned (OpenSpec.ofChange fnLayBentSpec)

/-- ITS FALSE NEIGHBOUR: 'it returns false'. Refute it at one input. -/
def fnLayBentWrong : ChangeSpec := { name := "fnLayBent", fn := fun _ => fun
  | [d] => { results := [.lit (.bool false)], args := [d] }
  | _ => none }
def FnLayBentWrongFalsely : Prop := fnLayBentRow.holds Try.pinned (OpenSpec.ofChange fnLayBentWrong)

/-- 'laws.FnExactLayOk': WHATEVER THE INPUT: true; the input reads as it did. -/
def fnExactLayOkSpec : ChangeSpec := { name := "fnExactLayOk", fn := fun _ => fun
  | [d] => { results := [.lit (.bool true)], args := [d] }
  | _ => none }
def fnExactLayOkRow : OpenClaim := { program := "yteglfdcoeogilab", sum := "c668475ab4b40d20c39a7790b1d97ce588d0015b2250d75ac279745911263a3f", func := "loop.example/pannage/laws.FnExactLayOk", spec := "fnExactLayOk", apart := false }
def FnExactLayOkSaid : Prop := fnExactLayOkRow.holds Try.pinned (OpenSpec.ofChange fnExactLayOkSpec)

/-- ITS FALSE NEIGHBOUR: 'it returns false'. Refute it at one input. -/
def fnExactLayOkWrong : ChangeSpec := { name := "fnExactLayOk", fn := fun _ => fun
  | [d] => { results := [.lit (.bool false)], args := [d] }
  | _ => none }
def FnExactLayOkWrongFalsely : Prop := fnExactLayOkRow.holds Try.pinned (OpenSpec.ofChange fnExactLayOkWrong)

/-- 'laws.FnExactLayAt': WHATEVER THE INPUT: true; the input reads as it did. -/
def fnExactLayAtSpec : ChangeSpec := { name := "fnExactLayAt", fn := fun _ => fun
  | [d1, d2] => { results := [.lit (.bool true)], args := [d1, d2] }
  | _ => none }
def fnExactLayAtRow : OpenClaim := { program := "yteglfdcoeogilab", sum := "c668475ab4b40d20c39a7790b1d97ce588d0015b2250d75ac279745911263a3f", func := "loop.example/pannage/laws.FnExactLayAt", spec := "fnExactLayAt", apart := false }
def FnExactLayAtSaid : Prop := fnExactLayAtRow.holds Try.pinned (OpenSpec.ofChange fnExactLayAtSpec)

/-- ITS FALSE NEIGHBOUR: 'it returns false'. Refute it at one input. -/
def fnExactLayAtWrong : ChangeSpec := { name := "fnExactLayAt", fn := fun _ => fun
  | [d1, d2] => { results := [.lit (.bool false)], args := [d1, d2] }
  | _ => none }
def FnExactLayAtWrongFalsely : Prop := fnExactLayAtRow.holds Try.pinned (OpenSpec.ofChange fnExactLayAtWrong)

/-- 'laws.FnExactLayBack': WHATEVER THE INPUT: true; the input reads as it did. -/
def fnExactLayBackSpec : ChangeSpec := { name := "fnExactLayBack", fn := fun _ => fun
  | [d1, d2, d3] => { results := [.lit (.bool true)], args := [d1, d2, d3] }
  | _ => none }
def fnExactLayBackRow : OpenClaim := { program := "yteglfdcoeogilab", sum := "c668475ab4b40d20c39a7790b1d97ce588d0015b2250d75ac279745911263a3f", func := "loop.example/pannage/laws.FnExactLayBack", spec := "fnExactLayBack", apart := false }
def FnExactLayBackSaid : Prop := fnExactLayBackRow.holds Try.pinned (OpenSpec.ofChange fnExactLayBackSpec)

/-- ITS FALSE NEIGHBOUR: 'it returns false'. Refute it at one input. -/
def fnExactLayBackWrong : ChangeSpec := { name := "fnExactLayBack", fn := fun _ => fun
  | [d1, d2, d3] => { results := [.lit (.bool false)], args := [d1, d2, d3] }
  | _ => none }
def FnExactLayBackWrongFalsely : Prop := fnExactLayBackRow.holds Try.pinned (OpenSpec.ofChange fnExactLayBackWrong)

/-- 'laws.FnExactLayParts': WHATEVER THE INPUT: true; the input reads as it did. -/
def fnExactLayPartsSpec : ChangeSpec := { name := "fnExactLayParts", fn := fun _ => fun
  | [d1, d2] => { results := [.lit (.bool true)], args := [d1, d2] }
  | _ => none }
def fnExactLayPartsRow : OpenClaim := { program := "yteglfdcoeogilab", sum := "c668475ab4b40d20c39a7790b1d97ce588d0015b2250d75ac279745911263a3f", func := "loop.example/pannage/laws.FnExactLayParts", spec := "fnExactLayParts", unfollowed := true, recurses := true, apart := false }
def FnExactLayPartsSaid : Prop := fnExactLayPartsRow.holds Try.pinned (OpenSpec.ofChange fnExactLayPartsSpec)

/-- ITS FALSE NEIGHBOUR: 'it returns false'. Refute it at one input. -/
def fnExactLayPartsWrong : ChangeSpec := { name := "fnExactLayParts", fn := fun _ => fun
  | [d1, d2] => { results := [.lit (.bool false)], args := [d1, d2] }
  | _ => none }
def FnExactLayPartsWrongFalsely : Prop := fnExactLayPartsRow.holds Try.pinned (OpenSpec.ofChange fnExactLayPartsWrong)

/-- 'laws.FnExactLayOf': WHATEVER THE INPUT: true; the input reads as it did. -/
def fnExactLayOfSpec : ChangeSpec := { name := "fnExactLayOf", fn := fun _ => fun
  | [d1, d2] => { results := [.lit (.bool true)], args := [d1, d2] }
  | _ => none }
def fnExactLayOfRow : OpenClaim := { program := "yteglfdcoeogilab", sum := "c668475ab4b40d20c39a7790b1d97ce588d0015b2250d75ac279745911263a3f", func := "loop.example/pannage/laws.FnExactLayOf", spec := "fnExactLayOf", unfollowed := true, recurses := true, apart := false }
def FnExactLayOfSaid : Prop := fnExactLayOfRow.holds Try.pinned (OpenSpec.ofChange fnExactLayOfSpec)

/-- ITS FALSE NEIGHBOUR: 'it returns false'. Refute it at one input. -/
def fnExactLayOfWrong : ChangeSpec := { name := "fnExactLayOf", fn := fun _ => fun
  | [d1, d2] => { results := [.lit (.bool false)], args := [d1, d2] }
  | _ => none }
def FnExactLayOfWrongFalsely : Prop := fnExactLayOfRow.holds Try.pinned (OpenSpec.ofChange fnExactLayOfWrong)

/-- 'laws.FnExactLayLong': WHATEVER THE INPUT: true; the input reads as it did. -/
def fnExactLayLongSpec : ChangeSpec := { name := "fnExactLayLong", fn := fun _ => fun
  | [d1, d2] => { results := [.lit (.bool true)], args := [d1, d2] }
  | _ => none }
def fnExactLayLongRow : OpenClaim := { program := "yteglfdcoeogilab", sum := "c668475ab4b40d20c39a7790b1d97ce588d0015b2250d75ac279745911263a3f", func := "loop.example/pannage/laws.FnExactLayLong", spec := "fnExactLayLong", apart := false }
def FnExactLayLongSaid : Prop := fnExactLayLongRow.holds Try.pinned (OpenSpec.ofChange fnExactLayLongSpec)

/-- ITS FALSE NEIGHBOUR: 'it returns false'. Refute it at one input. -/
def fnExactLayLongWrong : ChangeSpec := { name := "fnExactLayLong", fn := fun _ => fun
  | [d1, d2] => { results := [.lit (.bool false)], args := [d1, d2] }
  | _ => none }
def FnExactLayLongWrongFalsely : Prop := fnExactLayLongRow.holds Try.pinned (OpenSpec.ofChange fnExactLayLongWrong)

/-- 'laws.FnExactLayText': WHATEVER THE INPUT: true; the input reads as it did. -/
def fnExactLayTextSpec : ChangeSpec := { name := "fnExactLayText", fn := fun _ => fun
  | [d1, d2] => { results := [.lit (.bool true)], args := [d1, d2] }
  | _ => none }
def fnExactLayTextRow : OpenClaim := { program := "yteglfdcoeogilab", sum := "c668475ab4b40d20c39a7790b1d97ce588d0015b2250d75ac279745911263a3f", func := "loop.example/pannage/laws.FnExactLayText", spec := "fnExactLayText", unfollowed := true, recurses := true, apart := false }
def FnExactLayTextSaid : Prop := fnExactLayTextRow.holds Try.pinned (OpenSpec.ofChange fnExactLayTextSpec)

/-- ITS FALSE NEIGHBOUR: 'it returns false'. Refute it at one input. -/
def fnExactLayTextWrong : ChangeSpec := { name := "fnExactLayText", fn := fun _ => fun
  | [d1, d2] => { results := [.lit (.bool false)], args := [d1, d2] }
  | _ => none }
def FnExactLayTextWrongFalsely : Prop := fnExactLayTextRow.holds Try.pinned (OpenSpec.ofChange fnExactLayTextWrong)

/- THE SECOND FORM. 'bulk': how many values and letters a reading holds, each counted each time it is reached (what is shared counts as often as it is met; a slice's spare places count too). A statement '..UptoSaid' is the law's where the arguments, and the package variables that the reading takes, are together of bulk at most 1048576: NARROWER than '..Said'. Prove '..Said' where nothing that the law and all that it calls make is longer than what came in: it says more and counts as full. Else prove '..UptoSaid'. A law counts once. -/
mutual
def uptoBulk {H : Type} : DataW H → Nat
  | .lit (.string bytes) => bytes.length + 1
  | .lit _ => 1
  | .nil => 1
  | .ptr d => uptoBulk d + 1
  | .slice elems spare => uptoBulkAll elems + uptoBulkAll spare + 1
  | .agg parts => uptoBulkAll parts + 1
  | .iface _ d => uptoBulk d + 1
  | .map entries => uptoBulkEntries entries + 1
  | .held _ => 1
def uptoBulkAll {H : Type} : List (DataW H) → Nat
  | [] => 0
  | d :: r => uptoBulk d + uptoBulkAll r
def uptoBulkEntries {H : Type} : List (Lit × DataW H) → Nat
  | [] => 0
  | x :: r => uptoBulkEntry x + uptoBulkEntries r
def uptoBulkEntry {H : Type} : Lit × DataW H → Nat
  | (.string bytes, d) => bytes.length + uptoBulk d + 1
  | (_, d) => uptoBulk d + 1
 end
def uptoSmall : (H : Type) → List (DataW H) → Bool := fun _ ds => decide (uptoBulkAll ds ≤ 1048576)
def OpenSpec.upto (s : _root_.Go.ChangeSpec) : _root_.Go.OpenSpec := { _root_.Go.OpenSpec.ofChange s with cond := some uptoSmall }

/-- 'laws.FnLayBent', WHERE WHAT IT READS IS OF BULK AT MOST 1048576: true; the input reads as it did. -/
def fnLayBentUptoRow : OpenClaim := { program := "yteglfdcoeogilab", sum := "c668475ab4b40d20c39a7790b1d97ce588d0015b2250d75ac279745911263a3f", func := "loop.example/pannage/laws.FnLayBent", spec := "fnLayBent", unfollowed := true, recurses := true, apart := false, narrowed := true }
def FnLayBentUptoSaid : Prop := fnLayBentUptoRow.holds Try.pinned (OpenSpec.upto fnLayBentSpec)

/-- 'laws.FnExactLayOk', WHERE WHAT IT READS IS OF BULK AT MOST 1048576: true; the input reads as it did. -/
def fnExactLayOkUptoRow : OpenClaim := { program := "yteglfdcoeogilab", sum := "c668475ab4b40d20c39a7790b1d97ce588d0015b2250d75ac279745911263a3f", func := "loop.example/pannage/laws.FnExactLayOk", spec := "fnExactLayOk", apart := false, narrowed := true }
def FnExactLayOkUptoSaid : Prop := fnExactLayOkUptoRow.holds Try.pinned (OpenSpec.upto fnExactLayOkSpec)

/-- 'laws.FnExactLayAt', WHERE WHAT IT READS IS OF BULK AT MOST 1048576: true; the input reads as it did. -/
def fnExactLayAtUptoRow : OpenClaim := { program := "yteglfdcoeogilab", sum := "c668475ab4b40d20c39a7790b1d97ce588d0015b2250d75ac279745911263a3f", func := "loop.example/pannage/laws.FnExactLayAt", spec := "fnExactLayAt", apart := false, narrowed := true }
def FnExactLayAtUptoSaid : Prop := fnExactLayAtUptoRow.holds Try.pinned (OpenSpec.upto fnExactLayAtSpec)

/-- 'laws.FnExactLayBack', WHERE WHAT IT READS IS OF BULK AT MOST 1048576: true; the input reads as it did. -/
def fnExactLayBackUptoRow : OpenClaim := { program := "yteglfdcoeogilab", sum := "c668475ab4b40d20c39a7790b1d97ce588d0015b2250d75ac279745911263a3f", func := "loop.example/pannage/laws.FnExactLayBack", spec := "fnExactLayBack", apart := false, narrowed := true }
def FnExactLayBackUptoSaid : Prop := fnExactLayBackUptoRow.holds Try.pinned (OpenSpec.upto fnExactLayBackSpec)

/-- 'laws.FnExactLayParts', WHERE WHAT IT READS IS OF BULK AT MOST 1048576: true; the input reads as it did. -/
def fnExactLayPartsUptoRow : OpenClaim := { program := "yteglfdcoeogilab", sum := "c668475ab4b40d20c39a7790b1d97ce588d0015b2250d75ac279745911263a3f", func := "loop.example/pannage/laws.FnExactLayParts", spec := "fnExactLayParts", unfollowed := true, recurses := true, apart := false, narrowed := true }
def FnExactLayPartsUptoSaid : Prop := fnExactLayPartsUptoRow.holds Try.pinned (OpenSpec.upto fnExactLayPartsSpec)

/-- 'laws.FnExactLayOf', WHERE WHAT IT READS IS OF BULK AT MOST 1048576: true; the input reads as it did. -/
def fnExactLayOfUptoRow : OpenClaim := { program := "yteglfdcoeogilab", sum := "c668475ab4b40d20c39a7790b1d97ce588d0015b2250d75ac279745911263a3f", func := "loop.example/pannage/laws.FnExactLayOf", spec := "fnExactLayOf", unfollowed := true, recurses := true, apart := false, narrowed := true }
def FnExactLayOfUptoSaid : Prop := fnExactLayOfUptoRow.holds Try.pinned (OpenSpec.upto fnExactLayOfSpec)

/-- 'laws.FnExactLayLong', WHERE WHAT IT READS IS OF BULK AT MOST 1048576: true; the input reads as it did. -/
def fnExactLayLongUptoRow : OpenClaim := { program := "yteglfdcoeogilab", sum := "c668475ab4b40d20c39a7790b1d97ce588d0015b2250d75ac279745911263a3f", func := "loop.example/pannage/laws.FnExactLayLong", spec := "fnExactLayLong", apart := false, narrowed := true }
def FnExactLayLongUptoSaid : Prop := fnExactLayLongUptoRow.holds Try.pinned (OpenSpec.upto fnExactLayLongSpec)

/-- 'laws.FnExactLayText', WHERE WHAT IT READS IS OF BULK AT MOST 1048576: true; the input reads as it did. -/
def fnExactLayTextUptoRow : OpenClaim := { program := "yteglfdcoeogilab", sum := "c668475ab4b40d20c39a7790b1d97ce588d0015b2250d75ac279745911263a3f", func := "loop.example/pannage/laws.FnExactLayText", spec := "fnExactLayText", unfollowed := true, recurses := true, apart := false, narrowed := true }
def FnExactLayTextUptoSaid : Prop := fnExactLayTextUptoRow.holds Try.pinned (OpenSpec.upto fnExactLayTextSpec)

end Rows
end Go.Proofs.Yteglfdcoeogilab
