/-
  No cell of these rows narrows 'for every input' (looked for: loops, veiled, ifaces, maps, wideKeys, modest, calm, conditions, laid).
  DERIVED. THE GIVEN ROWS OF THIS SEAT. 6 by the template 'for every input the law returns true; each argument reads behind the call as it read before'; 0 by the template 'total and deterministic' (their statements: YtehpmdmfolmaoacTotals.lean).
  GIVEN WITH THE SEED: the statements are not yours to turn. If you find one false, say at which input.
  Laid BY PROGRAM, IN A SANDBOX (cutbox-rows.mjs): the forced cells as the released guide's own fill.sh prints them over the translation 02dc7547ee7709cf… (all of the seat's roots in one cut). By AI agents, Wed Nov 11 2026. No macro, syntax, notation, axiom, sorry.
-/
import Derived.Test.YtehpmdmfolmaoacChecked
import GoSem.Claim
import GoSem.ClaimJoined
import GoSem.ClaimMapViews
import Derived.JoinedTies
import Derived.KernelRfl
namespace Go.Proofs.Ytehpmdmfolmaoac
/- THE CELL 'sum', in the pinned program and in every row, IS THE sha256 OF THE DUMP (.gsa) THAT YtehpmdmfolmaoacProg.lean LOADS. Nothing in Lean hashes anything: it is a label: what it is worth is what the hold of that sum in a sandbox is worth. -/
noncomputable def Try.pinned : Pinned := { name := "ytehpmdmfolmaoac", sum := "02dc7547ee7709cfb7189c7901ee6450cdeed3504a81b9c27131230a88dacf1e", checked := Try.checked }
namespace Rows
def none {H : Type} : Left H := { results := [], args := [] }

/-- 'laws.FnExactSpansMany': WHATEVER THE INPUT: true; the input reads as it did. -/
def fnExactSpansManySpec : ChangeSpec := { name := "fnExactSpansMany", fn := fun _ => fun
  | [d] => { results := [.lit (.bool true)], args := [d] }
  | _ => none }
def fnExactSpansManyRow : OpenClaim := { program := "ytehpmdmfolmaoac", sum := "02dc7547ee7709cfb7189c7901ee6450cdeed3504a81b9c27131230a88dacf1e", func := "loop.example/pannage/laws.FnExactSpansMany", spec := "fnExactSpansMany", apart := false }
def FnExactSpansManySaid : Prop := fnExactSpansManyRow.holds Try.pinned (OpenSpec.ofChange fnExactSpansManySpec)

/-- ITS FALSE NEIGHBOUR: 'it returns false'. Refute it at one input. -/
def fnExactSpansManyWrong : ChangeSpec := { name := "fnExactSpansMany", fn := fun _ => fun
  | [d] => { results := [.lit (.bool false)], args := [d] }
  | _ => none }
def FnExactSpansManyWrongFalsely : Prop := fnExactSpansManyRow.holds Try.pinned (OpenSpec.ofChange fnExactSpansManyWrong)

/-- 'laws.FnExactTextOk': WHATEVER THE INPUT: true; the input reads as it did. -/
def fnExactTextOkSpec : ChangeSpec := { name := "fnExactTextOk", fn := fun _ => fun
  | [d] => { results := [.lit (.bool true)], args := [d] }
  | _ => none }
def fnExactTextOkRow : OpenClaim := { program := "ytehpmdmfolmaoac", sum := "02dc7547ee7709cfb7189c7901ee6450cdeed3504a81b9c27131230a88dacf1e", func := "loop.example/pannage/laws.FnExactTextOk", spec := "fnExactTextOk", apart := false }
def FnExactTextOkSaid : Prop := fnExactTextOkRow.holds Try.pinned (OpenSpec.ofChange fnExactTextOkSpec)

/-- ITS FALSE NEIGHBOUR: 'it returns false'. Refute it at one input. -/
def fnExactTextOkWrong : ChangeSpec := { name := "fnExactTextOk", fn := fun _ => fun
  | [d] => { results := [.lit (.bool false)], args := [d] }
  | _ => none }
def FnExactTextOkWrongFalsely : Prop := fnExactTextOkRow.holds Try.pinned (OpenSpec.ofChange fnExactTextOkWrong)

/-- 'laws.FnExactTextRead': WHATEVER THE INPUT: true; the input reads as it did. -/
def fnExactTextReadSpec : ChangeSpec := { name := "fnExactTextRead", fn := fun _ => fun
  | [d1, d2] => { results := [.lit (.bool true)], args := [d1, d2] }
  | _ => none }
def fnExactTextReadRow : OpenClaim := { program := "ytehpmdmfolmaoac", sum := "02dc7547ee7709cfb7189c7901ee6450cdeed3504a81b9c27131230a88dacf1e", func := "loop.example/pannage/laws.FnExactTextRead", spec := "fnExactTextRead", apart := false }
def FnExactTextReadSaid : Prop := fnExactTextReadRow.holds Try.pinned (OpenSpec.ofChange fnExactTextReadSpec)

/-- ITS FALSE NEIGHBOUR: 'it returns false'. Refute it at one input. -/
def fnExactTextReadWrong : ChangeSpec := { name := "fnExactTextRead", fn := fun _ => fun
  | [d1, d2] => { results := [.lit (.bool false)], args := [d1, d2] }
  | _ => none }
def FnExactTextReadWrongFalsely : Prop := fnExactTextReadRow.holds Try.pinned (OpenSpec.ofChange fnExactTextReadWrong)

/-- 'laws.FnExactTextWrite': WHATEVER THE INPUT: true; the input reads as it did. -/
def fnExactTextWriteSpec : ChangeSpec := { name := "fnExactTextWrite", fn := fun _ => fun
  | [d1, d2, d3] => { results := [.lit (.bool true)], args := [d1, d2, d3] }
  | _ => none }
def fnExactTextWriteRow : OpenClaim := { program := "ytehpmdmfolmaoac", sum := "02dc7547ee7709cfb7189c7901ee6450cdeed3504a81b9c27131230a88dacf1e", func := "loop.example/pannage/laws.FnExactTextWrite", spec := "fnExactTextWrite", unfollowed := true, recurses := true, apart := false }
def FnExactTextWriteSaid : Prop := fnExactTextWriteRow.holds Try.pinned (OpenSpec.ofChange fnExactTextWriteSpec)

/-- ITS FALSE NEIGHBOUR: 'it returns false'. Refute it at one input. -/
def fnExactTextWriteWrong : ChangeSpec := { name := "fnExactTextWrite", fn := fun _ => fun
  | [d1, d2, d3] => { results := [.lit (.bool false)], args := [d1, d2, d3] }
  | _ => none }
def FnExactTextWriteWrongFalsely : Prop := fnExactTextWriteRow.holds Try.pinned (OpenSpec.ofChange fnExactTextWriteWrong)

/-- 'laws.FnExactTextCut': WHATEVER THE INPUT: true; the input reads as it did. -/
def fnExactTextCutSpec : ChangeSpec := { name := "fnExactTextCut", fn := fun _ => fun
  | [d1, d2] => { results := [.lit (.bool true)], args := [d1, d2] }
  | _ => none }
def fnExactTextCutRow : OpenClaim := { program := "ytehpmdmfolmaoac", sum := "02dc7547ee7709cfb7189c7901ee6450cdeed3504a81b9c27131230a88dacf1e", func := "loop.example/pannage/laws.FnExactTextCut", spec := "fnExactTextCut", unfollowed := true, recurses := true, apart := false }
def FnExactTextCutSaid : Prop := fnExactTextCutRow.holds Try.pinned (OpenSpec.ofChange fnExactTextCutSpec)

/-- ITS FALSE NEIGHBOUR: 'it returns false'. Refute it at one input. -/
def fnExactTextCutWrong : ChangeSpec := { name := "fnExactTextCut", fn := fun _ => fun
  | [d1, d2] => { results := [.lit (.bool false)], args := [d1, d2] }
  | _ => none }
def FnExactTextCutWrongFalsely : Prop := fnExactTextCutRow.holds Try.pinned (OpenSpec.ofChange fnExactTextCutWrong)

/-- 'laws.FnExactTextAll': WHATEVER THE INPUT: true; the input reads as it did. -/
def fnExactTextAllSpec : ChangeSpec := { name := "fnExactTextAll", fn := fun _ => fun
  | [d1, d2] => { results := [.lit (.bool true)], args := [d1, d2] }
  | _ => none }
def fnExactTextAllRow : OpenClaim := { program := "ytehpmdmfolmaoac", sum := "02dc7547ee7709cfb7189c7901ee6450cdeed3504a81b9c27131230a88dacf1e", func := "loop.example/pannage/laws.FnExactTextAll", spec := "fnExactTextAll", unfollowed := true, recurses := true, apart := false }
def FnExactTextAllSaid : Prop := fnExactTextAllRow.holds Try.pinned (OpenSpec.ofChange fnExactTextAllSpec)

/-- ITS FALSE NEIGHBOUR: 'it returns false'. Refute it at one input. -/
def fnExactTextAllWrong : ChangeSpec := { name := "fnExactTextAll", fn := fun _ => fun
  | [d1, d2] => { results := [.lit (.bool false)], args := [d1, d2] }
  | _ => none }
def FnExactTextAllWrongFalsely : Prop := fnExactTextAllRow.holds Try.pinned (OpenSpec.ofChange fnExactTextAllWrong)

/- THE SECOND FORM. 'bulk': how many values and letters a reading holds, each counted each time it is reached (what is shared counts as often as it is met; a slice's spare places count too). A statement '..UptoSaid' is the law's where the arguments, and the package variables that the reading takes, are together of bulk at most 1048576: NARROWER than '..Said'. Prove '..Said' where nothing that the law and all that it calls make is longer than what came in: it says more and counts as full. Else prove '..UptoSaid'. A law counts once. -/
mutual
def uptoBulk {H : Type} : DataW H → Nat
  | .lit (.string bytes) => bytes.length + 1
  | .lit _ => 1
  | .nil => 1
  | .ptr d => uptoBulk d + 1
  | .slice elems spare => uptoBulkAll elems + uptoBulkAll spare + 1
  | .agg parts => uptoBulkAll parts + 1
  | .iface _ d => uptoBulk d + 1
  | .map entries => uptoBulkEntries entries + 1
  | .held _ => 1
def uptoBulkAll {H : Type} : List (DataW H) → Nat
  | [] => 0
  | d :: r => uptoBulk d + uptoBulkAll r
def uptoBulkEntries {H : Type} : List (Lit × DataW H) → Nat
  | [] => 0
  | x :: r => uptoBulkEntry x + uptoBulkEntries r
def uptoBulkEntry {H : Type} : Lit × DataW H → Nat
  | (.string bytes, d) => bytes.length + uptoBulk d + 1
  | (_, d) => uptoBulk d + 1
 end
def uptoSmall : (H : Type) → List (DataW H) → Bool := fun _ ds => decide (uptoBulkAll ds ≤ 1048576)
def OpenSpec.upto (s : _root_.Go.ChangeSpec) : _root_.Go.OpenSpec := { _root_.Go.OpenSpec.ofChange s with cond := some uptoSmall }

/-- 'laws.FnExactSpansMany', WHERE WHAT IT READS IS OF BULK AT MOST 1048576: true; the input reads as it did. -/
def fnExactSpansManyUptoRow : OpenClaim := { program := "ytehpmdmfolmaoac", sum := "02dc7547ee7709cfb7189c7901ee6450cdeed3504a81b9c27131230a88dacf1e", func := "loop.example/pannage/laws.FnExactSpansMany", spec := "fnExactSpansMany", apart := false, narrowed := true }
def FnExactSpansManyUptoSaid : Prop := fnExactSpansManyUptoRow.holds Try.pinned (OpenSpec.upto fnExactSpansManySpec)

/-- 'laws.FnExactTextOk', WHERE WHAT IT READS IS OF BULK AT MOST 1048576: true; the input reads as it did. -/
def fnExactTextOkUptoRow : OpenClaim := { program := "ytehpmdmfolmaoac", sum := "02dc7547ee7709cfb7189c7901ee6450cdeed3504a81b9c27131230a88dacf1e", func := "loop.example/pannage/laws.FnExactTextOk", spec := "fnExactTextOk", apart := false, narrowed := true }
def FnExactTextOkUptoSaid : Prop := fnExactTextOkUptoRow.holds Try.pinned (OpenSpec.upto fnExactTextOkSpec)

/-- 'laws.FnExactTextRead', WHERE WHAT IT READS IS OF BULK AT MOST 1048576: true; the input reads as it did. -/
def fnExactTextReadUptoRow : OpenClaim := { program := "ytehpmdmfolmaoac", sum := "02dc7547ee7709cfb7189c7901ee6450cdeed3504a81b9c27131230a88dacf1e", func := "loop.example/pannage/laws.FnExactTextRead", spec := "fnExactTextRead", apart := false, narrowed := true }
def FnExactTextReadUptoSaid : Prop := fnExactTextReadUptoRow.holds Try.pinned (OpenSpec.upto fnExactTextReadSpec)

/-- 'laws.FnExactTextWrite', WHERE WHAT IT READS IS OF BULK AT MOST 1048576: true; the input reads as it did. -/
def fnExactTextWriteUptoRow : OpenClaim := { program := "ytehpmdmfolmaoac", sum := "02dc7547ee7709cfb7189c7901ee6450cdeed3504a81b9c27131230a88dacf1e", func := "loop.example/pannage/laws.FnExactTextWrite", spec := "fnExactTextWrite", unfollowed := true, recurses := true, apart := false, narrowed := true }
def FnExactTextWriteUptoSaid : Prop := fnExactTextWriteUptoRow.holds Try.pinned (OpenSpec.upto fnExactTextWriteSpec)

/-- 'laws.FnExactTextCut', WHERE WHAT IT READS IS OF BULK AT MOST 1048576: true; the input reads as it did. -/
def fnExactTextCutUptoRow : OpenClaim := { program := "ytehpmdmfolmaoac", sum := "02dc7547ee7709cfb7189c7901ee6450cdeed3504a81b9c27131230a88dacf1e", func := "loop.example/pannage/laws.FnExactTextCut", spec := "fnExactTextCut", unfollowed := true, recurses := true, apart := false, narrowed := true }
def FnExactTextCutUptoSaid : Prop := fnExactTextCutUptoRow.holds Try.pinned (OpenSpec.upto fnExactTextCutSpec)

/-- 'laws.FnExactTextAll', WHERE WHAT IT READS IS OF BULK AT MOST 1048576: true; the input reads as it did. -/
def fnExactTextAllUptoRow : OpenClaim := { program := "ytehpmdmfolmaoac", sum := "02dc7547ee7709cfb7189c7901ee6450cdeed3504a81b9c27131230a88dacf1e", func := "loop.example/pannage/laws.FnExactTextAll", spec := "fnExactTextAll", unfollowed := true, recurses := true, apart := false, narrowed := true }
def FnExactTextAllUptoSaid : Prop := fnExactTextAllUptoRow.holds Try.pinned (OpenSpec.upto fnExactTextAllSpec)

end Rows
end Go.Proofs.Ytehpmdmfolmaoac
