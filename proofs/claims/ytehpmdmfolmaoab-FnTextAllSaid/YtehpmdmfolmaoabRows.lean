/-
  No cell of these rows narrows 'for every input' (looked for: loops, veiled, ifaces, maps, wideKeys, modest, calm, conditions, laid).
  DERIVED. THE GIVEN ROWS OF THIS SEAT. 8 by the template 'for every input the law returns true; each argument reads behind the call as it read before'; 0 by the template 'total and deterministic' (their statements: YtehpmdmfolmaoabTotals.lean).
  GIVEN WITH THE SEED: the statements are not yours to turn. If you find one false, say at which input.
  Laid BY PROGRAM, IN A SANDBOX (cutbox-rows.mjs): the forced cells as the released guide's own fill.sh prints them over the translation 0bcb6c3a76be5c2c… (all of the seat's roots in one cut). By AI agents, Wed Nov 11 2026. No macro, syntax, notation, axiom, sorry.
-/
import Derived.Test.YtehpmdmfolmaoabChecked
import GoSem.Claim
import GoSem.ClaimJoined
import GoSem.ClaimMapViews
import Derived.JoinedTies
import Derived.KernelRfl
namespace Go.Proofs.Ytehpmdmfolmaoab
/- THE CELL 'sum', in the pinned program and in every row, IS THE sha256 OF THE DUMP (.gsa) THAT YtehpmdmfolmaoabProg.lean LOADS. Nothing in Lean hashes anything: it is a label: what it is worth is what the hold of that sum in a sandbox is worth. -/
noncomputable def Try.pinned : Pinned := { name := "ytehpmdmfolmaoab", sum := "0bcb6c3a76be5c2cf13f55fd46a95f0e4e33b5271467c5ae7345b077649beacc", checked := Try.checked }
namespace Rows
def none {H : Type} : Left H := { results := [], args := [] }

/-- 'laws.FnTextAll': WHATEVER THE INPUT: true; the input reads as it did. -/
def fnTextAllSpec : ChangeSpec := { name := "fnTextAll", fn := fun _ => fun
  | [d] => { results := [.lit (.bool true)], args := [d] }
  | _ => none }
def fnTextAllRow : OpenClaim := { program := "ytehpmdmfolmaoab", sum := "0bcb6c3a76be5c2cf13f55fd46a95f0e4e33b5271467c5ae7345b077649beacc", func := "loop.example/pannage/laws.FnTextAll", spec := "fnTextAll", unfollowed := true, recurses := true, apart := false }
def FnTextAllSaid : Prop := fnTextAllRow.holds Try.pinned (OpenSpec.ofChange fnTextAllSpec)

/-- ITS FALSE NEIGHBOUR: 'it returns false'. Refute it at one input. -/
def fnTextAllWrong : ChangeSpec := { name := "fnTextAll", fn := fun _ => fun
  | [d] => { results := [.lit (.bool false)], args := [d] }
  | _ => none }
def FnTextAllWrongFalsely : Prop := fnTextAllRow.holds Try.pinned (OpenSpec.ofChange fnTextAllWrong)

/-- 'laws.FnTextLong': WHATEVER THE INPUT: true; the input reads as it did. -/
def fnTextLongSpec : ChangeSpec := { name := "fnTextLong", fn := fun _ => fun
  | [d] => { results := [.lit (.bool true)], args := [d] }
  | _ => none }
def fnTextLongRow : OpenClaim := { program := "ytehpmdmfolmaoab", sum := "0bcb6c3a76be5c2cf13f55fd46a95f0e4e33b5271467c5ae7345b077649beacc", func := "loop.example/pannage/laws.FnTextLong", spec := "fnTextLong", unfollowed := true, recurses := true, apart := false }
def FnTextLongSaid : Prop := fnTextLongRow.holds Try.pinned (OpenSpec.ofChange fnTextLongSpec)

/-- ITS FALSE NEIGHBOUR: 'it returns false'. Refute it at one input. -/
def fnTextLongWrong : ChangeSpec := { name := "fnTextLong", fn := fun _ => fun
  | [d] => { results := [.lit (.bool false)], args := [d] }
  | _ => none }
def FnTextLongWrongFalsely : Prop := fnTextLongRow.holds Try.pinned (OpenSpec.ofChange fnTextLongWrong)

/-- 'laws.FnTextBack': WHATEVER THE INPUT: true; the input reads as it did. -/
def fnTextBackSpec : ChangeSpec := { name := "fnTextBack", fn := fun _ => fun
  | [d] => { results := [.lit (.bool true)], args := [d] }
  | _ => none }
def fnTextBackRow : OpenClaim := { program := "ytehpmdmfolmaoab", sum := "0bcb6c3a76be5c2cf13f55fd46a95f0e4e33b5271467c5ae7345b077649beacc", func := "loop.example/pannage/laws.FnTextBack", spec := "fnTextBack", unfollowed := true, recurses := true, apart := false }
def FnTextBackSaid : Prop := fnTextBackRow.holds Try.pinned (OpenSpec.ofChange fnTextBackSpec)

/-- ITS FALSE NEIGHBOUR: 'it returns false'. Refute it at one input. -/
def fnTextBackWrong : ChangeSpec := { name := "fnTextBack", fn := fun _ => fun
  | [d] => { results := [.lit (.bool false)], args := [d] }
  | _ => none }
def FnTextBackWrongFalsely : Prop := fnTextBackRow.holds Try.pinned (OpenSpec.ofChange fnTextBackWrong)

/-- 'laws.FnTextSplit': WHATEVER THE INPUT: true; the input reads as it did. -/
def fnTextSplitSpec : ChangeSpec := { name := "fnTextSplit", fn := fun _ => fun
  | [d1, d2] => { results := [.lit (.bool true)], args := [d1, d2] }
  | _ => none }
def fnTextSplitRow : OpenClaim := { program := "ytehpmdmfolmaoab", sum := "0bcb6c3a76be5c2cf13f55fd46a95f0e4e33b5271467c5ae7345b077649beacc", func := "loop.example/pannage/laws.FnTextSplit", spec := "fnTextSplit", unfollowed := true, recurses := true, apart := false }
def FnTextSplitSaid : Prop := fnTextSplitRow.holds Try.pinned (OpenSpec.ofChange fnTextSplitSpec)

/-- ITS FALSE NEIGHBOUR: 'it returns false'. Refute it at one input. -/
def fnTextSplitWrong : ChangeSpec := { name := "fnTextSplit", fn := fun _ => fun
  | [d1, d2] => { results := [.lit (.bool false)], args := [d1, d2] }
  | _ => none }
def FnTextSplitWrongFalsely : Prop := fnTextSplitRow.holds Try.pinned (OpenSpec.ofChange fnTextSplitWrong)

/-- 'laws.FnExactSpanOk': WHATEVER THE INPUT: true; the input reads as it did. -/
def fnExactSpanOkSpec : ChangeSpec := { name := "fnExactSpanOk", fn := fun _ => fun
  | [d] => { results := [.lit (.bool true)], args := [d] }
  | _ => none }
def fnExactSpanOkRow : OpenClaim := { program := "ytehpmdmfolmaoab", sum := "0bcb6c3a76be5c2cf13f55fd46a95f0e4e33b5271467c5ae7345b077649beacc", func := "loop.example/pannage/laws.FnExactSpanOk", spec := "fnExactSpanOk", apart := false }
def FnExactSpanOkSaid : Prop := fnExactSpanOkRow.holds Try.pinned (OpenSpec.ofChange fnExactSpanOkSpec)

/-- ITS FALSE NEIGHBOUR: 'it returns false'. Refute it at one input. -/
def fnExactSpanOkWrong : ChangeSpec := { name := "fnExactSpanOk", fn := fun _ => fun
  | [d] => { results := [.lit (.bool false)], args := [d] }
  | _ => none }
def FnExactSpanOkWrongFalsely : Prop := fnExactSpanOkRow.holds Try.pinned (OpenSpec.ofChange fnExactSpanOkWrong)

/-- 'laws.FnExactSpanMeet': WHATEVER THE INPUT: true; the input reads as it did. -/
def fnExactSpanMeetSpec : ChangeSpec := { name := "fnExactSpanMeet", fn := fun _ => fun
  | [d1, d2] => { results := [.lit (.bool true)], args := [d1, d2] }
  | _ => none }
def fnExactSpanMeetRow : OpenClaim := { program := "ytehpmdmfolmaoab", sum := "0bcb6c3a76be5c2cf13f55fd46a95f0e4e33b5271467c5ae7345b077649beacc", func := "loop.example/pannage/laws.FnExactSpanMeet", spec := "fnExactSpanMeet", apart := false }
def FnExactSpanMeetSaid : Prop := fnExactSpanMeetRow.holds Try.pinned (OpenSpec.ofChange fnExactSpanMeetSpec)

/-- ITS FALSE NEIGHBOUR: 'it returns false'. Refute it at one input. -/
def fnExactSpanMeetWrong : ChangeSpec := { name := "fnExactSpanMeet", fn := fun _ => fun
  | [d1, d2] => { results := [.lit (.bool false)], args := [d1, d2] }
  | _ => none }
def FnExactSpanMeetWrongFalsely : Prop := fnExactSpanMeetRow.holds Try.pinned (OpenSpec.ofChange fnExactSpanMeetWrong)

/-- 'laws.FnExactSpansOk': WHATEVER THE INPUT: true; the input reads as it did. -/
def fnExactSpansOkSpec : ChangeSpec := { name := "fnExactSpansOk", fn := fun _ => fun
  | [d] => { results := [.lit (.bool true)], args := [d] }
  | _ => none }
def fnExactSpansOkRow : OpenClaim := { program := "ytehpmdmfolmaoab", sum := "0bcb6c3a76be5c2cf13f55fd46a95f0e4e33b5271467c5ae7345b077649beacc", func := "loop.example/pannage/laws.FnExactSpansOk", spec := "fnExactSpansOk", apart := false }
def FnExactSpansOkSaid : Prop := fnExactSpansOkRow.holds Try.pinned (OpenSpec.ofChange fnExactSpansOkSpec)

/-- ITS FALSE NEIGHBOUR: 'it returns false'. Refute it at one input. -/
def fnExactSpansOkWrong : ChangeSpec := { name := "fnExactSpansOk", fn := fun _ => fun
  | [d] => { results := [.lit (.bool false)], args := [d] }
  | _ => none }
def FnExactSpansOkWrongFalsely : Prop := fnExactSpansOkRow.holds Try.pinned (OpenSpec.ofChange fnExactSpansOkWrong)

/-- 'laws.FnExactSpansHave': WHATEVER THE INPUT: true; the input reads as it did. -/
def fnExactSpansHaveSpec : ChangeSpec := { name := "fnExactSpansHave", fn := fun _ => fun
  | [d1, d2] => { results := [.lit (.bool true)], args := [d1, d2] }
  | _ => none }
def fnExactSpansHaveRow : OpenClaim := { program := "ytehpmdmfolmaoab", sum := "0bcb6c3a76be5c2cf13f55fd46a95f0e4e33b5271467c5ae7345b077649beacc", func := "loop.example/pannage/laws.FnExactSpansHave", spec := "fnExactSpansHave", apart := false }
def FnExactSpansHaveSaid : Prop := fnExactSpansHaveRow.holds Try.pinned (OpenSpec.ofChange fnExactSpansHaveSpec)

/-- ITS FALSE NEIGHBOUR: 'it returns false'. Refute it at one input. -/
def fnExactSpansHaveWrong : ChangeSpec := { name := "fnExactSpansHave", fn := fun _ => fun
  | [d1, d2] => { results := [.lit (.bool false)], args := [d1, d2] }
  | _ => none }
def FnExactSpansHaveWrongFalsely : Prop := fnExactSpansHaveRow.holds Try.pinned (OpenSpec.ofChange fnExactSpansHaveWrong)

/- THE SECOND FORM. 'bulk': how many values and letters a reading holds, each counted each time it is reached (what is shared counts as often as it is met; a slice's spare places count too). A statement '..UptoSaid' is the law's where the arguments, and the package variables that the reading takes, are together of bulk at most 1048576: NARROWER than '..Said'. Prove '..Said' where nothing that the law and all that it calls make is longer than what came in: it says more and counts as full. Else prove '..UptoSaid'. A law counts once. -/
mutual
def uptoBulk {H : Type} : DataW H → Nat
  | .lit (.string bytes) => bytes.length + 1
  | .lit _ => 1
  | .nil => 1
  | .ptr d => uptoBulk d + 1
  | .slice elems spare => uptoBulkAll elems + uptoBulkAll spare + 1
  | .agg parts => uptoBulkAll parts + 1
  | .iface _ d => uptoBulk d + 1
  | .map entries => uptoBulkEntries entries + 1
  | .held _ => 1
def uptoBulkAll {H : Type} : List (DataW H) → Nat
  | [] => 0
  | d :: r => uptoBulk d + uptoBulkAll r
def uptoBulkEntries {H : Type} : List (Lit × DataW H) → Nat
  | [] => 0
  | x :: r => uptoBulkEntry x + uptoBulkEntries r
def uptoBulkEntry {H : Type} : Lit × DataW H → Nat
  | (.string bytes, d) => bytes.length + uptoBulk d + 1
  | (_, d) => uptoBulk d + 1
 end
def uptoSmall : (H : Type) → List (DataW H) → Bool := fun _ ds => decide (uptoBulkAll ds ≤ 1048576)
def OpenSpec.upto (s : _root_.Go.ChangeSpec) : _root_.Go.OpenSpec := { _root_.Go.OpenSpec.ofChange s with cond := some uptoSmall }

/-- 'laws.FnTextAll', WHERE WHAT IT READS IS OF BULK AT MOST 1048576: true; the input reads as it did. -/
def fnTextAllUptoRow : OpenClaim := { program := "ytehpmdmfolmaoab", sum := "0bcb6c3a76be5c2cf13f55fd46a95f0e4e33b5271467c5ae7345b077649beacc", func := "loop.example/pannage/laws.FnTextAll", spec := "fnTextAll", unfollowed := true, recurses := true, apart := false, narrowed := true }
def FnTextAllUptoSaid : Prop := fnTextAllUptoRow.holds Try.pinned (OpenSpec.upto fnTextAllSpec)

/-- 'laws.FnTextLong', WHERE WHAT IT READS IS OF BULK AT MOST 1048576: true; the input reads as it did. -/
def fnTextLongUptoRow : OpenClaim := { program := "ytehpmdmfolmaoab", sum := "0bcb6c3a76be5c2cf13f55fd46a95f0e4e33b5271467c5ae7345b077649beacc", func := "loop.example/pannage/laws.FnTextLong", spec := "fnTextLong", unfollowed := true, recurses := true, apart := false, narrowed := true }
def FnTextLongUptoSaid : Prop := fnTextLongUptoRow.holds Try.pinned (OpenSpec.upto fnTextLongSpec)

/-- 'laws.FnTextBack', WHERE WHAT IT READS IS OF BULK AT MOST 1048576: true; the input reads as it did. -/
def fnTextBackUptoRow : OpenClaim := { program := "ytehpmdmfolmaoab", sum := "0bcb6c3a76be5c2cf13f55fd46a95f0e4e33b5271467c5ae7345b077649beacc", func := "loop.example/pannage/laws.FnTextBack", spec := "fnTextBack", unfollowed := true, recurses := true, apart := false, narrowed := true }
def FnTextBackUptoSaid : Prop := fnTextBackUptoRow.holds Try.pinned (OpenSpec.upto fnTextBackSpec)

/-- 'laws.FnTextSplit', WHERE WHAT IT READS IS OF BULK AT MOST 1048576: true; the input reads as it did. -/
def fnTextSplitUptoRow : OpenClaim := { program := "ytehpmdmfolmaoab", sum := "0bcb6c3a76be5c2cf13f55fd46a95f0e4e33b5271467c5ae7345b077649beacc", func := "loop.example/pannage/laws.FnTextSplit", spec := "fnTextSplit", unfollowed := true, recurses := true, apart := false, narrowed := true }
def FnTextSplitUptoSaid : Prop := fnTextSplitUptoRow.holds Try.pinned (OpenSpec.upto fnTextSplitSpec)

/-- 'laws.FnExactSpanOk', WHERE WHAT IT READS IS OF BULK AT MOST 1048576: true; the input reads as it did. -/
def fnExactSpanOkUptoRow : OpenClaim := { program := "ytehpmdmfolmaoab", sum := "0bcb6c3a76be5c2cf13f55fd46a95f0e4e33b5271467c5ae7345b077649beacc", func := "loop.example/pannage/laws.FnExactSpanOk", spec := "fnExactSpanOk", apart := false, narrowed := true }
def FnExactSpanOkUptoSaid : Prop := fnExactSpanOkUptoRow.holds Try.pinned (OpenSpec.upto fnExactSpanOkSpec)

/-- 'laws.FnExactSpanMeet', WHERE WHAT IT READS IS OF BULK AT MOST 1048576: true; the input reads as it did. -/
def fnExactSpanMeetUptoRow : OpenClaim := { program := "ytehpmdmfolmaoab", sum := "0bcb6c3a76be5c2cf13f55fd46a95f0e4e33b5271467c5ae7345b077649beacc", func := "loop.example/pannage/laws.FnExactSpanMeet", spec := "fnExactSpanMeet", apart := false, narrowed := true }
def FnExactSpanMeetUptoSaid : Prop := fnExactSpanMeetUptoRow.holds Try.pinned (OpenSpec.upto fnExactSpanMeetSpec)

/-- 'laws.FnExactSpansOk', WHERE WHAT IT READS IS OF BULK AT MOST 1048576: true; the input reads as it did. -/
def fnExactSpansOkUptoRow : OpenClaim := { program := "ytehpmdmfolmaoab", sum := "0bcb6c3a76be5c2cf13f55fd46a95f0e4e33b5271467c5ae7345b077649beacc", func := "loop.example/pannage/laws.FnExactSpansOk", spec := "fnExactSpansOk", apart := false, narrowed := true }
def FnExactSpansOkUptoSaid : Prop := fnExactSpansOkUptoRow.holds Try.pinned (OpenSpec.upto fnExactSpansOkSpec)

/-- 'laws.FnExactSpansHave', WHERE WHAT IT READS IS OF BULK AT MOST 1048576: true; the input reads as it did. -/
def fnExactSpansHaveUptoRow : OpenClaim := { program := "ytehpmdmfolmaoab", sum := "0bcb6c3a76be5c2cf13f55fd46a95f0e4e33b5271467c5ae7345b077649beacc", func := "loop.example/pannage/laws.FnExactSpansHave", spec := "fnExactSpansHave", apart := false, narrowed := true }
def FnExactSpansHaveUptoSaid : Prop := fnExactSpansHaveUptoRow.holds Try.pinned (OpenSpec.upto fnExactSpansHaveSpec)

end Rows
end Go.Proofs.Ytehpmdmfolmaoab
