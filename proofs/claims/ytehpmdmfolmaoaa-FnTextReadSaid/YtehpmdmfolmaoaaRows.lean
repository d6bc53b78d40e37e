/-
  No cell of these rows narrows 'for every input' (looked for: loops, veiled, ifaces, maps, wideKeys, modest, calm, conditions, laid).
  DERIVED. THE GIVEN ROWS OF THIS SEAT. 4 by the template 'for every input the law returns true; each argument reads behind the call as it read before'; 0 by the template 'total and deterministic' (their statements: YtehpmdmfolmaoaaTotals.lean).
  GIVEN WITH THE SEED: the statements are not yours to turn. If you find one false, say at which input.
  Laid BY PROGRAM, IN A SANDBOX (cutbox-rows.mjs): the forced cells as the released guide's own fill.sh prints them over the translation 075c6743a060345a… (all of the seat's roots in one cut). By AI agents, Wed Nov 11 2026. No macro, syntax, notation, axiom, sorry.
-/
import Derived.Test.YtehpmdmfolmaoaaChecked
import GoSem.Claim
import GoSem.ClaimJoined
import GoSem.ClaimMapViews
import Derived.JoinedTies
import Derived.KernelRfl
namespace Go.Proofs.Ytehpmdmfolmaoaa
/- THE CELL 'sum', in the pinned program and in every row, IS THE sha256 OF THE DUMP (.gsa) THAT YtehpmdmfolmaoaaProg.lean LOADS. Nothing in Lean hashes anything: it is a label: what it is worth is what the hold of that sum in a sandbox is worth. -/
noncomputable def Try.pinned : Pinned := { name := "ytehpmdmfolmaoaa", sum := "075c6743a060345afdaf5ee1472dce169850581f8680f651ae81967d293c6d2a", checked := Try.checked }
namespace Rows
def none {H : Type} : Left H := { results := [], args := [] }

/-- 'laws.FnSpanMeet': WHATEVER THE INPUT: true; the input reads as it did. -/
def fnSpanMeetSpec : ChangeSpec := { name := "fnSpanMeet", fn := fun _ => fun
  | [d] => { results := [.lit (.bool true)], args := [d] }
  | _ => none }
def fnSpanMeetRow : OpenClaim := { program := "ytehpmdmfolmaoaa", sum := "075c6743a060345afdaf5ee1472dce169850581f8680f651ae81967d293c6d2a", func := "loop.example/pannage/laws.FnSpanMeet", spec := "fnSpanMeet", apart := false }
def FnSpanMeetSaid : Prop := fnSpanMeetRow.holds Try.pinned (OpenSpec.ofChange fnSpanMeetSpec)

/-- ITS FALSE NEIGHBOUR: 'it returns false'. Refute it at one input. -/
def fnSpanMeetWrong : ChangeSpec := { name := "fnSpanMeet", fn := fun _ => fun
  | [d] => { results := [.lit (.bool false)], args := [d] }
  | _ => none }
def FnSpanMeetWrongFalsely : Prop := fnSpanMeetRow.holds Try.pinned (OpenSpec.ofChange fnSpanMeetWrong)

/-- 'laws.FnTextWrite': WHATEVER THE INPUT: true; the input reads as it did. -/
def fnTextWriteSpec : ChangeSpec := { name := "fnTextWrite", fn := fun _ => fun
  | [d] => { results := [.lit (.bool true)], args := [d] }
  | _ => none }
def fnTextWriteRow : OpenClaim := { program := "ytehpmdmfolmaoaa", sum := "075c6743a060345afdaf5ee1472dce169850581f8680f651ae81967d293c6d2a", func := "loop.example/pannage/laws.FnTextWrite", spec := "fnTextWrite", unfollowed := true, recurses := true, apart := false }
def FnTextWriteSaid : Prop := fnTextWriteRow.holds Try.pinned (OpenSpec.ofChange fnTextWriteSpec)

/-- ITS FALSE NEIGHBOUR: 'it returns false'. Refute it at one input. -/
def fnTextWriteWrong : ChangeSpec := { name := "fnTextWrite", fn := fun _ => fun
  | [d] => { results := [.lit (.bool false)], args := [d] }
  | _ => none }
def FnTextWriteWrongFalsely : Prop := fnTextWriteRow.holds Try.pinned (OpenSpec.ofChange fnTextWriteWrong)

/-- 'laws.FnTextRead': WHATEVER THE INPUT: true; the input reads as it did. -/
def fnTextReadSpec : ChangeSpec := { name := "fnTextRead", fn := fun _ => fun
  | [d1, d2] => { results := [.lit (.bool true)], args := [d1, d2] }
  | _ => none }
def fnTextReadRow : OpenClaim := { program := "ytehpmdmfolmaoaa", sum := "075c6743a060345afdaf5ee1472dce169850581f8680f651ae81967d293c6d2a", func := "loop.example/pannage/laws.FnTextRead", spec := "fnTextRead", apart := false }
def FnTextReadSaid : Prop := fnTextReadRow.holds Try.pinned (OpenSpec.ofChange fnTextReadSpec)

/-- ITS FALSE NEIGHBOUR: 'it returns false'. Refute it at one input. -/
def fnTextReadWrong : ChangeSpec := { name := "fnTextRead", fn := fun _ => fun
  | [d1, d2] => { results := [.lit (.bool false)], args := [d1, d2] }
  | _ => none }
def FnTextReadWrongFalsely : Prop := fnTextReadRow.holds Try.pinned (OpenSpec.ofChange fnTextReadWrong)

/-- 'laws.FnTextCut': WHATEVER THE INPUT: true; the input reads as it did. -/
def fnTextCutSpec : ChangeSpec := { name := "fnTextCut", fn := fun _ => fun
  | [d] => { results := [.lit (.bool true)], args := [d] }
  | _ => none }
def fnTextCutRow : OpenClaim := { program := "ytehpmdmfolmaoaa", sum := "075c6743a060345afdaf5ee1472dce169850581f8680f651ae81967d293c6d2a", func := "loop.example/pannage/laws.FnTextCut", spec := "fnTextCut", unfollowed := true, recurses := true, apart := false }
def FnTextCutSaid : Prop := fnTextCutRow.holds Try.pinned (OpenSpec.ofChange fnTextCutSpec)

/-- ITS FALSE NEIGHBOUR: 'it returns false'. Refute it at one input. -/
def fnTextCutWrong : ChangeSpec := { name := "fnTextCut", fn := fun _ => fun
  | [d] => { results := [.lit (.bool false)], args := [d] }
  | _ => none }
def FnTextCutWrongFalsely : Prop := fnTextCutRow.holds Try.pinned (OpenSpec.ofChange fnTextCutWrong)

/- THE SECOND FORM. 'bulk': how many values and letters a reading holds, each counted each time it is reached (what is shared counts as often as it is met; a slice's spare places count too). A statement '..UptoSaid' is the law's where the arguments, and the package variables that the reading takes, are together of bulk at most 1048576: NARROWER than '..Said'. Prove '..Said' where nothing that the law and all that it calls make is longer than what came in: it says more and counts as full. Else prove '..UptoSaid'. A law counts once. -/
mutual
def uptoBulk {H : Type} : DataW H → Nat
  | .lit (.string bytes) => bytes.length + 1
  | .lit _ => 1
  | .nil => 1
  | .ptr d => uptoBulk d + 1
  | .slice elems spare => uptoBulkAll elems + uptoBulkAll spare + 1
  | .agg parts => uptoBulkAll parts + 1
  | .iface _ d => uptoBulk d + 1
  | .map entries => uptoBulkEntries entries + 1
  | .held _ => 1
def uptoBulkAll {H : Type} : List (DataW H) → Nat
  | [] => 0
  | d :: r => uptoBulk d + uptoBulkAll r
def uptoBulkEntries {H : Type} : List (Lit × DataW H) → Nat
  | [] => 0
  | x :: r => uptoBulkEntry x + uptoBulkEntries r
def uptoBulkEntry {H : Type} : Lit × DataW H → Nat
  | (.string bytes, d) => bytes.length + uptoBulk d + 1
  | (_, d) => uptoBulk d + 1
 end
def uptoSmall : (H : Type) → List (DataW H) → Bool := fun _ ds => decide (uptoBulkAll ds ≤ 1048576)
def OpenSpec.upto (s : _root_.Go.ChangeSpec) : _root_.Go.OpenSpec := { _root_.Go.OpenSpec.ofChange s with cond := some uptoSmall }

/-- 'laws.FnSpanMeet', WHERE WHAT IT READS IS OF BULK AT MOST 1048576: true; the input reads as it did. -/
def fnSpanMeetUptoRow : OpenClaim := { program := "ytehpmdmfolmaoaa", sum := "075c6743a060345afdaf5ee1472dce169850581f8680f651ae81967d293c6d2a", func := "loop.example/pannage/laws.FnSpanMeet", spec := "fnSpanMeet", apart := false, narrowed := true }
def FnSpanMeetUptoSaid : Prop := fnSpanMeetUptoRow.holds Try.pinned (OpenSpec.upto fnSpanMeetSpec)

/-- 'laws.FnTextWrite', WHERE WHAT IT READS IS OF BULK AT MOST 1048576: true; the input reads as it did. -/
def fnTextWriteUptoRow : OpenClaim := { program := "ytehpmdmfolmaoaa", sum := "075c6743a060345afdaf5ee1472dce169850581f8680f651ae81967d293c6d2a", func := "loop.example/pannage/laws.FnTextWrite", spec := "fnTextWrite", unfollowed := true, recurses := true, apart := false, narrowed := true }
def FnTextWriteUptoSaid : Prop := fnTextWriteUptoRow.holds Try.pinned (OpenSpec.upto fnTextWriteSpec)

/-- 'laws.FnTextRead', WHERE WHAT IT READS IS OF BULK AT MOST 1048576: true; the input reads as it did. -/
def fnTextReadUptoRow : OpenClaim := { program := "ytehpmdmfolmaoaa", sum := "075c6743a060345afdaf5ee1472dce169850581f8680f651ae81967d293c6d2a", func := "loop.example/pannage/laws.FnTextRead", spec := "fnTextRead", apart := false, narrowed := true }
def FnTextReadUptoSaid : Prop := fnTextReadUptoRow.holds Try.pinned (OpenSpec.upto fnTextReadSpec)

/-- 'laws.FnTextCut', WHERE WHAT IT READS IS OF BULK AT MOST 1048576: true; the input reads as it did. -/
def fnTextCutUptoRow : OpenClaim := { program := "ytehpmdmfolmaoaa", sum := "075c6743a060345afdaf5ee1472dce169850581f8680f651ae81967d293c6d2a", func := "loop.example/pannage/laws.FnTextCut", spec := "fnTextCut", unfollowed := true, recurses := true, apart := false, narrowed := true }
def FnTextCutUptoSaid : Prop := fnTextCutUptoRow.holds Try.pinned (OpenSpec.upto fnTextCutSpec)

end Rows
end Go.Proofs.Ytehpmdmfolmaoaa
