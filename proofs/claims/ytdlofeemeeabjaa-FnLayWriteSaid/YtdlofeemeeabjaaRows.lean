/-
  No cell of these rows narrows 'for every input' (looked for: loops, veiled, ifaces, maps, wideKeys, modest, calm, conditions, laid).
  DERIVED. THE GIVEN ROWS OF THIS SEAT. 4 by the template 'for every input the law returns true; each argument reads behind the call as it read before'; 0 by the template 'total and deterministic' (their statements: YtdlofeemeeabjaaTotals.lean).
  GIVEN WITH THE SEED: the statements are not yours to turn. If you find one false, say at which input.
  Laid BY PROGRAM, IN A SANDBOX (cutbox-rows.mjs): the forced cells as the released guide's own fill.sh prints them over the translation c32d743cb49c8fb5… (all of the seat's roots in one cut). By AI agents, Wed Nov 11 2026. No macro, syntax, notation, axiom, sorry.
-/
import Derived.Test.YtdlofeemeeabjaaChecked
import GoSem.Claim
import GoSem.ClaimJoined
import GoSem.ClaimMapViews
import Derived.JoinedTies
import Derived.KernelRfl
namespace Go.Proofs.Ytdlofeemeeabjaa
/- THE CELL 'sum', in the pinned program and in every row, IS THE sha256 OF THE DUMP (.gsa) THAT YtdlofeemeeabjaaProg.lean LOADS. Nothing in Lean hashes anything: it is a label: what it is worth is what the hold of that sum in a sandbox is worth. -/
noncomputable def Try.pinned : Pinned := { name := "ytdlofeemeeabjaa", sum := "c32d743cb49c8fb51a552bd9b371b84148a10e111ec45615f66ff9b29576ea77", checked := Try.checked }
namespace Rows
def none {H : Type} : Left H := { results := [], args := [] }

/-- 'laws.FnLayText': WHATEVER THE INPUT: true; the input reads as it did. -/
def fnLayTextSpec : ChangeSpec := { name := "fnLayText", fn := fun _ => fun
  | [d] => { results := [.lit (.bool true)], args := [d] }
  | _ => none }
def fnLayTextRow : OpenClaim := { program := "ytdlofeemeeabjaa", sum := "c32d743cb49c8fb51a552bd9b371b84148a10e111ec45615f66ff9b29576ea77", func := "loop.example/pannage/laws.FnLayText", spec := "fnLayText", unfollowed := true, recurses := true, apart := false }
def FnLayTextSaid : Prop := fnLayTextRow.holds Try.pinned (OpenSpec.ofChange fnLayTextSpec)

/-- ITS FALSE NEIGHBOUR: 'it returns false'. Refute it at one input. -/
def fnLayTextWrong : ChangeSpec := { name := "fnLayText", fn := fun _ => fun
  | [d] => { results := [.lit (.bool false)], args := [d] }
  | _ => none }
def FnLayTextWrongFalsely : Prop := fnLayTextRow.holds Try.pinned (OpenSpec.ofChange fnLayTextWrong)

/-- 'laws.FnLayObjs': WHATEVER THE INPUT: true; the input reads as it did. -/
def fnLayObjsSpec : ChangeSpec := { name := "fnLayObjs", fn := fun _ => fun
  | [d] => { results := [.lit (.bool true)], args := [d] }
  | _ => none }
def fnLayObjsRow : OpenClaim := { program := "ytdlofeemeeabjaa", sum := "c32d743cb49c8fb51a552bd9b371b84148a10e111ec45615f66ff9b29576ea77", func := "loop.example/pannage/laws.FnLayObjs", spec := "fnLayObjs", unfollowed := true, recurses := true, apart := false }
def FnLayObjsSaid : Prop := fnLayObjsRow.holds Try.pinned (OpenSpec.ofChange fnLayObjsSpec)

/-- ITS FALSE NEIGHBOUR: 'it returns false'. Refute it at one input. -/
def fnLayObjsWrong : ChangeSpec := { name := "fnLayObjs", fn := fun _ => fun
  | [d] => { results := [.lit (.bool false)], args := [d] }
  | _ => none }
def FnLayObjsWrongFalsely : Prop := fnLayObjsRow.holds Try.pinned (OpenSpec.ofChange fnLayObjsWrong)

/-- 'laws.FnLayWrite': WHATEVER THE INPUT: true; the input reads as it did. -/
def fnLayWriteSpec : ChangeSpec := { name := "fnLayWrite", fn := fun _ => fun
  | [d] => { results := [.lit (.bool true)], args := [d] }
  | _ => none }
def fnLayWriteRow : OpenClaim := { program := "ytdlofeemeeabjaa", sum := "c32d743cb49c8fb51a552bd9b371b84148a10e111ec45615f66ff9b29576ea77", func := "loop.example/pannage/laws.FnLayWrite", spec := "fnLayWrite", unfollowed := true, recurses := true, apart := false }
def FnLayWriteSaid : Prop := fnLayWriteRow.holds Try.pinned (OpenSpec.ofChange fnLayWriteSpec)

/-- ITS FALSE NEIGHBOUR: 'it returns false'. Refute it at one input. -/
def fnLayWriteWrong : ChangeSpec := { name := "fnLayWrite", fn := fun _ => fun
  | [d] => { results := [.lit (.bool false)], args := [d] }
  | _ => none }
def FnLayWriteWrongFalsely : Prop := fnLayWriteRow.holds Try.pinned (OpenSpec.ofChange fnLayWriteWrong)

/-- 'laws.FnExactLayText': WHATEVER THE INPUT: true; the input reads as it did. -/
def fnExactLayTextSpec : ChangeSpec := { name := "fnExactLayText", fn := fun _ => fun
  | [d1, d2] => { results := [.lit (.bool true)], args := [d1, d2] }
  | _ => none }
def fnExactLayTextRow : OpenClaim := { program := "ytdlofeemeeabjaa", sum := "c32d743cb49c8fb51a552bd9b371b84148a10e111ec45615f66ff9b29576ea77", func := "loop.example/pannage/laws.FnExactLayText", spec := "fnExactLayText", unfollowed := true, recurses := true, apart := false }
def FnExactLayTextSaid : Prop := fnExactLayTextRow.holds Try.pinned (OpenSpec.ofChange fnExactLayTextSpec)

/-- ITS FALSE NEIGHBOUR: 'it returns false'. Refute it at one input. -/
def fnExactLayTextWrong : ChangeSpec := { name := "fnExactLayText", fn := fun _ => fun
  | [d1, d2] => { results := [.lit (.bool false)], args := [d1, d2] }
  | _ => none }
def FnExactLayTextWrongFalsely : Prop := fnExactLayTextRow.holds Try.pinned (OpenSpec.ofChange fnExactLayTextWrong)

/- THE SECOND FORM. 'bulk': how many values and letters a reading holds, each counted each time it is reached (what is shared counts as often as it is met; a slice's spare places count too). A statement '..UptoSaid' is the law's where the arguments, and the package variables that the reading takes, are together of bulk at most 1048576: NARROWER than '..Said'. Prove '..Said' where nothing that the law and all that it calls make is longer than what came in: it says more and counts as full. Else prove '..UptoSaid'. A law counts once. -/
mutual
def uptoBulk {H : Type} : DataW H → Nat
  | .lit (.string bytes) => bytes.length + 1
  | .lit _ => 1
  | .nil => 1
  | .ptr d => uptoBulk d + 1
  | .slice elems spare => uptoBulkAll elems + uptoBulkAll spare + 1
  | .agg parts => uptoBulkAll parts + 1
  | .iface _ d => uptoBulk d + 1
  | .map entries => uptoBulkEntries entries + 1
  | .held _ => 1
def uptoBulkAll {H : Type} : List (DataW H) → Nat
  | [] => 0
  | d :: r => uptoBulk d + uptoBulkAll r
def uptoBulkEntries {H : Type} : List (Lit × DataW H) → Nat
  | [] => 0
  | x :: r => uptoBulkEntry x + uptoBulkEntries r
def uptoBulkEntry {H : Type} : Lit × DataW H → Nat
  | (.string bytes, d) => bytes.length + uptoBulk d + 1
  | (_, d) => uptoBulk d + 1
 end
def uptoSmall : (H : Type) → List (DataW H) → Bool := fun _ ds => decide (uptoBulkAll ds ≤ 1048576)
def OpenSpec.upto (s : _root_.Go.ChangeSpec) : _root_.Go.OpenSpec := { _root_.Go.OpenSpec.ofChange s with cond := some uptoSmall }

/-- 'laws.FnLayText', WHERE WHAT IT READS IS OF BULK AT MOST 1048576: true; the input reads as it did. -/
def fnLayTextUptoRow : OpenClaim := { program := "ytdlofeemeeabjaa", sum := "c32d743cb49c8fb51a552bd9b371b84148a10e111ec45615f66ff9b29576ea77", func := "loop.example/pannage/laws.FnLayText", spec := "fnLayText", unfollowed := true, recurses := true, apart := false, narrowed := true }
def FnLayTextUptoSaid : Prop := fnLayTextUptoRow.holds Try.pinned (OpenSpec.upto fnLayTextSpec)

/-- 'laws.FnLayObjs', WHERE WHAT IT READS IS OF BULK AT MOST 1048576: true; the input reads as it did. -/
def fnLayObjsUptoRow : OpenClaim := { program := "ytdlofeemeeabjaa", sum := "c32d743cb49c8fb51a552bd9b371b84148a10e111ec45615f66ff9b29576ea77", func := "loop.example/pannage/laws.FnLayObjs", spec := "fnLayObjs", unfollowed := true, recurses := true, apart := false, narrowed := true }
def FnLayObjsUptoSaid : Prop := fnLayObjsUptoRow.holds Try.pinned (OpenSpec.upto fnLayObjsSpec)

/-- 'laws.FnLayWrite', WHERE WHAT IT READS IS OF BULK AT MOST 1048576: true; the input reads as it did. -/
def fnLayWriteUptoRow : OpenClaim := { program := "ytdlofeemeeabjaa", sum := "c32d743cb49c8fb51a552bd9b371b84148a10e111ec45615f66ff9b29576ea77", func := "loop.example/pannage/laws.FnLayWrite", spec := "fnLayWrite", unfollowed := true, recurses := true, apart := false, narrowed := true }
def FnLayWriteUptoSaid : Prop := fnLayWriteUptoRow.holds Try.pinned (OpenSpec.upto fnLayWriteSpec)

/-- 'laws.FnExactLayText', WHERE WHAT IT READS IS OF BULK AT MOST 1048576: true; the input reads as it did. -/
def fnExactLayTextUptoRow : OpenClaim := { program := "ytdlofeemeeabjaa", sum := "c32d743cb49c8fb51a552bd9b371b84148a10e111ec45615f66ff9b29576ea77", func := "loop.example/pannage/laws.FnExactLayText", spec := "fnExactLayText", unfollowed := true, recurses := true, apart := false, narrowed := true }
def FnExactLayTextUptoSaid : Prop := fnExactLayTextUptoRow.holds Try.pinned (OpenSpec.upto fnExactLayTextSpec)

end Rows
end Go.Proofs.Ytdlofeemeeabjaa
