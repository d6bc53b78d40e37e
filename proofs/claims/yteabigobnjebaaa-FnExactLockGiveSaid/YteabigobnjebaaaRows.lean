/-
  No cell of these rows narrows 'for every input' (looked for: loops, veiled, ifaces, maps, wideKeys, modest, calm, conditions, laid).
  DERIVED. THE GIVEN ROWS OF THIS SEAT. 9 by the template 'for every input the law returns true; each argument reads behind the call as it read before'; 0 by the template 'total and deterministic' (their statements: YteabigobnjebaaaTotals.lean).
  GIVEN WITH THE SEED: the statements are not yours to turn. If you find one false, say at which input.
  Laid BY PROGRAM, IN A SANDBOX (cutbox-rows.mjs): the forced cells as the released guide's own fill.sh prints them over the translation 33e98b27949a807f… (all of the seat's roots in one cut). By AI agents, Wed Nov 11 2026. No macro, syntax, notation, axiom, sorry.
-/
import Derived.Test.YteabigobnjebaaaChecked
import GoSem.Claim
import GoSem.ClaimJoined
import GoSem.ClaimMapViews
import Derived.JoinedTies
import Derived.KernelRfl
namespace Go.Proofs.Yteabigobnjebaaa
/- THE CELL 'sum', in the pinned program and in every row, IS THE sha256 OF THE DUMP (.gsa) THAT YteabigobnjebaaaProg.lean LOADS. Nothing in Lean hashes anything: it is a label: what it is worth is what the hold of that sum in a sandbox is worth. -/
noncomputable def Try.pinned : Pinned := { name := "yteabigobnjebaaa", sum := "33e98b27949a807fc72f5ef5ce15a5782cb0676a73d68d9a20cc664fb1cdd15b", checked := Try.checked }
namespace Rows
def none {H : Type} : Left H := { results := [], args := [] }

/-- 'laws.FnExactLayText': WHATEVER THE INPUT: true; the input reads as it did. -/
def fnExactLayTextSpec : ChangeSpec := { name := "fnExactLayText", fn := fun _ => fun
  | [d1, d2] => { results := [.lit (.bool true)], args := [d1, d2] }
  | _ => none }
def fnExactLayTextRow : OpenClaim := { program := "yteabigobnjebaaa", sum := "33e98b27949a807fc72f5ef5ce15a5782cb0676a73d68d9a20cc664fb1cdd15b", func := "loop.example/pannage/laws.FnExactLayText", spec := "fnExactLayText", unfollowed := true, recurses := true, apart := false }
def FnExactLayTextSaid : Prop := fnExactLayTextRow.holds Try.pinned (OpenSpec.ofChange fnExactLayTextSpec)

/-- ITS FALSE NEIGHBOUR: 'it returns false'. Refute it at one input. -/
def fnExactLayTextWrong : ChangeSpec := { name := "fnExactLayText", fn := fun _ => fun
  | [d1, d2] => { results := [.lit (.bool false)], args := [d1, d2] }
  | _ => none }
def FnExactLayTextWrongFalsely : Prop := fnExactLayTextRow.holds Try.pinned (OpenSpec.ofChange fnExactLayTextWrong)

/-- 'laws.FnExactLockOk': WHATEVER THE INPUT: true; the input reads as it did. -/
def fnExactLockOkSpec : ChangeSpec := { name := "fnExactLockOk", fn := fun _ => fun
  | [d] => { results := [.lit (.bool true)], args := [d] }
  | _ => none }
def fnExactLockOkRow : OpenClaim := { program := "yteabigobnjebaaa", sum := "33e98b27949a807fc72f5ef5ce15a5782cb0676a73d68d9a20cc664fb1cdd15b", func := "loop.example/pannage/laws.FnExactLockOk", spec := "fnExactLockOk", inPlace := ["slices.overlaps[loop.example/pannage/impl.run[loop.example/pannage/impl.mode]]"], unfollowed := true, recurses := true, apart := false }
def FnExactLockOkSaid : Prop := fnExactLockOkRow.holds Try.pinned (OpenSpec.ofChange fnExactLockOkSpec)

/-- ITS FALSE NEIGHBOUR: 'it returns false'. Refute it at one input. -/
def fnExactLockOkWrong : ChangeSpec := { name := "fnExactLockOk", fn := fun _ => fun
  | [d] => { results := [.lit (.bool false)], args := [d] }
  | _ => none }
def FnExactLockOkWrongFalsely : Prop := fnExactLockOkRow.holds Try.pinned (OpenSpec.ofChange fnExactLockOkWrong)

/-- 'laws.FnExactLockMay': WHATEVER THE INPUT: true; the input reads as it did. -/
def fnExactLockMaySpec : ChangeSpec := { name := "fnExactLockMay", fn := fun _ => fun
  | [d1, d2, d3, d4] => { results := [.lit (.bool true)], args := [d1, d2, d3, d4] }
  | _ => none }
def fnExactLockMayRow : OpenClaim := { program := "yteabigobnjebaaa", sum := "33e98b27949a807fc72f5ef5ce15a5782cb0676a73d68d9a20cc664fb1cdd15b", func := "loop.example/pannage/laws.FnExactLockMay", spec := "fnExactLockMay", inPlace := ["slices.overlaps[loop.example/pannage/impl.run[loop.example/pannage/impl.mode]]"], unfollowed := true, recurses := true, apart := false }
def FnExactLockMaySaid : Prop := fnExactLockMayRow.holds Try.pinned (OpenSpec.ofChange fnExactLockMaySpec)

/-- ITS FALSE NEIGHBOUR: 'it returns false'. Refute it at one input. -/
def fnExactLockMayWrong : ChangeSpec := { name := "fnExactLockMay", fn := fun _ => fun
  | [d1, d2, d3, d4] => { results := [.lit (.bool false)], args := [d1, d2, d3, d4] }
  | _ => none }
def FnExactLockMayWrongFalsely : Prop := fnExactLockMayRow.holds Try.pinned (OpenSpec.ofChange fnExactLockMayWrong)

/-- 'laws.FnExactLockBars': WHATEVER THE INPUT: true; the input reads as it did. -/
def fnExactLockBarsSpec : ChangeSpec := { name := "fnExactLockBars", fn := fun _ => fun
  | [d1, d2, d3, d4] => { results := [.lit (.bool true)], args := [d1, d2, d3, d4] }
  | _ => none }
def fnExactLockBarsRow : OpenClaim := { program := "yteabigobnjebaaa", sum := "33e98b27949a807fc72f5ef5ce15a5782cb0676a73d68d9a20cc664fb1cdd15b", func := "loop.example/pannage/laws.FnExactLockBars", spec := "fnExactLockBars", inPlace := ["slices.overlaps[loop.example/pannage/impl.run[loop.example/pannage/impl.mode]]"], unfollowed := true, recurses := true, apart := false }
def FnExactLockBarsSaid : Prop := fnExactLockBarsRow.holds Try.pinned (OpenSpec.ofChange fnExactLockBarsSpec)

/-- ITS FALSE NEIGHBOUR: 'it returns false'. Refute it at one input. -/
def fnExactLockBarsWrong : ChangeSpec := { name := "fnExactLockBars", fn := fun _ => fun
  | [d1, d2, d3, d4] => { results := [.lit (.bool false)], args := [d1, d2, d3, d4] }
  | _ => none }
def FnExactLockBarsWrongFalsely : Prop := fnExactLockBarsRow.holds Try.pinned (OpenSpec.ofChange fnExactLockBarsWrong)

/-- 'laws.FnExactLockGive': WHATEVER THE INPUT: true; the input reads as it did. -/
def fnExactLockGiveSpec : ChangeSpec := { name := "fnExactLockGive", fn := fun _ => fun
  | [d1, d2, d3, d4] => { results := [.lit (.bool true)], args := [d1, d2, d3, d4] }
  | _ => none }
def fnExactLockGiveRow : OpenClaim := { program := "yteabigobnjebaaa", sum := "33e98b27949a807fc72f5ef5ce15a5782cb0676a73d68d9a20cc664fb1cdd15b", func := "loop.example/pannage/laws.FnExactLockGive", spec := "fnExactLockGive", inPlace := ["slices.overlaps[loop.example/pannage/impl.run[loop.example/pannage/impl.mode]]"], unfollowed := true, recurses := true, apart := false }
def FnExactLockGiveSaid : Prop := fnExactLockGiveRow.holds Try.pinned (OpenSpec.ofChange fnExactLockGiveSpec)

/-- ITS FALSE NEIGHBOUR: 'it returns false'. Refute it at one input. -/
def fnExactLockGiveWrong : ChangeSpec := { name := "fnExactLockGive", fn := fun _ => fun
  | [d1, d2, d3, d4] => { results := [.lit (.bool false)], args := [d1, d2, d3, d4] }
  | _ => none }
def FnExactLockGiveWrongFalsely : Prop := fnExactLockGiveRow.holds Try.pinned (OpenSpec.ofChange fnExactLockGiveWrong)

/-- 'laws.FnExactLockDrop': WHATEVER THE INPUT: true; the input reads as it did. -/
def fnExactLockDropSpec : ChangeSpec := { name := "fnExactLockDrop", fn := fun _ => fun
  | [d1, d2, d3] => { results := [.lit (.bool true)], args := [d1, d2, d3] }
  | _ => none }
def fnExactLockDropRow : OpenClaim := { program := "yteabigobnjebaaa", sum := "33e98b27949a807fc72f5ef5ce15a5782cb0676a73d68d9a20cc664fb1cdd15b", func := "loop.example/pannage/laws.FnExactLockDrop", spec := "fnExactLockDrop", inPlace := ["slices.overlaps[loop.example/pannage/impl.run[loop.example/pannage/impl.mode]]"], unfollowed := true, recurses := true, apart := false }
def FnExactLockDropSaid : Prop := fnExactLockDropRow.holds Try.pinned (OpenSpec.ofChange fnExactLockDropSpec)

/-- ITS FALSE NEIGHBOUR: 'it returns false'. Refute it at one input. -/
def fnExactLockDropWrong : ChangeSpec := { name := "fnExactLockDrop", fn := fun _ => fun
  | [d1, d2, d3] => { results := [.lit (.bool false)], args := [d1, d2, d3] }
  | _ => none }
def FnExactLockDropWrongFalsely : Prop := fnExactLockDropRow.holds Try.pinned (OpenSpec.ofChange fnExactLockDropWrong)

/-- 'laws.FnExactLockDown': WHATEVER THE INPUT: true; the input reads as it did. -/
def fnExactLockDownSpec : ChangeSpec := { name := "fnExactLockDown", fn := fun _ => fun
  | [d1, d2, d3] => { results := [.lit (.bool true)], args := [d1, d2, d3] }
  | _ => none }
def fnExactLockDownRow : OpenClaim := { program := "yteabigobnjebaaa", sum := "33e98b27949a807fc72f5ef5ce15a5782cb0676a73d68d9a20cc664fb1cdd15b", func := "loop.example/pannage/laws.FnExactLockDown", spec := "fnExactLockDown", inPlace := ["slices.overlaps[loop.example/pannage/impl.run[loop.example/pannage/impl.mode]]"], unfollowed := true, recurses := true, apart := false }
def FnExactLockDownSaid : Prop := fnExactLockDownRow.holds Try.pinned (OpenSpec.ofChange fnExactLockDownSpec)

/-- ITS FALSE NEIGHBOUR: 'it returns false'. Refute it at one input. -/
def fnExactLockDownWrong : ChangeSpec := { name := "fnExactLockDown", fn := fun _ => fun
  | [d1, d2, d3] => { results := [.lit (.bool false)], args := [d1, d2, d3] }
  | _ => none }
def FnExactLockDownWrongFalsely : Prop := fnExactLockDownRow.holds Try.pinned (OpenSpec.ofChange fnExactLockDownWrong)

/-- 'laws.FnExactLockOff': WHATEVER THE INPUT: true; the input reads as it did. -/
def fnExactLockOffSpec : ChangeSpec := { name := "fnExactLockOff", fn := fun _ => fun
  | [d1, d2] => { results := [.lit (.bool true)], args := [d1, d2] }
  | _ => none }
def fnExactLockOffRow : OpenClaim := { program := "yteabigobnjebaaa", sum := "33e98b27949a807fc72f5ef5ce15a5782cb0676a73d68d9a20cc664fb1cdd15b", func := "loop.example/pannage/laws.FnExactLockOff", spec := "fnExactLockOff", inPlace := ["slices.overlaps[loop.example/pannage/impl.run[loop.example/pannage/impl.mode]]"], unfollowed := true, recurses := true, apart := false }
def FnExactLockOffSaid : Prop := fnExactLockOffRow.holds Try.pinned (OpenSpec.ofChange fnExactLockOffSpec)

/-- ITS FALSE NEIGHBOUR: 'it returns false'. Refute it at one input. -/
def fnExactLockOffWrong : ChangeSpec := { name := "fnExactLockOff", fn := fun _ => fun
  | [d1, d2] => { results := [.lit (.bool false)], args := [d1, d2] }
  | _ => none }
def FnExactLockOffWrongFalsely : Prop := fnExactLockOffRow.holds Try.pinned (OpenSpec.ofChange fnExactLockOffWrong)

/-- 'laws.FnExactLockSame': WHATEVER THE INPUT: true; the input reads as it did. -/
def fnExactLockSameSpec : ChangeSpec := { name := "fnExactLockSame", fn := fun _ => fun
  | [d1, d2] => { results := [.lit (.bool true)], args := [d1, d2] }
  | _ => none }
def fnExactLockSameRow : OpenClaim := { program := "yteabigobnjebaaa", sum := "33e98b27949a807fc72f5ef5ce15a5782cb0676a73d68d9a20cc664fb1cdd15b", func := "loop.example/pannage/laws.FnExactLockSame", spec := "fnExactLockSame", unfollowed := true, recurses := true, apart := false }
def FnExactLockSameSaid : Prop := fnExactLockSameRow.holds Try.pinned (OpenSpec.ofChange fnExactLockSameSpec)

/-- ITS FALSE NEIGHBOUR: 'it returns false'. Refute it at one input. -/
def fnExactLockSameWrong : ChangeSpec := { name := "fnExactLockSame", fn := fun _ => fun
  | [d1, d2] => { results := [.lit (.bool false)], args := [d1, d2] }
  | _ => none }
def FnExactLockSameWrongFalsely : Prop := fnExactLockSameRow.holds Try.pinned (OpenSpec.ofChange fnExactLockSameWrong)

/- THE SECOND FORM. 'bulk': how many values and letters a reading holds, each counted each time it is reached (what is shared counts as often as it is met; a slice's spare places count too). A statement '..UptoSaid' is the law's where the arguments, and the package variables that the reading takes, are together of bulk at most 1048576: NARROWER than '..Said'. Prove '..Said' where nothing that the law and all that it calls make is longer than what came in: it says more and counts as full. Else prove '..UptoSaid'. A law counts once. -/
mutual
def uptoBulk {H : Type} : DataW H → Nat
  | .lit (.string bytes) => bytes.length + 1
  | .lit _ => 1
  | .nil => 1
  | .ptr d => uptoBulk d + 1
  | .slice elems spare => uptoBulkAll elems + uptoBulkAll spare + 1
  | .agg parts => uptoBulkAll parts + 1
  | .iface _ d => uptoBulk d + 1
  | .map entries => uptoBulkEntries entries + 1
  | .held _ => 1
def uptoBulkAll {H : Type} : List (DataW H) → Nat
  | [] => 0
  | d :: r => uptoBulk d + uptoBulkAll r
def uptoBulkEntries {H : Type} : List (Lit × DataW H) → Nat
  | [] => 0
  | x :: r => uptoBulkEntry x + uptoBulkEntries r
def uptoBulkEntry {H : Type} : Lit × DataW H → Nat
  | (.string bytes, d) => bytes.length + uptoBulk d + 1
  | (_, d) => uptoBulk d + 1
 end
def uptoSmall : (H : Type) → List (DataW H) → Bool := fun _ ds => decide (uptoBulkAll ds ≤ 1048576)
def OpenSpec.upto (s : _root_.Go.ChangeSpec) : _root_.Go.OpenSpec := { _root_.Go.OpenSpec.ofChange s with cond := some uptoSmall }

/-- 'laws.FnExactLayText', WHERE WHAT IT READS IS OF BULK AT MOST 1048576: true; the input reads as it did. -/
def fnExactLayTextUptoRow : OpenClaim := { program := "yteabigobnjebaaa", sum := "33e98b27949a807fc72f5ef5ce15a5782cb0676a73d68d9a20cc664fb1cdd15b", func := "loop.example/pannage/laws.FnExactLayText", spec := "fnExactLayText", unfollowed := true, recurses := true, apart := false, narrowed := true }
def FnExactLayTextUptoSaid : Prop := fnExactLayTextUptoRow.holds Try.pinned (OpenSpec.upto fnExactLayTextSpec)

/-- 'laws.FnExactLockOk', WHERE WHAT IT READS IS OF BULK AT MOST 1048576: true; the input reads as it did. -/
def fnExactLockOkUptoRow : OpenClaim := { program := "yteabigobnjebaaa", sum := "33e98b27949a807fc72f5ef5ce15a5782cb0676a73d68d9a20cc664fb1cdd15b", func := "loop.example/pannage/laws.FnExactLockOk", spec := "fnExactLockOk", inPlace := ["slices.overlaps[loop.example/pannage/impl.run[loop.example/pannage/impl.mode]]"], unfollowed := true, recurses := true, apart := false, narrowed := true }
def FnExactLockOkUptoSaid : Prop := fnExactLockOkUptoRow.holds Try.pinned (OpenSpec.upto fnExactLockOkSpec)

/-- 'laws.FnExactLockMay', WHERE WHAT IT READS IS OF BULK AT MOST 1048576: true; the input reads as it did. -/
def fnExactLockMayUptoRow : OpenClaim := { program := "yteabigobnjebaaa", sum := "33e98b27949a807fc72f5ef5ce15a5782cb0676a73d68d9a20cc664fb1cdd15b", func := "loop.example/pannage/laws.FnExactLockMay", spec := "fnExactLockMay", inPlace := ["slices.overlaps[loop.example/pannage/impl.run[loop.example/pannage/impl.mode]]"], unfollowed := true, recurses := true, apart := false, narrowed := true }
def FnExactLockMayUptoSaid : Prop := fnExactLockMayUptoRow.holds Try.pinned (OpenSpec.upto fnExactLockMaySpec)

/-- 'laws.FnExactLockBars', WHERE WHAT IT READS IS OF BULK AT MOST 1048576: true; the input reads as it did. -/
def fnExactLockBarsUptoRow : OpenClaim := { program := "yteabigobnjebaaa", sum := "33e98b27949a807fc72f5ef5ce15a5782cb0676a73d68d9a20cc664fb1cdd15b", func := "loop.example/pannage/laws.FnExactLockBars", spec := "fnExactLockBars", inPlace := ["slices.overlaps[loop.example/pannage/impl.run[loop.example/pannage/impl.mode]]"], unfollowed := true, recurses := true, apart := false, narrowed := true }
def FnExactLockBarsUptoSaid : Prop := fnExactLockBarsUptoRow.holds Try.pinned (OpenSpec.upto fnExactLockBarsSpec)

/-- 'laws.FnExactLockGive', WHERE WHAT IT READS IS OF BULK AT MOST 1048576: true; the input reads as it did. -/
def fnExactLockGiveUptoRow : OpenClaim := { program := "yteabigobnjebaaa", sum := "33e98b27949a807fc72f5ef5ce15a5782cb0676a73d68d9a20cc664fb1cdd15b", func := "loop.example/pannage/laws.FnExactLockGive", spec := "fnExactLockGive", inPlace := ["slices.overlaps[loop.example/pannage/impl.run[loop.example/pannage/impl.mode]]"], unfollowed := true, recurses := true, apart := false, narrowed := true }
def FnExactLockGiveUptoSaid : Prop := fnExactLockGiveUptoRow.holds Try.pinned (OpenSpec.upto fnExactLockGiveSpec)

/-- 'laws.FnExactLockDrop', WHERE WHAT IT READS IS OF BULK AT MOST 1048576: true; the input reads as it did. -/
def fnExactLockDropUptoRow : OpenClaim := { program := "yteabigobnjebaaa", sum := "33e98b27949a807fc72f5ef5ce15a5782cb0676a73d68d9a20cc664fb1cdd15b", func := "loop.example/pannage/laws.FnExactLockDrop", spec := "fnExactLockDrop", inPlace := ["slices.overlaps[loop.example/pannage/impl.run[loop.example/pannage/impl.mode]]"], unfollowed := true, recurses := true, apart := false, narrowed := true }
def FnExactLockDropUptoSaid : Prop := fnExactLockDropUptoRow.holds Try.pinned (OpenSpec.upto fnExactLockDropSpec)

/-- 'laws.FnExactLockDown', WHERE WHAT IT READS IS OF BULK AT MOST 1048576: true; the input reads as it did. -/
def fnExactLockDownUptoRow : OpenClaim := { program := "yteabigobnjebaaa", sum := "33e98b27949a807fc72f5ef5ce15a5782cb0676a73d68d9a20cc664fb1cdd15b", func := "loop.example/pannage/laws.FnExactLockDown", spec := "fnExactLockDown", inPlace := ["slices.overlaps[loop.example/pannage/impl.run[loop.example/pannage/impl.mode]]"], unfollowed := true, recurses := true, apart := false, narrowed := true }
def FnExactLockDownUptoSaid : Prop := fnExactLockDownUptoRow.holds Try.pinned (OpenSpec.upto fnExactLockDownSpec)

/-- 'laws.FnExactLockOff', WHERE WHAT IT READS IS OF BULK AT MOST 1048576: true; the input reads as it did. -/
def fnExactLockOffUptoRow : OpenClaim := { program := "yteabigobnjebaaa", sum := "33e98b27949a807fc72f5ef5ce15a5782cb0676a73d68d9a20cc664fb1cdd15b", func := "loop.example/pannage/laws.FnExactLockOff", spec := "fnExactLockOff", inPlace := ["slices.overlaps[loop.example/pannage/impl.run[loop.example/pannage/impl.mode]]"], unfollowed := true, recurses := true, apart := false, narrowed := true }
def FnExactLockOffUptoSaid : Prop := fnExactLockOffUptoRow.holds Try.pinned (OpenSpec.upto fnExactLockOffSpec)

/-- 'laws.FnExactLockSame', WHERE WHAT IT READS IS OF BULK AT MOST 1048576: true; the input reads as it did. -/
def fnExactLockSameUptoRow : OpenClaim := { program := "yteabigobnjebaaa", sum := "33e98b27949a807fc72f5ef5ce15a5782cb0676a73d68d9a20cc664fb1cdd15b", func := "loop.example/pannage/laws.FnExactLockSame", spec := "fnExactLockSame", unfollowed := true, recurses := true, apart := false, narrowed := true }
def FnExactLockSameUptoSaid : Prop := fnExactLockSameUptoRow.holds Try.pinned (OpenSpec.upto fnExactLockSameSpec)

end Rows
end Go.Proofs.Yteabigobnjebaaa
