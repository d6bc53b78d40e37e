/-
  No cell of these rows narrows 'for every input' (looked for: loops, veiled, ifaces, maps, wideKeys, modest, calm, conditions, laid).
  DERIVED. THE GIVEN ROWS OF THIS SEAT. 3 by the template 'for every input the law returns true; each argument reads behind the call as it read before'; 0 by the template 'total and deterministic' (their statements: YtjknmocimenagaaTotals.lean).
  GIVEN WITH THE SEED: the statements are not yours to turn. If you find one false, say at which input.
  Laid BY PROGRAM, IN A SANDBOX (cutbox-rows.mjs): the forced cells as the released guide's own fill.sh prints them over the translation 100c4db7d34fabb3… (all of the seat's roots in one cut). By AI agents, Wed Nov 11 2026. No macro, syntax, notation, axiom, sorry.
-/
import Derived.Test.YtjknmocimenagaaChecked
import GoSem.Claim
import GoSem.ClaimJoined
import GoSem.ClaimMapViews
import Derived.JoinedTies
import Derived.KernelRfl
namespace Go.Proofs.Ytjknmocimenagaa
/- THE CELL 'sum', in the pinned program and in every row, IS THE sha256 OF THE DUMP (.gsa) THAT YtjknmocimenagaaProg.lean LOADS. Nothing in Lean hashes anything: it is a label: what it is worth is what the hold of that sum in a sandbox is worth. -/
noncomputable def Try.pinned : Pinned := { name := "ytjknmocimenagaa", sum := "100c4db7d34fabb3fa6d1918fe5cb1e0f37c0fe500019f9812705cef455abed0", checked := Try.checked }
namespace Rows
def none {H : Type} : Left H := { results := [], args := [] }

/-- 'laws.FnStoreFall': WHATEVER THE INPUT: true; the input reads as it did. -/
def fnStoreFallSpec : ChangeSpec := { name := "fnStoreFall", fn := fun _ => fun
  | [d] => { results := [.lit (.bool true)], args := [d] }
  | _ => none }
def fnStoreFallRow : OpenClaim := { program := "ytjknmocimenagaa", sum := "100c4db7d34fabb3fa6d1918fe5cb1e0f37c0fe500019f9812705cef455abed0", func := "loop.example/pannage/laws.FnStoreFall", spec := "fnStoreFall", apart := false }
def FnStoreFallSaid : Prop := fnStoreFallRow.holds Try.pinned (OpenSpec.ofChange fnStoreFallSpec)

/-- ITS FALSE NEIGHBOUR: 'it returns false'. Refute it at one input. -/
def fnStoreFallWrong : ChangeSpec := { name := "fnStoreFall", fn := fun _ => fun
  | [d] => { results := [.lit (.bool false)], args := [d] }
  | _ => none }
def FnStoreFallWrongFalsely : Prop := fnStoreFallRow.holds Try.pinned (OpenSpec.ofChange fnStoreFallWrong)

/-- 'laws.FnStoreRead': WHATEVER THE INPUT: true; the input reads as it did. -/
def fnStoreReadSpec : ChangeSpec := { name := "fnStoreRead", fn := fun _ => fun
  | [d] => { results := [.lit (.bool true)], args := [d] }
  | _ => none }
def fnStoreReadRow : OpenClaim := { program := "ytjknmocimenagaa", sum := "100c4db7d34fabb3fa6d1918fe5cb1e0f37c0fe500019f9812705cef455abed0", func := "loop.example/pannage/laws.FnStoreRead", spec := "fnStoreRead", apart := false }
def FnStoreReadSaid : Prop := fnStoreReadRow.holds Try.pinned (OpenSpec.ofChange fnStoreReadSpec)

/-- ITS FALSE NEIGHBOUR: 'it returns false'. Refute it at one input. -/
def fnStoreReadWrong : ChangeSpec := { name := "fnStoreRead", fn := fun _ => fun
  | [d] => { results := [.lit (.bool false)], args := [d] }
  | _ => none }
def FnStoreReadWrongFalsely : Prop := fnStoreReadRow.holds Try.pinned (OpenSpec.ofChange fnStoreReadWrong)

/-- 'laws.FnStoreSame': WHATEVER THE INPUT: true; the input reads as it did. -/
def fnStoreSameSpec : ChangeSpec := { name := "fnStoreSame", fn := fun _ => fun
  | [d] => { results := [.lit (.bool true)], args := [d] }
  | _ => none }
def fnStoreSameRow : OpenClaim := { program := "ytjknmocimenagaa", sum := "100c4db7d34fabb3fa6d1918fe5cb1e0f37c0fe500019f9812705cef455abed0", func := "loop.example/pannage/laws.FnStoreSame", spec := "fnStoreSame", apart := false }
def FnStoreSameSaid : Prop := fnStoreSameRow.holds Try.pinned (OpenSpec.ofChange fnStoreSameSpec)

/-- ITS FALSE NEIGHBOUR: 'it returns false'. Refute it at one input. -/
def fnStoreSameWrong : ChangeSpec := { name := "fnStoreSame", fn := fun _ => fun
  | [d] => { results := [.lit (.bool false)], args := [d] }
  | _ => none }
def FnStoreSameWrongFalsely : Prop := fnStoreSameRow.holds Try.pinned (OpenSpec.ofChange fnStoreSameWrong)

/- THE SECOND FORM. 'bulk': how many values and letters a reading holds, each counted each time it is reached (what is shared counts as often as it is met; a slice's spare places count too). A statement '..UptoSaid' is the law's where the arguments, and the package variables that the reading takes, are together of bulk at most 1048576: NARROWER than '..Said'. Prove '..Said' where nothing that the law and all that it calls make is longer than what came in: it says more and counts as full. Else prove '..UptoSaid'. A law counts once. -/
mutual
def uptoBulk {H : Type} : DataW H → Nat
  | .lit (.string bytes) => bytes.length + 1
  | .lit _ => 1
  | .nil => 1
  | .ptr d => uptoBulk d + 1
  | .slice elems spare => uptoBulkAll elems + uptoBulkAll spare + 1
  | .agg parts => uptoBulkAll parts + 1
  | .iface _ d => uptoBulk d + 1
  | .map entries => uptoBulkEntries entries + 1
  | .held _ => 1
def uptoBulkAll {H : Type} : List (DataW H) → Nat
  | [] => 0
  | d :: r => uptoBulk d + uptoBulkAll r
def uptoBulkEntries {H : Type} : List (Lit × DataW H) → Nat
  | [] => 0
  | x :: r => uptoBulkEntry x + uptoBulkEntries r
def uptoBulkEntry {H : Type} : Lit × DataW H → Nat
  | (.string bytes, d) => bytes.length + uptoBulk d + 1
  | (_, d) => uptoBulk d + 1
 end
def uptoSmall : (H : Type) → List (DataW H) → Bool := fun _ ds => decide (uptoBulkAll ds ≤ 1048576)
def OpenSpec.upto (s : _root_.Go.ChangeSpec) : _root_.Go.OpenSpec := { _root_.Go.OpenSpec.ofChange s with cond := some uptoSmall }

/-- 'laws.FnStoreFall', WHERE WHAT IT READS IS OF BULK AT MOST 1048576: true; the input reads as it did. -/
def fnStoreFallUptoRow : OpenClaim := { program := "ytjknmocimenagaa", sum := "100c4db7d34fabb3fa6d1918fe5cb1e0f37c0fe500019f9812705cef455abed0", func := "loop.example/pannage/laws.FnStoreFall", spec := "fnStoreFall", apart := false, narrowed := true }
def FnStoreFallUptoSaid : Prop := fnStoreFallUptoRow.holds Try.pinned (OpenSpec.upto fnStoreFallSpec)

/-- 'laws.FnStoreRead', WHERE WHAT IT READS IS OF BULK AT MOST 1048576: true; the input reads as it did. -/
def fnStoreReadUptoRow : OpenClaim := { program := "ytjknmocimenagaa", sum := "100c4db7d34fabb3fa6d1918fe5cb1e0f37c0fe500019f9812705cef455abed0", func := "loop.example/pannage/laws.FnStoreRead", spec := "fnStoreRead", apart := false, narrowed := true }
def FnStoreReadUptoSaid : Prop := fnStoreReadUptoRow.holds Try.pinned (OpenSpec.upto fnStoreReadSpec)

/-- 'laws.FnStoreSame', WHERE WHAT IT READS IS OF BULK AT MOST 1048576: true; the input reads as it did. -/
def fnStoreSameUptoRow : OpenClaim := { program := "ytjknmocimenagaa", sum := "100c4db7d34fabb3fa6d1918fe5cb1e0f37c0fe500019f9812705cef455abed0", func := "loop.example/pannage/laws.FnStoreSame", spec := "fnStoreSame", apart := false, narrowed := true }
def FnStoreSameUptoSaid : Prop := fnStoreSameUptoRow.holds Try.pinned (OpenSpec.upto fnStoreSameSpec)

end Rows
end Go.Proofs.Ytjknmocimenagaa
