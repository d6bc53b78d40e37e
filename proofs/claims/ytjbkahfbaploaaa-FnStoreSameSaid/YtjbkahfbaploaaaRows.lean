/-
  No cell of these rows narrows 'for every input' (looked for: loops, veiled, ifaces, maps, wideKeys, modest, calm, conditions, laid).
  DERIVED. THE GIVEN ROWS OF THIS SEAT. 2 by the template 'for every input the law returns true; each argument reads behind the call as it read before'; 0 by the template 'total and deterministic' (their statements: YtjbkahfbaploaaaTotals.lean).
  GIVEN WITH THE SEED: the statements are not yours to turn. If you find one false, say at which input.
  Laid BY PROGRAM, IN A SANDBOX (cutbox-rows.mjs): the forced cells as the released guide's own fill.sh prints them over the translation a89dbd1e5898031c… (all of the seat's roots in one cut). By AI agents, Wed Nov 11 2026. No macro, syntax, notation, axiom, sorry.
-/
import Derived.Test.YtjbkahfbaploaaaChecked
import GoSem.Claim
import GoSem.ClaimJoined
import GoSem.ClaimMapViews
import Derived.JoinedTies
import Derived.KernelRfl
namespace Go.Proofs.Ytjbkahfbaploaaa
/- THE CELL 'sum', in the pinned program and in every row, IS THE sha256 OF THE DUMP (.gsa) THAT YtjbkahfbaploaaaProg.lean LOADS. Nothing in Lean hashes anything: it is a label: what it is worth is what the hold of that sum in a sandbox is worth. -/
noncomputable def Try.pinned : Pinned := { name := "ytjbkahfbaploaaa", sum := "a89dbd1e5898031cda8c3d933dff19f506d164cff30bc0633daf6bc046b9a95b", checked := Try.checked }
namespace Rows
def none {H : Type} : Left H := { results := [], args := [] }

/-- 'laws.FnLayBent': WHATEVER THE INPUT: true; the input reads as it did. -/
def fnLayBentSpec : ChangeSpec := { name := "fnLayBent", fn := fun _ => fun
  | [d] => { results := [.lit (.bool true)], args := [d] }
  | _ => none }
def fnLayBentRow : OpenClaim := { program := "ytjbkahfbaploaaa", sum := "a89dbd1e5898031cda8c3d933dff19f506d164cff30bc0633daf6bc046b9a95b", func := "loop.example/pannage/laws.FnLayBent", spec := "fnLayBent", unfollowed := true, recurses := true, apart := false }
def FnLayBentSaid : Prop := fnLayBentRow.holds Try.pinned (OpenSpec.ofChange fnLayBentSpec)

/-- ITS FALSE NEIGHBOUR: 'it returns false'. Refute it at one input. -/
def fnLayBentWrong : ChangeSpec := { name := "fnLayBent", fn := fun _ => fun
  | [d] => { results := [.lit (.bool false)], args := [d] }
  | _ => none }
def FnLayBentWrongFalsely : Prop := fnLayBentRow.holds Try.pinned (OpenSpec.ofChange fnLayBentWrong)

/-- 'laws.FnStoreSame': WHATEVER THE INPUT: true; the input reads as it did. -/
def fnStoreSameSpec : ChangeSpec := { name := "fnStoreSame", fn := fun _ => fun
  | [d] => { results := [.lit (.bool true)], args := [d] }
  | _ => none }
def fnStoreSameRow : OpenClaim := { program := "ytjbkahfbaploaaa", sum := "a89dbd1e5898031cda8c3d933dff19f506d164cff30bc0633daf6bc046b9a95b", func := "loop.example/pannage/laws.FnStoreSame", spec := "fnStoreSame", apart := false }
def FnStoreSameSaid : Prop := fnStoreSameRow.holds Try.pinned (OpenSpec.ofChange fnStoreSameSpec)

/-- ITS FALSE NEIGHBOUR: 'it returns false'. Refute it at one input. -/
def fnStoreSameWrong : ChangeSpec := { name := "fnStoreSame", fn := fun _ => fun
  | [d] => { results := [.lit (.bool false)], args := [d] }
  | _ => none }
def FnStoreSameWrongFalsely : Prop := fnStoreSameRow.holds Try.pinned (OpenSpec.ofChange fnStoreSameWrong)

/- THE SECOND FORM. 'bulk': how many values and letters a reading holds, each counted each time it is reached (what is shared counts as often as it is met; a slice's spare places count too). A statement '..UptoSaid' is the law's where the arguments, and the package variables that the reading takes, are together of bulk at most 1048576: NARROWER than '..Said'. Prove '..Said' where nothing that the law and all that it calls make is longer than what came in: it says more and counts as full. Else prove '..UptoSaid'. A law counts once. -/
mutual
def uptoBulk {H : Type} : DataW H → Nat
  | .lit (.string bytes) => bytes.length + 1
  | .lit _ => 1
  | .nil => 1
  | .ptr d => uptoBulk d + 1
  | .slice elems spare => uptoBulkAll elems + uptoBulkAll spare + 1
  | .agg parts => uptoBulkAll parts + 1
  | .iface _ d => uptoBulk d + 1
  | .map entries => uptoBulkEntries entries + 1
  | .held _ => 1
def uptoBulkAll {H : Type} : List (DataW H) → Nat
  | [] => 0
  | d :: r => uptoBulk d + uptoBulkAll r
def uptoBulkEntries {H : Type} : List (Lit × DataW H) → Nat
  | [] => 0
  | x :: r => uptoBulkEntry x + uptoBulkEntries r
def uptoBulkEntry {H : Type} : Lit × DataW H → Nat
  | (.string bytes, d) => bytes.length + uptoBulk d + 1
  | (_, d) => uptoBulk d + 1
 end
def uptoSmall : (H : Type) → List (DataW H) → Bool := fun _ ds => decide (uptoBulkAll ds ≤ 1048576)
def OpenSpec.upto (s : _root_.Go.ChangeSpec) : _root_.Go.OpenSpec := { _root_.Go.OpenSpec.ofChange s with cond := some uptoSmall }

/-- 'laws.FnLayBent', WHERE WHAT IT READS IS OF BULK AT MOST 1048576: true; the input reads as it did. -/
def fnLayBentUptoRow : OpenClaim := { program := "ytjbkahfbaploaaa", sum := "a89dbd1e5898031cda8c3d933dff19f506d164cff30bc0633daf6bc046b9a95b", func := "loop.example/pannage/laws.FnLayBent", spec := "fnLayBent", unfollowed := true, recurses := true, apart := false, narrowed := true }
def FnLayBentUptoSaid : Prop := fnLayBentUptoRow.holds Try.pinned (OpenSpec.upto fnLayBentSpec)

/-- 'laws.FnStoreSame', WHERE WHAT IT READS IS OF BULK AT MOST 1048576: true; the input reads as it did. -/
def fnStoreSameUptoRow : OpenClaim := { program := "ytjbkahfbaploaaa", sum := "a89dbd1e5898031cda8c3d933dff19f506d164cff30bc0633daf6bc046b9a95b", func := "loop.example/pannage/laws.FnStoreSame", spec := "fnStoreSame", apart := false, narrowed := true }
def FnStoreSameUptoSaid : Prop := fnStoreSameUptoRow.holds Try.pinned (OpenSpec.upto fnStoreSameSpec)

end Rows
end Go.Proofs.Ytjbkahfbaploaaa
