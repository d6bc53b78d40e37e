/-
  NARROWER THAN 'FOR EVERY INPUT', by the rows' own cells (each row's printed sentence says how): FnExactStoreDo: ifaces, laid · FnStoreDo: ifaces, laid · FnStoreApart: ifaces, laid.
  DERIVED. THE GIVEN ROWS OF THIS SEAT. 3 by the template 'for every input the law returns true; each argument reads behind the call as it read before'; 0 by the template 'total and deterministic' (their statements: YtadoihddmbbjoaaDoorTotals.lean).
  GIVEN WITH THE SEED: the statements are not yours to turn. If you find one false, say at which input.
  Laid BY PROGRAM, IN A SANDBOX (cutbox-rows.mjs): the forced cells as the released guide's own fill.sh prints them over the translation a0b7bf75ad181211… (all of the seat's roots in one cut). By AI agents, Wed Nov 11 2026. No macro, syntax, notation, axiom, sorry.
-/
import Derived.Test.YtadoihddmbbjoaaDoorChecked
import GoSem.Claim
import GoSem.ClaimJoined
import GoSem.ClaimMapViews
import Derived.JoinedTies
import Derived.KernelRfl
namespace Go.Proofs.YtadoihddmbbjoaaDoor
/- THE CELL 'sum', in the pinned program and in every row, IS THE sha256 OF THE DUMP (.gsa) THAT YtadoihddmbbjoaaDoorProg.lean LOADS. Nothing in Lean hashes anything: it is a label: what it is worth is what the hold of that sum in a sandbox is worth. -/
noncomputable def Tryd.pinned : Pinned := { name := "ytadoihddmbbjoaadoor", sum := "a0b7bf75ad18121104cc0e37263693293f4855b8c156ba8315d2630c0f544f18", checked := Tryd.checked }
namespace Rows
def none {H : Type} : Left H := { results := [], args := [] }

/- WHAT THE LISTED PACKAGE-LEVEL VARIABLES READ AS WHEN THE CALL BEGINS. Each datum BY PROGRAM (the guide's laid-datum.mjs) off the statement by which the dump's own 'gosem.cut.vars' lays the variable. In a bare row this is a premise. The card (YtadoihddmbbjoaaDoorCards.lean) ties it to the program's text. -/
def laid_loop_example_pannage_impl_errForm {H : Type} : DataW H := .iface "*errors.errorString" (.ptr (.agg [.lit (.string [102, 111, 114, 109])]))
def laid_loop_example_pannage_impl_errFenced {H : Type} : DataW H := .iface "*errors.errorString" (.ptr (.agg [.lit (.string [102, 101, 110, 99, 101, 100])]))
def laid_loop_example_pannage_impl_errAgain {H : Type} : DataW H := .iface "*errors.errorString" (.ptr (.agg [.lit (.string [97, 103, 97, 105, 110])]))
def laid_loop_example_pannage_impl_errGap {H : Type} : DataW H := .iface "*errors.errorString" (.ptr (.agg [.lit (.string [103, 97, 112])]))

/-- 'laws.FnExactStoreDo': WHATEVER THE INPUT: true; the input reads as it did. -/
def fnExactStoreDoSpec : ChangeSpec := { name := "fnExactStoreDo", vars := ["loop.example/pannage/impl.errForm", "loop.example/pannage/impl.errFenced", "loop.example/pannage/impl.errAgain", "loop.example/pannage/impl.errGap"], fn := fun _ => fun
  | [d1, d2, g1, g2, g3, g4] => { results := [.lit (.bool true)], args := [d1, d2], vars := [g1, g2, g3, g4] }
  | _ => none }
def fnExactStoreDoRow : OpenClaim := { program := "ytadoihddmbbjoaadoor", sum := "a0b7bf75ad18121104cc0e37263693293f4855b8c156ba8315d2630c0f544f18", func := "loop.example/pannage/laws.FnExactStoreDo", spec := "fnExactStoreDo", inPlace := ["internal/reflectlite.TypeOf"], unfollowed := true, recurses := true, named := ["loop.example/pannage/impl.errForm", "loop.example/pannage/impl.errFenced", "loop.example/pannage/impl.errAgain", "loop.example/pannage/impl.errGap"], ifaces := true, apart := false, laid := [("loop.example/pannage/impl.errForm", laid_loop_example_pannage_impl_errForm), ("loop.example/pannage/impl.errFenced", laid_loop_example_pannage_impl_errFenced), ("loop.example/pannage/impl.errAgain", laid_loop_example_pannage_impl_errAgain), ("loop.example/pannage/impl.errGap", laid_loop_example_pannage_impl_errGap)] }
def FnExactStoreDoSaid : Prop := fnExactStoreDoRow.holds Tryd.pinned (OpenSpec.ofChange fnExactStoreDoSpec)

/-- ITS FALSE NEIGHBOUR: 'it returns false'. Refute it at one input. -/
def fnExactStoreDoWrong : ChangeSpec := { name := "fnExactStoreDo", vars := ["loop.example/pannage/impl.errForm", "loop.example/pannage/impl.errFenced", "loop.example/pannage/impl.errAgain", "loop.example/pannage/impl.errGap"], fn := fun _ => fun
  | [d1, d2, g1, g2, g3, g4] => { results := [.lit (.bool false)], args := [d1, d2], vars := [g1, g2, g3, g4] }
  | _ => none }
def FnExactStoreDoWrongFalsely : Prop := fnExactStoreDoRow.holds Tryd.pinned (OpenSpec.ofChange fnExactStoreDoWrong)

/-- 'laws.FnStoreDo': WHATEVER THE INPUT: true; the input reads as it did. -/
def fnStoreDoSpec : ChangeSpec := { name := "fnStoreDo", vars := ["loop.example/pannage/impl.errForm", "loop.example/pannage/impl.errFenced", "loop.example/pannage/impl.errAgain", "loop.example/pannage/impl.errGap"], fn := fun _ => fun
  | [d, g1, g2, g3, g4] => { results := [.lit (.bool true)], args := [d], vars := [g1, g2, g3, g4] }
  | _ => none }
def fnStoreDoRow : OpenClaim := { program := "ytadoihddmbbjoaadoor", sum := "a0b7bf75ad18121104cc0e37263693293f4855b8c156ba8315d2630c0f544f18", func := "loop.example/pannage/laws.FnStoreDo", spec := "fnStoreDo", inPlace := ["internal/reflectlite.TypeOf"], unfollowed := true, recurses := true, named := ["loop.example/pannage/impl.errForm", "loop.example/pannage/impl.errFenced", "loop.example/pannage/impl.errAgain", "loop.example/pannage/impl.errGap"], ifaces := true, apart := false, laid := [("loop.example/pannage/impl.errForm", laid_loop_example_pannage_impl_errForm), ("loop.example/pannage/impl.errFenced", laid_loop_example_pannage_impl_errFenced), ("loop.example/pannage/impl.errAgain", laid_loop_example_pannage_impl_errAgain), ("loop.example/pannage/impl.errGap", laid_loop_example_pannage_impl_errGap)] }
def FnStoreDoSaid : Prop := fnStoreDoRow.holds Tryd.pinned (OpenSpec.ofChange fnStoreDoSpec)

/-- ITS FALSE NEIGHBOUR: 'it returns false'. Refute it at one input. -/
def fnStoreDoWrong : ChangeSpec := { name := "fnStoreDo", vars := ["loop.example/pannage/impl.errForm", "loop.example/pannage/impl.errFenced", "loop.example/pannage/impl.errAgain", "loop.example/pannage/impl.errGap"], fn := fun _ => fun
  | [d, g1, g2, g3, g4] => { results := [.lit (.bool false)], args := [d], vars := [g1, g2, g3, g4] }
  | _ => none }
def FnStoreDoWrongFalsely : Prop := fnStoreDoRow.holds Tryd.pinned (OpenSpec.ofChange fnStoreDoWrong)

/-- 'laws.FnStoreApart': WHATEVER THE INPUT: true; the input reads as it did. -/
def fnStoreApartSpec : ChangeSpec := { name := "fnStoreApart", vars := ["loop.example/pannage/impl.errForm", "loop.example/pannage/impl.errFenced", "loop.example/pannage/impl.errAgain", "loop.example/pannage/impl.errGap"], fn := fun _ => fun
  | [d1, d2, g1, g2, g3, g4] => { results := [.lit (.bool true)], args := [d1, d2], vars := [g1, g2, g3, g4] }
  | _ => none }
def fnStoreApartRow : OpenClaim := { program := "ytadoihddmbbjoaadoor", sum := "a0b7bf75ad18121104cc0e37263693293f4855b8c156ba8315d2630c0f544f18", func := "loop.example/pannage/laws.FnStoreApart", spec := "fnStoreApart", inPlace := ["internal/reflectlite.TypeOf"], unfollowed := true, recurses := true, named := ["loop.example/pannage/impl.errForm", "loop.example/pannage/impl.errFenced", "loop.example/pannage/impl.errAgain", "loop.example/pannage/impl.errGap"], ifaces := true, apart := false, laid := [("loop.example/pannage/impl.errForm", laid_loop_example_pannage_impl_errForm), ("loop.example/pannage/impl.errFenced", laid_loop_example_pannage_impl_errFenced), ("loop.example/pannage/impl.errAgain", laid_loop_example_pannage_impl_errAgain), ("loop.example/pannage/impl.errGap", laid_loop_example_pannage_impl_errGap)] }
def FnStoreApartSaid : Prop := fnStoreApartRow.holds Tryd.pinned (OpenSpec.ofChange fnStoreApartSpec)

/-- ITS FALSE NEIGHBOUR: 'it returns false'. Refute it at one input. -/
def fnStoreApartWrong : ChangeSpec := { name := "fnStoreApart", vars := ["loop.example/pannage/impl.errForm", "loop.example/pannage/impl.errFenced", "loop.example/pannage/impl.errAgain", "loop.example/pannage/impl.errGap"], fn := fun _ => fun
  | [d1, d2, g1, g2, g3, g4] => { results := [.lit (.bool false)], args := [d1, d2], vars := [g1, g2, g3, g4] }
  | _ => none }
def FnStoreApartWrongFalsely : Prop := fnStoreApartRow.holds Tryd.pinned (OpenSpec.ofChange fnStoreApartWrong)

/- THE SECOND FORM. 'bulk': how many values and letters a reading holds, each counted each time it is reached (what is shared counts as often as it is met; a slice's spare places count too). A statement '..UptoSaid' is the law's where the arguments, and the package variables that the reading takes, are together of bulk at most 1048576: NARROWER than '..Said'. Prove '..Said' where nothing that the law and all that it calls make is longer than what came in: it says more and counts as full. Else prove '..UptoSaid'. A law counts once. -/
mutual
def uptoBulk {H : Type} : DataW H → Nat
  | .lit (.string bytes) => bytes.length + 1
  | .lit _ => 1
  | .nil => 1
  | .ptr d => uptoBulk d + 1
  | .slice elems spare => uptoBulkAll elems + uptoBulkAll spare + 1
  | .agg parts => uptoBulkAll parts + 1
  | .iface _ d => uptoBulk d + 1
  | .map entries => uptoBulkEntries entries + 1
  | .held _ => 1
def uptoBulkAll {H : Type} : List (DataW H) → Nat
  | [] => 0
  | d :: r => uptoBulk d + uptoBulkAll r
def uptoBulkEntries {H : Type} : List (Lit × DataW H) → Nat
  | [] => 0
  | x :: r => uptoBulkEntry x + uptoBulkEntries r
def uptoBulkEntry {H : Type} : Lit × DataW H → Nat
  | (.string bytes, d) => bytes.length + uptoBulk d + 1
  | (_, d) => uptoBulk d + 1
 end
def uptoSmall : (H : Type) → List (DataW H) → Bool := fun _ ds => decide (uptoBulkAll ds ≤ 1048576)
def OpenSpec.upto (s : _root_.Go.ChangeSpec) : _root_.Go.OpenSpec := { _root_.Go.OpenSpec.ofChange s with cond := some uptoSmall }

/-- 'laws.FnExactStoreDo', WHERE WHAT IT READS IS OF BULK AT MOST 1048576: true; the input reads as it did. -/
def fnExactStoreDoUptoRow : OpenClaim := { program := "ytadoihddmbbjoaadoor", sum := "a0b7bf75ad18121104cc0e37263693293f4855b8c156ba8315d2630c0f544f18", func := "loop.example/pannage/laws.FnExactStoreDo", spec := "fnExactStoreDo", inPlace := ["internal/reflectlite.TypeOf"], unfollowed := true, recurses := true, named := ["loop.example/pannage/impl.errForm", "loop.example/pannage/impl.errFenced", "loop.example/pannage/impl.errAgain", "loop.example/pannage/impl.errGap"], ifaces := true, apart := false, laid := [("loop.example/pannage/impl.errForm", laid_loop_example_pannage_impl_errForm), ("loop.example/pannage/impl.errFenced", laid_loop_example_pannage_impl_errFenced), ("loop.example/pannage/impl.errAgain", laid_loop_example_pannage_impl_errAgain), ("loop.example/pannage/impl.errGap", laid_loop_example_pannage_impl_errGap)], narrowed := true }
def FnExactStoreDoUptoSaid : Prop := fnExactStoreDoUptoRow.holds Tryd.pinned (OpenSpec.upto fnExactStoreDoSpec)

/-- 'laws.FnStoreDo', WHERE WHAT IT READS IS OF BULK AT MOST 1048576: true; the input reads as it did. -/
def fnStoreDoUptoRow : OpenClaim := { program := "ytadoihddmbbjoaadoor", sum := "a0b7bf75ad18121104cc0e37263693293f4855b8c156ba8315d2630c0f544f18", func := "loop.example/pannage/laws.FnStoreDo", spec := "fnStoreDo", inPlace := ["internal/reflectlite.TypeOf"], unfollowed := true, recurses := true, named := ["loop.example/pannage/impl.errForm", "loop.example/pannage/impl.errFenced", "loop.example/pannage/impl.errAgain", "loop.example/pannage/impl.errGap"], ifaces := true, apart := false, laid := [("loop.example/pannage/impl.errForm", laid_loop_example_pannage_impl_errForm), ("loop.example/pannage/impl.errFenced", laid_loop_example_pannage_impl_errFenced), ("loop.example/pannage/impl.errAgain", laid_loop_example_pannage_impl_errAgain), ("loop.example/pannage/impl.errGap", laid_loop_example_pannage_impl_errGap)], narrowed := true }
def FnStoreDoUptoSaid : Prop := fnStoreDoUptoRow.holds Tryd.pinned (OpenSpec.upto fnStoreDoSpec)

/-- 'laws.FnStoreApart', WHERE WHAT IT READS IS OF BULK AT MOST 1048576: true; the input reads as it did. -/
def fnStoreApartUptoRow : OpenClaim := { program := "ytadoihddmbbjoaadoor", sum := "a0b7bf75ad18121104cc0e37263693293f4855b8c156ba8315d2630c0f544f18", func := "loop.example/pannage/laws.FnStoreApart", spec := "fnStoreApart", inPlace := ["internal/reflectlite.TypeOf"], unfollowed := true, recurses := true, named := ["loop.example/pannage/impl.errForm", "loop.example/pannage/impl.errFenced", "loop.example/pannage/impl.errAgain", "loop.example/pannage/impl.errGap"], ifaces := true, apart := false, laid := [("loop.example/pannage/impl.errForm", laid_loop_example_pannage_impl_errForm), ("loop.example/pannage/impl.errFenced", laid_loop_example_pannage_impl_errFenced), ("loop.example/pannage/impl.errAgain", laid_loop_example_pannage_impl_errAgain), ("loop.example/pannage/impl.errGap", laid_loop_example_pannage_impl_errGap)], narrowed := true }
def FnStoreApartUptoSaid : Prop := fnStoreApartUptoRow.holds Tryd.pinned (OpenSpec.upto fnStoreApartSpec)

end Rows
end Go.Proofs.YtadoihddmbbjoaaDoor
