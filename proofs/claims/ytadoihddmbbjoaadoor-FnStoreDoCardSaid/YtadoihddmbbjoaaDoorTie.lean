/-
  DERIVED. GIVEN WITH THE SEED: THE PROGRAM's TIES (one call each: nine closed facts by the kernel) AND EACH ROW's TIE, after the 31st guide's Derived/Test/Toyas{Tie, Card}.lean. No idea stands in it: it is a product of the set-up. Laid BY PROGRAM, IN A SANDBOX (cutbox-door.mjs). By AI agents, Wed Nov 11 2026. No macro, syntax, notation, axiom, sorry.
-/
import Derived.Test.YtadoihddmbbjoaaDoorRows
import Derived.LaidByTextLater
import Derived.SevenTiedAt
import Derived.LaidSub
import Derived.LaidOnce
namespace Go.Proofs.YtadoihddmbbjoaaDoor
open Go
set_option maxRecDepth 100000
theorem seatTie1 : Tryd.prog.laidByTextLater [("loop.example/pannage/impl.errForm", Rows.laid_loop_example_pannage_impl_errForm), ("loop.example/pannage/impl.errFenced", Rows.laid_loop_example_pannage_impl_errFenced), ("loop.example/pannage/impl.errAgain", Rows.laid_loop_example_pannage_impl_errAgain), ("loop.example/pannage/impl.errGap", Rows.laid_loop_example_pannage_impl_errGap)] [.sentinel, .sentinel, .sentinel, .sentinel] true :=
  Program.laidByTextLater_by_one 85 8 2 (by kernel_rfl) (by kernel_rfl) (by kernel_rfl) (by kernel_rfl) (by kernel_rfl) (by kernel_rfl) (fun _ _ => by kernel_rfl)
theorem noOwnUnsafe : Tryd.pinned.checked.prog.headLifts.contains "ownunsafe" = false := by kernel_rfl
theorem tie : Tryd.prog.laidByTextLater [("loop.example/pannage/impl.errForm", Rows.laid_loop_example_pannage_impl_errForm), ("loop.example/pannage/impl.errFenced", Rows.laid_loop_example_pannage_impl_errFenced), ("loop.example/pannage/impl.errAgain", Rows.laid_loop_example_pannage_impl_errAgain), ("loop.example/pannage/impl.errGap", Rows.laid_loop_example_pannage_impl_errGap)] [.sentinel, .sentinel, .sentinel, .sentinel] true :=
  Program.laidByTextLater.sub seatTie1 ["loop.example/pannage/impl.errForm", "loop.example/pannage/impl.errFenced", "loop.example/pannage/impl.errAgain", "loop.example/pannage/impl.errGap"] (by kernel_rfl) (by kernel_rfl)
theorem fnExactStoreDo_row_tie : Rows.fnExactStoreDoRow.laidByTextAt .later Tryd.pinned [.sentinel, .sentinel, .sentinel, .sentinel] true :=
  OpenClaim.laidByTextAt_later rfl rfl tie noOwnUnsafe
theorem fnStoreDo_row_tie : Rows.fnStoreDoRow.laidByTextAt .later Tryd.pinned [.sentinel, .sentinel, .sentinel, .sentinel] true :=
  OpenClaim.laidByTextAt_later rfl rfl tie noOwnUnsafe
theorem fnStoreApart_row_tie : Rows.fnStoreApartRow.laidByTextAt .later Tryd.pinned [.sentinel, .sentinel, .sentinel, .sentinel] true :=
  OpenClaim.laidByTextAt_later rfl rfl tie noOwnUnsafe
theorem fnExactStoreDoUpto_row_tie : Rows.fnExactStoreDoUptoRow.laidByTextAt .later Tryd.pinned [.sentinel, .sentinel, .sentinel, .sentinel] true :=
  OpenClaim.laidByTextAt_later rfl rfl tie noOwnUnsafe
theorem fnStoreDoUpto_row_tie : Rows.fnStoreDoUptoRow.laidByTextAt .later Tryd.pinned [.sentinel, .sentinel, .sentinel, .sentinel] true :=
  OpenClaim.laidByTextAt_later rfl rfl tie noOwnUnsafe
theorem fnStoreApartUpto_row_tie : Rows.fnStoreApartUptoRow.laidByTextAt .later Tryd.pinned [.sentinel, .sentinel, .sentinel, .sentinel] true :=
  OpenClaim.laidByTextAt_later rfl rfl tie noOwnUnsafe
end Go.Proofs.YtadoihddmbbjoaaDoor
