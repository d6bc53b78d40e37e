/-
  Contracts of toIntS and eqIntS: a new slice of the same numbers; two slices that read the same.
-/
import Derived.Test.YtjbkahfbaploaaaLong
import Derived.Laws.MakeOwn
namespace Go.Proofs.Ytjbkahfbaploaaa
open Go.RowKit

theorem infoInt : (Try.prog.info? 3).map (fun i => (i.zero, i.size, i.bytes)) = some (some (.int .i64 0), 1, 8) := by kernel_rfl



end Go.Proofs.Ytjbkahfbaploaaa
