/-
  Operations of a region that draws its order: loads of slices.
-/
import Derived.Test.YtjbkahfbaploaaaRegCore
import Derived.Test.YtjbkahfbaploaaaStoBox
namespace Go.Proofs.Ytjbkahfbaploaaa
open Go.RowKit

theorem load_sliceS (w : World) (ad : Addr) (a : Option Addr) (n c : Nat) (hc : w.cell? ad = some (.slice a n c)) : (Instr.loadAt 31 (.pointer (some ad))).run Try.prog w = .ok (.slice a n c) w := by go_simp
theorem load_sliceI (w : World) (ad : Addr) (a : Option Addr) (n c : Nat) (hc : w.cell? ad = some (.slice a n c)) : (Instr.loadAt 39 (.pointer (some ad))).run Try.prog w = .ok (.slice a n c) w := by go_simp



end Go.Proofs.Ytjbkahfbaploaaa
