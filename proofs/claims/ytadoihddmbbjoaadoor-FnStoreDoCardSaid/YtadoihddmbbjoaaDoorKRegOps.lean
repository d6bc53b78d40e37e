/-
  Operations of a region that draws its order: loads of slices.
-/
import Derived.Test.YtadoihddmbbjoaaDoorKRegCore
import Derived.Test.YtadoihddmbbjoaaDoorKStoBox
namespace Go.Proofs.YtadoihddmbbjoaaDoor
open Go.RowKit

theorem load_sliceS (w : World) (ad : Addr) (a : Option Addr) (n c : Nat) (hc : w.cell? ad = some (.slice a n c)) : (Instr.loadAt 22 (.pointer (some ad))).run Tryd.prog w = .ok (.slice a n c) w := by go_simp
theorem load_sliceI (w : World) (ad : Addr) (a : Option Addr) (n c : Nat) (hc : w.cell? ad = some (.slice a n c)) : (Instr.loadAt 23 (.pointer (some ad))).run Tryd.prog w = .ok (.slice a n c) w := by go_simp



end Go.Proofs.YtadoihddmbbjoaaDoor
