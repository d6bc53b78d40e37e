/-
  spec.LayText: a striped file put together again.
-/
import Derived.Test.YtjbkahfbaploaaaLtMath
import Derived.Test.YtjbkahfbaploaaaLayFn
import Derived.Test.YtjbkahfbaploaaaLong
import Derived.Test.YtjbkahfbaploaaaToInt
import Derived.Test.YtjbkahfbaploaaaRow1
import Derived.Test.YtjbkahfbaploaaaSpecLong
import Derived.Test.YtjbkahfbaploaaaText
import Derived.Deep.LoopGhost
import Derived.Laws.AppendOwn
namespace Go.Proofs.Ytjbkahfbaploaaa
open Go.RowKit

abbrev sF (S : Nat → List UInt8) : Nat → Value := fun i => .string (mkB (S i))
/-- The first k lengths, as values. -/
def lenV (S : Nat → List UInt8) (k : Nat) : List Value := (List.range k).map fun i => .int .i64 (lens S i)
theorem lenV_len (S : Nat → List UInt8) (k : Nat) : (lenV S k).length = k := by unfold lenV; simp
theorem lenV_succ (S : Nat → List UInt8) (k : Nat) : lenV S (k + 1) = lenV S k ++ [.int .i64 ((S k).length : Int)] := by unfold lenV lens; rw [List.range_succ, List.map_append]; rfl
theorem lenV_vls {w : World} {B n : Nat} {v : Value} {S : Nat → List UInt8} (h : w.ownsRow B 3 1 v n (lenV S n)) : Vls w v n (ints (lens S)) := (own_vls h).congr fun i hi => by
  unfold lenV
  rw [List.getD_eq_getElem?_getD, List.getElem?_map, List.getElem?_range hi]; rfl
theorem own_succ1 {W : World} {b : Nat} {e : TypeId} {size : Nat} {v : Value} {n : Nat} {xs : List Value} (h : W.ownsRow b e size v (n + 1) xs) : ∃ g cap, v = .slice (some ⟨g, 0, none⟩) (n + 1) cap := by
  rcases h.2 with ⟨-, h0⟩ | ⟨g', cap', cur', hv', -⟩
  · omega
  · exact ⟨g', cap', hv'⟩
theorem slice_one (l : List UInt8) (k : Nat) (h : k < l.length) : (mkB l).extract k (k + 1) = mkB [l.getD k 46] := by
  rw [mkB_extract]
  congr 1
  rw [List.take_add_one, List.getElem?_eq_getElem h, List.drop_append, List.drop_of_length_le (by rw [List.length_take]; omega), List.length_take, show k - min k l.length = 0 by omega, List.getD_eq_getElem?_getD, List.getElem?_eq_getElem h]
  rfl


end Go.Proofs.Ytjbkahfbaploaaa
