/-
  Stores drawn: spec.DrawStoreOk, DrawStoreFall.
-/
import Derived.Test.YtjbkahfbaploaaaStoBent
import Derived.Test.YtjbkahfbaploaaaDraw2
namespace Go.Proofs.Ytjbkahfbaploaaa
open Go.RowKit

theorem btn_wide {lo hi lo' hi' : Nat} {a b : World} (h : Btn lo hi a b) (h1 : lo' ≤ lo) (h2 : hi ≤ hi') : Btn lo' hi' a b :=
  ⟨h.os, h.tape, h.output, h.size, fun i hi0 hn => h.block i hi0 (fun q => hn ⟨by omega, by omega⟩)⟩
/-- What a draw of a store leaves. -/
def Dsto (w : World) (e : Ending) (w' : World) : Prop :=
  ∃ (S : StT) (v0 v1 v2 v3 v4 : Value), e = .returned (.agg #[v0, v1, v2, v3, v4]) ∧ szT S ∧ S.n5.le ∧ Hid (∀ w1, Btn 0 w.heap.size w' w1 → Sto w1 v0 v1 v2 v3 v4 S) ∧ Below w.heap.size w w'



end Go.Proofs.Ytjbkahfbaploaaa
