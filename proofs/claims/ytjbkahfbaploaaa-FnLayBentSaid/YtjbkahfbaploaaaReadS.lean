/-
  What TextRead returns, by the two tests it begins with.
-/
import Derived.Test.YtjbkahfbaploaaaReadMath
import Derived.Test.YtjbkahfbaploaaaSpan
namespace Go.Proofs.Ytjbkahfbaploaaa

theorem trS_yes {l : List UInt8} {lo hi : Nat} (h1 : tokB l = true) (h2 : spanOkB lo hi = true) : trS l lo hi = rdL l lo hi := by
  obtain ⟨a, b, c⟩ := spanOkB_iff.1 h2
  unfold trS; rw [if_pos ⟨h1, a, b, c⟩, Int.toNat_natCast, Int.toNat_natCast]
theorem trS_no {l : List UInt8} {lo hi : Int} (h : tokB l = false ∨ spanOkB lo hi = false) : trS l lo hi = [] := by
  unfold trS
  rw [if_neg]
  rintro ⟨a, b⟩
  rcases h with h | h
  · rw [h] at a; cases a
  · rw [spanOkB_iff.2 b] at h; cases h

end Go.Proofs.Ytjbkahfbaploaaa
