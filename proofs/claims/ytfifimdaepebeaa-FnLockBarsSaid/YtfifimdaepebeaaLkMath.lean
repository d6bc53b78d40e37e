/-
  Plain facts: what one may do in a part of a part; what one may do at each position.
-/
import Derived.Test.YtfifimdaepebeaaGiveMath
import Derived.Test.YtfifimdaepebeaaSpecMay
namespace Go.Proofs.Ytfifimdaepebeaa

theorem mayB_iff {T : List HoldT} {who : Int} {wr : Bool} {lo hi : Int} : mayB T who wr lo hi = true ↔ lockOkB T = true ∧ whoB who = true ∧ spanOkB lo hi = true ∧ ∀ i : Int, lo ≤ i → i < hi → (inB (T.getD who.toNat hd0).2 i || (!wr && inB (T.getD who.toNat hd0).1 i)) = true := by
  unfold mayB
  simp only [Bool.and_eq_true]
  constructor
  · rintro ⟨h1, h2, h3, h4⟩
    have := spanOkB_iff.1 h3
    exact ⟨h1, h2, h3, fun i a b => (mayN_iff _ _ _ _).1 h4 i a (by omega)⟩
  · rintro ⟨h1, h2, h3, h4⟩
    have := spanOkB_iff.1 h3
    exact ⟨h1, h2, h3, (mayN_iff _ _ _ _).2 fun i a b => h4 i a (by omega)⟩

theorem may_part {T : List HoldT} {who : Int} {wr : Bool} {lo hi a b : Int} (h : mayB T who wr lo hi = true) (h1 : lo ≤ a) (h2 : b ≤ hi) (h3 : a < b) : mayB T who wr a b = true := by
  obtain ⟨k1, k2, k3, k4⟩ := mayB_iff.1 h
  have := spanOkB_iff.1 k3
  exact mayB_iff.2 ⟨k1, k2, spanOkB_iff.2 (by omega), fun i x y => k4 i (by omega) (by omega)⟩

theorem may_false {T : List HoldT} {who : Int} {wr : Bool} {lo hi : Int} (h : mayB T who wr lo hi = true) : mayB T who false lo hi = true := by
  obtain ⟨k1, k2, k3, k4⟩ := mayB_iff.1 h
  refine mayB_iff.2 ⟨k1, k2, k3, fun i x y => ?_⟩
  have := k4 i x y
  revert this
  cases inB (T.getD who.toNat hd0).2 i <;> cases inB (T.getD who.toNat hd0).1 i <;> cases wr <;> simp

end Go.Proofs.Ytfifimdaepebeaa
