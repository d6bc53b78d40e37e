/-
  A string turned into a sheet and back.
-/
import Derived.Test.YtjbkahfbaploaaaSheet
namespace Go.Proofs.Ytjbkahfbaploaaa
open Go.RowKit Go.Lib

theorem sheet_of' (l : List UInt8) (W : World) : ∃ (cap : Nat) (W1 : World), (convert 9 53 (.string (mkB l))).run Try.prog W = .ok (.slice (some ⟨W.heap.size, 0, none⟩) l.length cap) W1 ∧
    Sht W1 (.slice (some ⟨W.heap.size, 0, none⟩) l.length cap) l ∧ Below W.heap.size W W1 := by
  have hr := run_bytes_of_string (P := Try.prog) W 9 53 5 (mkB l) Try.underlying9 Try.underlying53 Try.underlying5
  rw [mkB_size] at hr
  refine ⟨_, _, hr, ⟨W.heap.size, _, rfl, grownCap_ge _ _ _ _, by simp, fun j hj => ?_⟩, (Below.drew (Below.refl _ _)).alloc (by simp) _⟩
  have h1 : W.drew.heap.size = W.heap.size := rfl
  have := World.cell?_alloc_mark W.drew (bytesRow (mkB l) (grownCap W l.length 0 5)) 5 ((bytesRow (mkB l) (grownCap W l.length 0 5)).size, (bytesRow (mkB l) (grownCap W l.length 0 5)).size + 1) j
  rw [h1] at this
  rw [this, bytesRow_at _ _ _ (by show j < l.toArray.size; simpa using hj)]
  rfl
theorem conv_nil' (ad : Addr) (c : Nat) (W : World) : (convert 53 9 (.slice (some ad) 0 c)).run Try.prog W = .ok (.string (mkB [])) W :=
  run_convert_bytes_back W 53 9 5 ad c [] Try.underlying53 Try.underlying5 Try.underlying9 (fun _ hj => absurd hj (Nat.not_lt_zero _))
theorem conv_mid' {W : World} {g a b : Nat} (c : Nat) {l : List UInt8} (hc : ∀ j (h : j < l.length), W.cell? ⟨g, j, none⟩ = some (.int .u8 (l[j].toNat : Int))) (hb : b ≤ l.length) :
    (convert 53 9 (.slice (some ⟨g, a, none⟩) (b - a) c)).run Try.prog W = .ok (.string (mkB ((l.take b).drop a))) W := by
  have hl : ((l.take b).drop a).length = b - a := by rw [List.length_drop, List.length_take]; omega
  have := run_convert_bytes_back W 53 9 5 ⟨g, a, none⟩ c ((l.take b).drop a) Try.underlying53 Try.underlying5 Try.underlying9 (fun j hj => by
    rw [hl] at hj
    have e : (⟨g, a, none⟩ : Addr).add j = ⟨g, a + j, none⟩ := by
      unfold Addr.add
      split
      · rename_i h; simp only [h, Nat.add_zero]
      · rfl
    rw [e, hc (a + j) (by omega), List.getElem_drop, List.getElem_take])
  rw [hl] at this
  exact this

end Go.Proofs.Ytjbkahfbaploaaa
