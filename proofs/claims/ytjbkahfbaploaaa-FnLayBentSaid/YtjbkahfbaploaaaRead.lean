/-
  impl: sheet.read and TextRead: what they return at every text and pair of numbers.
-/
import Derived.Test.YtjbkahfbaploaaaReadS
import Derived.Test.YtjbkahfbaploaaaEdited
namespace Go.Proofs.Ytjbkahfbaploaaa
open Go.RowKit Go.Lib

theorem conv_nil (ad : Addr) (c : Nat) (W : World) : (convert 53 9 (.slice (some ad) 0 c)).run Try.prog W = .ok (.string (mkB [])) W :=
  run_convert_bytes_back W 53 9 5 ad c [] Try.underlying53 Try.underlying5 Try.underlying9 (fun _ hj => absurd hj (Nat.not_lt_zero _))
theorem conv_mid {W : World} {g a b : Nat} (c : Nat) {l : List UInt8} (hc : ∀ j (h : j < l.length), W.cell? ⟨g, j, none⟩ = some (.int .u8 (l[j].toNat : Int))) (hb : b ≤ l.length) :
    (convert 53 9 (.slice (some ⟨g, a, none⟩) (b - a) c)).run Try.prog W = .ok (.string (mkB ((l.take b).drop a))) W := by
  have hl : ((l.take b).drop a).length = b - a := by rw [List.length_drop, List.length_take]; omega
  have := run_convert_bytes_back W 53 9 5 ⟨g, a, none⟩ c ((l.take b).drop a) Try.underlying53 Try.underlying5 Try.underlying9 (fun j hj => by
    rw [hl] at hj
    have e : (⟨g, a, none⟩ : Addr).add j = ⟨g, a + j, none⟩ := by
      unfold Addr.add
      split
      · rename_i h; simp only [h, Nat.add_zero]
      · rfl
    rw [e, hc (a + j) (by omega), List.getElem_drop, List.getElem_take])
  rw [hl] at this
  exact this

set_option maxHeartbeats 1000000 in
theorem read_any (v : Value) (l : List UInt8) (lo hi : Nat) (hh : lo < hi) (w : World) (h : Sht w v l) :
    Calls Try.prog 49 #[v, .agg #[.int .i64 lo, .int .i64 hi]] w fun e w' => e = .returned (.string (mkB (rdL l lo hi))) ∧ Below w.heap.size w w' := by
  obtain ⟨g, cap, rfl, hlc, hg, hc⟩ := h
  have k := new_box w lo hi 36
  have hal : Below w.heap.size w (w.alloc (.cells #[.int .i64 lo, .int .i64 hi] 36)) := (Below.refl _ _).alloc (Nat.le_refl _) _
  have hcv := fun (a b : Nat) (hb : b ≤ l.length) => conv_mid (a := a) (b := b) (cap - a) (fun j h => cell_keep hal (hc j h)) hb
  have hnil := fun ad c W => conv_nil ad c W
  obtain ⟨x1, x2, -, -⟩ := id k
  clear hc
  by_cases c1 : l.length < lo
  · have c2 : l.length < hi := by omega
    have hR : Hid (rdL l lo hi = []) := by show _ = _; unfold rdL; rw [List.drop_eq_nil_of_le (by rw [List.length_take]; omega)]
    clear hcv
    by_cases c3 : cap = l.length
    · subst c3
      go_enter Try.func49, Try.ntmps49
      go_wp2
      go_ret
      exact ⟨ret_str hR.out.symm, hal⟩
    · go_enter Try.func49, Try.ntmps49
      go_wp2
      go_ret
      exact ⟨ret_str hR.out.symm, hal⟩
  · by_cases c3 : cap = lo
    · obtain rfl : lo = l.length := by omega
      have hR : Hid (rdL l l.length hi = []) := by show _ = _; unfold rdL; rw [List.drop_eq_nil_of_le (by rw [List.length_take]; omega)]
      subst c3
      clear hcv
      go_enter Try.func49, Try.ntmps49
      go_wp2
      go_ret
      exact ⟨ret_str hR.out.symm, hal⟩
    · by_cases c2 : l.length < hi
      · have hcv2 := hcv lo l.length (Nat.le_refl _)
        have hR : Hid (rdL l lo hi = (l.take l.length).drop lo) := by show _ = _; unfold rdL; rw [List.take_of_length_le (show l.length ≤ hi by omega), List.take_of_length_le (Nat.le_refl _)]
        generalize (l.take l.length).drop lo = R at *
        clear hcv hnil
        go_enter Try.func49, Try.ntmps49
        go_wp2
        go_ret
        exact ⟨ret_str hR.out.symm, hal⟩
      · have hcv2 := hcv lo hi (by omega)
        have hR : Hid (rdL l lo hi = (l.take hi).drop lo) := rfl
        generalize (l.take hi).drop lo = R at *
        clear hcv hnil
        go_enter Try.func49, Try.ntmps49
        go_wp2
        go_ret
        exact ⟨ret_str hR.out.symm, hal⟩


end Go.Proofs.Ytjbkahfbaploaaa
