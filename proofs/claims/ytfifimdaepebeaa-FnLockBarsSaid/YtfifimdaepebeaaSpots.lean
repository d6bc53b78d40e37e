/-
  Contracts of the bit sets (Span.spots, spotsOf) and of the model's coverage (l1In, l1Has).
-/
import Derived.Test.YtfifimdaepebeaaRow2
import Derived.Test.YtfifimdaepebeaaBitsMath
namespace Go.Proofs.Ytfifimdaepebeaa
open Go.RowKit

theorem ret_u64 {a b : Int} (h : a = b) : Ending.returned (.int .u64 a) = .returned (.int .u64 b) := by rw [h]

set_option maxHeartbeats 1000000 in
theorem spots_any (lo hi : Int) (w : World) (h : spanOkB lo hi = true) :
    Calls Try.prog 101 #[.agg #[.int .i64 lo, .int .i64 hi]] w fun e w' => e = .returned (.int .u64 ((msk (lo, hi) : Nat) : Int)) ∧ Below w.heap.size w w' := by
  have hm := msk_walk (lo, hi) h
  have HM := Lib.hid hm
  obtain ⟨h0, h1, h2⟩ := spanOkB_iff.1 h
  clear hm h
  go_enter Try.func101, Try.ntmps101
  go_wp2_with fail
  have k := new_box w lo hi 25
  have d1 : ∀ x : BelowOf (w.alloc (.cells #[.int .i64 lo, .int .i64 hi] 25)), x.w.cell? ⟨w.heap.size, 0, none⟩ = some (.int .i64 lo) := fun x => x.cell k.1
  have d2 : ∀ x : BelowOf (w.alloc (.cells #[.int .i64 lo, .int .i64 hi] 25)), x.w.cell? ⟨w.heap.size, 1, none⟩ = some (.int .i64 hi) := fun x => x.cell k.2.1
  refine wp_region_calm (by kernel_rfl) (by kernel_rfl) ?_
  repeat (go_big_quiet_step (fail))
  refine wpQuiet_nil ?_
  rintro _ ⟨x, rfl⟩
  have hb2 := x.below
  clear d1 d2
  go_wp2
  go_ret
  exact ⟨ret_u64 HM.out, ((Below.refl _ _).alloc (Nat.le_refl _) _).trans (hb2.mono (by simp))⟩

set_option maxHeartbeats 1000000 in
theorem spotsOf_any (v : Value) (L : List Rng) (w : World) (h : Spn w v L) (hok : ∀ s ∈ L, spanOkB s.1 s.2 = true) :
    Calls Try.prog 95 #[v] w fun e w' => e = .returned (.int .u64 ((sps L : Nat) : Int)) ∧ Below w.heap.size w w' := by
  obtain ⟨a, cap, rfl, hl, hm, hc⟩ := h
  unfold maxLen at hm
  have HC := Lib.hid hc
  have HO := Lib.hid hok
  have HS : Hid (0 ||| sps (L.drop 0) = sps L) := Nat.zero_or _
  clear hc hok
  go_enter Try.func95, Try.ntmps95
  go_wp2
  go_loopg [3, 8] L.length (fun g s3 s8 wr => ∃ k acc : Nat, g = L.length - k ∧ k ≤ L.length ∧ s3 = .int .u64 (acc : Int) ∧ s8 = .int .i64 k ∧ acc < 2 ^ 48 ∧ Hid (acc ||| sps (L.drop k) = sps L) ∧ Below w.heap.size w wr)
  case atStart => exact ⟨0, 0, rfl, Nat.zero_le _, rfl, rfl, by omega, HS, Below.refl _ _⟩
  case round =>
    obtain ⟨k, acc, rfl, hk, rfl, rfl, hacc, HK, hb⟩ := hrel
    by_cases hlt : k < L.length
    · obtain ⟨b, off, rfl, hcc⟩ := HC.out (fun e => by subst e; simp at hlt)
      have c1 := cell_keep hb (hcc k hlt).1
      have c2 := cell_keep hb (hcc k hlt).2
      have hmem : L.getD k (0, 0) ∈ L := by rw [List.getD_eq_getElem?_getD, List.getElem?_eq_getElem hlt]; exact List.getElem_mem hlt
      have h1 := HO.out _ hmem
      have hml := msk_lt _ h1
      have HT : Hid ((acc ||| msk (L.getD k (0, 0))) ||| sps (L.drop (k + 1)) = sps L) := by
        have := HK.out
        rw [drop_cons L k hlt] at this
        rw [Nat.or_assoc]; exact this
      clear hcc hmem HK
      generalize L.getD k (0, 0) = s at *
      obtain ⟨lo, hi⟩ := s
      simp only at c1 c2 h1
      have hl2 := Nat.or_lt_two_pow hacc hml
      have ho : bits .or .u64 (acc : Int) ((msk (lo, hi) : Nat) : Int) = ((acc ||| msk (lo, hi) : Nat) : Int) := u64_or_nat _ _ (by omega) (by omega)
      have k1 := new_box wr lo hi 25
      have hal : Below wr.heap.size wr (wr.alloc (.cells #[.int .i64 lo, .int .i64 hi] 25)) := (Below.refl _ _).alloc (Nat.le_refl _) _
      go_wp2_with fail
      refine (spots_any lo hi _ h1).mono ?_; rintro e w1 ⟨rfl, hb1⟩
      have hb2 := hb.trans ((hal.trans (hb1.mono hal.size)).mono hb.size)
      go_wp2
      go_roundg (L.length - (k + 1))
      case measure => omega
      case rel => exact ⟨k + 1, acc ||| msk (lo, hi), rfl, by omega, rfl, by go_num, hl2, HT, hb2⟩
    · have HF : sps L = acc := by
        have := HK.out
        rw [List.drop_of_length_le (by omega)] at this
        simpa [sps] using this.symm
      have HF' := Lib.hid HF
      clear HF
      go_wp2
      go_ret
      exact ⟨ret_u64 (by rw [HF'.out]), hb⟩

theorem inB_step (L : List Rng) (at' : Int) (k : Nat) (h : k < L.length) : inB (L.drop k) at' = ((decide ((L.getD k (0, 0)).1 ≤ at') && decide (at' < (L.getD k (0, 0)).2)) || inB (L.drop (k + 1)) at') := by
  rw [drop_cons L k h]; rfl

set_option maxHeartbeats 1000000 in
theorem l1In_any (v : Value) (L : List Rng) (p : Int) (w : World) (h : Spn w v L) :
    Calls Try.prog 69 #[v, .int .i64 p] w fun e w' => e = .returned (.bool (inB L p)) ∧ w = w' := by
  obtain ⟨a, cap, rfl, hl, hm, hc⟩ := h
  unfold maxLen at hm
  have HC := Lib.hid hc
  have HS : Hid (inB L p = inB (L.drop 0) p) := rfl
  clear hc
  go_enter Try.func69, Try.ntmps69
  go_wp2
  go_loopg [5] L.length (fun g s5 wr => ∃ k : Nat, g = L.length - k ∧ k ≤ L.length ∧ s5 = .int .i64 k ∧ Hid (inB L p = inB (L.drop k) p) ∧ w = wr)
  case atStart => exact ⟨0, rfl, Nat.zero_le _, rfl, HS, rfl⟩
  case round =>
    obtain ⟨k, rfl, hk, rfl, HK, rfl⟩ := hrel
    by_cases hlt : k < L.length
    · obtain ⟨b, off, rfl, hcc⟩ := HC.out (fun e => by subst e; simp at hlt)
      have c1 := (hcc k hlt).1
      have c2 := (hcc k hlt).2
      have HT := inB_step L p k hlt
      rw [← HK.out] at HT
      have HT' := Lib.hid HT
      clear HT hcc HK
      generalize L.getD k (0, 0) = s at *
      obtain ⟨lo, hi⟩ := s
      simp only at c1 c2
      by_cases h1 : lo ≤ p
      · by_cases h2 : p < hi
        · have HF' : Hid (inB L p = true) := by show inB L p = true; rw [HT'.out]; simp [h1, h2]
          go_wp2
          go_ret
          exact ⟨ret_bool HF'.out.symm, rfl⟩
        · have HF' : Hid (inB L p = inB (L.drop (k + 1)) p) := by show inB L p = _; rw [HT'.out]; simp [h2]
          go_wp2
          go_roundg (L.length - (k + 1))
          case measure => omega
          case rel => exact ⟨k + 1, rfl, by omega, by go_num, HF', rfl⟩
      · have HF' : Hid (inB L p = inB (L.drop (k + 1)) p) := by show inB L p = _; rw [HT'.out]; simp [h1]
        go_wp2
        go_roundg (L.length - (k + 1))
        case measure => omega
        case rel => exact ⟨k + 1, rfl, by omega, by go_num, HF', rfl⟩
    · have HF' : Hid (inB L p = false) := by show inB L p = false; rw [HK.out, List.drop_of_length_le (by omega)]; rfl
      go_wp2
      go_ret
      exact ⟨ret_bool HF'.out.symm, rfl⟩

end Go.Proofs.Ytfifimdaepebeaa
