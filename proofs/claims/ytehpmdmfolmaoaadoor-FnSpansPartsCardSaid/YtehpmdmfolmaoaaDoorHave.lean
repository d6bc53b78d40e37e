/-
  Contracts of SpansHave of both sides.
-/
import Derived.Test.YtehpmdmfolmaoaaDoorSpots
namespace Go.Proofs.YtehpmdmfolmaoaaDoor
open Go.RowKit

/-- All of a range is in a list, both being ones. -/
def haveB (L : List Rng) (s : Rng) : Bool := spansOkB L && (spanOkB s.1 s.2 && hasB L s.1 (s.2 - s.1).toNat)

set_option maxHeartbeats 1000000 in
theorem l1Has_any (v : Value) (L : List Rng) (lo hi : Int) (w : World) (h : Spn w v L) (hs : spanOkB lo hi = true) :
    Calls Tryd.prog 46 #[v, .agg #[.int .i64 lo, .int .i64 hi]] w fun e w' => e = .returned (.bool (hasB L lo (hi - lo).toNat)) ∧ Below w.heap.size w w' := by
  obtain ⟨h0, h1, h2⟩ := spanOkB_iff.1 hs
  have k := new_box w lo hi 25
  have hal : Below w.heap.size w (w.alloc (.cells #[.int .i64 lo, .int .i64 hi] 25)) := (Below.refl _ _).alloc (Nat.le_refl _) _
  have HP := Lib.hid (h.keep hal)
  obtain ⟨k1, k2, -, -⟩ := k
  clear h hs
  go_enter Tryd.func46, Tryd.ntmps46
  go_wp2
  generalize (w.alloc (.cells #[.int .i64 lo, .int .i64 hi] 25)) = W at *
  go_loopg [5] (hi - lo).toNat (fun g s5 wr => ∃ i : Int, g = (hi - i).toNat ∧ lo ≤ i ∧ i ≤ hi ∧ s5 = .int .i64 i ∧ Hid (hasB L lo (hi - lo).toNat = hasB L i (hi - i).toNat) ∧ W = wr)
  case atStart => exact ⟨lo, rfl, by omega, by omega, rfl, Lib.hid rfl, rfl⟩
  case round =>
    obtain ⟨i, rfl, hi1, hi2, rfl, HK, rfl⟩ := hrel
    by_cases hlt : i < hi
    · have HT : Hid (hasB L lo (hi - lo).toNat = (inB L i && hasB L (i + 1) (hi - (i + 1)).toNat)) := by
        have e : (hi - i).toNat = (hi - (i + 1)).toNat + 1 := by omega
        have := HK.out
        rw [e] at this
        exact this
      by_cases hin : inB L i = true
      · have HT' : Hid (hasB L lo (hi - lo).toNat = hasB L (i + 1) (hi - (i + 1)).toNat) := by
          have := HT.out
          rw [hin, Bool.true_and] at this
          exact this
        go_wp2_with fail
        refine (l1In_any _ L i _ HP.out).mono ?_; rintro e w' ⟨rfl, rfl⟩
        go_wp2
        go_roundg (hi - (i + 1)).toNat
        case measure => omega
        case rel => exact ⟨i + 1, rfl, by omega, by omega, rfl, HT', rfl⟩
      · replace hin : inB L i = false := by simpa using hin
        have HF' : Hid (hasB L lo (hi - lo).toNat = false) := by
          have := HT.out
          rw [hin, Bool.false_and] at this
          exact this
        go_wp2_with fail
        refine (l1In_any _ L i _ HP.out).mono ?_; rintro e w' ⟨rfl, rfl⟩
        go_wp2
        go_ret
        exact ⟨ret_bool HF'.out.symm, hal⟩
    · have HF' : Hid (hasB L lo (hi - lo).toNat = true) := by
        have := HK.out
        rw [show (hi - i).toNat = 0 by omega] at this
        exact this
      go_wp2
      go_ret
      exact ⟨ret_bool HF'.out.symm, hal⟩

set_option maxHeartbeats 1000000 in
theorem specSpansHave_any (v : Value) (L : List Rng) (lo hi : Int) (w : World) (h : Spn w v L) :
    Calls Tryd.prog 28 #[v, .agg #[.int .i64 lo, .int .i64 hi]] w fun e w' => e = .returned (.bool (haveB L (lo, hi))) ∧ Below w.heap.size w w' := by
  have k := new_box w lo hi 25
  have hal : Below w.heap.size w (w.alloc (.cells #[.int .i64 lo, .int .i64 hi] 25)) := (Below.refl _ _).alloc (Nat.le_refl _) _
  have HP := Lib.hid (h.keep hal)
  clear h
  by_cases h1 : spansOkB L = true
  · by_cases h2 : spanOkB lo hi = true
    · have HF : haveB L (lo, hi) = hasB L lo (hi - lo).toNat := by unfold haveB; simp [h1, h2]
      have HF' := Lib.hid HF
      clear HF
      go_enter Tryd.func28, Tryd.ntmps28
      go_wp2_with fail
      refine (specSpansOk_any v L _ HP.out).mono ?_; rintro e w1 ⟨rfl, hb1⟩
      have e1 := hal.trans (hb1.mono hal.size)
      have HP1 := Lib.hid (HP.out.keep hb1)
      have g1 := k.keep hb1
      obtain ⟨x1, x2, -, -⟩ := id g1
      go_wp2_with fail
      refine (specSpanOk_any lo hi _).mono ?_; rintro e w2 ⟨rfl, hb2⟩
      have e2 := e1.trans (hb2.mono e1.size)
      have HP2 := Lib.hid (HP1.out.keep hb2)
      clear x1 x2
      obtain ⟨x1, x2, -, -⟩ := g1.keep hb2
      go_wp2_with fail
      refine (l1Has_any v L lo hi _ HP2.out h2).mono ?_; rintro e w3 ⟨rfl, hb3⟩
      have e3 := e2.trans (hb3.mono e2.size)
      go_wp2
      go_ret
      exact ⟨ret_bool HF'.out.symm, e3⟩
    · replace h2 : spanOkB lo hi = false := by simpa using h2
      have HF : haveB L (lo, hi) = false := by unfold haveB; simp [h2]
      have HF' := Lib.hid HF
      clear HF
      go_enter Tryd.func28, Tryd.ntmps28
      go_wp2_with fail
      refine (specSpansOk_any v L _ HP.out).mono ?_; rintro e w1 ⟨rfl, hb1⟩
      have e1 := hal.trans (hb1.mono hal.size)
      have HP1 := Lib.hid (HP.out.keep hb1)
      have g1 := k.keep hb1
      obtain ⟨x1, x2, -, -⟩ := id g1
      go_wp2_with fail
      refine (specSpanOk_any lo hi _).mono ?_; rintro e w2 ⟨rfl, hb2⟩
      have e2 := e1.trans (hb2.mono e1.size)
      go_wp2
      go_ret
      exact ⟨ret_bool HF'.out.symm, e2⟩
  · replace h1 : spansOkB L = false := by simpa using h1
    have HF : haveB L (lo, hi) = false := by unfold haveB; simp [h1]
    have HF' := Lib.hid HF
    clear HF
    go_enter Tryd.func28, Tryd.ntmps28
    go_wp2_with fail
    refine (specSpansOk_any v L _ HP.out).mono ?_; rintro e w1 ⟨rfl, hb1⟩
    have e1 := hal.trans (hb1.mono hal.size)
    go_wp2
    go_ret
    exact ⟨ret_bool HF'.out.symm, e1⟩

set_option maxHeartbeats 1000000 in
theorem implSpansHave_any (v : Value) (L : List Rng) (lo hi : Int) (w : World) (h : Spn w v L) :
    Calls Tryd.prog 19 #[v, .agg #[.int .i64 lo, .int .i64 hi]] w fun e w' => e = .returned (.bool (haveB L (lo, hi))) ∧ Below w.heap.size w w' := by
  have k := new_box w lo hi 25
  have hal : Below w.heap.size w (w.alloc (.cells #[.int .i64 lo, .int .i64 hi] 25)) := (Below.refl _ _).alloc (Nat.le_refl _) _
  have HP := Lib.hid (h.keep hal)
  clear h
  by_cases h1 : spansOkB L = true
  · by_cases h2 : spanOkB lo hi = true
    · have hall := spansOkB_all h1
      have hiff := have_iff L (lo, hi) hall h2
      have hl1 := msk_lt (lo, hi) h2
      have hl2 := sps_lt L hall
      have HF : haveB L (lo, hi) = decide ((((msk (lo, hi) &&& (18446744073709551615 - sps L) : Nat) : Int)) = 0) := by
        unfold haveB
        rw [Bool.eq_iff_iff]
        simp only [h1, h2, Bool.true_and, decide_eq_true_eq]
        rw [← hiff]
        omega
      have HF' := Lib.hid HF
      have ha : bits .andNot .u64 ((msk (lo, hi) : Nat) : Int) ((sps L : Nat) : Int) = ((msk (lo, hi) &&& (18446744073709551615 - sps L) : Nat) : Int) := u64_andNot_nat _ _ (by omega) (by omega)
      have HA := Lib.hid hall
      generalize hM : (msk (lo, hi) &&& (18446744073709551615 - sps L) : Nat) = M at *
      clear HF hiff hl1 hl2 hall hM
      go_enter Tryd.func19, Tryd.ntmps19
      go_wp2_with fail
      refine (implSpansOk_any v L _ HP.out).mono ?_; rintro e w1 ⟨rfl, hb1⟩
      have e1 := hal.trans (hb1.mono hal.size)
      have HP1 := Lib.hid (HP.out.keep hb1)
      have g1 := k.keep hb1
      obtain ⟨x1, x2, -, -⟩ := id g1
      go_wp2_with fail
      refine (implSpanOk_any lo hi _).mono ?_; rintro e w2 ⟨rfl, hb2⟩
      have e2 := e1.trans (hb2.mono e1.size)
      have HP2 := Lib.hid (HP1.out.keep hb2)
      clear x1 x2
      obtain ⟨x1, x2, -, -⟩ := g1.keep hb2
      go_wp2_with fail
      refine (spots_any lo hi _ h2).mono ?_; rintro e w3 ⟨rfl, hb3⟩
      have e3 := e2.trans (hb3.mono e2.size)
      have HP3 := Lib.hid (HP2.out.keep hb3)
      go_wp2_with fail
      refine (spotsOf_any v L _ HP3.out HA.out).mono ?_; rintro e w4 ⟨rfl, hb4⟩
      have e4 := e3.trans (hb4.mono e3.size)
      go_wp2
      go_ret
      exact ⟨ret_bool (by rw [HF'.out, Bool.eq_iff_iff]; simp), e4⟩
    · replace h2 : spanOkB lo hi = false := by simpa using h2
      have HF : haveB L (lo, hi) = false := by unfold haveB; simp [h2]
      have HF' := Lib.hid HF
      clear HF
      go_enter Tryd.func19, Tryd.ntmps19
      go_wp2_with fail
      refine (implSpansOk_any v L _ HP.out).mono ?_; rintro e w1 ⟨rfl, hb1⟩
      have e1 := hal.trans (hb1.mono hal.size)
      have g1 := k.keep hb1
      obtain ⟨x1, x2, -, -⟩ := id g1
      go_wp2_with fail
      refine (implSpanOk_any lo hi _).mono ?_; rintro e w2 ⟨rfl, hb2⟩
      have e2 := e1.trans (hb2.mono e1.size)
      go_wp2
      go_ret
      exact ⟨ret_bool HF'.out.symm, e2⟩
  · replace h1 : spansOkB L = false := by simpa using h1
    have HF : haveB L (lo, hi) = false := by unfold haveB; simp [h1]
    have HF' := Lib.hid HF
    clear HF
    go_enter Tryd.func19, Tryd.ntmps19
    go_wp2_with fail
    refine (implSpansOk_any v L _ HP.out).mono ?_; rintro e w1 ⟨rfl, hb1⟩
    have e1 := hal.trans (hb1.mono hal.size)
    go_wp2
    go_ret
    exact ⟨ret_bool HF'.out.symm, e1⟩

end Go.Proofs.YtehpmdmfolmaoaaDoor
