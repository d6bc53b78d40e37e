/-
  Contracts of SpansHave of both sides.
-/
import Derived.Test.YteglfdcoeogilaaDoorSpots
namespace Go.Proofs.YteglfdcoeogilaaDoor
open Go.RowKit

/-- All of a range is in a list, both being ones. -/
def haveB (L : List Rng) (s : Rng) : Bool := spansOkB L && (spanOkB s.1 s.2 && hasB L s.1 (s.2 - s.1).toNat)



set_option maxHeartbeats 1000000 in
theorem implSpansHave_any (v : Value) (L : List Rng) (lo hi : Int) (w : World) (h : Spn w v L) :
    Calls Tryd.prog 12 #[v, .agg #[.int .i64 lo, .int .i64 hi]] w fun e w' => e = .returned (.bool (haveB L (lo, hi))) ∧ Below w.heap.size w w' := by
  have k := new_box w lo hi 25
  have hal : Below w.heap.size w (w.alloc (.cells #[.int .i64 lo, .int .i64 hi] 25)) := (Below.refl _ _).alloc (Nat.le_refl _) _
  have HP := Lib.hid (h.keep hal)
  clear h
  by_cases h1 : spansOkB L = true
  · by_cases h2 : spanOkB lo hi = true
    · have hall := spansOkB_all h1
      have hiff := have_iff L (lo, hi) hall h2
      have hl1 := msk_lt (lo, hi) h2
      have hl2 := sps_lt L hall
      have HF : haveB L (lo, hi) = decide ((((msk (lo, hi) &&& (18446744073709551615 - sps L) : Nat) : Int)) = 0) := by
        unfold haveB
        rw [Bool.eq_iff_iff]
        simp only [h1, h2, Bool.true_and, decide_eq_true_eq]
        rw [← hiff]
        omega
      have HF' := Lib.hid HF
      have ha : bits .andNot .u64 ((msk (lo, hi) : Nat) : Int) ((sps L : Nat) : Int) = ((msk (lo, hi) &&& (18446744073709551615 - sps L) : Nat) : Int) := u64_andNot_nat _ _ (by omega) (by omega)
      have HA := Lib.hid hall
      generalize hM : (msk (lo, hi) &&& (18446744073709551615 - sps L) : Nat) = M at *
      clear HF hiff hl1 hl2 hall hM
      go_enter Tryd.func12, Tryd.ntmps12
      go_wp2_with fail
      refine (implSpansOk_any v L _ HP.out).mono ?_; rintro e w1 ⟨rfl, hb1⟩
      have e1 := hal.trans (hb1.mono hal.size)
      have HP1 := Lib.hid (HP.out.keep hb1)
      have g1 := k.keep hb1
      obtain ⟨x1, x2, -, -⟩ := id g1
      go_wp2_with fail
      refine (implSpanOk_any lo hi _).mono ?_; rintro e w2 ⟨rfl, hb2⟩
      have e2 := e1.trans (hb2.mono e1.size)
      have HP2 := Lib.hid (HP1.out.keep hb2)
      clear x1 x2
      obtain ⟨x1, x2, -, -⟩ := g1.keep hb2
      go_wp2_with fail
      refine (spots_any lo hi _ h2).mono ?_; rintro e w3 ⟨rfl, hb3⟩
      have e3 := e2.trans (hb3.mono e2.size)
      have HP3 := Lib.hid (HP2.out.keep hb3)
      go_wp2_with fail
      refine (spotsOf_any v L _ HP3.out HA.out).mono ?_; rintro e w4 ⟨rfl, hb4⟩
      have e4 := e3.trans (hb4.mono e3.size)
      go_wp2
      go_ret
      exact ⟨ret_bool (by rw [HF'.out, Bool.eq_iff_iff]; simp), e4⟩
    · replace h2 : spanOkB lo hi = false := by simpa using h2
      have HF : haveB L (lo, hi) = false := by unfold haveB; simp [h2]
      have HF' := Lib.hid HF
      clear HF
      go_enter Tryd.func12, Tryd.ntmps12
      go_wp2_with fail
      refine (implSpansOk_any v L _ HP.out).mono ?_; rintro e w1 ⟨rfl, hb1⟩
      have e1 := hal.trans (hb1.mono hal.size)
      have g1 := k.keep hb1
      obtain ⟨x1, x2, -, -⟩ := id g1
      go_wp2_with fail
      refine (implSpanOk_any lo hi _).mono ?_; rintro e w2 ⟨rfl, hb2⟩
      have e2 := e1.trans (hb2.mono e1.size)
      go_wp2
      go_ret
      exact ⟨ret_bool HF'.out.symm, e2⟩
  · replace h1 : spansOkB L = false := by simpa using h1
    have HF : haveB L (lo, hi) = false := by unfold haveB; simp [h1]
    have HF' := Lib.hid HF
    clear HF
    go_enter Tryd.func12, Tryd.ntmps12
    go_wp2_with fail
    refine (implSpansOk_any v L _ HP.out).mono ?_; rintro e w1 ⟨rfl, hb1⟩
    have e1 := hal.trans (hb1.mono hal.size)
    go_wp2
    go_ret
    exact ⟨ret_bool HF'.out.symm, e1⟩

end Go.Proofs.YteglfdcoeogilaaDoor
