/-
  Contracts of the model's SpansAdd and SpansCut.
-/
import Derived.Test.YteglfdcoeogilaaDoorAddCut
namespace Go.Proofs.YteglfdcoeogilaaDoor
open Go.RowKit

/-- The list of a set of positions, where both are ones and it has no more than twelve ranges; else none. -/
def setL (f : Nat → Bool) (L : List Rng) (lo hi : Int) : List Rng :=
  if spansOkB L && (spanOkB lo hi && spansOkB (rg f 48)) then rg f 48 else []


set_option maxRecDepth 100000 in
set_option maxHeartbeats 4000000 in
theorem specSpansCut_any (v : Value) (L : List Rng) (lo hi : Int) (w : World) (h : Spn w v L) :
    Calls Tryd.prog 8 #[v, .agg #[.int .i64 lo, .int .i64 hi]] w (Rgs w (setL (cutF L lo hi) L lo hi)) := by
  have k := new_box w lo hi 25
  have hal : Below w.heap.size w (w.alloc (.cells #[.int .i64 lo, .int .i64 hi] 25)) := (Below.refl _ _).alloc (Nat.le_refl _) _
  have HP := Lib.hid (h.keep hal)
  clear h
  by_cases h1 : spansOkB L = true
  · by_cases h2 : spanOkB lo hi = true
    · by_cases h3 : spansOkB (rg (cutF L lo hi) 48) = true
      · have HF : Hid (setL (cutF L lo hi) L lo hi = rg (cutF L lo hi) 48) := by show setL _ _ _ _ = _; unfold setL; simp [h1, h2, h3]
        rw [HF.out]
        go_enter Tryd.func8, Tryd.ntmps8
        go_wp2_with fail
        refine (specSpansOk_any v L _ HP.out).mono ?_; rintro e w1 ⟨rfl, hb1⟩
        have e1 := hal.trans (hb1.mono hal.size)
        have HP1 := Lib.hid (HP.out.keep hb1)
        have g1 := k.keep hb1
        obtain ⟨x1, x2, -, -⟩ := id g1
        go_wp2_with fail
        refine (specSpanOk_any lo hi _).mono ?_; rintro e w2 ⟨rfl, hb2⟩
        have e2 := e1.trans (hb2.mono e1.size)
        have HP2 := Lib.hid (HP1.out.keep hb2)
        clear x1 x2
        obtain ⟨x1, x2, -, -⟩ := g1.keep hb2
        go_wp2_with fail
        refine (l1Cut_any v L lo hi _ HP2.out h2).mono ?_; rintro e w3 ⟨g, cap, rfl, hg, hc1, hc2, hr3, hb3⟩
        have e3 := e2.trans (hb3.mono e2.size)
        have hg2 := Nat.le_trans e2.size hg
        have HR := Lib.hid hr3
        have HS : Hid (Spn w3 (.slice (some ⟨g, 0, none⟩) (rg (cutF L lo hi) 48).length cap) (rg (cutF L lo hi) 48)) := ⟨_, cap, rfl, hc1, hc2, fun _ => ⟨g, 0, rfl, fun i hi => by
          have := hr3 i hi
          simp only [Nat.zero_add]
          exact ⟨this.1, this.2.1⟩⟩⟩
        clear hr3
        go_wp2_with fail
        refine (specSpansOk_any _ _ _ HS.out).mono ?_; rintro e w4 ⟨rfl, hb4⟩
        have e4 := e3.trans (hb4.mono e3.size)
        go_wp2
        go_ret
        exact ⟨g, cap, rfl, hg2, hc1, hc2, HR.out.keep hb4, e4⟩
      · replace h3 : spansOkB (rg (cutF L lo hi) 48) = false := by simpa using h3
        have HF : Hid (setL (cutF L lo hi) L lo hi = []) := by show setL _ _ _ _ = _; unfold setL; simp [h3]
        rw [HF.out]
        go_enter Tryd.func8, Tryd.ntmps8
        go_wp2_with fail
        refine (specSpansOk_any v L _ HP.out).mono ?_; rintro e w1 ⟨rfl, hb1⟩
        have e1 := hal.trans (hb1.mono hal.size)
        have HP1 := Lib.hid (HP.out.keep hb1)
        have g1 := k.keep hb1
        obtain ⟨x1, x2, -, -⟩ := id g1
        go_wp2_with fail
        refine (specSpanOk_any lo hi _).mono ?_; rintro e w2 ⟨rfl, hb2⟩
        have e2 := e1.trans (hb2.mono e1.size)
        have HP2 := Lib.hid (HP1.out.keep hb2)
        clear x1 x2
        obtain ⟨x1, x2, -, -⟩ := g1.keep hb2
        go_wp2_with fail
        refine (l1Cut_any v L lo hi _ HP2.out h2).mono ?_; rintro e w3 ⟨g, cap, rfl, hg, hc1, hc2, hr3, hb3⟩
        have e3 := e2.trans (hb3.mono e2.size)
        have HS : Hid (Spn w3 (.slice (some ⟨g, 0, none⟩) (rg (cutF L lo hi) 48).length cap) (rg (cutF L lo hi) 48)) := ⟨_, cap, rfl, hc1, hc2, fun _ => ⟨g, 0, rfl, fun i hi => by
          have := hr3 i hi
          simp only [Nat.zero_add]
          exact ⟨this.1, this.2.1⟩⟩⟩
        clear hr3
        go_wp2_with fail
        refine (specSpansOk_any _ _ _ HS.out).mono ?_; rintro e w4 ⟨rfl, hb4⟩
        have e4 := e3.trans (hb4.mono e3.size)
        go_wp2
        go_ret
        exact ⟨w4.heap.size, 0, rfl, e4.size, Nat.le_refl _, by unfold maxLen; omega, fun i hi => absurd hi (Nat.not_lt_zero _), e4.alloc e4.size _⟩
    · replace h2 : spanOkB lo hi = false := by simpa using h2
      have HF : Hid (setL (cutF L lo hi) L lo hi = []) := by show setL _ _ _ _ = _; unfold setL; simp [h2]
      rw [HF.out]
      go_enter Tryd.func8, Tryd.ntmps8
      go_wp2_with fail
      refine (specSpansOk_any v L _ HP.out).mono ?_; rintro e w1 ⟨rfl, hb1⟩
      have e1 := hal.trans (hb1.mono hal.size)
      have g1 := k.keep hb1
      obtain ⟨x1, x2, -, -⟩ := id g1
      go_wp2_with fail
      refine (specSpanOk_any lo hi _).mono ?_; rintro e w2 ⟨rfl, hb2⟩
      have e2 := e1.trans (hb2.mono e1.size)
      go_wp2
      go_ret
      exact ⟨w2.heap.size, 0, rfl, e2.size, Nat.le_refl _, by unfold maxLen; omega, fun i hi => absurd hi (Nat.not_lt_zero _), e2.alloc e2.size _⟩
  · replace h1 : spansOkB L = false := by simpa using h1
    have HF : Hid (setL (cutF L lo hi) L lo hi = []) := by show setL _ _ _ _ = _; unfold setL; simp [h1]
    rw [HF.out]
    go_enter Tryd.func8, Tryd.ntmps8
    go_wp2_with fail
    refine (specSpansOk_any v L _ HP.out).mono ?_; rintro e w1 ⟨rfl, hb1⟩
    have e1 := hal.trans (hb1.mono hal.size)
    go_wp2
    go_ret
    exact ⟨w1.heap.size, 0, rfl, e1.size, Nat.le_refl _, by unfold maxLen; omega, fun i hi => absurd hi (Nat.not_lt_zero _), e1.alloc e1.size _⟩

end Go.Proofs.YteglfdcoeogilaaDoor
