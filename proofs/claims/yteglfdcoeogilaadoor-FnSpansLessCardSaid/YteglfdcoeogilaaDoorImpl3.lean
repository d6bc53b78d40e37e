/-
  Contracts of impl's SpansAdd, SpansCut, SpansMeet: a new row, or none.
-/
import Derived.Test.YteglfdcoeogilaaDoorList
import Derived.Test.YteglfdcoeogilaaDoorSpecAdd
import Derived.Deep.RegionHeld3
namespace Go.Proofs.YteglfdcoeogilaaDoor
open Go.RowKit

/-- What is in the list and in the range. -/
def meetF (L : List Rng) (lo hi : Int) (i : Nat) : Bool := inB L (i : Int) && (decide (lo ≤ (i : Int)) && decide ((i : Int) < hi))

/-- A value that owns a new row of the ranges L. -/
def Rgo (w : World) (L : List Rng) (e : Ending) (w' : World) : Prop :=
  ∃ v, e = .returned v ∧ w'.ownsRow w.heap.size 25 2 v L.length (flat L) ∧ Below w.heap.size w w'

theorem row_base {W : World} {b b' : Nat} {e : TypeId} {size : Nat} {v : Value} {k : Nat} {xs : List Value} (h : W.ownsRow b e size v k xs) (hb : b' ≤ b) : W.ownsRow b' e size v k xs :=
  ⟨h.1, h.2.imp id fun ⟨g, cap, cur, h1, h2, h3⟩ => ⟨g, cap, cur, h1, Nat.le_trans hb h2, h3⟩⟩

theorem row_none {w W : World} : W.ownsRow w.heap.size 25 2 (.slice none 0 0) ([] : List Rng).length (flat []) := World.ownsRow_nil ..

theorem lst_setL {f g : Nat → Bool} {L : List Rng} {lo hi : Int} (h1 : spansOkB L = true) (h2 : spanOkB lo hi = true) (h : ∀ i, f i = g i) : lst f = setL g L lo hi := by
  obtain rfl : f = g := funext h
  unfold lst setL
  rw [h1, h2, spansOkB_rg]
  simp

set_option maxRecDepth 100000 in
set_option maxHeartbeats 4000000 in
theorem implSpansAdd_any (v : Value) (L : List Rng) (lo hi : Int) (w : World) (h : Spn w v L) (hT : TabAt w) (hg0 : 0 < w.heap.size) :
    Calls Tryd.prog 13 #[v, .agg #[.int .i64 lo, .int .i64 hi]] w (Rgo w (setL (addF L lo hi) L lo hi)) := by
  have k := new_box w lo hi 25
  have hal : Below w.heap.size w (w.alloc (.cells #[.int .i64 lo, .int .i64 hi] 25)) := (Below.refl _ _).alloc (Nat.le_refl _) _
  have HP := Lib.hid (h.keep hal)
  have HT := Lib.hid hT
  clear h hT
  by_cases h1 : spansOkB L = true
  · by_cases h2 : spanOkB lo hi = true
    · have hall := spansOkB_all h1
      have hl1 := sps_lt L hall
      have hl2 := msk_lt (lo, hi) h2
      have hM48 : sps L ||| msk (lo, hi) < 2 ^ 48 := Nat.or_lt_two_pow hl1 hl2
      have ha : bits .or .u64 ((sps L : Nat) : Int) ((msk (lo, hi) : Nat) : Int) = ((sps L ||| msk (lo, hi) : Nat) : Int) := u64_or_nat _ _ (by omega) (by omega)
      have HF : Hid (lst (fun i => (sps L ||| msk (lo, hi)).testBit i) = setL (addF L lo hi) L lo hi) := lst_setL h1 h2 fun i => by
        rw [Nat.testBit_or, sps_bit L hall, msk_bit (lo, hi) h2]; rfl
      have HA := Lib.hid hall
      generalize hM : sps L ||| msk (lo, hi) = M at *
      clear hl1 hl2 hall hM
      go_enter Tryd.func13, Tryd.ntmps13
      go_wp2_with fail
      refine (implSpansOk_any v L _ HP.out).mono ?_; rintro e w1 ⟨rfl, hb1⟩
      have e1 := hal.trans (hb1.mono hal.size)
      have HP1 := Lib.hid (HP.out.keep hb1)
      have g1 := k.keep hb1
      obtain ⟨x1, x2, -, -⟩ := id g1
      go_wp2_with fail
      refine (implSpanOk_any lo hi _).mono ?_; rintro e w2 ⟨rfl, hb2⟩
      have e2 := e1.trans (hb2.mono e1.size)
      have HP2 := Lib.hid (HP1.out.keep hb2)
      have HT2 := Lib.hid (HT.keep e2)
      have hs2 := e2.size
      have hg2 : 0 < w2.heap.size := by omega
      clear x1 x2
      obtain ⟨x1, x2, -, -⟩ := g1.keep hb2
      go_wp2_with fail
      go_region_held3 (fun w' => w'.cell? ⟨w.heap.size, 0, none⟩ = some (.int .i64 lo) ∧ w'.cell? ⟨w.heap.size, 1, none⟩ = some (.int .i64 hi))
        (refine ⟨?_, ?_⟩ <;> first | (go_keep; done) | (refine cell_keep hb ?_; first | (go_keep; done) | (go_simp; done)))
        (first
          | (go_at_call 24; refine (spotsOf_any v L _ (HP2.out.keep (Below.refl _ _).drew) HA.out).mono ?_; rintro e w' ⟨rfl, hb⟩; have hbW := (Below.drew (Below.refl _ _)).trans hb)
          | (go_at_call 25; refine (spots_any lo hi _ h2).mono ?_; rintro e w' ⟨rfl, hb⟩; have hbW2 := hbW.trans (hb.mono hbW.size))
          | (go_at_call 26; refine (list_any M hM48 _ (HT2.keep hbW2) (Nat.lt_of_lt_of_le hg2 hbW2.size)).mono ?_; rintro e w' ⟨v', rfl, hrow, hb⟩; have HR := Lib.hid hrow; clear hrow; have hsz3 := Nat.le_trans hs2 hbW2.size; have hbW3 := hbW2.trans (hb.mono hbW2.size)))
      go_wp2
      go_ret
      exact ⟨v', rfl, by rw [← HF.out]; exact row_base HR.out hsz3, e2.trans (hbW3.mono (by simpa using hs2))⟩
    · replace h2 : spanOkB lo hi = false := by simpa using h2
      have HF : Hid (setL (addF L lo hi) L lo hi = []) := by show setL _ _ _ _ = _; unfold setL; simp [h2]
      rw [HF.out]
      go_enter Tryd.func13, Tryd.ntmps13
      go_wp2_with fail
      refine (implSpansOk_any v L _ HP.out).mono ?_; rintro e w1 ⟨rfl, hb1⟩
      have e1 := hal.trans (hb1.mono hal.size)
      have g1 := k.keep hb1
      obtain ⟨x1, x2, -, -⟩ := id g1
      go_wp2_with fail
      refine (implSpanOk_any lo hi _).mono ?_; rintro e w2 ⟨rfl, hb2⟩
      have e2 := e1.trans (hb2.mono e1.size)
      go_wp2
      go_ret
      exact ⟨_, rfl, row_none, e2⟩
  · replace h1 : spansOkB L = false := by simpa using h1
    have HF : Hid (setL (addF L lo hi) L lo hi = []) := by show setL _ _ _ _ = _; unfold setL; simp [h1]
    rw [HF.out]
    go_enter Tryd.func13, Tryd.ntmps13
    go_wp2_with fail
    refine (implSpansOk_any v L _ HP.out).mono ?_; rintro e w1 ⟨rfl, hb1⟩
    have e1 := hal.trans (hb1.mono hal.size)
    go_wp2
    go_ret
    exact ⟨_, rfl, row_none, e1⟩

set_option maxRecDepth 100000 in
set_option maxHeartbeats 4000000 in
theorem implSpansCut_any (v : Value) (L : List Rng) (lo hi : Int) (w : World) (h : Spn w v L) (hT : TabAt w) (hg0 : 0 < w.heap.size) :
    Calls Tryd.prog 6 #[v, .agg #[.int .i64 lo, .int .i64 hi]] w (Rgo w (setL (cutF L lo hi) L lo hi)) := by
  have k := new_box w lo hi 25
  have hal : Below w.heap.size w (w.alloc (.cells #[.int .i64 lo, .int .i64 hi] 25)) := (Below.refl _ _).alloc (Nat.le_refl _) _
  have HP := Lib.hid (h.keep hal)
  have HT := Lib.hid hT
  clear h hT
  by_cases h1 : spansOkB L = true
  · by_cases h2 : spanOkB lo hi = true
    · have hall := spansOkB_all h1
      have hl1 := sps_lt L hall
      have hl2 := msk_lt (lo, hi) h2
      have hM48 : sps L &&& (18446744073709551615 - msk (lo, hi)) < 2 ^ 48 := Nat.lt_of_le_of_lt Nat.and_le_left hl1
      have ha : bits .andNot .u64 ((sps L : Nat) : Int) ((msk (lo, hi) : Nat) : Int) = ((sps L &&& (18446744073709551615 - msk (lo, hi)) : Nat) : Int) := u64_andNot_nat _ _ (by omega) (by omega)
      have HF : Hid (lst (fun i => (sps L &&& (18446744073709551615 - msk (lo, hi))).testBit i) = setL (cutF L lo hi) L lo hi) := lst_setL h1 h2 fun i => by
        rw [Nat.testBit_and, sps_bit L hall, show 18446744073709551615 - msk (lo, hi) = 2 ^ 64 - (msk (lo, hi) + 1) by omega, Nat.testBit_two_pow_sub_succ (by omega), msk_bit (lo, hi) h2]
        by_cases h64 : i < 64
        · simp [cutF, h64]
        · have hn : inB L (i : Int) = false := by
            rw [← sps_bit L hall]; exact Nat.testBit_lt_two_pow (Nat.lt_of_lt_of_le hl1 (pow_le (by omega)))
          simp [cutF, hn]
      have HA := Lib.hid hall
      generalize hM : sps L &&& (18446744073709551615 - msk (lo, hi)) = M at *
      clear hl1 hl2 hall hM
      go_enter Tryd.func6, Tryd.ntmps6
      go_wp2_with fail
      refine (implSpansOk_any v L _ HP.out).mono ?_; rintro e w1 ⟨rfl, hb1⟩
      have e1 := hal.trans (hb1.mono hal.size)
      have HP1 := Lib.hid (HP.out.keep hb1)
      have g1 := k.keep hb1
      obtain ⟨x1, x2, -, -⟩ := id g1
      go_wp2_with fail
      refine (implSpanOk_any lo hi _).mono ?_; rintro e w2 ⟨rfl, hb2⟩
      have e2 := e1.trans (hb2.mono e1.size)
      have HP2 := Lib.hid (HP1.out.keep hb2)
      have HT2 := Lib.hid (HT.keep e2)
      have hs2 := e2.size
      have hg2 : 0 < w2.heap.size := by omega
      clear x1 x2
      obtain ⟨x1, x2, -, -⟩ := g1.keep hb2
      go_wp2_with fail
      go_region_held3 (fun w' => w'.cell? ⟨w.heap.size, 0, none⟩ = some (.int .i64 lo) ∧ w'.cell? ⟨w.heap.size, 1, none⟩ = some (.int .i64 hi))
        (refine ⟨?_, ?_⟩ <;> first | (go_keep; done) | (refine cell_keep hb ?_; first | (go_keep; done) | (go_simp; done)))
        (first
          | (go_at_call 24; refine (spotsOf_any v L _ (HP2.out.keep (Below.refl _ _).drew) HA.out).mono ?_; rintro e w' ⟨rfl, hb⟩; have hbW := (Below.drew (Below.refl _ _)).trans hb)
          | (go_at_call 25; refine (spots_any lo hi _ h2).mono ?_; rintro e w' ⟨rfl, hb⟩; have hbW2 := hbW.trans (hb.mono hbW.size))
          | (go_at_call 26; refine (list_any M hM48 _ (HT2.keep hbW2) (Nat.lt_of_lt_of_le hg2 hbW2.size)).mono ?_; rintro e w' ⟨v', rfl, hrow, hb⟩; have HR := Lib.hid hrow; clear hrow; have hsz3 := Nat.le_trans hs2 hbW2.size; have hbW3 := hbW2.trans (hb.mono hbW2.size)))
      go_wp2
      go_ret
      exact ⟨v', rfl, by rw [← HF.out]; exact row_base HR.out hsz3, e2.trans (hbW3.mono (by simpa using hs2))⟩
    · replace h2 : spanOkB lo hi = false := by simpa using h2
      have HF : Hid (setL (cutF L lo hi) L lo hi = []) := by show setL _ _ _ _ = _; unfold setL; simp [h2]
      rw [HF.out]
      go_enter Tryd.func6, Tryd.ntmps6
      go_wp2_with fail
      refine (implSpansOk_any v L _ HP.out).mono ?_; rintro e w1 ⟨rfl, hb1⟩
      have e1 := hal.trans (hb1.mono hal.size)
      have g1 := k.keep hb1
      obtain ⟨x1, x2, -, -⟩ := id g1
      go_wp2_with fail
      refine (implSpanOk_any lo hi _).mono ?_; rintro e w2 ⟨rfl, hb2⟩
      have e2 := e1.trans (hb2.mono e1.size)
      go_wp2
      go_ret
      exact ⟨_, rfl, row_none, e2⟩
  · replace h1 : spansOkB L = false := by simpa using h1
    have HF : Hid (setL (cutF L lo hi) L lo hi = []) := by show setL _ _ _ _ = _; unfold setL; simp [h1]
    rw [HF.out]
    go_enter Tryd.func6, Tryd.ntmps6
    go_wp2_with fail
    refine (implSpansOk_any v L _ HP.out).mono ?_; rintro e w1 ⟨rfl, hb1⟩
    have e1 := hal.trans (hb1.mono hal.size)
    go_wp2
    go_ret
    exact ⟨_, rfl, row_none, e1⟩

set_option maxRecDepth 100000 in
set_option maxHeartbeats 4000000 in
theorem implSpansMeet_any (v : Value) (L : List Rng) (lo hi : Int) (w : World) (h : Spn w v L) (hT : TabAt w) (hg0 : 0 < w.heap.size) :
    Calls Tryd.prog 11 #[v, .agg #[.int .i64 lo, .int .i64 hi]] w (Rgo w (setL (meetF L lo hi) L lo hi)) := by
  have k := new_box w lo hi 25
  have hal : Below w.heap.size w (w.alloc (.cells #[.int .i64 lo, .int .i64 hi] 25)) := (Below.refl _ _).alloc (Nat.le_refl _) _
  have HP := Lib.hid (h.keep hal)
  have HT := Lib.hid hT
  clear h hT
  by_cases h1 : spansOkB L = true
  · by_cases h2 : spanOkB lo hi = true
    · have hall := spansOkB_all h1
      have hl1 := sps_lt L hall
      have hl2 := msk_lt (lo, hi) h2
      have hM48 : sps L &&& msk (lo, hi) < 2 ^ 48 := Nat.lt_of_le_of_lt Nat.and_le_left hl1
      have ha : bits .and .u64 ((sps L : Nat) : Int) ((msk (lo, hi) : Nat) : Int) = ((sps L &&& msk (lo, hi) : Nat) : Int) := u64_and_nat _ _ (by omega) (by omega)
      have HF : Hid (lst (fun i => (sps L &&& msk (lo, hi)).testBit i) = setL (meetF L lo hi) L lo hi) := lst_setL h1 h2 fun i => by
        rw [Nat.testBit_and, sps_bit L hall, msk_bit (lo, hi) h2]; rfl
      have HA := Lib.hid hall
      generalize hM : sps L &&& msk (lo, hi) = M at *
      clear hl1 hl2 hall hM
      go_enter Tryd.func11, Tryd.ntmps11
      go_wp2_with fail
      refine (implSpansOk_any v L _ HP.out).mono ?_; rintro e w1 ⟨rfl, hb1⟩
      have e1 := hal.trans (hb1.mono hal.size)
      have HP1 := Lib.hid (HP.out.keep hb1)
      have g1 := k.keep hb1
      obtain ⟨x1, x2, -, -⟩ := id g1
      go_wp2_with fail
      refine (implSpanOk_any lo hi _).mono ?_; rintro e w2 ⟨rfl, hb2⟩
      have e2 := e1.trans (hb2.mono e1.size)
      have HP2 := Lib.hid (HP1.out.keep hb2)
      have HT2 := Lib.hid (HT.keep e2)
      have hs2 := e2.size
      have hg2 : 0 < w2.heap.size := by omega
      clear x1 x2
      obtain ⟨x1, x2, -, -⟩ := g1.keep hb2
      go_wp2_with fail
      go_region_held3 (fun w' => w'.cell? ⟨w.heap.size, 0, none⟩ = some (.int .i64 lo) ∧ w'.cell? ⟨w.heap.size, 1, none⟩ = some (.int .i64 hi))
        (refine ⟨?_, ?_⟩ <;> first | (go_keep; done) | (refine cell_keep hb ?_; first | (go_keep; done) | (go_simp; done)))
        (first
          | (go_at_call 24; refine (spotsOf_any v L _ (HP2.out.keep (Below.refl _ _).drew) HA.out).mono ?_; rintro e w' ⟨rfl, hb⟩; have hbW := (Below.drew (Below.refl _ _)).trans hb)
          | (go_at_call 25; refine (spots_any lo hi _ h2).mono ?_; rintro e w' ⟨rfl, hb⟩; have hbW2 := hbW.trans (hb.mono hbW.size))
          | (go_at_call 26; refine (list_any M hM48 _ (HT2.keep hbW2) (Nat.lt_of_lt_of_le hg2 hbW2.size)).mono ?_; rintro e w' ⟨v', rfl, hrow, hb⟩; have HR := Lib.hid hrow; clear hrow; have hsz3 := Nat.le_trans hs2 hbW2.size; have hbW3 := hbW2.trans (hb.mono hbW2.size)))
      go_wp2
      go_ret
      exact ⟨v', rfl, by rw [← HF.out]; exact row_base HR.out hsz3, e2.trans (hbW3.mono (by simpa using hs2))⟩
    · replace h2 : spanOkB lo hi = false := by simpa using h2
      have HF : Hid (setL (meetF L lo hi) L lo hi = []) := by show setL _ _ _ _ = _; unfold setL; simp [h2]
      rw [HF.out]
      go_enter Tryd.func11, Tryd.ntmps11
      go_wp2_with fail
      refine (implSpansOk_any v L _ HP.out).mono ?_; rintro e w1 ⟨rfl, hb1⟩
      have e1 := hal.trans (hb1.mono hal.size)
      have g1 := k.keep hb1
      obtain ⟨x1, x2, -, -⟩ := id g1
      go_wp2_with fail
      refine (implSpanOk_any lo hi _).mono ?_; rintro e w2 ⟨rfl, hb2⟩
      have e2 := e1.trans (hb2.mono e1.size)
      go_wp2
      go_ret
      exact ⟨_, rfl, row_none, e2⟩
  · replace h1 : spansOkB L = false := by simpa using h1
    have HF : Hid (setL (meetF L lo hi) L lo hi = []) := by show setL _ _ _ _ = _; unfold setL; simp [h1]
    rw [HF.out]
    go_enter Tryd.func11, Tryd.ntmps11
    go_wp2_with fail
    refine (implSpansOk_any v L _ HP.out).mono ?_; rintro e w1 ⟨rfl, hb1⟩
    have e1 := hal.trans (hb1.mono hal.size)
    go_wp2
    go_ret
    exact ⟨_, rfl, row_none, e1⟩

end Go.Proofs.YteglfdcoeogilaaDoor
