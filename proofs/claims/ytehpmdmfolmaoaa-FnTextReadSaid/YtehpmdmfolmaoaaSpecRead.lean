/-
  The model's l2Read and TextRead: what they return at every text and pair of numbers.
-/
import Derived.Test.YtehpmdmfolmaoaaReadS
import Derived.Test.YtehpmdmfolmaoaaSpecLong
namespace Go.Proofs.Ytehpmdmfolmaoaa
open Go.RowKit

theorem imin (a b : Nat) : min (a : Int) (b : Int) = ((min a b : Nat) : Int) := by omega

set_option maxHeartbeats 1000000 in
theorem l2Read_any (l : List UInt8) (lo hi : Nat) (hh : lo < hi) (w : World) :
    Calls Try.prog 37 #[.string (mkB l), .agg #[.int .i64 lo, .int .i64 hi]] w fun e w' => e = .returned (.string (mkB (rdL l lo hi))) ∧ Below w.heap.size w w' := by
  have k := new_box w lo hi 24
  have hal : Below w.heap.size w (w.alloc (.cells #[.int .i64 lo, .int .i64 hi] 24)) := (Below.refl _ _).alloc (Nat.le_refl _) _
  have hsz : (mkB l).size = l.length := mkB_size l
  have hm1 : ∀ W, Calls Try.prog 43 #[.int .i64 lo, .int .i64 l.length] W fun e w' => e = .returned (.int .i64 ((min lo l.length : Nat) : Int)) ∧ W = w' := fun W => by
    have := lmin_any lo l.length W
    rw [imin] at this; exact this
  have hm2 : ∀ W, Calls Try.prog 43 #[.int .i64 hi, .int .i64 l.length] W fun e w' => e = .returned (.int .i64 ((min hi l.length : Nat) : Int)) ∧ W = w' := fun W => by
    have := lmin_any hi l.length W
    rw [imin] at this; exact this
  have hx := mkB_extract l (min lo l.length) (min hi l.length)
  rw [rdL_clip] at hx
  have b1 : min lo l.length ≤ min hi l.length := by omega
  have b2 : min hi l.length ≤ l.length := by omega
  have H1 := Lib.hid hm1
  have H2 := Lib.hid hm2
  clear hm1 hm2
  generalize min lo l.length = a at *
  generalize min hi l.length = b at *
  generalize rdL l lo hi = R at *
  obtain ⟨x1, x2, -, -⟩ := id k
  go_enter Try.func37, Try.ntmps37
  go_wp2_with fail
  refine (H1.out _).mono ?_; rintro e w2 ⟨rfl, rfl⟩
  go_wp2_with fail
  refine (H2.out _).mono ?_; rintro e w2 ⟨rfl, rfl⟩
  go_wp2
  go_ret
  exact ⟨rfl, hal⟩

set_option maxHeartbeats 1000000 in
theorem specTextRead_any (l : List UInt8) (lo hi : Int) (hl : l.length ≤ 2000000) (w : World) :
    Calls Try.prog 19 #[.string (mkB l), .agg #[.int .i64 lo, .int .i64 hi]] w fun e w' => e = .returned (.string (mkB (trS l lo hi))) ∧ Below w.heap.size w w' := by
  have k := new_box w lo hi 24
  have hal : Below w.heap.size w (w.alloc (.cells #[.int .i64 lo, .int .i64 hi] 24)) := (Below.refl _ _).alloc (Nat.le_refl _) _
  have hT : (mkB l).data.toList = l := rfl
  have hok : ∀ W, Calls Try.prog 16 #[.string (mkB l)] W fun e w' => e = .returned (.bool (tokB l)) ∧ W = w' := fun W => by
    have := specTextOk_any (mkB l) (by rw [mkB_size]; omega) W
    rw [hT] at this; exact this
  have HK := Lib.hid hok
  clear hok hT
  by_cases h1 : tokB l = true
  · by_cases h2 : spanOkB lo hi = true
    · have hlh := spanOkB_iff.1 h2
      obtain ⟨a, rfl⟩ : ∃ a : Nat, lo = a := ⟨lo.toNat, by omega⟩
      obtain ⟨b, rfl⟩ : ∃ b : Nat, hi = b := ⟨hi.toNat, by omega⟩
      have HS := Lib.hid (trS_yes h1 h2)
      obtain ⟨x1, x2, -, -⟩ := id k
      have hab : a < b := by omega
      clear hlh
      go_enter Try.func19, Try.ntmps19
      go_wp2_with fail
      refine (HK.out _).mono ?_; rintro e w2 ⟨rfl, rfl⟩
      go_wp2_with fail
      refine (specSpanOk_any a b _).mono ?_; rintro e w3 ⟨rfl, hb3⟩
      have e3 := hal.trans (hb3.mono hal.size)
      clear x1 x2
      obtain ⟨x1, x2, -, -⟩ := k.keep hb3
      go_wp2_with fail
      refine (l2Read_any l a b hab _).mono ?_; rintro e w4 ⟨rfl, hb4⟩
      have e4 := e3.trans (hb4.mono e3.size)
      go_wp2
      go_ret
      exact ⟨ret_str HS.out.symm, e4⟩
    · replace h2 : spanOkB lo hi = false := by simpa using h2
      have HS := Lib.hid (trS_no (l := l) (Or.inr h2))
      obtain ⟨x1, x2, -, -⟩ := id k
      go_enter Try.func19, Try.ntmps19
      go_wp2_with fail
      refine (HK.out _).mono ?_; rintro e w2 ⟨rfl, rfl⟩
      go_wp2_with fail
      refine (specSpanOk_any lo hi _).mono ?_; rintro e w3 ⟨rfl, hb3⟩
      have e3 := hal.trans (hb3.mono hal.size)
      go_wp2
      go_ret
      exact ⟨ret_str HS.out.symm, e3⟩
  · replace h1 : tokB l = false := by simpa using h1
    have HS := Lib.hid (trS_no (l := l) (lo := lo) (hi := hi) (Or.inl h1))
    go_enter Try.func19, Try.ntmps19
    go_wp2_with fail
    refine (HK.out _).mono ?_; rintro e w2 ⟨rfl, rfl⟩
    go_wp2
    go_ret
    exact ⟨ret_str HS.out.symm, hal⟩

end Go.Proofs.Ytehpmdmfolmaoaa
