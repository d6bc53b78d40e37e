/-
  The model's l2Read and TextRead: what they return at every text and pair of numbers.
-/
import Derived.Test.YtjknmocimenagaaReadS
import Derived.Test.YtjknmocimenagaaSpecLong
namespace Go.Proofs.Ytjknmocimenagaa
open Go.RowKit

theorem imin (a b : Nat) : min (a : Int) (b : Int) = ((min a b : Nat) : Int) := by omega

set_option maxHeartbeats 1000000 in
theorem l2Read_any (l : List UInt8) (lo hi : Nat) (hh : lo < hi) (w : World) :
    Calls Try.prog 42 #[.string (mkB l), .agg #[.int .i64 lo, .int .i64 hi]] w fun e w' => e = .returned (.string (mkB (rdL l lo hi))) ∧ Below w.heap.size w w' := by
  have k := new_box w lo hi 34
  have hal : Below w.heap.size w (w.alloc (.cells #[.int .i64 lo, .int .i64 hi] 34)) := (Below.refl _ _).alloc (Nat.le_refl _) _
  have hsz : (mkB l).size = l.length := mkB_size l
  have hm1 : ∀ W, Calls Try.prog 55 #[.int .i64 lo, .int .i64 l.length] W fun e w' => e = .returned (.int .i64 ((min lo l.length : Nat) : Int)) ∧ W = w' := fun W => by
    have := lmin_any lo l.length W
    rw [imin] at this; exact this
  have hm2 : ∀ W, Calls Try.prog 55 #[.int .i64 hi, .int .i64 l.length] W fun e w' => e = .returned (.int .i64 ((min hi l.length : Nat) : Int)) ∧ W = w' := fun W => by
    have := lmin_any hi l.length W
    rw [imin] at this; exact this
  have hx := mkB_extract l (min lo l.length) (min hi l.length)
  rw [rdL_clip] at hx
  have b1 : min lo l.length ≤ min hi l.length := by omega
  have b2 : min hi l.length ≤ l.length := by omega
  have H1 := Lib.hid hm1
  have H2 := Lib.hid hm2
  clear hm1 hm2
  generalize min lo l.length = a at *
  generalize min hi l.length = b at *
  generalize rdL l lo hi = R at *
  obtain ⟨x1, x2, -, -⟩ := id k
  go_enter Try.func42, Try.ntmps42
  go_wp2_with fail
  refine (H1.out _).mono ?_; rintro e w2 ⟨rfl, rfl⟩
  go_wp2_with fail
  refine (H2.out _).mono ?_; rintro e w2 ⟨rfl, rfl⟩
  go_wp2
  go_ret
  exact ⟨rfl, hal⟩


end Go.Proofs.Ytjknmocimenagaa
