/-
  Plain facts: the iterator's step on a set of positions kept as a number: the lowest range is what trailing zeros tell, and the rest's ranges are the other ranges. Nothing of the program.
-/
import Derived.Test.YtaeolgbgcchaeaaDoorRgMath
import Derived.Lib.TrailingZeros
namespace Go.Proofs.YtaeolgbgcchaeaaDoor

theorem rg_succ (f : Nat → Bool) (k : Nat) : rg f (k + 1) = if f k = true then
      (if endsAt (rg f k) k = true then (rg f k).set ((rg f k).length - 1) (((rg f k).getD ((rg f k).length - 1) (0, 0)).1, (k : Int) + 1) else rg f k ++ [((k : Int), (k : Int) + 1)])
      else rg f k := rfl

theorem rg_congr {f g : Nat → Bool} : ∀ {k : Nat}, (∀ i, i < k → f i = g i) → rg f k = rg g k
  | 0, _ => rfl
  | k + 1, h => by
    have ih := rg_congr (k := k) fun i hi => h i (by omega)
    rw [rg_succ, rg_succ, ih, h k (by omega)]

theorem rg_none {f : Nat → Bool} : ∀ {k : Nat}, (∀ i, i < k → f i = false) → rg f k = []
  | 0, _ => rfl
  | k + 1, h => by
    have ih := rg_none (k := k) fun i hi => h i (by omega)
    rw [rg_succ, ih, h k (by omega)]; rfl

/-- The first run, as far as it has come. -/
theorem rg_first {f : Nat → Bool} {lo : Nat} (h1 : ∀ i, i < lo → f i = false) : ∀ d : Nat, (∀ i, lo ≤ i → i < lo + (d + 1) → f i = true) → rg f (lo + (d + 1)) = [((lo : Int), ((lo + (d + 1) : Nat) : Int))]
  | 0, h2 => by
    have e := rg_none (k := lo) h1
    have t := h2 lo (Nat.le_refl _) (by omega)
    rw [show lo + (0 + 1) = lo + 1 by omega]
    rw [rg_succ, e, if_pos t]
    simp [endsAt]
  | d + 1, h2 => by
    have ih := rg_first h1 d fun i a b => h2 i a (by omega)
    have t := h2 (lo + (d + 1)) (by omega) (by omega)
    rw [show lo + (d + 1 + 1) = (lo + (d + 1)) + 1 by omega]
    rw [rg_succ, ih, if_pos t]
    simp [endsAt]

theorem endsAt_cons (s : Rng) (a : List Rng) (k : Nat) (h : s.2 ≠ (k : Int)) : endsAt (s :: a) k = endsAt a k := by
  unfold endsAt
  cases a with
  | nil => simp [h]
  | cons t r => simp

/-- THE STEP: the lowest run, and the ranges of what is left. -/
theorem rg_run {f : Nat → Bool} {lo hi : Nat} (hlt : lo < hi) (h1 : ∀ i, i < lo → f i = false) (h2 : ∀ i, lo ≤ i → i < hi → f i = true) (h3 : f hi = false) :
    ∀ d : Nat, rg f (hi + d) = ((lo : Int), (hi : Int)) :: rg (fun i => f i && decide (hi ≤ i)) (hi + d)
  | 0 => by
    obtain ⟨d, rfl⟩ : ∃ d, hi = lo + (d + 1) := ⟨hi - lo - 1, by omega⟩
    have e := rg_first h1 d h2
    have n : rg (fun i => f i && decide (lo + (d + 1) ≤ i)) (lo + (d + 1)) = [] := rg_none fun i hi => by
      have : decide (lo + (d + 1) ≤ i) = false := by simp; omega
      simp only [this, Bool.and_false]
    rw [Nat.add_zero, e, n]
  | d + 1 => by
    have ih := rg_run hlt h1 h2 h3 d
    rw [show hi + (d + 1) = (hi + d) + 1 by omega]
    have hd : decide (hi ≤ hi + d) = true := by simp
    rw [rg_succ, rg_succ, ih]
    simp only [hd, Bool.and_true]
    by_cases t : f (hi + d) = true
    · have hne : ((hi : Int)) ≠ ((hi + d : Nat) : Int) := by
        intro e
        have : d = 0 := by omega
        subst this
        rw [Nat.add_zero, h3] at t
        cases t
      rw [if_pos t, if_pos t, endsAt_cons _ _ _ hne]
      by_cases u : endsAt (rg (fun i => f i && decide (hi ≤ i)) (hi + d)) (hi + d) = true
      · rw [if_pos u, if_pos u]
        have hp : 0 < (rg (fun i => f i && decide (hi ≤ i)) (hi + d)).length := by
          simp only [endsAt, Bool.and_eq_true, decide_eq_true_eq] at u; exact u.1
        generalize rg (fun i => f i && decide (hi ≤ i)) (hi + d) = a at *
        obtain ⟨n, hn⟩ : ∃ n, a.length = n + 1 := ⟨a.length - 1, by omega⟩
        simp [hn]
      · rw [if_neg u, if_neg u]; rfl
    · rw [if_neg t, if_neg t]

/-! ### what trailing zeros tell -/
theorem ctz_bits (x : Nat) (h0 : x ≠ 0) (h : x < 2 ^ 64) : Lib.ctz 64 x < 64 ∧ (∀ i, i < Lib.ctz 64 x → x.testBit i = false) ∧ x.testBit (Lib.ctz 64 x) = true := by
  obtain ⟨m, hm, hk⟩ := Lib.ctzFrom_spec 64 x (by omega) h
  have e : Lib.ctz 64 x = Lib.ctzFrom 64 x := by unfold Lib.ctz; rw [if_neg h0]
  rw [e]
  generalize Lib.ctzFrom 64 x = c at *
  subst hm
  refine ⟨hk, fun i hi => ?_, ?_⟩
  · rw [Nat.testBit_two_pow_mul]
    simp; omega
  · rw [Nat.testBit_two_pow_mul]
    simp

/-- The step of the iterator, on numbers. -/
def runLo (x : Nat) : Nat := Lib.ctz 64 x
def runLen (x : Nat) : Nat := Lib.ctz 64 (18446744073709551615 - x / 2 ^ runLo x)
def runRest (x : Nat) : Nat := x &&& (18446744073709551615 - msk ((runLo x : Int), ((runLo x + runLen x : Nat) : Int)))

theorem run_facts (x : Nat) (h0 : x ≠ 0) (h : x < 2 ^ 48) :
    0 < runLen x ∧ runLo x + runLen x ≤ 48 ∧ (∀ i, i < runLo x → x.testBit i = false) ∧ (∀ i, runLo x ≤ i → i < runLo x + runLen x → x.testBit i = true) ∧ x.testBit (runLo x + runLen x) = false := by
  obtain ⟨c1, c2, c3⟩ := ctz_bits x h0 (by omega)
  have hdiv : x / 2 ^ runLo x ≤ x := Nat.div_le_self _ _
  obtain ⟨d1, d2, d3⟩ := ctz_bits (18446744073709551615 - x / 2 ^ runLo x) (by omega) (Nat.lt_of_le_of_lt (Nat.sub_le _ _) (by omega))
  have hb : ∀ i, i < 64 → (18446744073709551615 - x / 2 ^ runLo x).testBit i = !(x.testBit (runLo x + i)) := fun i hi => by
    rw [show 18446744073709551615 - x / 2 ^ runLo x = 2 ^ 64 - (x / 2 ^ runLo x + 1) by omega, Nat.testBit_two_pow_sub_succ (by omega), Nat.testBit_div_two_pow]
    simp [hi, Nat.add_comm]
  have hlen : runLen x = Lib.ctz 64 (18446744073709551615 - x / 2 ^ runLo x) := rfl
  rw [← hlen] at d1 d2 d3
  have hz : ∀ i, 48 ≤ i → x.testBit i = false := fun i hi => Nat.testBit_lt_two_pow (Nat.lt_of_lt_of_le h (pow_le hi))
  have e3 : x.testBit (runLo x + runLen x) = false := by
    have := hb _ d1
    rw [d3] at this
    simpa using this.symm
  have e2 : ∀ i, runLo x ≤ i → i < runLo x + runLen x → x.testBit i = true := fun i a b => by
    have := hb (i - runLo x) (by omega)
    rw [d2 (i - runLo x) (by omega), show runLo x + (i - runLo x) = i by omega] at this
    simpa using this.symm
  have hpos : 0 < runLen x := by
    rcases Nat.eq_zero_or_pos (runLen x) with e | e
    · rw [e, Nat.add_zero] at e3
      have c3' : x.testBit (runLo x) = true := c3
      rw [e3] at c3'; cases c3'
    · exact e
  refine ⟨hpos, ?_, c2, e2, e3⟩
  rcases Nat.lt_or_ge 48 (runLo x + runLen x) with e | e
  · have := e2 (runLo x + runLen x - 1) (by omega) (by omega)
    rw [hz _ (by omega)] at this; cases this
  · exact e

theorem run_span (x : Nat) (h0 : x ≠ 0) (h : x < 2 ^ 48) : spanOkB (runLo x : Int) ((runLo x + runLen x : Nat) : Int) = true := by
  obtain ⟨a, b, -⟩ := run_facts x h0 h
  exact spanOkB_true ⟨by omega, by omega, by omega⟩

theorem run_rest (x : Nat) (h0 : x ≠ 0) (h : x < 2 ^ 48) : runRest x < x ∧ ∀ i, (runRest x).testBit i = (x.testBit i && decide (runLo x + runLen x ≤ i)) := by
  obtain ⟨a, b, c, d, e⟩ := run_facts x h0 h
  have hs := run_span x h0 h
  have hl := msk_lt ((runLo x : Int), ((runLo x + runLen x : Nat) : Int)) hs
  have hb : ∀ i, (runRest x).testBit i = (x.testBit i && decide (runLo x + runLen x ≤ i)) := fun i => by
    unfold runRest
    rw [show 18446744073709551615 - msk ((runLo x : Int), ((runLo x + runLen x : Nat) : Int)) = 2 ^ 64 - (msk ((runLo x : Int), ((runLo x + runLen x : Nat) : Int)) + 1) by omega,
      Nat.testBit_and, Nat.testBit_two_pow_sub_succ (by omega), msk_bit _ hs]
    by_cases h1 : i < runLo x
    · rw [c i h1]; simp
    · by_cases h2 : i < runLo x + runLen x
      · have e1 : decide (((runLo x : Nat) : Int) ≤ (i : Int)) = true := by simp; omega
        have e2 : decide ((i : Int) < ((runLo x + runLen x : Nat) : Int)) = true := by simp; omega
        have e3 : decide (runLo x + runLen x ≤ i) = false := by simp; omega
        rw [e1, e2, e3]; simp
      · have e2 : decide ((i : Int) < ((runLo x + runLen x : Nat) : Int)) = false := by simp; omega
        have e3 : decide (runLo x + runLen x ≤ i) = true := by simp; omega
        rw [e2, e3]
        by_cases hi : i < 64
        · simp [hi]
        · have : x.testBit i = false := Nat.testBit_lt_two_pow (Nat.lt_of_lt_of_le h (pow_le (by omega)))
          rw [this]; simp
  refine ⟨?_, hb⟩
  have hle : runRest x ≤ x := Nat.and_le_left
  rcases Nat.lt_or_ge (runRest x) x with h' | h'
  · exact h'
  · have eq : runRest x = x := Nat.le_antisymm hle h'
    have := hb (runLo x)
    have hd : decide (runLo x + runLen x ≤ runLo x) = false := by simp; omega
    rw [eq, hd, Bool.and_false, d (runLo x) (Nat.le_refl _) (by omega)] at this
    cases this

/-- The ranges of a set of positions: the iterator's first range, then those of what is left. -/
theorem rg_step (x : Nat) (h0 : x ≠ 0) (h : x < 2 ^ 48) : rg (fun i => x.testBit i) 48 = ((runLo x : Int), ((runLo x + runLen x : Nat) : Int)) :: rg (fun i => (runRest x).testBit i) 48 := by
  obtain ⟨a, b, c, d, e⟩ := run_facts x h0 h
  have := rg_run (f := fun i => x.testBit i) (lo := runLo x) (hi := runLo x + runLen x) (by omega) c d e (48 - (runLo x + runLen x))
  rw [show runLo x + runLen x + (48 - (runLo x + runLen x)) = 48 by omega] at this
  rw [this]
  congr 1
  exact rg_congr fun i _ => ((run_rest x h0 h).2 i).symm

theorem rg_zero : rg (fun i => (0 : Nat).testBit i) 48 = [] := rg_none fun i _ => Nat.zero_testBit i

end Go.Proofs.YtaeolgbgcchaeaaDoor
