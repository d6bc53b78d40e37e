/-
  Plain facts: a set of positions as a number, one bit each; nothing of the program.
-/
import Derived.Test.YtldafphfnkamjaaSpansMath
import Derived.Laws.BitsAllLaws
import Derived.Laws.BitsLemmas
namespace Go.Proofs.Ytldafphfnkamjaa

/-- The bits of one range. -/
def msk (s : Rng) : Nat := (2 ^ s.2.toNat - 1) &&& (18446744073709551615 - (2 ^ s.1.toNat - 1))
/-- The bits of a list. -/
def sps : List Rng → Nat
  | [] => 0
  | s :: r => msk s ||| sps r

/-- Is a position in the list? -/
def inB (L : List Rng) (i : Int) : Bool := L.any fun s => decide (s.1 ≤ i) && decide (i < s.2)
/-- All n positions from lo on? -/
def hasB (L : List Rng) (lo : Int) : Nat → Bool
  | 0 => true
  | n + 1 => inB L lo && hasB L (lo + 1) n

theorem pow_le {a b : Nat} (h : a ≤ b) : 2 ^ a ≤ 2 ^ b := Nat.pow_le_pow_right (by omega) h

theorem msk_lt (s : Rng) (h : spanOkB s.1 s.2 = true) : msk s < 2 ^ 48 := by
  rw [spanOkB_iff] at h
  have : 2 ^ s.2.toNat ≤ 2 ^ 48 := pow_le (by omega)
  have hp : 0 < 2 ^ s.2.toNat := Nat.two_pow_pos _
  exact Nat.lt_of_le_of_lt Nat.and_le_left (by omega)

theorem msk_bit (s : Rng) (h : spanOkB s.1 s.2 = true) (i : Nat) : (msk s).testBit i = (decide (s.1 ≤ (i : Int)) && decide ((i : Int) < s.2)) := by
  rw [spanOkB_iff] at h
  have hp : 0 < 2 ^ s.1.toNat := Nat.two_pow_pos _
  have h48 : 2 ^ s.1.toNat ≤ 2 ^ 48 := pow_le (by omega)
  have e : 18446744073709551615 - (2 ^ s.1.toNat - 1) = 2 ^ 64 - ((2 ^ s.1.toNat - 1) + 1) := by omega
  unfold msk
  rw [e, Nat.testBit_and, Nat.testBit_two_pow_sub_one, Nat.testBit_two_pow_sub_succ (by omega), Nat.testBit_two_pow_sub_one]
  rw [Bool.eq_iff_iff]
  simp only [Bool.and_eq_true, decide_eq_true_eq, Bool.not_eq_true', decide_eq_false_iff_not]
  omega

theorem sps_lt : ∀ (L : List Rng), (∀ s ∈ L, spanOkB s.1 s.2 = true) → sps L < 2 ^ 48
  | [], _ => by simp [sps]
  | s :: r, h => by
    simp only [sps]
    exact Nat.or_lt_two_pow (msk_lt s (h s (by simp))) (sps_lt r fun x hx => h x (by simp [hx]))

theorem sps_bit : ∀ (L : List Rng), (∀ s ∈ L, spanOkB s.1 s.2 = true) → ∀ i : Nat, (sps L).testBit i = inB L i
  | [], _, i => by simp [sps, inB]
  | s :: r, h, i => by
    have := sps_bit r (fun x hx => h x (by simp [hx])) i
    simp only [sps, Nat.testBit_or, msk_bit s (h s (by simp)), this]
    simp [inB]

theorem okFrom_all : ∀ (L : List Rng) (e : Int), okFrom e L = true → ∀ s ∈ L, spanOkB s.1 s.2 = true
  | [], _, _, s, hs => by simp at hs
  | t :: r, e, h, s, hs => by
    simp only [okFrom, Bool.and_eq_true, decide_eq_true_eq] at h
    rcases List.mem_cons.1 hs with rfl | hs
    · exact h.1
    · exact okFrom_all r _ h.2.2 s hs

theorem spansOkB_all {L : List Rng} (h : spansOkB L = true) : ∀ s ∈ L, spanOkB s.1 s.2 = true := by
  simp only [spansOkB, Bool.and_eq_true] at h
  exact okFrom_all L _ h.2

theorem hasB_iff (L : List Rng) : ∀ (n : Nat) (lo : Int), hasB L lo n = true ↔ ∀ i : Int, lo ≤ i → i < lo + n → inB L i = true
  | 0, lo => by simp [hasB]; intro i h1 h2; omega
  | n + 1, lo => by
    simp only [hasB, Bool.and_eq_true, hasB_iff L n (lo + 1)]
    constructor
    · rintro ⟨h0, h⟩ i h1 h2
      by_cases e : i = lo
      · subst e; exact h0
      · exact h i (by omega) (by omega)
    · intro h
      exact ⟨h lo (by omega) (by omega), fun i h1 h2 => h i (by omega) (by omega)⟩

/-- Nothing of the range is missing: as numbers, and place by place. -/
theorem have_iff (L : List Rng) (s : Rng) (hL : ∀ s ∈ L, spanOkB s.1 s.2 = true) (hs : spanOkB s.1 s.2 = true) :
    (msk s &&& (18446744073709551615 - sps L)) = 0 ↔ hasB L s.1 (s.2 - s.1).toNat = true := by
  have hl := sps_lt L hL
  have e : 18446744073709551615 - sps L = 2 ^ 64 - (sps L + 1) := by omega
  have hs' := spanOkB_iff.1 hs
  rw [hasB_iff, e]
  constructor
  · intro h i h1 h2
    have hb := congrArg (fun x => Nat.testBit x i.toNat) h
    have hi : ((i.toNat : Nat) : Int) = i := by omega
    simp only [Nat.testBit_and, Nat.zero_testBit, Nat.testBit_two_pow_sub_succ (show sps L < 2 ^ 64 by omega), msk_bit s hs, sps_bit L hL, hi] at hb
    have a1 : decide (s.1 ≤ i) = true := by simpa using h1
    have a2 : decide (i < s.2) = true := by simp; omega
    have a3 : decide (i.toNat < 64) = true := by simp; omega
    rw [a1, a2, a3] at hb
    simpa using hb
  · intro h
    apply Nat.eq_of_testBit_eq
    intro i
    rw [Nat.testBit_and, Nat.zero_testBit, Nat.testBit_two_pow_sub_succ (show sps L < 2 ^ 64 by omega), msk_bit s hs, sps_bit L hL]
    by_cases h1 : s.1 ≤ (i : Int)
    · by_cases h2 : (i : Int) < s.2
      · rw [h i h1 (by omega)]; simp
      · simp [h2]
    · simp [h1]

open Go.RowKit in
theorem msk_walk (s : Rng) (h : spanOkB s.1 s.2 = true) :
    bits BinOp.andNot IntKind.u64 (IntKind.u64.wrap (IntKind.u64.wrap (2 ^ s.2.toNat) - 1)) (IntKind.u64.wrap (IntKind.u64.wrap (2 ^ s.1.toNat) - 1)) = ((msk s : Nat) : Int) := by
  rw [spanOkB_iff] at h
  have hw : ∀ n : Nat, n ≤ 48 → IntKind.u64.wrap (IntKind.u64.wrap (2 ^ n) - 1) = ((2 ^ n - 1 : Nat) : Int) := fun n hn => by
    have h1 : 2 ^ n ≤ 2 ^ 48 := pow_le hn
    have h2 : 0 < 2 ^ n := Nat.two_pow_pos _
    have e : ((2 : Int) ^ n) = ((2 ^ n : Nat) : Int) := by simp
    rw [e, IntKind.wrap_u64, IntKind.wrap_u64]
    omega
  have h1 : 2 ^ s.2.toNat ≤ 2 ^ 48 := pow_le (by omega)
  have h2 : 2 ^ s.1.toNat ≤ 2 ^ 48 := pow_le (by omega)
  rw [hw _ (by omega), hw _ (by omega), u64_andNot_nat _ _ (by omega) (by omega)]
  rfl

end Go.Proofs.Ytldafphfnkamjaa
