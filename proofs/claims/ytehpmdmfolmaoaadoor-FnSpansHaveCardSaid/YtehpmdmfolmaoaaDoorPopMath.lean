/-
  Plain facts: the bits of a number counted byte by byte (what bits.OnesCount64 reckons); the places of a list of ranges counted. Nothing of the program.
-/
import Derived.Test.YtehpmdmfolmaoaaDoorBitsMath
namespace Go.Proofs.YtehpmdmfolmaoaaDoor

/-- How many of the first n places hold. -/
def cnt (f : Nat → Bool) : Nat → Nat
  | 0 => 0
  | n + 1 => (f 0).toNat + cnt (fun i => f (i + 1)) n

theorem cnt_congr {f g : Nat → Bool} : ∀ {n : Nat}, (∀ i, i < n → f i = g i) → cnt f n = cnt g n
  | 0, _ => rfl
  | n + 1, h => by
    simp only [cnt]
    rw [h 0 (by omega), cnt_congr (n := n) fun i hi => h (i + 1) (by omega)]

theorem cnt_add (f : Nat → Bool) : ∀ a b : Nat, cnt f (a + b) = cnt f a + cnt (fun i => f (a + i)) b
  | 0, b => by
    simp only [Nat.zero_add, cnt]
  | a + 1, b => by
    rw [show a + 1 + b = (a + b) + 1 by omega]
    simp only [cnt]
    rw [cnt_add (fun i => f (i + 1)) a b, Nat.add_assoc]
    congr 2
    exact cnt_congr fun i _ => by rw [show a + i + 1 = a + 1 + i by omega]

theorem cnt_none {f : Nat → Bool} : ∀ {n : Nat}, (∀ i, i < n → f i = false) → cnt f n = 0
  | 0, _ => rfl
  | n + 1, h => by
    simp only [cnt]
    rw [h 0 (by omega), cnt_none (n := n) fun i hi => h (i + 1) (by omega)]; rfl

theorem cnt_all {f : Nat → Bool} : ∀ {n : Nat}, (∀ i, i < n → f i = true) → cnt f n = n
  | 0, _ => rfl
  | n + 1, h => by
    simp only [cnt]
    rw [h 0 (by omega), cnt_all (n := n) fun i hi => h (i + 1) (by omega)]; simp; omega

/-! ### byte by byte -/
/-- f at each of the k lowest bytes. -/
def dig (f : Nat → Nat) : Nat → Nat → Nat
  | 0, _ => 0
  | k + 1, x => f (x % 256) + 256 * dig f k (x / 256)
/-- The byte m, k times. -/
def rep (m : Nat) : Nat → Nat
  | 0 => 0
  | k + 1 => m + 256 * rep m k

theorem and8 (x y : Nat) : x &&& y = ((x % 256) &&& (y % 256)) + 256 * ((x / 256) &&& (y / 256)) := by
  have h1 : (x &&& y) / 2 ^ 8 = x / 2 ^ 8 &&& y / 2 ^ 8 := Nat.and_div_two_pow
  have h2 : (x &&& y) % 2 ^ 8 = x % 2 ^ 8 &&& y % 2 ^ 8 := Nat.and_mod_two_pow
  have h3 := Nat.mod_add_div (x &&& y) 256
  rw [show (256 : Nat) = 2 ^ 8 by rfl] at h3 ⊢
  rw [← h1, ← h2]
  exact h3.symm

theorem rep_div (m k : Nat) (hm : m < 256) : rep m (k + 1) % 256 = m ∧ rep m (k + 1) / 256 = rep m k := by
  simp only [rep]; omega

theorem dig_congr {f g : Nat → Nat} (h : ∀ y, y < 256 → f y = g y) : ∀ k x, dig f k x = dig g k x
  | 0, _ => rfl
  | k + 1, x => by simp only [dig]; rw [h _ (by omega), dig_congr h k]

theorem dig_add (f g : Nat → Nat) : ∀ k x, dig f k x + dig g k x = dig (fun y => f y + g y) k x
  | 0, _ => rfl
  | k + 1, x => by
    have := dig_add f g k (x / 256)
    simp only [dig]; omega

theorem dig_dig (f g : Nat → Nat) (hf : ∀ y, y < 256 → f y < 256) : ∀ k x, dig g k (dig f k x) = dig (fun y => g (f y)) k x
  | 0, _ => rfl
  | k + 1, x => by
    have hlt := hf (x % 256) (by omega)
    have e1 : (f (x % 256) + 256 * dig f k (x / 256)) % 256 = f (x % 256) := by omega
    have e2 : (f (x % 256) + 256 * dig f k (x / 256)) / 256 = dig f k (x / 256) := by omega
    simp only [dig]
    rw [e1, e2, dig_dig f g hf k]

theorem and_rep (m : Nat) (hm : m < 256) : ∀ k x, x &&& rep m k = dig (fun y => y &&& m) k x
  | 0, x => by simp [rep, dig]
  | k + 1, x => by
    rw [and8, (rep_div m k hm).1, (rep_div m k hm).2, and_rep m hm k]; rfl

theorem and_rep_div2 : ∀ k x, x / 2 &&& rep 85 k = dig (fun y => y / 2 &&& 85) k x
  | 0, x => by simp [rep, dig]
  | k + 1, x => by
    have hb : ∀ y, y < 256 → ∀ t, t < 2 → (y / 2 + 128 * t) &&& 85 = y / 2 &&& 85 := by decide +kernel
    rw [and8, (rep_div 85 k (by omega)).1, (rep_div 85 k (by omega)).2]
    have e1 : x / 2 % 256 = x % 256 / 2 + 128 * (x / 256 % 2) := by omega
    have e2 : x / 2 / 256 = x / 256 / 2 := by omega
    rw [e1, e2, hb _ (by omega) _ (by omega), and_rep_div2 k]; rfl

theorem and_rep_div4 : ∀ k x, x / 4 &&& rep 51 k = dig (fun y => y / 4 &&& 51) k x
  | 0, x => by simp [rep, dig]
  | k + 1, x => by
    have hb : ∀ y, y < 256 → ∀ t, t < 4 → (y / 4 + 64 * t) &&& 51 = y / 4 &&& 51 := by decide +kernel
    rw [and8, (rep_div 51 k (by omega)).1, (rep_div 51 k (by omega)).2]
    have e1 : x / 4 % 256 = x % 256 / 4 + 64 * (x / 256 % 4) := by omega
    have e2 : x / 4 / 256 = x / 256 / 4 := by omega
    rw [e1, e2, hb _ (by omega) _ (by omega), and_rep_div4 k]; rfl

theorem and_rep_div16 (h : Nat → Nat) (hh : ∀ y, y < 256 → h y % 16 ≤ 4 ∧ h y / 16 ≤ 4) : ∀ k x, (dig h k x / 16 + dig h k x) &&& rep 15 k = dig (fun y => (h y / 16 + h y) % 16) k x
  | 0, x => by simp [rep, dig]
  | k + 1, x => by
    have ih := and_rep_div16 h hh k (x / 256)
    have hy := hh (x % 256) (by omega)
    have hz : dig h k (x / 256) % 16 ≤ 4 := by
      cases k with
      | zero => simp [dig]
      | succ k => have := hh (x / 256 % 256) (by omega); simp only [dig]; omega
    rw [and8, (rep_div 15 k (by omega)).1, (rep_div 15 k (by omega)).2]
    simp only [dig]
    generalize dig h k (x / 256) = D at *
    generalize h (x % 256) = y at *
    have e1 : ((y + 256 * D) / 16 + (y + 256 * D)) % 256 = y / 16 + 16 * (D % 16) + y := by omega
    have e2 : ((y + 256 * D) / 16 + (y + 256 * D)) / 256 = D / 16 + D := by omega
    rw [e1, e2, ih]
    rw [show (15 : Nat) = 2 ^ 4 - 1 by rfl, Nat.and_two_pow_sub_one_eq_mod]
    congr 1
    omega

/-- The bits of a byte, counted as the program does it. -/
def pa (y : Nat) : Nat := (y / 2 &&& 85) + (y &&& 85)
def pb (y : Nat) : Nat := (pa y / 4 &&& 51) + (pa y &&& 51)
def p8 (y : Nat) : Nat := (pb y / 16 + pb y) % 16

theorem pa_lt : ∀ y, y < 256 → pa y < 256 := by decide +kernel
theorem pb_ok : ∀ y, y < 256 → pb y % 16 ≤ 4 ∧ pb y / 16 ≤ 4 := by decide +kernel
theorem p8_le : ∀ y, y < 256 → p8 y ≤ 8 := by decide +kernel
theorem p8_cnt : ∀ y, y < 256 → p8 y = cnt (fun i => y.testBit i) 8 := by decide +kernel

def aN (x : Nat) : Nat := (x / 2 &&& 6148914691236517205) + (x &&& 6148914691236517205)
def bN (x : Nat) : Nat := (x / 4 &&& 3689348814741910323) + (x &&& 3689348814741910323)
def cN (x : Nat) : Nat := (x / 16 + x) &&& 1085102592571150095

theorem aN_dig (x : Nat) : aN x = dig pa 8 x := by
  have e : 6148914691236517205 = rep 85 8 := by rfl
  unfold aN
  rw [e, and_rep_div2, and_rep 85 (by omega), dig_add]; rfl
theorem bN_dig (x : Nat) : bN (dig pa 8 x) = dig pb 8 x := by
  have e : 3689348814741910323 = rep 51 8 := by rfl
  unfold bN
  rw [e, and_rep_div4, and_rep 51 (by omega), dig_dig _ _ pa_lt, dig_dig _ _ pa_lt, dig_add]; rfl
theorem cN_dig (x : Nat) : cN (dig pb 8 x) = dig p8 8 x := by
  have e : 1085102592571150095 = rep 15 8 := by rfl
  unfold cN
  rw [e, and_rep_div16 pb pb_ok]; rfl

/-- The bytes' counts, added. -/
def sumB : Nat → Nat → Nat
  | 0, _ => 0
  | k + 1, x => p8 (x % 256) + sumB k (x / 256)

theorem sumB_cnt : ∀ k x, sumB k x = cnt (fun i => x.testBit i) (8 * k)
  | 0, _ => rfl
  | k + 1, x => by
    rw [show 8 * (k + 1) = 8 + 8 * k by omega, cnt_add]
    simp only [sumB]
    rw [p8_cnt _ (by omega), sumB_cnt k]
    congr 1
    · exact cnt_congr fun i hi => by
        rw [show (256 : Nat) = 2 ^ 8 by rfl, Nat.testBit_mod_two_pow]; simp [hi]
    · exact cnt_congr fun i _ => by
        rw [show (256 : Nat) = 2 ^ 8 by rfl, Nat.testBit_div_two_pow]
        congr 1; omega

theorem dv {n m q r : Nat} (h : n = m * q + r) (hr : r < m) : n / m = q := by
  subst h
  rw [Nat.mul_add_div (by omega), Nat.div_eq_of_lt hr, Nat.add_zero]
theorem md {n m q r : Nat} (h : n = m * q + r) (hr : r < m) : n % m = r := by
  subst h
  rw [Nat.mul_add_mod, Nat.mod_eq_of_lt hr]

set_option maxHeartbeats 2000000 in
theorem tail_sum (x : Nat) : ∃ c d e : Nat, c = dig p8 8 x ∧ d = c + c / 256 ∧ e = d + d / 65536 ∧ c < 2 ^ 60 ∧ d < 2 ^ 61 ∧ e < 2 ^ 62 ∧ (e + e / 4294967296) % 128 = sumB 8 x := by
  refine ⟨_, _, _, rfl, rfl, rfl, ?_⟩
  simp only [dig, sumB]
  have h0 := p8_le (x % 256) (by omega)
  have h1 := p8_le (x / 256 % 256) (by omega)
  have h2 := p8_le (x / 256 / 256 % 256) (by omega)
  have h3 := p8_le (x / 256 / 256 / 256 % 256) (by omega)
  have h4 := p8_le (x / 256 / 256 / 256 / 256 % 256) (by omega)
  have h5 := p8_le (x / 256 / 256 / 256 / 256 / 256 % 256) (by omega)
  have h6 := p8_le (x / 256 / 256 / 256 / 256 / 256 / 256 % 256) (by omega)
  have h7 := p8_le (x / 256 / 256 / 256 / 256 / 256 / 256 / 256 % 256) (by omega)
  generalize p8 (x % 256) = c0 at *
  generalize p8 (x / 256 % 256) = c1 at *
  generalize p8 (x / 256 / 256 % 256) = c2 at *
  generalize p8 (x / 256 / 256 / 256 % 256) = c3 at *
  generalize p8 (x / 256 / 256 / 256 / 256 % 256) = c4 at *
  generalize p8 (x / 256 / 256 / 256 / 256 / 256 % 256) = c5 at *
  generalize p8 (x / 256 / 256 / 256 / 256 / 256 / 256 % 256) = c6 at *
  generalize p8 (x / 256 / 256 / 256 / 256 / 256 / 256 / 256 % 256) = c7 at *
  have q1 : (c0 + 256 * (c1 + 256 * (c2 + 256 * (c3 + 256 * (c4 + 256 * (c5 + 256 * (c6 + 256 * (c7 + 256 * 0)))))))) / 256 = 1 * c1 + 256 * c2 + 65536 * c3 + 16777216 * c4 + 4294967296 * c5 + 1099511627776 * c6 + 281474976710656 * c7 := dv (r := c0) (by omega) (by omega)
  rw [q1]
  have q2 : (c0 + 256 * (c1 + 256 * (c2 + 256 * (c3 + 256 * (c4 + 256 * (c5 + 256 * (c6 + 256 * (c7 + 256 * 0))))))) + (1 * c1 + 256 * c2 + 65536 * c3 + 16777216 * c4 + 4294967296 * c5 + 1099511627776 * c6 + 281474976710656 * c7)) / 65536 = 1 * (c2 + c3) + 256 * (c3 + c4) + 65536 * (c4 + c5) + 16777216 * (c5 + c6) + 4294967296 * (c6 + c7) + 1099511627776 * c7 := dv (r := (c0 + c1) + 256 * (c1 + c2)) (by omega) (by omega)
  rw [q2]
  have q3 : (c0 + 256 * (c1 + 256 * (c2 + 256 * (c3 + 256 * (c4 + 256 * (c5 + 256 * (c6 + 256 * (c7 + 256 * 0))))))) + (1 * c1 + 256 * c2 + 65536 * c3 + 16777216 * c4 + 4294967296 * c5 + 1099511627776 * c6 + 281474976710656 * c7) + (1 * (c2 + c3) + 256 * (c3 + c4) + 65536 * (c4 + c5) + 16777216 * (c5 + c6) + 4294967296 * (c6 + c7) + 1099511627776 * c7)) / 4294967296 = 1 * ((c4 + c5) + (c6 + c7)) + 256 * ((c5 + c6) + c7) + 65536 * (c6 + c7) + 16777216 * c7 := dv (r := ((c0 + c1) + (c2 + c3)) + 256 * ((c1 + c2) + (c3 + c4)) + 65536 * ((c2 + c3) + (c4 + c5)) + 16777216 * ((c3 + c4) + (c5 + c6))) (by omega) (by omega)
  rw [q3]
  clear q1 q2 q3
  refine ⟨by omega, by omega, by omega, ?_⟩
  rw [md (n := c0 + 256 * (c1 + 256 * (c2 + 256 * (c3 + 256 * (c4 + 256 * (c5 + 256 * (c6 + 256 * (c7 + 256 * 0))))))) + (1 * c1 + 256 * c2 + 65536 * c3 + 16777216 * c4 + 4294967296 * c5 + 1099511627776 * c6 + 281474976710656 * c7) + (1 * (c2 + c3) + 256 * (c3 + c4) + 65536 * (c4 + c5) + 16777216 * (c5 + c6) + 4294967296 * (c6 + c7) + 1099511627776 * c7) + (1 * ((c4 + c5) + (c6 + c7)) + 256 * ((c5 + c6) + c7) + 65536 * (c6 + c7) + 16777216 * c7)) (m := 128) (q := 2 * (1 * (((c1 + c2) + (c3 + c4)) + ((c5 + c6) + c7)) + 256 * (((c2 + c3) + (c4 + c5)) + (c6 + c7)) + 65536 * (((c3 + c4) + (c5 + c6)) + c7) + 16777216 * ((c4 + c5) + (c6 + c7)) + 4294967296 * ((c5 + c6) + c7) + 1099511627776 * (c6 + c7) + 281474976710656 * c7)) (r := ((c0 + c1) + (c2 + c3)) + ((c4 + c5) + (c6 + c7))) (by omega) (by omega)]
  omega

end Go.Proofs.YtehpmdmfolmaoaaDoor
