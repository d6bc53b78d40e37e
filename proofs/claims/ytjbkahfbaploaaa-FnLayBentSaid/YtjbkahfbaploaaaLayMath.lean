/-
  Striping as plain arithmetic: where a position lies, and back again.
-/
namespace Go.Proofs.Ytjbkahfbaploaaa

/-- A layout is one. -/
def layOkB (size many : Int) : Bool := decide (1 ≤ size ∧ size ≤ 8 ∧ 1 ≤ many ∧ many ≤ 3)
theorem layOkB_iff {size many : Int} : layOkB size many = true ↔ (1 ≤ size ∧ size ≤ 8 ∧ 1 ≤ many ∧ many ≤ 3) := by unfold layOkB; simp
theorem layOkB_true {size many : Int} (h : 1 ≤ size ∧ size ≤ 8 ∧ 1 ≤ many ∧ many ≤ 3) : layOkB size many = true := layOkB_iff.2 h
theorem layOkB_false {size many : Int} (h : ¬ (1 ≤ size ∧ size ≤ 8 ∧ 1 ≤ many ∧ many ≤ 3)) : layOkB size many = false := by unfold layOkB; simpa using h

/-- The object of a position; its place there; and the position of a place of an object. -/
def objF (size many p : Int) : Int := p / size % many
def atF (size many p : Int) : Int := p / size / many * size + p % size
def backF (size many obj a : Int) : Int := (a / size * many + obj) * size + a % size

theorem quo_bd {n k : Int} (h : 0 ≤ n) (hk : 1 ≤ k) : 0 ≤ n / k ∧ n / k ≤ n := ⟨Int.ediv_nonneg h (by omega), Int.ediv_le_self _ h⟩
theorem rem_bd {n k : Int} (hk : 1 ≤ k) : 0 ≤ n % k ∧ n % k < k := ⟨Int.emod_nonneg _ (by omega), Int.emod_lt_of_pos _ (by omega)⟩
theorem mul_bd {n k m : Int} (h : 0 ≤ n) (hk : 0 ≤ k) (hm : k ≤ m) : 0 ≤ n * k ∧ n * k ≤ n * m := ⟨Int.mul_nonneg h hk, Int.mul_le_mul_of_nonneg_left hm h⟩

/-- The eight sizes and three numbers of objects, one by one. -/
theorem lay_cases {size many : Int} (P : Int → Int → Prop) (h : 1 ≤ size ∧ size ≤ 8 ∧ 1 ≤ many ∧ many ≤ 3)
    (hP : ∀ s m : Nat, s < 8 → m < 3 → P (s + 1) (m + 1)) : P size many := by
  obtain ⟨h1, h2, h3, h4⟩ := h
  have := hP (size - 1).toNat (many - 1).toNat (by omega) (by omega)
  have e1 : (((size - 1).toNat : Nat) : Int) + 1 = size := by omega
  have e2 : (((many - 1).toNat : Nat) : Int) + 1 = many := by omega
  rwa [e1, e2] at this

theorem at_bd {size many p : Int} (h : layOkB size many = true) (hp : 0 ≤ p) : 0 ≤ objF size many p ∧ objF size many p < many ∧ 0 ≤ atF size many p ∧ atF size many p ≤ p := by
  obtain ⟨h1, h2, h3, h4⟩ := layOkB_iff.1 h
  have a := quo_bd (k := size) hp (by omega)
  have b := quo_bd (k := many) a.1 (by omega)
  have c := rem_bd (n := p) (k := size) (by omega)
  have d := rem_bd (n := p / size) (k := many) (by omega)
  have e := Int.mul_ediv_add_emod p size
  have f : p / size / many * size ≤ p / size * size := Int.mul_le_mul_of_nonneg_right b.2 (by omega)
  have g : 0 ≤ p / size / many * size := Int.mul_nonneg b.1 (by omega)
  have g2 : p / size * size = size * (p / size) := Int.mul_comm _ _
  unfold objF atF
  omega

theorem back_at {size many p : Int} (h : layOkB size many = true) : backF size many (objF size many p) (atF size many p) = p := by
  obtain ⟨h1, h2, h3, h4⟩ := layOkB_iff.1 h
  unfold backF objF atF
  have c := rem_bd (n := p) (k := size) (by omega)
  have e1 : (p / size / many * size + p % size) / size = p / size / many := by
    rw [Int.add_comm, Int.add_mul_ediv_right _ _ (by omega), Int.ediv_eq_zero_of_lt c.1 c.2]; omega
  have e2 : (p / size / many * size + p % size) % size = p % size := by
    rw [Int.add_comm, Int.add_mul_emod_self_right, Int.emod_emod_of_dvd _ (Int.dvd_refl _)]
  rw [e1, e2]
  have f := Int.mul_ediv_add_emod (p / size) many
  have g := Int.mul_ediv_add_emod p size
  rw [show p / size / many * many + p / size % many = p / size by rw [Int.mul_comm]; exact f, Int.mul_comm]
  exact g

theorem at_back {size many obj a : Int} (h : layOkB size many = true) (ho : 0 ≤ obj) (hm : obj < many) :
    objF size many (backF size many obj a) = obj ∧ atF size many (backF size many obj a) = a := by
  obtain ⟨h1, h2, h3, h4⟩ := layOkB_iff.1 h
  unfold backF objF atF
  have c := rem_bd (n := a) (k := size) (by omega)
  have e1 : ((a / size * many + obj) * size + a % size) / size = a / size * many + obj := by
    rw [Int.add_comm, Int.add_mul_ediv_right _ _ (by omega), Int.ediv_eq_zero_of_lt c.1 c.2]; omega
  have e2 : ((a / size * many + obj) * size + a % size) % size = a % size := by
    rw [Int.add_comm, Int.add_mul_emod_self_right, Int.emod_emod_of_dvd _ (Int.dvd_refl _)]
  have e3 : (a / size * many + obj) / many = a / size := by
    rw [Int.add_comm, Int.add_mul_ediv_right _ _ (by omega), Int.ediv_eq_zero_of_lt ho hm]; omega
  have e4 : (a / size * many + obj) % many = obj := by
    rw [Int.add_comm, Int.add_mul_emod_self_right, Int.emod_eq_of_lt ho hm]
  rw [e1, e2, e3, e4]
  exact ⟨rfl, by rw [Int.mul_comm]; exact Int.mul_ediv_add_emod a size⟩

theorem back_bd {size many obj a : Int} (h : layOkB size many = true) (ho : 0 ≤ obj) (hm : obj < many) (ha : 0 ≤ a) : a ≤ backF size many obj a ∧ backF size many obj a ≤ 24 * a + 32 := by
  obtain ⟨h1, h2, h3, h4⟩ := layOkB_iff.1 h
  have p := quo_bd (k := size) ha (by omega)
  have c := rem_bd (n := a) (k := size) (by omega)
  have e := Int.mul_ediv_add_emod a size
  have m1 : a / size ≤ a / size * many := by have := Int.mul_le_mul_of_nonneg_left h3 p.1; omega
  have m2 : a / size * many ≤ a / size * 3 := Int.mul_le_mul_of_nonneg_left h4 p.1
  have n1 : a / size * size ≤ (a / size * many + obj) * size := Int.mul_le_mul_of_nonneg_right (by omega) (by omega)
  have n2 : (a / size * many + obj) * size ≤ (a / size * many + obj) * 8 := Int.mul_le_mul_of_nonneg_left h2 (by omega)
  have g2 : a / size * size = size * (a / size) := Int.mul_comm _ _
  unfold backF
  omega

/-- What LayAt and LayBack return. -/
def laObj (size many p : Int) : Int := if layOkB size many = true ∧ 0 ≤ p ∧ p < 48 then objF size many p else -1
def laAt (size many p : Int) : Int := if layOkB size many = true ∧ 0 ≤ p ∧ p < 48 then atF size many p else -1
def lbF (size many obj a : Int) : Int := if layOkB size many = true ∧ 0 ≤ obj ∧ obj < many ∧ 0 ≤ a ∧ a < 48 ∧ backF size many obj a < 48 then backF size many obj a else -1

end Go.Proofs.Ytjbkahfbaploaaa
