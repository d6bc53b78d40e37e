/-
  Plain facts: runs of a value over the positions: one cut at a place, the value changed in a range, the ranges that have one value. Nothing of the program.
-/
import Derived.Test.YtldafphfnkamjaaRgMath
import Derived.Test.YtldafphfnkamjaaMeetW
namespace Go.Proofs.Ytldafphfnkamjaa

/-- A run: from, to, the value. -/
abbrev RunT := Int × Int × Int

/-- Runs one behind the other from a to b. -/
def chn : Int → List RunT → Int → Prop
  | a, [], b => a = b
  | a, r :: rs, b => r.1 = a ∧ a < r.2.1 ∧ chn r.2.1 rs b

/-- The value at a position. -/
def vl : List RunT → Int → Int
  | [], _ => 0
  | r :: rs, i => if i < r.2.1 then r.2.2 else vl rs i

/-- A place within a run, at no end of it. -/
def strB (p : Int) (r : RunT) : Bool := decide (r.1 < p) && decide (p < r.2.1)

def splR (p : Int) : List RunT → List RunT
  | [] => []
  | r :: rs => if strB p r = true then (r.1, p, r.2.2) :: (p, r.2.1, r.2.2) :: rs else r :: splR p rs

/-- A run that has a position in common with a range. -/
def mtgB (lo hi : Int) (r : RunT) : Bool := spanOkB (mx r.1 lo) (mn r.2.1 hi)
def chgR (lo hi : Int) (g : Int → Int) (r : RunT) : RunT := if mtgB lo hi r = true then (r.1, r.2.1, g r.2.2) else r
def stR (lo hi : Int) (g : Int → Int) (R : List RunT) : List RunT := R.map (chgR lo hi g)

theorem chn_le : ∀ (R : List RunT) (a b : Int), chn a R b → a ≤ b
  | [], a, b, h => by simp only [chn] at h; omega
  | r :: rs, a, b, ⟨h1, h2, h3⟩ => by have := chn_le rs _ _ h3; omega

theorem chn_mem : ∀ (R : List RunT) (a b : Int), chn a R b → ∀ r ∈ R, a ≤ r.1 ∧ r.1 < r.2.1 ∧ r.2.1 ≤ b
  | [], _, _, _, r, hr => by simp at hr
  | q :: rs, a, b, ⟨h1, h2, h3⟩, r, hr => by
    rcases List.mem_cons.1 hr with rfl | hr
    · have := chn_le rs _ _ h3; omega
    · have := chn_mem rs _ _ h3 r hr; omega

theorem chn_len : ∀ (R : List RunT) (a b : Int), chn a R b → (R.length : Int) ≤ b - a
  | [], a, b, h => by simp only [chn] at h; simp; omega
  | r :: rs, a, b, ⟨h1, h2, h3⟩ => by have := chn_len rs _ _ h3; simp only [List.length_cons, Int.natCast_add, Int.natCast_one]; omega

theorem strB_iff {p : Int} {r : RunT} : strB p r = true ↔ r.1 < p ∧ p < r.2.1 := by unfold strB; simp
theorem strB_no {p : Int} {r : RunT} : strB p r = false ↔ ¬ (r.1 < p ∧ p < r.2.1) := by rw [← strB_iff]; simp

theorem chn_spl (p : Int) : ∀ (R : List RunT) (a b : Int), chn a R b → chn a (splR p R) b
  | [], a, b, h => h
  | r :: rs, a, b, ⟨h1, h2, h3⟩ => by
    unfold splR
    split
    · rename_i h
      have := strB_iff.1 h
      exact ⟨h1, by show a < p; omega, rfl, this.2, h3⟩
    · exact ⟨h1, h2, chn_spl p rs _ _ h3⟩

theorem vl_spl (p i : Int) : ∀ (R : List RunT), vl (splR p R) i = vl R i
  | [] => rfl
  | r :: rs => by
    unfold splR
    split
    · rename_i h
      have := strB_iff.1 h
      show (if i < p then r.2.2 else if i < r.2.1 then r.2.2 else vl rs i) = if i < r.2.1 then r.2.2 else vl rs i
      by_cases h1 : i < p
      · rw [if_pos h1, if_pos (by omega)]
      · rw [if_neg h1]
    · show (if i < r.2.1 then r.2.2 else vl (splR p rs) i) = if i < r.2.1 then r.2.2 else vl rs i
      rw [vl_spl p i rs]

theorem spl_no (p : Int) : ∀ (R : List RunT) (a b : Int), chn a R b → ∀ r ∈ splR p R, strB p r = false
  | [], _, _, _, r, hr => by simp [splR] at hr
  | q :: rs, a, b, ⟨h1, h2, h3⟩, r, hr => by
    unfold splR at hr
    split at hr
    · rename_i h
      have hq := strB_iff.1 h
      rcases List.mem_cons.1 hr with rfl | hr
      · exact strB_no.2 (by show ¬ (q.1 < p ∧ p < p); omega)
      · rcases List.mem_cons.1 hr with rfl | hr
        · exact strB_no.2 (by show ¬ (p < p ∧ p < q.2.1); omega)
        · have := chn_mem rs _ _ h3 r hr
          exact strB_no.2 (by omega)
    · rename_i h
      rcases List.mem_cons.1 hr with rfl | hr
      · simpa using h
      · exact spl_no p rs _ _ h3 r hr

theorem spl_keep (p q : Int) : ∀ (R : List RunT), (∀ r ∈ R, strB q r = false) → ∀ r ∈ splR p R, strB q r = false
  | [], _, r, hr => by simp [splR] at hr
  | x :: rs, h, r, hr => by
    have hx := strB_no.1 (h x (by simp))
    unfold splR at hr
    split at hr
    · rename_i hp
      have hp := strB_iff.1 hp
      rcases List.mem_cons.1 hr with rfl | hr
      · exact strB_no.2 (by show ¬ (x.1 < q ∧ q < p); omega)
      · rcases List.mem_cons.1 hr with rfl | hr
        · exact strB_no.2 (by show ¬ (p < q ∧ q < x.2.1); omega)
        · exact h r (by simp [hr])
    · rcases List.mem_cons.1 hr with rfl | hr
      · exact h _ (by simp)
      · exact spl_keep p q rs (fun y hy => h y (by simp [hy])) r hr

theorem mtgB_iff {lo hi : Int} {r : RunT} (h0 : 0 ≤ r.1) (h48 : r.2.1 ≤ 48) : mtgB lo hi r = true ↔ (r.1 < r.2.1 ∧ r.1 < hi ∧ lo < r.2.1 ∧ lo < hi) := by
  unfold mtgB mx mn
  rw [spanOkB_iff]
  constructor
  · rintro ⟨h1, h2, h3⟩
    split at h2 <;> split at h2 <;> omega
  · rintro ⟨h1, h2, h3, h4⟩
    refine ⟨?_, ?_, ?_⟩
    · split <;> omega
    · split <;> split <;> omega
    · split <;> omega

theorem chn_st (lo hi : Int) (g : Int → Int) : ∀ (R : List RunT) (a b : Int), chn a R b → chn a (stR lo hi g R) b
  | [], a, b, h => h
  | r :: rs, a, b, ⟨h1, h2, h3⟩ => by
    have e : (chgR lo hi g r).1 = r.1 ∧ (chgR lo hi g r).2.1 = r.2.1 := by unfold chgR; split <;> exact ⟨rfl, rfl⟩
    exact ⟨e.1.trans h1, by rw [e.2]; exact h2, by rw [e.2]; exact chn_st lo hi g rs _ _ h3⟩

theorem vl_st (lo hi : Int) (g : Int → Int) (i : Int) (hlh : lo < hi) : ∀ (R : List RunT) (a b : Int), chn a R b → 0 ≤ a → b ≤ 48 → a ≤ i → i < b → (∀ r ∈ R, strB lo r = false) → (∀ r ∈ R, strB hi r = false) →
    vl (stR lo hi g R) i = if lo ≤ i ∧ i < hi then g (vl R i) else vl R i
  | [], a, b, h, _, _, h1, h2, _, _ => by simp only [chn] at h; omega
  | r :: rs, a, b, ⟨h1, h2, h3⟩, h0, h48, hi1, hi2, hl, hh => by
    have e : (chgR lo hi g r).2.1 = r.2.1 := by unfold chgR; split <;> rfl
    show (if i < (chgR lo hi g r).2.1 then (chgR lo hi g r).2.2 else vl (stR lo hi g rs) i) = if lo ≤ i ∧ i < hi then g (if i < r.2.1 then r.2.2 else vl rs i) else (if i < r.2.1 then r.2.2 else vl rs i)
    rw [e]
    by_cases hi3 : i < r.2.1
    · rw [if_pos hi3, if_pos hi3]
      have l1 := strB_no.1 (hl r (by simp))
      have l2 := strB_no.1 (hh r (by simp))
      have hle := chn_le rs _ _ h3
      have hm := mtgB_iff (lo := lo) (hi := hi) (r := r) (by omega) (by omega)
      unfold chgR
      by_cases hin : lo ≤ i ∧ i < hi
      · rw [if_pos hin, if_pos (hm.2 (by omega))]
      · rw [if_neg hin, if_neg (fun c => by have := hm.1 c; omega)]
    · rw [if_neg hi3, if_neg hi3]
      exact vl_st lo hi g i hlh rs _ _ h3 (by omega) h48 (by omega) hi2 (fun x hx => hl x (by simp [hx])) (fun x hx => hh x (by simp [hx]))

/-- Cut at both ends, then changed. -/
def chR (lo hi : Int) (g : Int → Int) (R : List RunT) : List RunT := stR lo hi g (splR hi (splR lo R))

theorem chn_ch {lo hi a b : Int} {g : Int → Int} {R : List RunT} (h : chn a R b) : chn a (chR lo hi g R) b := chn_st _ _ _ _ _ _ (chn_spl _ _ _ _ (chn_spl _ _ _ _ h))
theorem vl_ch {lo hi a b i : Int} {g : Int → Int} {R : List RunT} (h : chn a R b) (hlh : lo < hi) (h0 : 0 ≤ a) (h48 : b ≤ 48) (h1 : a ≤ i) (h2 : i < b) :
    vl (chR lo hi g R) i = if lo ≤ i ∧ i < hi then g (vl R i) else vl R i := by
  have c1 := chn_spl lo _ _ _ h
  have c2 := chn_spl hi _ _ _ c1
  unfold chR
  rw [vl_st lo hi g i hlh _ _ _ c2 h0 h48 h1 h2 (spl_keep hi lo _ (spl_no lo _ _ _ h)) (spl_no hi _ _ _ c1), vl_spl, vl_spl]

/-- The last range's end is x. -/
def endI (a : List Rng) (x : Int) : Bool := decide (0 < a.length) && decide ((a.getD (a.length - 1) (0, 0)).2 = x)
def addR (v : Int) (out : List Rng) (r : RunT) : List Rng :=
  if r.2.2 = v then (if endI out r.1 = true then out.set (out.length - 1) ((out.getD (out.length - 1) (0, 0)).1, r.2.1) else out ++ [(r.1, r.2.1)]) else out
/-- The ranges with a value. -/
def lsR (v : Int) (R : List RunT) : List Rng := R.foldl (addR v) []

theorem addR_len (v : Int) (out : List Rng) (r : RunT) : (addR v out r).length ≤ out.length + 1 := by
  unfold addR; split
  · split <;> simp
  · omega

theorem rg_none (f : Nat → Bool) (k : Nat) : ∀ m, (∀ i, k ≤ i → i < k + m → f i = false) → rg f (k + m) = rg f k
  | 0, _ => rfl
  | m + 1, h => by
    have h1 := rg_none f k m (fun i a b => h i a (by omega))
    show rg f (k + m + 1) = _
    simp only [rg, h (k + m) (by omega) (by omega)]
    simpa using h1

theorem rg_one (f : Nat → Bool) (v : Int) (n : Nat) (h : f n = true) : rg f (n + 1) = addR v (rg f n) ((n : Int), (n : Int) + 1, v) := by
  simp only [rg, h, if_true]
  unfold addR
  simp only [if_true]
  rfl

theorem addR_two (v : Int) (out : List Rng) (x y z : Int) : addR v (addR v out (x, y, v)) (y, z, v) = addR v out (x, z, v) := by
  unfold addR
  simp only [if_true]
  by_cases he : endI out x = true
  · rw [if_pos he, if_pos he]
    have hp : 0 < out.length := by
      unfold endI at he; simp only [Bool.and_eq_true, decide_eq_true_eq] at he; exact he.1
    have hg : (out.set (out.length - 1) ((out.getD (out.length - 1) (0, 0)).1, y)).getD (out.length - 1) (0, 0) = ((out.getD (out.length - 1) (0, 0)).1, y) := by
      rw [List.getD_eq_getElem?_getD, List.getElem?_set_self (by omega)]; rfl
    have hen : endI (out.set (out.length - 1) ((out.getD (out.length - 1) (0, 0)).1, y)) y = true := by
      unfold endI
      rw [List.length_set, hg]
      simp [hp]
    rw [if_pos hen, List.length_set, hg, List.set_set]
  · rw [if_neg he, if_neg he]
    have hg : (out ++ [(x, y)]).getD ((out ++ [(x, y)]).length - 1) (0, 0) = (x, y) := by
      rw [List.getD_eq_getElem?_getD]; simp
    have hen : endI (out ++ [(x, y)]) y = true := by
      unfold endI
      rw [hg]; simp
    rw [if_pos hen, hg]
    simp

theorem rg_fill (f : Nat → Bool) (v : Int) (k : Nat) : ∀ m, 0 < m → (∀ i, k ≤ i → i < k + m → f i = true) → rg f (k + m) = addR v (rg f k) ((k : Int), ((k + m : Nat) : Int), v)
  | 0, h, _ => absurd h (by omega)
  | 1, _, h => by
    have := rg_one f v k (h k (by omega) (by omega))
    rw [this]; congr 2
  | m + 2, _, h => by
    have h1 := rg_fill f v k (m + 1) (by omega) (fun i a b => h i a (by omega))
    have h2 := rg_one f v (k + (m + 1)) (h (k + (m + 1)) (by omega) (by omega))
    show rg f (k + (m + 1) + 1) = _
    rw [h2, h1, addR_two]
    congr 2

theorem lsR_from (v : Int) (f : Nat → Bool) : ∀ (R : List RunT) (k n : Nat), chn (k : Int) R (n : Int) → (∀ i : Nat, k ≤ i → i < n → f i = decide (vl R i = v)) → R.foldl (addR v) (rg f k) = rg f n
  | [], k, n, h, _ => by
    simp only [chn] at h
    have : k = n := by omega
    subst this; rfl
  | r :: rs, k, n, ⟨h1, h2, h3⟩, hf => by
    have hle := chn_le rs _ _ h3
    obtain ⟨m, hm⟩ : ∃ m : Nat, r.2.1 = ((k + m : Nat) : Int) := ⟨(r.2.1 - k).toNat, by omega⟩
    rw [hm] at h3
    have hvl : ∀ i : Nat, k ≤ i → i < k + m → vl (r :: rs) i = r.2.2 := fun i a b => by show (if (i : Int) < r.2.1 then _ else _) = _; rw [if_pos (by omega)]
    have hvr : ∀ i : Nat, k + m ≤ i → vl (r :: rs) i = vl rs i := fun i a => by show (if (i : Int) < r.2.1 then _ else _) = _; rw [if_neg (by omega)]
    have ih := lsR_from v f rs (k + m) n h3 (fun i a b => by rw [hf i (by omega) b, hvr i a])
    rw [List.foldl_cons, ← ih]
    congr 1
    obtain ⟨x, y, z⟩ := r
    simp only at h1 hm h2 hvl hle
    subst h1
    by_cases hz : z = v
    · subst hz
      rw [rg_fill f z k m (by omega) (fun i a b => by rw [hf i a (by omega), hvl i a b]; simp), hm]
    · rw [rg_none f k m (fun i a b => by rw [hf i a (by omega), hvl i a b]; simpa using hz)]
      unfold addR
      exact if_neg hz

theorem rg_congr {f g : Nat → Bool} : ∀ {n : Nat}, (∀ i, i < n → f i = g i) → rg f n = rg g n
  | 0, _ => rfl
  | n + 1, h => by
    have := rg_congr (f := f) (g := g) (n := n) fun i hi => h i (by omega)
    simp only [rg, this, h n (by omega)]

theorem lsR_rg {R : List RunT} (h : chn 0 R 48) (v : Int) : lsR v R = rg (fun i => decide (vl R i = v)) 48 :=
  lsR_from v (fun i => decide (vl R i = v)) R 0 48 h (fun _ _ _ => rfl)

/-- Does one who has m keep another one from having what is wanted? -/
def brs (m want : Int) : Bool := decide (m = 2) || (decide (m = 1) && decide (want = 2))
def barB (R : List RunT) (want lo hi : Int) : Bool := R.any fun r => mtgB lo hi r && brs r.2.2 want
def mayR (R : List RunT) (want lo hi : Int) : Bool := R.all fun r => !(mtgB lo hi r && decide (r.2.2 < want))

theorem any_pos (q : Int → Bool) (lo hi : Int) (hlh : lo < hi) : ∀ (R : List RunT) (a b : Int), chn a R b → 0 ≤ a → b ≤ 48 →
    ((R.any fun r => mtgB lo hi r && q r.2.2) = true ↔ ∃ i : Int, a ≤ i ∧ i < b ∧ lo ≤ i ∧ i < hi ∧ q (vl R i) = true)
  | [], a, b, h, _, _ => by
    simp only [chn] at h
    constructor
    · intro h; simp at h
    · rintro ⟨i, h1, h2, _⟩; omega
  | r :: rs, a, b, ⟨h1, h2, h3⟩, h0, h48 => by
    have hle := chn_le rs _ _ h3
    have ih := any_pos q lo hi hlh rs _ _ h3 (by omega) h48
    have hm := mtgB_iff (lo := lo) (hi := hi) (r := r) (by omega) (by omega)
    rw [List.any_cons, Bool.or_eq_true, Bool.and_eq_true, hm, ih]
    constructor
    · rintro (⟨⟨_, m1, m2, _⟩, hq⟩ | ⟨i, i1, i2, i3, i4, i5⟩)
      · refine ⟨mx a lo, ?_⟩
        have hx : mx a lo = a ∨ mx a lo = lo := by unfold mx; split <;> simp
        have hx2 : a ≤ mx a lo ∧ lo ≤ mx a lo := by unfold mx; split <;> omega
        refine ⟨by omega, by omega, by omega, by omega, ?_⟩
        show q (if mx a lo < r.2.1 then _ else _) = true
        rw [if_pos (by omega)]; exact hq
      · refine ⟨i, by omega, i2, i3, i4, ?_⟩
        show q (if i < r.2.1 then _ else _) = true
        rw [if_neg (by omega)]; exact i5
    · rintro ⟨i, i1, i2, i3, i4, i5⟩
      by_cases hi : i < r.2.1
      · refine .inl ⟨by omega, ?_⟩
        have : vl (r :: rs) i = r.2.2 := if_pos hi
        rw [this] at i5; exact i5
      · refine .inr ⟨i, by omega, i2, i3, i4, ?_⟩
        have : vl (r :: rs) i = vl rs i := if_neg hi
        rw [this] at i5; exact i5

end Go.Proofs.Ytldafphfnkamjaa
