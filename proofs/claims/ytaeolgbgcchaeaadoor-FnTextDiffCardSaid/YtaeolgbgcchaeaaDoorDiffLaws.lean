/-
  Plain facts: where two texts differ is the same from both sides; what is written there makes one of the other; nothing differs just where they are one.
-/
import Derived.Test.YtaeolgbgcchaeaaDoorDiffMath
import Derived.Test.YtaeolgbgcchaeaaDoorTextLaws
import Derived.Test.YtaeolgbgcchaeaaDoorReadMath
import Derived.Test.YtaeolgbgcchaeaaDoorRunMath
import Derived.Test.YtaeolgbgcchaeaaDoorOkRg
import Derived.Test.YtaeolgbgcchaeaaDoorInRg
namespace Go.Proofs.YtaeolgbgcchaeaaDoor

theorem tokB_rdL2 {l : List UInt8} {lo hi : Nat} (h : tokB l = true) : tokB (rdL l lo hi) = true := by
  refine tokB_iff.2 ⟨?_, fun c hc => (tokB_iff.1 h).2 c ?_⟩
  · rw [rdL_len]; have := tokB_len h; omega
  · unfold rdL at hc
    exact List.mem_of_mem_take (List.mem_of_mem_drop hc)
theorem dif_comm (a b : List UInt8) (i : Nat) : dif a b i = dif b a i := by
  unfold dif
  rw [Bool.or_left_comm, bne_comm]
theorem dfM_comm (a b : List UInt8) : dfM a b = dfM b a := Nat.max_comm _ _
theorem dfL_comm (a b : List UInt8) : dfL a b = dfL b a := by
  unfold dfL
  rw [dfM_comm a b, show dif a b = dif b a from funext fun i => dif_comm a b i]
  by_cases h : tokB a = true ∧ tokB b = true
  · rw [if_pos h, if_pos h.symm]
  · rw [if_neg h, if_neg fun c => h c.symm]

/-- What is written at one range. -/
def ap (b x : List UInt8) (r : Rng) : List UInt8 := if rdL b r.1.toNat r.2.toNat = [] then x else wrL x r.1.toNat (rdL b r.1.toNat r.2.toNat)
theorem ap_len {b x : List UInt8} {r : Rng} (h : x.length = b.length) : (ap b x r).length = b.length := by
  unfold ap
  split
  · exact h
  · rename_i hn
    have hl := rdL_len b r.1.toNat r.2.toNat
    have : (rdL b r.1.toNat r.2.toNat).length ≠ 0 := fun e => hn (List.eq_nil_of_length_eq_zero e)
    rw [wrL_len]; omega
theorem ap_getD {b x : List UInt8} {r : Rng} (h : x.length = b.length) (hr : spanOkB r.1 r.2 = true) {i : Nat} (hi : i < b.length) : (ap b x r).getD i 46 = if r.1 ≤ (i : Int) ∧ (i : Int) < r.2 then b.getD i 46 else x.getD i 46 := by
  obtain ⟨r0, r1, r2⟩ := spanOkB_iff.1 hr
  have hl := rdL_len b r.1.toNat r.2.toNat
  unfold ap
  split
  · rename_i hn
    rw [hn] at hl
    simp only [List.length_nil] at hl
    rw [if_neg (by omega)]
  · rw [wrL_getD _ _ _ _ (by rw [hl]; omega)]
    by_cases c : r.1 ≤ (i : Int) ∧ (i : Int) < r.2
    · rw [if_pos c]
      have c1 : r.1.toNat ≤ i ∧ i < r.1.toNat + (rdL b r.1.toNat r.2.toNat).length := by rw [hl]; omega
      simp only [c1, and_self, if_true]
      rw [rdL_getD _ _ _ _ (by omega), show r.1.toNat + (i - r.1.toNat) = i by omega]
    · rw [if_neg c]
      have c1 : ¬ (r.1.toNat ≤ i ∧ i < r.1.toNat + (rdL b r.1.toNat r.2.toNat).length) := by rw [hl]; omega
      simp only [c1, if_false]
      rw [if_pos (by omega)]
def apL (b x : List UInt8) (L : List Rng) : List UInt8 := L.foldl (ap b) x
theorem apL_len {b : List UInt8} : ∀ (L : List Rng) {x : List UInt8}, x.length = b.length → (apL b x L).length = b.length
  | [], _, h => h
  | r :: L, _, h => apL_len L (ap_len (r := r) h)
theorem apL_getD {b : List UInt8} : ∀ (L : List Rng) {x : List UInt8}, x.length = b.length → (∀ r ∈ L, spanOkB r.1 r.2 = true) → ∀ {i : Nat}, i < b.length → (apL b x L).getD i 46 = if inB L (i : Int) = true then b.getD i 46 else x.getD i 46
  | [], _, _, _, _, _ => by simp [apL, inB]
  | r :: L, x, h, hr, i, hi => by
    have h1 := hr r (by simp)
    show (apL b (ap b x r) L).getD i 46 = _
    rw [apL_getD L (ap_len h) (fun r' h' => hr r' (by simp [h'])) hi, ap_getD h h1 hi]
    have e : inB (r :: L) (i : Int) = ((decide (r.1 ≤ (i : Int)) && decide ((i : Int) < r.2)) || inB L (i : Int)) := rfl
    rw [e]
    by_cases c : inB L (i : Int) = true
    · rw [if_pos c, if_pos (by rw [c]; simp)]
    · rw [if_neg c]
      by_cases c2 : r.1 ≤ (i : Int) ∧ (i : Int) < r.2
      · rw [if_pos c2, if_pos (by simp [c2])]
      · rw [if_neg c2, if_neg (by simp only [Bool.or_eq_true, Bool.and_eq_true, decide_eq_true_eq]; exact fun o => o.elim c2 c)]
theorem apL_snoc (b x : List UInt8) (L : List Rng) (k : Nat) (h : k < L.length) : apL b x (L.take (k + 1)) = ap b (apL b x (L.take k)) (L.getD k (0, 0)) := by
  have e : L.getD k (0, 0) = L[k] := by rw [List.getD_eq_getElem?_getD, List.getElem?_eq_getElem h]; rfl
  rw [e, List.take_succ_eq_append_getElem h]
  unfold apL
  rw [List.foldl_append]; rfl

theorem dfL_eq {a b : List UInt8} (ha : tokB a = true) (hb : tokB b = true) : dfL a b = rg (dif a b) (dfM a b) := if_pos ⟨ha, hb⟩
theorem dfM_le {a b : List UInt8} (ha : tokB a = true) (hb : tokB b = true) : dfM a b ≤ 48 := by
  have := tokB_len ha
  have := tokB_len hb
  unfold dfM; omega
theorem dfL_ok {a b : List UInt8} (ha : tokB a = true) (hb : tokB b = true) : ∀ r ∈ dfL a b, spanOkB r.1 r.2 = true := by
  rw [dfL_eq ha hb]
  exact okFrom_all _ _ (okFrom_rg _ _ (dfM_le ha hb)).1
theorem dfL_in {a b : List UInt8} (ha : tokB a = true) (hb : tokB b = true) {i : Nat} (hi : i < dfM a b) : inB (dfL a b) (i : Int) = dif a b i := by
  rw [dfL_eq ha hb]
  exact (inB_rg _ _ (dfM_le ha hb)).1 i hi
theorem diff_back {a b : List UInt8} (ha : tokB a = true) (hb : tokB b = true) : apL b (cutL a b.length) (dfL a b) = b := by
  have hc := cutL_len a b.length
  refine ext_getD (apL_len _ hc) fun i hi => ?_
  rw [apL_getD _ hc (dfL_ok ha hb) hi, dfL_in ha hb (show i < dfM a b by unfold dfM; omega)]
  split
  · rfl
  · rename_i hn
    have hn : dif a b i = false := by simpa using hn
    unfold dif at hn
    simp only [Bool.or_eq_false_iff, decide_eq_false_iff_not, bne_eq_false_iff_eq] at hn
    rw [cutL_getD _ _ _ hi, if_pos (by omega)]
    exact hn.2.2
theorem dfL_nil {a b : List UInt8} (ha : tokB a = true) (hb : tokB b = true) : (dfL a b).length = 0 ↔ a = b := by
  constructor
  · intro h
    have hn := List.eq_nil_of_length_eq_zero h
    have hd : ∀ i, i < dfM a b → dif a b i = false := fun i hi => by rw [← dfL_in ha hb hi, hn]; rfl
    have hl : a.length = b.length := by
      rcases Nat.lt_trichotomy a.length b.length with h1 | h1 | h1
      · have := hd a.length (by unfold dfM; omega)
        unfold dif at this; simp at this
      · exact h1
      · have := hd b.length (by unfold dfM; omega)
        unfold dif at this; simp at this
    refine ext_getD hl fun i hi => ?_
    have := hd i (by unfold dfM; omega)
    unfold dif at this
    simp only [Bool.or_eq_false_iff, decide_eq_false_iff_not, bne_eq_false_iff_eq] at this
    exact this.2.2
  · rintro rfl
    rw [dfL_eq ha hb, rg_none fun i hi => ?_]
    · rfl
    · unfold dfM at hi
      unfold dif
      have : ¬ a.length ≤ i := by omega
      simp [this]

theorem dfL_len (a b : List UInt8) : (dfL a b).length ≤ 48 := by
  unfold dfL
  split
  · rename_i h
    have := rg_len (dif a b) (dfM a b)
    have := dfM_le h.1 h.2
    omega
  · simp
theorem ap_ok {b x : List UInt8} {r : Rng} (hb : tokB b = true) (h : tokB x = true) : tokB (ap b x r) = true := by
  unfold ap
  split
  · exact h
  · rename_i hn
    have hl := rdL_len b r.1.toNat r.2.toNat
    have : (rdL b r.1.toNat r.2.toNat).length ≠ 0 := fun e => hn (List.eq_nil_of_length_eq_zero e)
    have := tokB_len hb
    exact tokB_wrL h (tokB_rdL2 hb) (by omega)

end Go.Proofs.YtaeolgbgcchaeaaDoor
