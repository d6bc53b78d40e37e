/-
  Plain facts: what the laws about tables of holds turn on.
-/
import Derived.Test.YtfifimdaepebeaaLkMath
import Derived.Test.YtfifimdaepebeaaSpecWithout
namespace Go.Proofs.Ytfifimdaepebeaa

theorem eqT_self (T : List HoldT) : eqT T T = true := by unfold eqT; simp

/-- What keeps modes modes. -/
def F3 (f : Int → Int) : Prop := ∀ x, (x = 0 ∨ x = 1 ∨ x = 2) → (f x = 0 ∨ f x = 1 ∨ f x = 2)
theorem F3_give (wr : Bool) : F3 (fun x => mx x (wantOf wr)) := by
  rintro x (rfl | rfl | rfl) <;> cases wr <;> decide
theorem F3_drop : F3 (fun x => mn x 0) := by rintro x (rfl | rfl | rfl) <;> decide
theorem F3_down : F3 (fun x => mn x 1) := by rintro x (rfl | rfl | rfl) <;> decide

theorem mfn_mH {f : Int → Int} (hf : ∀ i, f i = 0 ∨ f i = 1 ∨ f i = 2) {i : Int} (h0 : 0 ≤ i) (h1 : i < 48) : mfn (mH f) i = f i := by
  unfold mfn
  rw [mH_1 f h0 h1, mH_2 f h0 h1]
  rcases hf i with h | h | h <;> rw [h] <;> decide
theorem put_vals {h : HoldT} {lo hi : Int} {f : Int → Int} (hf : F3 f) (i : Int) : putM h lo hi f i = 0 ∨ putM h lo hi f i = 1 ∨ putM h lo hi f i = 2 := by
  unfold putM
  split
  · exact hf _ (mfn_cases h i)
  · exact mfn_cases h i
theorem mfn_put {h : HoldT} {lo hi : Int} {f : Int → Int} (hf : F3 f) {i : Int} (h0 : 0 ≤ i) (h1 : i < 48) : mfn (mH (putM h lo hi f)) i = if lo ≤ i ∧ i < hi then f (mfn h i) else mfn h i :=
  mfn_mH (put_vals hf) h0 h1

theorem chT_true {T X : List HoldT} {who lo hi : Int} {f : Int → Int} (h : chT T who lo hi f = (X, true)) :
    ∃ k : Nat, k < 3 ∧ who = (k : Int) ∧ lockOkB T = true ∧ spanOkB lo hi = true ∧ X = T.set k (mH (putM (T.getD k hd0) lo hi f)) ∧ lockOkB X = true := by
  unfold chT at h
  split at h
  · rename_i hq
    split at h
    · rename_i hc
      split at h
      · rename_i hx
        simp only [Bool.and_eq_true, whoB_iff] at hc
        injection h with h1 h2
        subst h1
        exact ⟨who.toNat, by omega, by omega, hq, hc.2, rfl, hx⟩
      · simp at h
    · simp at h
  · simp at h
theorem chT_no {T : List HoldT} {who lo hi : Int} {f : Int → Int} (h : (chT T who lo hi f).2 = false) : (lockOkB T = true ∧ (chT T who lo hi f).1 = T) ∨ (lockOkB T = false ∧ (chT T who lo hi f).1 = []) := by
  unfold chT at h ⊢
  split
  · rename_i hq
    rw [if_pos hq] at h
    left
    refine ⟨hq, ?_⟩
    split
    · rename_i hc
      rw [if_pos hc] at h
      split
      · rename_i hx
        rw [if_pos hx] at h
        cases h
      · rfl
    · rfl
  · rename_i hq
    right
    exact ⟨by simpa using hq, rfl⟩
theorem chT_of {T : List HoldT} {k : Nat} {lo hi : Int} {f : Int → Int} (hk : k < 3) (hq : lockOkB T = true) (hs : spanOkB lo hi = true) (hx : lockOkB (T.set k (mH (putM (T.getD k hd0) lo hi f))) = true) : chT T (k : Int) lo hi f = (T.set k (mH (putM (T.getD k hd0) lo hi f)), true) := by
  unfold chT
  rw [if_pos hq, if_pos (by rw [hs]; simp [whoB]; omega)]
  simp only [Int.toNat_natCast]
  rw [if_pos hx]

theorem ok_len {T : List HoldT} (h : lockOkB T = true) : T.length = 3 := ((lockOk_iff T).1 h).1
theorem ok_at {T : List HoldT} (h : lockOkB T = true) {k : Nat} (hk : k < 3) : okH (T.getD k hd0) = true := ((lockOk_iff T).1 h).2.1 k hk

theorem set_self3 {T : List HoldT} {k : Nat} (h3 : T.length = 3) (hk : k < 3) : T.set k (T.getD k hd0) = T := by
  refine list_ext3 (n := 3) (by rw [List.length_set]; exact h3) h3 fun i hi => ?_
  by_cases e : i = k
  · subst e; exact set_at (by omega)
  · exact set_off e

theorem ch_mfn {T : List HoldT} {k : Nat} {lo hi : Int} {f : Int → Int} (hf : F3 f) (h3 : T.length = 3) (hk : k < 3) {j : Nat} {i : Int} (h0 : 0 ≤ i) (h1 : i < 48) :
    mfn ((T.set k (mH (putM (T.getD k hd0) lo hi f))).getD j hd0) i = if j = k ∧ lo ≤ i ∧ i < hi then f (mfn (T.getD j hd0) i) else mfn (T.getD j hd0) i := by
  by_cases e : j = k
  · subst e
    rw [set_at (by omega), mfn_put hf h0 h1]
    by_cases c : lo ≤ i ∧ i < hi
    · rw [if_pos c, if_pos ⟨rfl, c⟩]
    · rw [if_neg c, if_neg (fun h => c h.2)]
  · rw [set_off e, if_neg (fun h => e h.1)]

/-- What is done to what was done changes nothing, if it does not to the modes. -/
theorem ch_again {T X : List HoldT} {who lo hi : Int} {f g : Int → Int} (h : chT T who lo hi f = (X, true)) (hf : F3 f) (hg : ∀ x, (x = 0 ∨ x = 1 ∨ x = 2) → g (f x) = f x) : chT X who lo hi g = (X, true) := by
  obtain ⟨k, hk, rfl, hq, hs, rfl, hx⟩ := chT_true h
  have h3 := ok_len hq
  have hb := spanOkB_iff.1 hs
  have he : mH (putM ((T.set k (mH (putM (T.getD k hd0) lo hi f))).getD k hd0) lo hi g) = (T.set k (mH (putM (T.getD k hd0) lo hi f))).getD k hd0 := by
    refine Eq.trans (mH_congr fun i h0 h1 => ?_) (mH_self (ok_at hx hk))
    unfold putM
    by_cases c : lo ≤ i ∧ i < hi
    · rw [if_pos c]
      show g (mfn ((T.set k (mH (putM (T.getD k hd0) lo hi f))).getD k hd0) i) = mfn ((T.set k (mH (putM (T.getD k hd0) lo hi f))).getD k hd0) i
      rw [ch_mfn hf h3 hk h0 h1, if_pos ⟨rfl, c⟩, hg _ (mfn_cases _ _)]
    · rw [if_neg c]
  have hl : (T.set k (mH (putM (T.getD k hd0) lo hi f))).length = 3 := ok_len hx
  have hs3 := set_self3 hl hk
  rw [chT_of hk hx hs (by rw [he, hs3]; exact hx), he, hs3]

theorem give_again (wr wr' : Bool) (h : wr' = wr ∨ wr' = false) : ∀ x, (x = 0 ∨ x = 1 ∨ x = 2) → (fun x => mx x (wantOf wr')) ((fun x => mx x (wantOf wr)) x) = (fun x => mx x (wantOf wr)) x := by
  revert h
  cases wr <;> cases wr' <;> intro h x hx <;> (try (exfalso; revert h; decide)) <;> rcases hx with rfl | rfl | rfl <;> decide
theorem drop_again : ∀ x, (x = 0 ∨ x = 1 ∨ x = 2) → (fun x => mn x 0) ((fun x => mn x 0) x) = (fun x => mn x 0) x := by
  rintro x (rfl | rfl | rfl) <;> decide

/-- One may do at a position what its mode says. -/
theorem may_at {T : List HoldT} {k : Nat} (hk : k < 3) (hq : lockOkB T = true) {i : Int} (h0 : 0 ≤ i) (h1 : i < 48) (wr : Bool) : mayB T (k : Int) wr i (i + 1) = decide (wantOf wr ≤ mfn (T.getD k hd0) i) := by
  rw [Bool.eq_iff_iff, mayB_iff, decide_eq_true_eq]
  simp only [Int.toNat_natCast]
  have hp := may_pos (h := T.getD k hd0) (wr := wr) (i := i)
  constructor
  · rintro ⟨-, -, -, h⟩
    have := hp.1 (h i (Int.le_refl _) (by omega))
    omega
  · intro h
    refine ⟨hq, by rw [whoB_iff]; omega, spanOkB_iff.2 (by omega), fun j a b => ?_⟩
    obtain rfl : j = i := by omega
    exact hp.2 (by omega)
theorem may_all {T : List HoldT} {k : Nat} (hk : k < 3) (hq : lockOkB T = true) {lo hi : Int} (hs : spanOkB lo hi = true) (wr : Bool) (h : ∀ i, lo ≤ i → i < hi → wantOf wr ≤ mfn (T.getD k hd0) i) : mayB T (k : Int) wr lo hi = true := by
  rw [mayB_iff]
  simp only [Int.toNat_natCast]
  exact ⟨hq, by rw [whoB_iff]; omega, hs, fun i a b => may_pos.2 (by have := h i a b; omega)⟩

theorem lockOk_mf {T : List HoldT} : lockOkB T = true ↔ T.length = 3 ∧ (∀ i, i < 3 → okH (T.getD i hd0) = true) ∧ ∀ i, i < 3 → ∀ k, k < 3 → k ≠ i → ∀ p : Int, 0 ≤ p → p < 48 → mfn (T.getD i hd0) p = 2 → mfn (T.getD k hd0) p = 0 := by
  rw [lockOk_iff]
  constructor
  · rintro ⟨h3, ho, hx⟩
    refine ⟨h3, ho, fun i hi k hk hne p _ _ h2 => ?_⟩
    have oi := okH_iff.1 (ho i hi)
    have ok := okH_iff.1 (ho k hk)
    obtain ⟨c1, c2⟩ := hx i hi k hk hne
    have a1 := (clrB_iff (spansOkB_all oi.2.1) (spansOkB_all ok.2.1)).1 c1 p
    have a2 := (clrB_iff (spansOkB_all oi.2.1) (spansOkB_all ok.1)).1 c2 p
    revert a1 a2 h2
    unfold mfn
    cases inB (T.getD i hd0).2 p <;> cases inB (T.getD k hd0).2 p <;> cases inB (T.getD k hd0).1 p <;> cases inB (T.getD i hd0).1 p <;> simp
  · rintro ⟨h3, ho, hx⟩
    refine ⟨h3, ho, fun i hi k hk hne => ?_⟩
    have oi := okH_iff.1 (ho i hi)
    have ok := okH_iff.1 (ho k hk)
    rw [clrB_iff (spansOkB_all oi.2.1) (spansOkB_all ok.2.1), clrB_iff (spansOkB_all oi.2.1) (spansOkB_all ok.1)]
    have key : ∀ p : Int, inB (T.getD i hd0).2 p = true → mfn (T.getD k hd0) p = 0 := fun p h => by
      have hb := inB_bd (spansOkB_all oi.2.1) h
      exact hx i hi k hk hne p hb.1 hb.2 (by unfold mfn; rw [if_pos h])
    constructor
    · rintro p ⟨a, b⟩
      have := key p a
      unfold mfn at this
      rw [if_pos b] at this
      cases this
    · rintro p ⟨a, b⟩
      have := key p a
      unfold mfn at this
      rw [if_pos b] at this
      split at this <;> cases this

/-- Two tables are one if each may do the same everywhere. -/
theorem tab_ext {A B : List HoldT} (ha : lockOkB A = true) (hb : lockOkB B = true) (h : ∀ k, k < 3 → ∀ i : Int, 0 ≤ i → i < 48 → mfn (A.getD k hd0) i = mfn (B.getD k hd0) i) : A = B := by
  refine list_ext3 (ok_len ha) (ok_len hb) fun k hk => ?_
  rw [← mH_self (ok_at ha hk), ← mH_self (ok_at hb hk)]
  exact mH_congr fun i h0 h1 => h k hk i h0 h1

/-- What two are given at places apart: the second one's is valid behind the first one's just if it is without. -/
theorem turn_ok {T : List HoldT} {k j : Nat} {lo hi a b : Int} {f g : Int → Int} (hf : F3 f) (hg : F3 g) (hk : k < 3) (hj : j < 3) (hne : j ≠ k) (hq : lockOkB T = true)
    (hx : lockOkB (T.set k (mH (putM (T.getD k hd0) lo hi f))) = true) (hd : ∀ i, ¬ ((lo ≤ i ∧ i < hi) ∧ (a ≤ i ∧ i < b))) :
    lockOkB ((T.set k (mH (putM (T.getD k hd0) lo hi f))).set j (mH (putM (T.getD j hd0) a b g))) = lockOkB (T.set j (mH (putM (T.getD j hd0) a b g))) := by
  have h3 := ok_len hq
  obtain ⟨-, t2, t3⟩ := lockOk_mf.1 hq
  obtain ⟨-, x2, x3⟩ := lockOk_mf.1 hx
  generalize hX : T.set k (mH (putM (T.getD k hd0) lo hi f)) = X at *
  have hXl : X.length = 3 := by rw [← hX, List.length_set]; exact h3
  have xv : ∀ m (i : Int), 0 ≤ i → i < 48 → mfn (X.getD m hd0) i = if m = k ∧ lo ≤ i ∧ i < hi then f (mfn (T.getD m hd0) i) else mfn (T.getD m hd0) i := fun m i h0 h1 => by rw [← hX]; exact ch_mfn hf h3 hk h0 h1
  have bv : ∀ m (i : Int), 0 ≤ i → i < 48 → mfn ((T.set j (mH (putM (T.getD j hd0) a b g))).getD m hd0) i = if m = j ∧ a ≤ i ∧ i < b then g (mfn (T.getD m hd0) i) else mfn (T.getD m hd0) i := fun m i h0 h1 => ch_mfn hg h3 hj h0 h1
  have av : ∀ m (i : Int), 0 ≤ i → i < 48 → mfn ((X.set j (mH (putM (T.getD j hd0) a b g))).getD m hd0) i = if m = j ∧ a ≤ i ∧ i < b then g (mfn (T.getD m hd0) i) else mfn (X.getD m hd0) i := fun m i h0 h1 => by
    by_cases e : m = j
    · subst e
      rw [set_at (by omega), mfn_put hg h0 h1]
      by_cases c : a ≤ i ∧ i < b
      · rw [if_pos c, if_pos ⟨rfl, c⟩]
      · rw [if_neg c, if_neg (fun h => c h.2), xv m i h0 h1, if_neg (fun h => hne h.1)]
    · rw [set_off e, if_neg (fun h => e h.1)]
  have aok : ∀ m, m < 3 → m ≠ j → (X.set j (mH (putM (T.getD j hd0) a b g))).getD m hd0 = X.getD m hd0 := fun m _ h => set_off h
  have bok : ∀ m, m < 3 → m ≠ j → (T.set j (mH (putM (T.getD j hd0) a b g))).getD m hd0 = T.getD m hd0 := fun m _ h => set_off h
  have ajj : (X.set j (mH (putM (T.getD j hd0) a b g))).getD j hd0 = (T.set j (mH (putM (T.getD j hd0) a b g))).getD j hd0 := by rw [set_at (by omega), set_at (by omega)]
  rw [Bool.eq_iff_iff, lockOk_mf, lockOk_mf]
  constructor
  · rintro ⟨-, a2, a3⟩
    refine ⟨by rw [List.length_set]; exact h3, fun i hi3 => ?_, fun i hi3 m hm hmi p p0 p1 hp => ?_⟩
    · by_cases e : i = j
      · subst e; rw [← ajj]; exact a2 i hi3
      · rw [bok i hi3 e]; exact t2 i hi3
    · have ha3 := a3 i hi3 m hm hmi p p0 p1
      have ht3 := t3 i hi3 m hm hmi p p0 p1
      have hd := hd p
      rw [av i p p0 p1, av m p p0 p1, xv i p p0 p1, xv m p p0 p1] at ha3
      rw [bv i p p0 p1] at hp
      rw [bv m p p0 p1]
      by_cases c1 : lo ≤ p ∧ p < hi
      · have c2 : ¬ (a ≤ p ∧ p < b) := fun h => hd ⟨c1, h⟩
        rw [if_neg (fun h => c2 h.2)] at hp ⊢
        exact ht3 hp
      · simp only [c1, and_false, if_false] at ha3
        exact ha3 hp
  · rintro ⟨-, b2, b3⟩
    refine ⟨by rw [List.length_set]; exact hXl, fun i hi3 => ?_, fun i hi3 m hm hmi p p0 p1 hp => ?_⟩
    · by_cases e : i = j
      · subst e; rw [ajj]; exact b2 i hi3
      · rw [aok i hi3 e]; exact x2 i hi3
    · have hb3 := b3 i hi3 m hm hmi p p0 p1
      have hx3 := x3 i hi3 m hm hmi p p0 p1
      have hd := hd p
      rw [bv i p p0 p1, bv m p p0 p1] at hb3
      rw [xv i p p0 p1, xv m p p0 p1] at hx3
      rw [av i p p0 p1, xv i p p0 p1] at hp
      rw [av m p p0 p1, xv m p p0 p1]
      by_cases c1 : lo ≤ p ∧ p < hi
      · have c2 : ¬ (a ≤ p ∧ p < b) := fun h => hd ⟨c1, h⟩
        rw [if_neg (fun h => c2 h.2)] at hp ⊢
        exact hx3 hp
      · simp only [c1, and_false, if_false] at hp ⊢
        exact hb3 hp

theorem set_turn {T : List HoldT} {k j : Nat} (hne : j ≠ k) (x y : HoldT) : (T.set k x).set j y = (T.set j y).set k x := List.set_comm _ _ (fun h => hne h.symm)

/-- What two are given at places apart, in either order. -/
theorem give_turn {T X : List HoldT} {who other lo hi a b : Int} {f g : Int → Int} (hf : F3 f) (hg : F3 g) (h : chT T who lo hi f = (X, true)) (hne : other ≠ who) (hm : smB lo hi a b = false) :
    (chT X other a b g).2 = (chT T other a b g).2 ∧ ((chT X other a b g).2 = true → chT (chT T other a b g).1 who lo hi f = ((chT X other a b g).1, true)) := by
  obtain ⟨k, hk, rfl, hq, hs, hX, hx⟩ := chT_true h
  by_cases ho : whoB other = true
  · by_cases hab : spanOkB a b = true
    · obtain ⟨j, rfl⟩ : ∃ j : Nat, other = (j : Int) := ⟨other.toNat, by have := whoB_iff.1 ho; omega⟩
      have hj : j < 3 := by have := whoB_iff.1 ho; omega
      have hjk : j ≠ k := fun e => hne (by rw [e])
      have hd : ∀ i, ¬ ((lo ≤ i ∧ i < hi) ∧ (a ≤ i ∧ i < b)) := fun i hi' => by
        unfold smB mtB mx mn at hm
        rw [hs, hab] at hm
        simp only [Bool.true_and, decide_eq_false_iff_not] at hm
        split at hm <;> split at hm <;> omega
      have hT := turn_ok (T := T) hf hg hk hj hjk hq (hX ▸ hx) hd
      have hXj : X.getD j hd0 = T.getD j hd0 := by rw [hX]; exact set_off hjk
      rw [← hX] at hT
      have e1 : chT X (j : Int) a b g = if lockOkB (X.set j (mH (putM (T.getD j hd0) a b g))) = true then (X.set j (mH (putM (T.getD j hd0) a b g)), true) else (X, false) := by
        unfold chT
        rw [if_pos hx, if_pos (by rw [ho, hab]; rfl)]
        simp only [Int.toNat_natCast]
        rw [hXj]
      have e2 : chT T (j : Int) a b g = if lockOkB (T.set j (mH (putM (T.getD j hd0) a b g))) = true then (T.set j (mH (putM (T.getD j hd0) a b g)), true) else (T, false) := by
        unfold chT
        rw [if_pos hq, if_pos (by rw [ho, hab]; rfl)]
        simp only [Int.toNat_natCast]
      by_cases c : lockOkB (T.set j (mH (putM (T.getD j hd0) a b g))) = true
      · rw [e1, e2, if_pos c, if_pos (hT.trans c)]
        refine ⟨rfl, fun _ => ?_⟩
        have hk2 : (T.set j (mH (putM (T.getD j hd0) a b g))).getD k hd0 = T.getD k hd0 := set_off (fun e => hjk e.symm)
        have hfin : (T.set j (mH (putM (T.getD j hd0) a b g))).set k (mH (putM (T.getD k hd0) lo hi f)) = X.set j (mH (putM (T.getD j hd0) a b g)) := by
          rw [hX, set_turn hjk]
        show chT (T.set j (mH (putM (T.getD j hd0) a b g))) (k : Int) lo hi f = _
        rw [chT_of hk c hs (by rw [hk2, hfin]; exact hT.trans c), hk2, hfin]
      · rw [e1, e2, if_neg c, if_neg (by rw [hT]; exact c)]
        exact ⟨rfl, fun h => by cases h⟩
    · have e1 : chT X other a b g = (X, false) := by unfold chT; rw [if_pos hx, if_neg (by simp [hab])]
      have e2 : chT T other a b g = (T, false) := by unfold chT; rw [if_pos hq, if_neg (by simp [hab])]
      rw [e1, e2]
      exact ⟨rfl, fun h => by cases h⟩
  · have e1 : chT X other a b g = (X, false) := by unfold chT; rw [if_pos hx, if_neg (by simp [ho])]
    have e2 : chT T other a b g = (T, false) := by unfold chT; rw [if_pos hq, if_neg (by simp [ho])]
    rw [e1, e2]
    exact ⟨rfl, fun h => by cases h⟩

end Go.Proofs.Ytfifimdaepebeaa
