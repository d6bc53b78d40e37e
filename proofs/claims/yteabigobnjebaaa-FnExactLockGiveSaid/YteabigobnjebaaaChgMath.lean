/-
  Plain facts: a table out of what each may do at each position; a table with one client's modes changed.
-/
import Derived.Test.YteabigobnjebaaaTable
import Derived.Test.YteabigobnjebaaaImplMay
namespace Go.Proofs.Yteabigobnjebaaa

theorem okLow : ∀ (M : List Rng) (e : Int), okFrom e M = true → ∀ i : Int, i ≤ e → inB M i = false
  | [], _, _, _, _ => rfl
  | s :: r, e, hm, i, hi => by
    simp only [okFrom, Bool.and_eq_true, decide_eq_true_eq] at hm
    obtain ⟨h0, h1, h2⟩ := spanOkB_iff.1 hm.1
    have := okLow r s.2 hm.2.2 i (by omega)
    simp only [inB, List.any_cons] at this ⊢
    rw [this]
    simp
    omega

theorem rg_from (f : Nat → Bool) : ∀ (L P : List Rng) (k : Nat) (e : Int), okFrom e L = true → (k : Int) ≤ e + 1 → k ≤ 48 → rg f k = P → (∀ x : Int, e < x → endI P x = false) → (∀ i : Nat, k ≤ i → i < 48 → f i = inB L (i : Int)) → rg f 48 = P ++ L
  | [], P, k, e, _, _, h48, hP, _, hf => by
    have := rg_none f k (48 - k) (fun i h1 h2 => by rw [hf i h1 (by omega)]; rfl)
    rw [show k + (48 - k) = 48 by omega] at this
    rw [this, hP, List.append_nil]
  | s :: r, P, k, e, hm, hk, h48, hP, hE, hf => by
    simp only [okFrom, Bool.and_eq_true, decide_eq_true_eq] at hm
    obtain ⟨h0, h1, h2⟩ := spanOkB_iff.1 hm.1
    obtain ⟨a, b⟩ := s
    dsimp only at h0 h1 h2 hm
    obtain ⟨lo, rfl⟩ : ∃ n : Nat, a = (n : Int) := ⟨a.toNat, by omega⟩
    obtain ⟨hi, rfl⟩ : ∃ n : Nat, b = (n : Int) := ⟨b.toNat, by omega⟩
    have hlow := okLow r (hi : Int) hm.2.2
    have hs : ∀ i : Int, inB (((lo : Int), (hi : Int)) :: r) i = ((decide ((lo : Int) ≤ i) && decide (i < (hi : Int))) || inB r i) := fun _ => rfl
    have n1 := rg_none f k (lo - k) (fun i g1 g2 => by
      rw [hf i g1 (by omega), hs, hlow i (by omega)]
      simp; omega)
    rw [show k + (lo - k) = lo by omega, hP] at n1
    have n2 := rg_fill f 0 lo (hi - lo) (by omega) (fun i g1 g2 => by
      rw [hf i (by omega) (by omega), hs]
      simp; left; omega)
    rw [show lo + (hi - lo) = hi by omega, n1] at n2
    have n3 : rg f hi = P ++ [((lo : Int), (hi : Int))] := by
      rw [n2]; unfold addR; rw [if_pos rfl, if_neg (by rw [hE (lo : Int) (by omega)]; simp)]
    have := rg_from f r (P ++ [((lo : Int), (hi : Int))]) hi hi hm.2.2 (by omega) (by omega) n3 (fun x hx => by
      unfold endI
      rw [List.getD_eq_getElem?_getD]
      simp; omega) (fun i g1 g2 => by
      rw [hf i (by omega) g2, hs]
      have : ¬ ((i : Int) < (hi : Int)) := by omega
      simp [this])
    rw [this, List.append_assoc]; rfl

theorem rg_self {L : List Rng} (h : spansOkB L = true) : rg (fun i => inB L (i : Int)) 48 = L := by
  have hL := h
  simp only [spansOkB, Bool.and_eq_true, decide_eq_true_eq] at hL
  have := rg_from (fun i => inB L (i : Int)) L [] 0 (-1) hL.2 (by omega) (by omega) rfl (fun x _ => rfl) (fun i _ _ => rfl)
  simpa using this

/-- One's hold out of what one may do at each position. -/
def mH (f : Int → Int) : HoldT := (rg (fun i => decide (f (i : Int) = 1)) 48, rg (fun i => decide (f (i : Int) = 2)) 48)
theorem mH_congr {f g : Int → Int} (h : ∀ i : Int, 0 ≤ i → i < 48 → f i = g i) : mH f = mH g := by
  unfold mH
  rw [rg_congr (g := fun i => decide (g (i : Int) = 1)) (fun i hi => by rw [h i (by omega) (by omega)]), rg_congr (f := fun i => decide (f (i : Int) = 2)) (g := fun i => decide (g (i : Int) = 2)) (fun i hi => by rw [h i (by omega) (by omega)])]
theorem rowH_modes {Rs : Nat → List RunT} {k : Nat} {f : Int → Int} (h : Modes (Rs k) f) : rowH Rs k = mH f := by
  unfold rowH mH
  rw [lsR_rg h.1, lsR_rg h.1]
  rw [rg_congr (g := fun i => decide (f (i : Int) = 1)) (fun i hi => by rw [h.2 i (by omega) (by omega)]), rg_congr (f := fun i => decide (vl (Rs k) (i : Int) = 2)) (g := fun i => decide (f (i : Int) = 2)) (fun i hi => by rw [h.2 i (by omega) (by omega)])]

theorem mfn_one {h : HoldT} (hok : okH h = true) (i : Int) : decide (mfn h i = 1) = inB h.1 i := by
  have ho := okH_iff.1 hok
  have hc := (clrB_iff (spansOkB_all ho.1) (spansOkB_all ho.2.1)).1 ho.2.2 i
  unfold mfn
  revert hc
  cases inB h.2 i <;> cases inB h.1 i <;> simp
theorem mfn_two {h : HoldT} (i : Int) : decide (mfn h i = 2) = inB h.2 i := by
  unfold mfn
  cases inB h.2 i <;> cases inB h.1 i <;> simp
theorem mH_self {h : HoldT} (hok : okH h = true) : mH (mfn h) = h := by
  have ho := okH_iff.1 hok
  unfold mH
  rw [rg_congr (g := fun i => inB h.1 (i : Int)) (fun i _ => mfn_one hok (i : Int)), rg_congr (f := fun i => decide (mfn h (i : Int) = 2)) (g := fun i => inB h.2 (i : Int)) (fun i _ => mfn_two (i : Int)), rg_self ho.1, rg_self ho.2.1]

theorem set_at {T : List HoldT} {i : Nat} {x : HoldT} (h : i < T.length) : (T.set i x).getD i hd0 = x := by
  rw [List.getD_eq_getElem?_getD, List.getElem?_set_self h]; rfl
theorem set_off {T : List HoldT} {i k : Nat} {x : HoldT} (h : i ≠ k) : (T.set k x).getD i hd0 = T.getD i hd0 := by
  rw [List.getD_eq_getElem?_getD, List.getD_eq_getElem?_getD, List.getElem?_set_ne (fun c => h c.symm)]

theorem list_ext3 {A B : List HoldT} {n : Nat} (hA : A.length = n) (hB : B.length = n) (h : ∀ i, i < n → A.getD i hd0 = B.getD i hd0) : A = B := by
  apply List.ext_getElem (by omega)
  intro i h1 h2
  have := h i (by omega)
  rw [List.getD_eq_getElem?_getD, List.getElem?_eq_getElem h1, List.getD_eq_getElem?_getD, List.getElem?_eq_getElem h2] at this
  exact this

theorem tab_self {T : List HoldT} {Rs : Nat → List RunT} (h : lockOkB T = true) (hm : ∀ i, i < 3 → Modes (Rs i) (mfn (T.getD i hd0))) : tabT Rs 3 = T := by
  obtain ⟨h3, hok, -⟩ := (lockOk_iff T).1 h
  refine list_ext3 (tabT_len _ _) h3 fun i hi => ?_
  rw [tabT_at _ _ _ hi, rowH_modes (hm i hi), mH_self (hok i hi)]

/-- What one may do where f is put on what one might do in a range. -/
def putM (h : HoldT) (lo hi : Int) (f : Int → Int) (i : Int) : Int := if lo ≤ i ∧ i < hi then f (mfn h i) else mfn h i
theorem tab_next {T : List HoldT} {Rs : Nat → List RunT} (h : lockOkB T = true) (hm : ∀ i, i < 3 → Modes (Rs i) (mfn (T.getD i hd0))) {k : Nat} (hk : k < 3) {lo hi : Int} (hlh : lo < hi) {f : Int → Int} :
    tabT (upd Rs k (chR lo hi f (Rs k))) 3 = T.set k (mH (putM (T.getD k hd0) lo hi f)) := by
  obtain ⟨h3, hok, -⟩ := (lockOk_iff T).1 h
  refine list_ext3 (tabT_len _ _) (by rw [List.length_set]; exact h3) fun i hi' => ?_
  rw [tabT_at _ _ _ hi']
  by_cases e : i = k
  · subst e
    rw [rowH_modes (Rs := upd Rs i (chR lo hi f (Rs i))) (k := i) (f := putM (T.getD i hd0) lo hi f) (by rw [upd_at]; exact (hm i hi').ch hlh)]
    exact (set_at (by omega)).symm
  · rw [rowH_modes (Rs := upd Rs k (chR lo hi f (Rs k))) (k := i) (f := mfn (T.getD i hd0)) (by rw [upd_ne _ _ e]; exact hm i hi'), mH_self (hok i hi')]
    exact (set_off e).symm

/-- What the functions that change a table return. -/
def chT (T : List HoldT) (who lo hi : Int) (f : Int → Int) : List HoldT × Bool :=
  if lockOkB T = true then
    (if (whoB who && spanOkB lo hi) = true then
      (if lockOkB (T.set who.toNat (mH (putM (T.getD who.toNat hd0) lo hi f))) = true then (T.set who.toNat (mH (putM (T.getD who.toNat hd0) lo hi f)), true) else (T, false))
    else (T, false))
  else ([], false)

end Go.Proofs.Yteabigobnjebaaa
