/-
  Plain facts: a table out of what each may do at each position; a table with one client's modes changed.
  Plain facts: who stands in one's way.
  Plain facts: what the model's changes of a table put in, and what the program's do, are one.
-/
import Derived.Test.YtfifimdaepebeaaTable
import Derived.Test.YtfifimdaepebeaaImplMay
import Derived.Test.YtfifimdaepebeaaLockEq
import Derived.Test.YtfifimdaepebeaaAddCut
namespace Go.Proofs.Ytfifimdaepebeaa

theorem okLow : ∀ (M : List Rng) (e : Int), okFrom e M = true → ∀ i : Int, i ≤ e → inB M i = false
  | [], _, _, _, _ => rfl
  | s :: r, e, hm, i, hi => by
    simp only [okFrom, Bool.and_eq_true, decide_eq_true_eq] at hm
    obtain ⟨h0, h1, h2⟩ := spanOkB_iff.1 hm.1
    have := okLow r s.2 hm.2.2 i (by omega)
    simp only [inB, List.any_cons] at this ⊢
    rw [this]
    simp
    omega

theorem rg_from (f : Nat → Bool) : ∀ (L P : List Rng) (k : Nat) (e : Int), okFrom e L = true → (k : Int) ≤ e + 1 → k ≤ 48 → rg f k = P → (∀ x : Int, e < x → endI P x = false) → (∀ i : Nat, k ≤ i → i < 48 → f i = inB L (i : Int)) → rg f 48 = P ++ L
  | [], P, k, e, _, _, h48, hP, _, hf => by
    have := rg_none f k (48 - k) (fun i h1 h2 => by rw [hf i h1 (by omega)]; rfl)
    rw [show k + (48 - k) = 48 by omega] at this
    rw [this, hP, List.append_nil]
  | s :: r, P, k, e, hm, hk, h48, hP, hE, hf => by
    simp only [okFrom, Bool.and_eq_true, decide_eq_true_eq] at hm
    obtain ⟨h0, h1, h2⟩ := spanOkB_iff.1 hm.1
    obtain ⟨a, b⟩ := s
    dsimp only at h0 h1 h2 hm
    obtain ⟨lo, rfl⟩ : ∃ n : Nat, a = (n : Int) := ⟨a.toNat, by omega⟩
    obtain ⟨hi, rfl⟩ : ∃ n : Nat, b = (n : Int) := ⟨b.toNat, by omega⟩
    have hlow := okLow r (hi : Int) hm.2.2
    have hs : ∀ i : Int, inB (((lo : Int), (hi : Int)) :: r) i = ((decide ((lo : Int) ≤ i) && decide (i < (hi : Int))) || inB r i) := fun _ => rfl
    have n1 := rg_none f k (lo - k) (fun i g1 g2 => by
      rw [hf i g1 (by omega), hs, hlow i (by omega)]
      simp; omega)
    rw [show k + (lo - k) = lo by omega, hP] at n1
    have n2 := rg_fill f 0 lo (hi - lo) (by omega) (fun i g1 g2 => by
      rw [hf i (by omega) (by omega), hs]
      simp; left; omega)
    rw [show lo + (hi - lo) = hi by omega, n1] at n2
    have n3 : rg f hi = P ++ [((lo : Int), (hi : Int))] := by
      rw [n2]; unfold addR; rw [if_pos rfl, if_neg (by rw [hE (lo : Int) (by omega)]; simp)]
    have := rg_from f r (P ++ [((lo : Int), (hi : Int))]) hi hi hm.2.2 (by omega) (by omega) n3 (fun x hx => by
      unfold endI
      rw [List.getD_eq_getElem?_getD]
      simp; omega) (fun i g1 g2 => by
      rw [hf i (by omega) g2, hs]
      have : ¬ ((i : Int) < (hi : Int)) := by omega
      simp [this])
    rw [this, List.append_assoc]; rfl

theorem rg_self {L : List Rng} (h : spansOkB L = true) : rg (fun i => inB L (i : Int)) 48 = L := by
  have hL := h
  simp only [spansOkB, Bool.and_eq_true, decide_eq_true_eq] at hL
  have := rg_from (fun i => inB L (i : Int)) L [] 0 (-1) hL.2 (by omega) (by omega) rfl (fun x _ => rfl) (fun i _ _ => rfl)
  simpa using this

/-- One's hold out of what one may do at each position. -/
def mH (f : Int → Int) : HoldT := (rg (fun i => decide (f (i : Int) = 1)) 48, rg (fun i => decide (f (i : Int) = 2)) 48)
theorem mH_congr {f g : Int → Int} (h : ∀ i : Int, 0 ≤ i → i < 48 → f i = g i) : mH f = mH g := by
  unfold mH
  rw [rg_congr (g := fun i => decide (g (i : Int) = 1)) (fun i hi => by rw [h i (by omega) (by omega)]), rg_congr (f := fun i => decide (f (i : Int) = 2)) (g := fun i => decide (g (i : Int) = 2)) (fun i hi => by rw [h i (by omega) (by omega)])]
theorem rowH_modes {Rs : Nat → List RunT} {k : Nat} {f : Int → Int} (h : Modes (Rs k) f) : rowH Rs k = mH f := by
  unfold rowH mH
  rw [lsR_rg h.1, lsR_rg h.1]
  rw [rg_congr (g := fun i => decide (f (i : Int) = 1)) (fun i hi => by rw [h.2 i (by omega) (by omega)]), rg_congr (f := fun i => decide (vl (Rs k) (i : Int) = 2)) (g := fun i => decide (f (i : Int) = 2)) (fun i hi => by rw [h.2 i (by omega) (by omega)])]

theorem mfn_one {h : HoldT} (hok : okH h = true) (i : Int) : decide (mfn h i = 1) = inB h.1 i := by
  have ho := okH_iff.1 hok
  have hc := (clrB_iff (spansOkB_all ho.1) (spansOkB_all ho.2.1)).1 ho.2.2 i
  unfold mfn
  revert hc
  cases inB h.2 i <;> cases inB h.1 i <;> simp
theorem mfn_two {h : HoldT} (i : Int) : decide (mfn h i = 2) = inB h.2 i := by
  unfold mfn
  cases inB h.2 i <;> cases inB h.1 i <;> simp
theorem mH_self {h : HoldT} (hok : okH h = true) : mH (mfn h) = h := by
  have ho := okH_iff.1 hok
  unfold mH
  rw [rg_congr (g := fun i => inB h.1 (i : Int)) (fun i _ => mfn_one hok (i : Int)), rg_congr (f := fun i => decide (mfn h (i : Int) = 2)) (g := fun i => inB h.2 (i : Int)) (fun i _ => mfn_two (i : Int)), rg_self ho.1, rg_self ho.2.1]

theorem set_at {T : List HoldT} {i : Nat} {x : HoldT} (h : i < T.length) : (T.set i x).getD i hd0 = x := by
  rw [List.getD_eq_getElem?_getD, List.getElem?_set_self h]; rfl
theorem set_off {T : List HoldT} {i k : Nat} {x : HoldT} (h : i ≠ k) : (T.set k x).getD i hd0 = T.getD i hd0 := by
  rw [List.getD_eq_getElem?_getD, List.getD_eq_getElem?_getD, List.getElem?_set_ne (fun c => h c.symm)]

theorem list_ext3 {A B : List HoldT} {n : Nat} (hA : A.length = n) (hB : B.length = n) (h : ∀ i, i < n → A.getD i hd0 = B.getD i hd0) : A = B := by
  apply List.ext_getElem (by omega)
  intro i h1 h2
  have := h i (by omega)
  rw [List.getD_eq_getElem?_getD, List.getElem?_eq_getElem h1, List.getD_eq_getElem?_getD, List.getElem?_eq_getElem h2] at this
  exact this

theorem tab_self {T : List HoldT} {Rs : Nat → List RunT} (h : lockOkB T = true) (hm : ∀ i, i < 3 → Modes (Rs i) (mfn (T.getD i hd0))) : tabT Rs 3 = T := by
  obtain ⟨h3, hok, -⟩ := (lockOk_iff T).1 h
  refine list_ext3 (tabT_len _ _) h3 fun i hi => ?_
  rw [tabT_at _ _ _ hi, rowH_modes (hm i hi), mH_self (hok i hi)]

/-- What one may do where f is put on what one might do in a range. -/
def putM (h : HoldT) (lo hi : Int) (f : Int → Int) (i : Int) : Int := if lo ≤ i ∧ i < hi then f (mfn h i) else mfn h i
theorem tab_next {T : List HoldT} {Rs : Nat → List RunT} (h : lockOkB T = true) (hm : ∀ i, i < 3 → Modes (Rs i) (mfn (T.getD i hd0))) {k : Nat} (hk : k < 3) {lo hi : Int} (hlh : lo < hi) {f : Int → Int} :
    tabT (upd Rs k (chR lo hi f (Rs k))) 3 = T.set k (mH (putM (T.getD k hd0) lo hi f)) := by
  obtain ⟨h3, hok, -⟩ := (lockOk_iff T).1 h
  refine list_ext3 (tabT_len _ _) (by rw [List.length_set]; exact h3) fun i hi' => ?_
  rw [tabT_at _ _ _ hi']
  by_cases e : i = k
  · subst e
    rw [rowH_modes (Rs := upd Rs i (chR lo hi f (Rs i))) (k := i) (f := putM (T.getD i hd0) lo hi f) (by rw [upd_at]; exact (hm i hi').ch hlh)]
    exact (set_at (by omega)).symm
  · rw [rowH_modes (Rs := upd Rs k (chR lo hi f (Rs k))) (k := i) (f := mfn (T.getD i hd0)) (by rw [upd_ne _ _ e]; exact hm i hi'), mH_self (hok i hi')]
    exact (set_off e).symm

/-- What the functions that change a table return. -/
def chT (T : List HoldT) (who lo hi : Int) (f : Int → Int) : List HoldT × Bool :=
  if lockOkB T = true then
    (if (whoB who && spanOkB lo hi) = true then
      (if lockOkB (T.set who.toNat (mH (putM (T.getD who.toNat hd0) lo hi f))) = true then (T.set who.toNat (mH (putM (T.getD who.toNat hd0) lo hi f)), true) else (T, false))
    else (T, false))
  else ([], false)

end Go.Proofs.Ytfifimdaepebeaa

namespace Go.Proofs.Ytfifimdaepebeaa

def stB (h : HoldT) (wr : Bool) (lo hi : Int) : Bool := !clrB h.2 [(lo, hi)] || (wr && !clrB h.1 [(lo, hi)])
def barsL (T : List HoldT) (who : Int) (wr : Bool) (lo hi : Int) : List Int := if (lockOkB T && (whoB who && spanOkB lo hi)) = true then brK who (fun i => stB (T.getD i hd0) wr lo hi) 3 else []

theorem brK_congr (who : Int) (b b' : Nat → Bool) : ∀ k, (∀ i, i < k → b i = b' i) → brK who b k = brK who b' k
  | 0, _ => rfl
  | k + 1, h => by
    unfold brK
    rw [brK_congr who b b' k (fun i hi => h i (by omega)), h k (by omega)]

theorem clr_one {A : List Rng} (hA : ∀ s ∈ A, spanOkB s.1 s.2 = true) {lo hi : Int} (hs : spanOkB lo hi = true) : clrB A [(lo, hi)] = false ↔ ∃ p : Int, lo ≤ p ∧ p < hi ∧ inB A p = true := by
  have hB : ∀ s ∈ [((lo, hi) : Rng)], spanOkB s.1 s.2 = true := fun s h => by
    obtain rfl : s = (lo, hi) := by simpa using h
    exact hs
  have hk := clrB_iff hA hB
  have hi1 : ∀ p : Int, inB [((lo, hi) : Rng)] p = true ↔ (lo ≤ p ∧ p < hi) := fun p => by rw [inB_iff]; simp
  constructor
  · intro h
    apply Classical.byContradiction
    intro c
    have : clrB A [(lo, hi)] = true := hk.2 fun i ⟨h1, h2⟩ => c ⟨i, ((hi1 i).1 h2).1, ((hi1 i).1 h2).2, h1⟩
    rw [this] at h; cases h
  · rintro ⟨p, h1, h2, h3⟩
    rw [Bool.eq_false_iff]
    intro c
    exact hk.1 c p ⟨h3, (hi1 p).2 ⟨h1, h2⟩⟩

theorem brs_one {h : HoldT} {p : Int} : brs (mfn h p) 1 = true ↔ inB h.2 p = true := by
  unfold brs mfn
  by_cases h2 : inB h.2 p = true
  · simp [h2]
  · by_cases h1 : inB h.1 p = true
    · simp [h1, h2]
    · simp [h1, h2]

theorem bar_eq {R : List RunT} {h : HoldT} (hm : Modes R (mfn h)) (hok : okH h = true) {wr : Bool} {lo hi : Int} (hs : spanOkB lo hi = true) : anyB (vsR lo hi R) (wantOf wr) = stB h wr lo hi := by
  have ho := okH_iff.1 hok
  have h1 := clr_one (spansOkB_all ho.1) hs
  have h2 := clr_one (spansOkB_all ho.2.1) hs
  have hb := brOf_iff hm (want := wantOf wr) hs
  rw [Bool.eq_iff_iff, hb]
  unfold stB
  cases wr
  · simp only [Bool.false_and, Bool.or_false, Bool.not_eq_true', h2]
    unfold wantOf
    simp only [Bool.false_eq_true, if_false, brs_one]
  · simp only [Bool.true_and, Bool.or_eq_true, Bool.not_eq_true', h1, h2]
    unfold wantOf
    simp only [if_true, brs_two]
    constructor
    · rintro ⟨p, a, b, c | c⟩
      · exact .inl ⟨p, a, b, c⟩
      · exact .inr ⟨p, a, b, c⟩
    · rintro (⟨p, a, b, c⟩ | ⟨p, a, b, c⟩)
      · exact ⟨p, a, b, .inl c⟩
      · exact ⟨p, a, b, .inr c⟩

theorem bars_rows {T : List HoldT} {Rs : Nat → List RunT} (h : lockOkB T = true) (hm : ∀ i, i < 3 → Modes (Rs i) (mfn (T.getD i hd0))) {who : Int} (hw : whoB who = true) {wr : Bool} {lo hi : Int} (hs : spanOkB lo hi = true) :
    barsL T who wr lo hi = brK who (brOf Rs (wantOf wr) lo hi) 3 := by
  unfold barsL
  rw [if_pos (by rw [h, hw, hs]; rfl)]
  exact brK_congr _ _ _ 3 fun i hi' => (bar_eq (hm i hi') (((lockOk_iff T).1 h).2.1 i hi') hs).symm

theorem barsL_len (T : List HoldT) (who : Int) (wr : Bool) (lo hi : Int) : (barsL T who wr lo hi).length ≤ 3 := by
  unfold barsL; split
  · exact brK_len _ _ _
  · simp

abbrev intL (L : List Int) : List Value := L.map (fun x => Value.int .i64 x)

end Go.Proofs.Ytfifimdaepebeaa

namespace Go.Proofs.Ytfifimdaepebeaa

theorem mH_of {f : Int → Int} {p q : Nat → Bool} (h : ∀ i : Nat, i < 48 → decide (f (i : Int) = 1) = p i ∧ decide (f (i : Int) = 2) = q i) : mH f = (rg p 48, rg q 48) := by
  unfold mH
  rw [rg_congr (g := p) (fun i hi => (h i hi).1), rg_congr (f := fun i => decide (f (i : Int) = 2)) (g := q) (fun i hi => (h i hi).2)]

theorem ok_not {h : HoldT} (hok : okH h = true) (i : Int) : ¬ (inB h.1 i = true ∧ inB h.2 i = true) := by
  have ho := okH_iff.1 hok
  exact (clrB_iff (spansOkB_all ho.1) (spansOkB_all ho.2.1)).1 ho.2.2 i

theorem in_dec {lo hi i : Int} : (decide (lo ≤ i) && decide (i < hi)) = decide (lo ≤ i ∧ i < hi) := by simp

theorem drop_pt {h : HoldT} (hok : okH h = true) (lo hi : Int) (i : Nat) :
    decide (putM h lo hi (fun x => mn x 0) (i : Int) = 1) = cutF h.1 lo hi i ∧ decide (putM h lo hi (fun x => mn x 0) (i : Int) = 2) = cutF h.2 lo hi i := by
  have hn := ok_not hok (i : Int)
  unfold putM mfn cutF mn
  rw [in_dec]
  by_cases c : lo ≤ (i : Int) ∧ (i : Int) < hi
  · simp only [c]
    cases h1 : inB h.1 (i : Int) <;> cases h2 : inB h.2 (i : Int) <;> simp
  · simp only [c]
    revert hn
    cases h1 : inB h.1 (i : Int) <;> cases h2 : inB h.2 (i : Int) <;> simp

theorem down_pt {h : HoldT} (hok : okH h = true) (lo hi : Int) (i : Nat) :
    decide (putM h lo hi (fun x => mn x 1) (i : Int) = 1) = (inB h.1 (i : Int) || (decide (lo ≤ (i : Int) ∧ (i : Int) < hi) && inB h.2 (i : Int))) ∧ decide (putM h lo hi (fun x => mn x 1) (i : Int) = 2) = cutF h.2 lo hi i := by
  have hn := ok_not hok (i : Int)
  unfold putM mfn cutF mn
  rw [in_dec]
  by_cases c : lo ≤ (i : Int) ∧ (i : Int) < hi
  · simp only [c]
    revert hn
    cases h1 : inB h.1 (i : Int) <;> cases h2 : inB h.2 (i : Int) <;> simp
  · simp only [c]
    revert hn
    cases h1 : inB h.1 (i : Int) <;> cases h2 : inB h.2 (i : Int) <;> simp

theorem giveW_pt {h : HoldT} (hok : okH h = true) (lo hi : Int) (i : Nat) :
    decide (putM h lo hi (fun x => mx x (wantOf true)) (i : Int) = 1) = cutF h.1 lo hi i ∧ decide (putM h lo hi (fun x => mx x (wantOf true)) (i : Int) = 2) = addF h.2 lo hi i := by
  have hn := ok_not hok (i : Int)
  unfold putM mfn cutF addF mx wantOf
  rw [in_dec]
  by_cases c : lo ≤ (i : Int) ∧ (i : Int) < hi
  · simp only [c]
    revert hn
    cases h1 : inB h.1 (i : Int) <;> cases h2 : inB h.2 (i : Int) <;> simp
  · simp only [c]
    revert hn
    cases h1 : inB h.1 (i : Int) <;> cases h2 : inB h.2 (i : Int) <;> simp

theorem giveR_pt {h : HoldT} (hok : okH h = true) (lo hi : Int) (i : Nat) :
    decide (putM h lo hi (fun x => mx x (wantOf false)) (i : Int) = 1) = (addF h.1 lo hi i && !inB h.2 (i : Int)) ∧ decide (putM h lo hi (fun x => mx x (wantOf false)) (i : Int) = 2) = inB h.2 (i : Int) := by
  have hn := ok_not hok (i : Int)
  unfold putM mfn addF mx wantOf
  rw [in_dec]
  by_cases c : lo ≤ (i : Int) ∧ (i : Int) < hi
  · simp only [c]
    revert hn
    cases h1 : inB h.1 (i : Int) <;> cases h2 : inB h.2 (i : Int) <;> simp
  · simp only [c]
    revert hn
    cases h1 : inB h.1 (i : Int) <;> cases h2 : inB h.2 (i : Int) <;> simp

theorem rg_falseB : rg (fun _ => false) 48 = [] := by decide

theorem off_mH {h : HoldT} (hok : okH h = true) : mH (putM h 0 48 (fun x => mn x 0)) = ([], []) := by
  rw [mH_of (p := fun _ => false) (q := fun _ => false) (fun i hi => ?_), rg_falseB]
  obtain ⟨h1, h2⟩ := drop_pt hok 0 48 i
  rw [h1, h2]
  have e : (0 : Int) ≤ (i : Int) ∧ (i : Int) < 48 := by omega
  exact ⟨cutF_in e, cutF_in e⟩
theorem drop_mH {h : HoldT} (hok : okH h = true) (lo hi : Int) : mH (putM h lo hi (fun x => mn x 0)) = (rg (cutF h.1 lo hi) 48, rg (cutF h.2 lo hi) 48) := mH_of fun i _ => drop_pt hok lo hi i
theorem down_mH {h : HoldT} (hok : okH h = true) (lo hi : Int) : mH (putM h lo hi (fun x => mn x 1)) = (rg (fun i => inB h.1 (i : Int) || (decide (lo ≤ (i : Int) ∧ (i : Int) < hi) && inB h.2 (i : Int))) 48, rg (cutF h.2 lo hi) 48) := mH_of fun i _ => down_pt hok lo hi i
theorem giveW_mH {h : HoldT} (hok : okH h = true) (lo hi : Int) : mH (putM h lo hi (fun x => mx x (wantOf true))) = (rg (cutF h.1 lo hi) 48, rg (addF h.2 lo hi) 48) := mH_of fun i _ => giveW_pt hok lo hi i
theorem giveR_mH {h : HoldT} (hok : okH h = true) (lo hi : Int) : mH (putM h lo hi (fun x => mx x (wantOf false))) = (rg (fun i => addF h.1 lo hi i && !inB h.2 (i : Int)) 48, h.2) := by
  rw [mH_of (fun i _ => giveR_pt hok lo hi i), rg_self (okH_iff.1 hok).2.1]

theorem brK_any {who : Int} {b : Nat → Bool} : ∀ {n : Nat}, brK who b n ≠ [] → ∃ i, i < n ∧ (i : Int) ≠ who ∧ b i = true
  | 0, h => absurd rfl h
  | n + 1, h => by
    unfold brK at h
    by_cases c : (n : Int) ≠ who ∧ b n = true
    · exact ⟨n, by omega, c.1, c.2⟩
    · rw [if_neg c] at h
      obtain ⟨i, hi, h1⟩ := brK_any h
      exact ⟨i, by omega, h1⟩

end Go.Proofs.Ytfifimdaepebeaa
