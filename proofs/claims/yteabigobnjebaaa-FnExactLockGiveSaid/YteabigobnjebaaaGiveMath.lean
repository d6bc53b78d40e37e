/-
  Plain facts: what the model's changes of a table put in, and what the program's do, are one.
-/
import Derived.Test.YteabigobnjebaaaChgMath
import Derived.Test.YteabigobnjebaaaAddCut
import Derived.Test.YteabigobnjebaaaBarMath
namespace Go.Proofs.Yteabigobnjebaaa

theorem mH_of {f : Int → Int} {p q : Nat → Bool} (h : ∀ i : Nat, i < 48 → decide (f (i : Int) = 1) = p i ∧ decide (f (i : Int) = 2) = q i) : mH f = (rg p 48, rg q 48) := by
  unfold mH
  rw [rg_congr (g := p) (fun i hi => (h i hi).1), rg_congr (f := fun i => decide (f (i : Int) = 2)) (g := q) (fun i hi => (h i hi).2)]

theorem ok_not {h : HoldT} (hok : okH h = true) (i : Int) : ¬ (inB h.1 i = true ∧ inB h.2 i = true) := by
  have ho := okH_iff.1 hok
  exact (clrB_iff (spansOkB_all ho.1) (spansOkB_all ho.2.1)).1 ho.2.2 i

theorem in_dec {lo hi i : Int} : (decide (lo ≤ i) && decide (i < hi)) = decide (lo ≤ i ∧ i < hi) := by simp

theorem drop_pt {h : HoldT} (hok : okH h = true) (lo hi : Int) (i : Nat) :
    decide (putM h lo hi (fun x => mn x 0) (i : Int) = 1) = cutF h.1 lo hi i ∧ decide (putM h lo hi (fun x => mn x 0) (i : Int) = 2) = cutF h.2 lo hi i := by
  have hn := ok_not hok (i : Int)
  unfold putM mfn cutF mn
  rw [in_dec]
  by_cases c : lo ≤ (i : Int) ∧ (i : Int) < hi
  · simp only [c]
    cases h1 : inB h.1 (i : Int) <;> cases h2 : inB h.2 (i : Int) <;> simp
  · simp only [c]
    revert hn
    cases h1 : inB h.1 (i : Int) <;> cases h2 : inB h.2 (i : Int) <;> simp

theorem down_pt {h : HoldT} (hok : okH h = true) (lo hi : Int) (i : Nat) :
    decide (putM h lo hi (fun x => mn x 1) (i : Int) = 1) = (inB h.1 (i : Int) || (decide (lo ≤ (i : Int) ∧ (i : Int) < hi) && inB h.2 (i : Int))) ∧ decide (putM h lo hi (fun x => mn x 1) (i : Int) = 2) = cutF h.2 lo hi i := by
  have hn := ok_not hok (i : Int)
  unfold putM mfn cutF mn
  rw [in_dec]
  by_cases c : lo ≤ (i : Int) ∧ (i : Int) < hi
  · simp only [c]
    revert hn
    cases h1 : inB h.1 (i : Int) <;> cases h2 : inB h.2 (i : Int) <;> simp
  · simp only [c]
    revert hn
    cases h1 : inB h.1 (i : Int) <;> cases h2 : inB h.2 (i : Int) <;> simp

theorem giveW_pt {h : HoldT} (hok : okH h = true) (lo hi : Int) (i : Nat) :
    decide (putM h lo hi (fun x => mx x (wantOf true)) (i : Int) = 1) = cutF h.1 lo hi i ∧ decide (putM h lo hi (fun x => mx x (wantOf true)) (i : Int) = 2) = addF h.2 lo hi i := by
  have hn := ok_not hok (i : Int)
  unfold putM mfn cutF addF mx wantOf
  rw [in_dec]
  by_cases c : lo ≤ (i : Int) ∧ (i : Int) < hi
  · simp only [c]
    revert hn
    cases h1 : inB h.1 (i : Int) <;> cases h2 : inB h.2 (i : Int) <;> simp
  · simp only [c]
    revert hn
    cases h1 : inB h.1 (i : Int) <;> cases h2 : inB h.2 (i : Int) <;> simp

theorem giveR_pt {h : HoldT} (hok : okH h = true) (lo hi : Int) (i : Nat) :
    decide (putM h lo hi (fun x => mx x (wantOf false)) (i : Int) = 1) = (addF h.1 lo hi i && !inB h.2 (i : Int)) ∧ decide (putM h lo hi (fun x => mx x (wantOf false)) (i : Int) = 2) = inB h.2 (i : Int) := by
  have hn := ok_not hok (i : Int)
  unfold putM mfn addF mx wantOf
  rw [in_dec]
  by_cases c : lo ≤ (i : Int) ∧ (i : Int) < hi
  · simp only [c]
    revert hn
    cases h1 : inB h.1 (i : Int) <;> cases h2 : inB h.2 (i : Int) <;> simp
  · simp only [c]
    revert hn
    cases h1 : inB h.1 (i : Int) <;> cases h2 : inB h.2 (i : Int) <;> simp

theorem rg_falseB : rg (fun _ => false) 48 = [] := by decide

theorem off_mH {h : HoldT} (hok : okH h = true) : mH (putM h 0 48 (fun x => mn x 0)) = ([], []) := by
  rw [mH_of (p := fun _ => false) (q := fun _ => false) (fun i hi => ?_), rg_falseB]
  obtain ⟨h1, h2⟩ := drop_pt hok 0 48 i
  rw [h1, h2]
  have e : (0 : Int) ≤ (i : Int) ∧ (i : Int) < 48 := by omega
  exact ⟨cutF_in e, cutF_in e⟩
theorem drop_mH {h : HoldT} (hok : okH h = true) (lo hi : Int) : mH (putM h lo hi (fun x => mn x 0)) = (rg (cutF h.1 lo hi) 48, rg (cutF h.2 lo hi) 48) := mH_of fun i _ => drop_pt hok lo hi i
theorem down_mH {h : HoldT} (hok : okH h = true) (lo hi : Int) : mH (putM h lo hi (fun x => mn x 1)) = (rg (fun i => inB h.1 (i : Int) || (decide (lo ≤ (i : Int) ∧ (i : Int) < hi) && inB h.2 (i : Int))) 48, rg (cutF h.2 lo hi) 48) := mH_of fun i _ => down_pt hok lo hi i
theorem giveW_mH {h : HoldT} (hok : okH h = true) (lo hi : Int) : mH (putM h lo hi (fun x => mx x (wantOf true))) = (rg (cutF h.1 lo hi) 48, rg (addF h.2 lo hi) 48) := mH_of fun i _ => giveW_pt hok lo hi i
theorem giveR_mH {h : HoldT} (hok : okH h = true) (lo hi : Int) : mH (putM h lo hi (fun x => mx x (wantOf false))) = (rg (fun i => addF h.1 lo hi i && !inB h.2 (i : Int)) 48, h.2) := by
  rw [mH_of (fun i _ => giveR_pt hok lo hi i), rg_self (okH_iff.1 hok).2.1]

theorem brK_any {who : Int} {b : Nat → Bool} : ∀ {n : Nat}, brK who b n ≠ [] → ∃ i, i < n ∧ (i : Int) ≠ who ∧ b i = true
  | 0, h => absurd rfl h
  | n + 1, h => by
    unfold brK at h
    by_cases c : (n : Int) ≠ who ∧ b n = true
    · exact ⟨n, by omega, c.1, c.2⟩
    · rw [if_neg c] at h
      obtain ⟨i, hi, h1⟩ := brK_any h
      exact ⟨i, by omega, h1⟩

end Go.Proofs.Yteabigobnjebaaa
