/-
  Plain facts: what a set of positions and its ranges have in common.
  spec.l4Without: a list of ranges without all of another one.
-/
import Derived.Test.YtfifimdaepebeaaOkRg
import Derived.Test.YtfifimdaepebeaaGiveMath
import Derived.Test.YtfifimdaepebeaaAddCut
import Derived.Test.YtfifimdaepebeaaTable
namespace Go.Proofs.Ytfifimdaepebeaa

theorem rg_succN (f : Nat → Bool) (k : Nat) : rg f (k + 1) = if f k = true then (if endsAt (rg f k) k = true then (rg f k).set ((rg f k).length - 1) (((rg f k).getD ((rg f k).length - 1) (0, 0)).1, (k : Int) + 1) else rg f k ++ [((k : Int), (k : Int) + 1)]) else rg f k := rfl
theorem inB_appN (a : List Rng) (s : Rng) (i : Int) : inB (a ++ [s]) i = (inB a i || (decide (s.1 ≤ i) && decide (i < s.2))) := by
  unfold inB; rw [List.any_append]; simp


/-- A position is in the ranges of a set if it is in the set. -/
theorem inB_rgN (f : Nat → Bool) : ∀ k : Nat, k ≤ 48 → (∀ i : Nat, i < k → inB (rg f k) (i : Int) = f i) ∧ (∀ i : Int, (k : Int) ≤ i → inB (rg f k) i = false)
  | 0, _ => ⟨fun i h => by omega, fun i _ => rfl⟩
  | k + 1, hk => by
    obtain ⟨h1, h2⟩ := inB_rgN f k (by omega)
    rw [rg_succN]
    by_cases hf : f k = true
    · rw [if_pos hf]
      by_cases he : endsAt (rg f k) k = true
      · rw [if_pos he]
        rcases List.eq_nil_or_concat (rg f k) with e | ⟨a, s, e⟩
        · rw [e] at he; simp [endsAt] at he
        · rw [List.concat_eq_append] at e
          rw [e] at h1 h2 he ⊢
          rw [endsAt_append] at he
          rw [set_append, getD_append]
          simp only [decide_eq_true_eq] at he
          have ho := (okFrom_rg f k (by omega)).1
          rw [e, okFrom_append] at ho
          simp only [Bool.and_eq_true] at ho
          have hs := spanOkB_iff.1 ho.2.1
          constructor
          · intro i hi
            rw [inB_appN]
            by_cases hlt : i < k
            · rw [← h1 i hlt, inB_appN]
              congr 2
              rw [Bool.eq_iff_iff]; simp only [decide_eq_true_eq]; omega
            · obtain rfl : i = k := by omega
              rw [hf]
              simp; right; omega
          · intro i hi
            have := h2 i (by omega)
            rw [inB_appN] at this ⊢
            simp only [Bool.or_eq_false_iff] at this ⊢
            refine ⟨this.1, ?_⟩
            simp; omega
      · rw [if_neg he]
        constructor
        · intro i hi
          rw [inB_appN]
          by_cases hlt : i < k
          · rw [h1 i hlt]; simp; omega
          · obtain rfl : i = k := by omega
            rw [hf]; simp; right; omega
        · intro i hi
          rw [inB_appN, h2 i (by omega)]
          simp; omega
    · rw [if_neg hf]
      constructor
      · intro i hi
        by_cases hlt : i < k
        · exact h1 i hlt
        · obtain rfl : i = k := by omega
          rw [h2 i (by omega)]
          simpa using hf
      · intro i hi
        exact h2 i (by omega)

theorem mH_1 (f : Int → Int) {i : Int} (h0 : 0 ≤ i) (h1 : i < 48) : inB (mH f).1 i = decide (f i = 1) := by
  obtain ⟨n, rfl⟩ : ∃ n : Nat, i = (n : Int) := ⟨i.toNat, by omega⟩
  exact (inB_rgN (fun i => decide (f (i : Int) = 1)) 48 (Nat.le_refl _)).1 n (by omega)
theorem mH_2 (f : Int → Int) {i : Int} (h0 : 0 ≤ i) (h1 : i < 48) : inB (mH f).2 i = decide (f i = 2) := by
  obtain ⟨n, rfl⟩ : ∃ n : Nat, i = (n : Int) := ⟨i.toNat, by omega⟩
  exact (inB_rgN (fun i => decide (f (i : Int) = 2)) 48 (Nat.le_refl _)).1 n (by omega)

/-- Where another one stands in the way, the changed table is not valid. -/
theorem give_conf {T : List HoldT} {k : Nat} {wr : Bool} {lo hi : Int} (hq : lockOkB T = true) (hk : k < 3) (hs : spanOkB lo hi = true) (hb : brK (k : Int) (fun i => stB (T.getD i hd0) wr lo hi) 3 ≠ []) :
    lockOkB (T.set k (mH (putM (T.getD k hd0) lo hi (fun x => mx x (wantOf wr))))) = false := by
  obtain ⟨h3, hok, -⟩ := (lockOk_iff T).1 hq
  obtain ⟨i, hi3, hne, hst⟩ := brK_any hb
  have hik : i ≠ k := fun e => hne (by rw [e])
  rw [Bool.eq_false_iff]
  intro hN
  obtain ⟨-, hokN, hcr⟩ := (lockOk_iff _).1 hN
  have eK := set_at (T := T) (i := k) (x := mH (putM (T.getD k hd0) lo hi (fun x => mx x (wantOf wr)))) (by omega)
  have eI := set_off (T := T) (i := i) (k := k) (x := mH (putM (T.getD k hd0) lo hi (fun x => mx x (wantOf wr)))) hik
  have okK := okH_iff.1 (hokN k hk)
  have okI := okH_iff.1 (hok i hi3)
  have c1 := hcr i hi3 k hk (Ne.symm hik)
  have c2 := hcr k hk i hi3 hik
  rw [eK] at okK c1 c2
  rw [eI] at c1 c2
  have aI1 := spansOkB_all okI.1
  have aI2 := spansOkB_all okI.2.1
  have aK1 := spansOkB_all okK.1
  have aK2 := spansOkB_all okK.2.1
  have d1 := (clrB_iff aI2 aK2).1 c1.1
  have d2 := (clrB_iff aI2 aK1).1 c1.2
  have d3 := (clrB_iff aK2 aI1).1 c2.2
  obtain ⟨s0, s1, s2⟩ := spanOkB_iff.1 hs
  have hp : ∀ p : Int, lo ≤ p → p < hi → putM (T.getD k hd0) lo hi (fun x => mx x (wantOf wr)) p = mx (mfn (T.getD k hd0) p) (wantOf wr) := fun p h1 h2 => by unfold putM; rw [if_pos ⟨h1, h2⟩]
  unfold stB at hst
  rw [Bool.or_eq_true] at hst
  rcases hst with h | h
  · have h' : clrB (T.getD i hd0).2 [(lo, hi)] = false := by simpa using h
    obtain ⟨p, p1, p2, p3⟩ := (clr_one aI2 hs).1 h'
    have e := hp p p1 p2
    rcases mfn_cases (T.getD k hd0) p with m | m | m <;> rw [m] at e
    · cases wr
      · exact d2 p ⟨p3, by rw [mH_1 _ (by omega) (by omega), e]; simp [wantOf, mx]⟩
      · exact d1 p ⟨p3, by rw [mH_2 _ (by omega) (by omega), e]; simp [wantOf, mx]⟩
    · cases wr
      · exact d2 p ⟨p3, by rw [mH_1 _ (by omega) (by omega), e]; simp [wantOf, mx]⟩
      · exact d1 p ⟨p3, by rw [mH_2 _ (by omega) (by omega), e]; simp [wantOf, mx]⟩
    · exact d1 p ⟨p3, by rw [mH_2 _ (by omega) (by omega), e]; cases wr <;> simp [wantOf, mx]⟩
  · rw [Bool.and_eq_true] at h
    obtain ⟨hw, h⟩ := h
    subst hw
    have h' : clrB (T.getD i hd0).1 [(lo, hi)] = false := by simpa using h
    obtain ⟨p, p1, p2, p3⟩ := (clr_one aI1 hs).1 h'
    have e := hp p p1 p2
    refine d3 p ⟨?_, p3⟩
    rw [mH_2 _ (by omega) (by omega), e]
    rcases mfn_cases (T.getD k hd0) p with m | m | m <;> rw [m] <;> simp [wantOf, mx]

theorem chT_conf {T : List HoldT} {k : Nat} {wr : Bool} {lo hi : Int} (hq : lockOkB T = true) (hk : k < 3) (hs : spanOkB lo hi = true) (hb : brK (k : Int) (fun i => stB (T.getD i hd0) wr lo hi) 3 ≠ []) :
    chT T (k : Int) lo hi (fun x => mx x (wantOf wr)) = (T, false) := by
  unfold chT
  rw [if_pos hq, if_pos (by rw [hs, whoB_iff.2 (by omega)]; rfl), Int.toNat_natCast, if_neg (by rw [give_conf hq hk hs hb]; simp)]

/-- The list with one range after another taken out. -/
def wiL (B : List Rng) : Nat → List Rng → List Rng
  | 0, L => L
  | k + 1, L => rg (cutF (wiL B k L) (B.getD k (0, 0)).1 (B.getD k (0, 0)).2) 48
theorem wiL_in (B : List Rng) (f : Nat → Bool) : ∀ (k : Nat), k ≤ B.length → wiL B k (rg f 48) = rg (fun i => f i && !inB (B.take k) (i : Int)) 48
  | 0, _ => rg_congr fun i _ => by simp [inB]
  | k + 1, hk => by
    unfold wiL
    rw [wiL_in B f k (by omega)]
    refine rg_congr fun i hi => ?_
    unfold cutF
    rw [(inB_rgN _ 48 (Nat.le_refl _)).1 i hi, List.take_add_one]
    have : B[k]?.toList = [B.getD k (0, 0)] := by rw [List.getD_eq_getElem?_getD, List.getElem?_eq_getElem (by omega)]; rfl
    rw [this, inB_appN]
    cases f i <;> cases inB (B.take k) (i : Int) <;> simp

end Go.Proofs.Ytfifimdaepebeaa

namespace Go.Proofs.Ytfifimdaepebeaa
open Go.RowKit

/-- A new list of ranges. -/
def SpnC (w : World) (L : List Rng) (e : Ending) (w' : World) : Prop :=
  ∃ a cap, e = .returned (.slice a L.length cap) ∧ Hid (Spn w' (.slice a L.length cap) L) ∧ Below w.heap.size w w'
theorem RgsO.spnC {w w1 w' : World} {L : List Rng} {e : Ending} (h : RgsO w1 L e w') (hb : Below w.heap.size w w1) : SpnC w L e w' := by
  obtain ⟨g, cap, he, hg, ho, hb1⟩ := h
  exact ⟨_, cap, he, Lib.hid (spn_of (mrow_own ho.out).1 (mrow_own ho.out).2), hb.trans (hb1.mono hb.size)⟩

set_option maxRecDepth 100000 in
set_option maxHeartbeats 4000000 in
theorem l4Without_any (va vb : Value) (A B : List Rng) (w : World) (ha : Spn w va A) (hb : Spn w vb B) (hB : ∀ s ∈ B, spanOkB s.1 s.2 = true) :
    Calls Try.prog 52 #[va, vb] w (SpnC w (rg (fun i => inB A (i : Int) && !inB B (i : Int)) 48)) := by
  have K1 := Lib.hid (places_any va A w ha)
  obtain ⟨a, cap, rfl, c1, c2, hc⟩ := id hb
  unfold maxLen at c2
  have HC := Lib.hid hc
  have HB := Lib.hid hb
  have HV : Hid (∀ k, k < B.length → spanOkB (B.getD k (0, 0)).1 (B.getD k (0, 0)).2 = true) := fun k hk => hB _ (by rw [List.getD_eq_getElem?_getD, List.getElem?_eq_getElem hk]; exact List.getElem_mem hk)
  have HL : Hid (wiL B B.length (rg (fun i => inB A (i : Int)) 48) = rg (fun i => inB A (i : Int) && !inB B (i : Int)) 48) := by
    show _ = _
    rw [wiL_in B _ _ (Nat.le_refl _), List.take_length]
  obtain ⟨f, hf⟩ : ∃ f : Nat → Bool, f = fun i : Nat => inB A (i : Int) := ⟨_, rfl⟩
  rw [← hf] at K1 HL
  rw [← HL.out]
  clear ha hb hB hc hf HL
  go_enter Try.func52, Try.ntmps52
  go_wp2_with fail
  refine K1.out.mono ?_; rintro e w1 ⟨nb, cap1, rfl, hnb, hr, hb1⟩
  have K2 := Lib.hid (l1Of_own nb cap1 _ w1 hr)
  clear K1 hr
  go_wp2_with fail
  refine K2.out.mono ?_; rintro e w2 h2
  obtain ⟨a2, cap2, rfl, hs2, hb2⟩ := h2.spnC hb1
  clear K2 h2 hb1
  go_wp2
  go_loopg [5, 6] B.length (fun q s5 s6 wr => ∃ (k : Nat) (a5 : Option Addr) (cap5 : Nat), q = B.length - k ∧ k ≤ B.length ∧ s5 = .slice a5 (wiL B k (rg f 48)).length cap5 ∧ s6 = .int .i64 k ∧ Hid (Spn wr (.slice a5 (wiL B k (rg f 48)).length cap5) (wiL B k (rg f 48))) ∧ Hid (Below w.heap.size w wr))
  case atStart => exact ⟨0, a2, cap2, rfl, Nat.zero_le _, rfl, rfl, hs2, Lib.hid hb2⟩
  case round =>
    obtain ⟨k, a5, cap5, rfl, hk, rfl, rfl, HS, HBW⟩ := hrel
    clear hs2 hb2
    by_cases hlt : k < B.length
    · obtain ⟨b, off, rfl, hcc⟩ := HC.out (fun e => by subst e; simp at hlt)
      have x1 := cell_keep HBW.out (hcc k hlt).1
      have x2 := cell_keep HBW.out (hcc k hlt).2
      have hv := HV.out k hlt
      have HE : Hid (wiL B (k + 1) (rg f 48) = rg (cutF (wiL B k (rg f 48)) (B.getD k (0, 0)).1 (B.getD k (0, 0)).2) 48) := rfl
      clear hcc
      generalize hs : B.getD k (0, 0) = s at *
      obtain ⟨lo, hi⟩ := s
      dsimp only at x1 x2 hv HE
      have K3 := Lib.hid (l1Cut_own _ _ lo hi _ HS.out hv)
      clear hs hv
      rw [← HE.out] at K3
      generalize h2 : wiL B (k + 1) (rg f 48) = L2 at *
      have HE2 := Lib.hid h2
      clear h2 HE
      generalize (wiL B k (rg f 48)) = L1 at *
      go_wp2_with fail
      refine K3.out.mono ?_; rintro e w5 h5
      obtain ⟨a6, cap6, rfl, hs6, hb6⟩ := h5.spnC HBW.out
      have HB6 := Lib.hid hb6
      clear h5 K3 hb6 x1 x2
      go_wp2
      go_roundg (B.length - (k + 1))
      case measure => omega
      case rel => exact ⟨k + 1, a6, cap6, rfl, by omega, by rw [HE2.out], by go_num, by rw [HE2.out]; exact hs6, HB6⟩
    · obtain rfl : k = B.length := by omega
      have HSS := Lib.hid HS.out
      generalize wiL B B.length (rg f 48) = L1 at *
      go_wp2
      go_ret
      exact ⟨a5, cap5, rfl, HSS.out, HBW.out⟩

end Go.Proofs.Ytfifimdaepebeaa
