/-
  laws.FnLockBars returns true at every code: the walk of the law. No condition.
-/
import Derived.Test.YtfifimdaepebeaaDrawLk2
import Derived.Test.YtfifimdaepebeaaImplMay
import Derived.Test.YtfifimdaepebeaaSpecMay
import Derived.Test.YtfifimdaepebeaaLkMath
import Derived.Test.YtfifimdaepebeaaLkLaws
import Derived.Test.YtfifimdaepebeaaImplGive
import Derived.Test.YtfifimdaepebeaaSpecGive
import Derived.Test.YtfifimdaepebeaaLockSame
import Derived.Test.YtfifimdaepebeaaNums
namespace Go.Proofs.Ytfifimdaepebeaa.fnLockBars
open Go.RowKit

/-- Whether one of the first n positions from lo on bars. -/
def bI (h : HoldT) (wt : Bool) (lo : Int) : Nat → Bool
  | 0 => false
  | n + 1 => bI h wt lo n || (decide (2 ≤ mfn h (lo + n)) || (wt && decide (1 ≤ mfn h (lo + n))))
theorem bI_iff (h : HoldT) (wt : Bool) (lo : Int) : ∀ n, bI h wt lo n = true ↔ ∃ p : Int, lo ≤ p ∧ p < lo + n ∧ (2 ≤ mfn h p ∨ (wt = true ∧ 1 ≤ mfn h p))
  | 0 => by
    unfold bI
    constructor
    · intro h; cases h
    · rintro ⟨p, a, b, -⟩; omega
  | n + 1 => by
    unfold bI
    rw [Bool.or_eq_true, bI_iff h wt lo n]
    simp only [Bool.or_eq_true, Bool.and_eq_true, decide_eq_true_eq]
    constructor
    · rintro (⟨p, a, b, c⟩ | c)
      · exact ⟨p, a, by omega, c⟩
      · exact ⟨lo + n, by omega, by omega, c⟩
    · rintro ⟨p, a, b, c⟩
      by_cases e : p = lo + n
      · subst e; exact .inr c
      · exact .inl ⟨p, a, by omega, c⟩
theorem bI_st {h : HoldT} (hok : okH h = true) {wt : Bool} {lo hi : Int} (hs : spanOkB lo hi = true) : bI h wt lo (hi - lo).toNat = stB h wt lo hi := by
  have hb := spanOkB_iff.1 hs
  rw [Bool.eq_iff_iff, bI_iff, stB_iff hok hs]
  rw [show lo + ((hi - lo).toNat : Int) = hi by omega]

/-- The first n of those who stand in the way let go. -/
def offB (who : Int) (b : Nat → Bool) (T : List HoldT) : Nat → List HoldT
  | 0 => T
  | n + 1 => if (n : Int) ≠ who ∧ b n = true then (offB who b T n).set n ([], []) else offB who b T n
theorem offB_ok {who : Int} {b : Nat → Bool} {T : List HoldT} (hq : lockOkB T = true) : ∀ n, n ≤ 3 → lockOkB (offB who b T n) = true
  | 0, _ => hq
  | n + 1, h => by
    unfold offB
    split
    · exact lock_off (offB_ok hq n (by omega)) (by omega)
    · exact offB_ok hq n (by omega)
theorem offB_at {who : Int} {b : Nat → Bool} {T : List HoldT} (h3 : T.length = 3) : ∀ n, n ≤ 3 → (offB who b T n).length = 3 ∧ ∀ j, (offB who b T n).getD j hd0 = if j < n ∧ (j : Int) ≠ who ∧ b j = true then ([], []) else T.getD j hd0
  | 0, _ => ⟨h3, fun j => by rw [if_neg (by omega)]; rfl⟩
  | n + 1, h => by
    obtain ⟨h1, h2⟩ := offB_at (who := who) (b := b) h3 n (by omega)
    unfold offB
    by_cases c : (n : Int) ≠ who ∧ b n = true
    · rw [if_pos c]
      refine ⟨by rw [List.length_set]; exact h1, fun j => ?_⟩
      by_cases e : j = n
      · subst e; rw [set_at (by omega), if_pos ⟨by omega, c⟩]
      · rw [set_off e, h2 j]
        by_cases c2 : j < n ∧ (j : Int) ≠ who ∧ b j = true
        · rw [if_pos c2, if_pos ⟨by omega, c2.2⟩]
        · rw [if_neg c2, if_neg (fun h => c2 ⟨by omega, h.2⟩)]
    · rw [if_neg c]
      refine ⟨h1, fun j => ?_⟩
      rw [h2 j]
      by_cases e : j = n
      · subst e; rw [if_neg (by omega), if_neg (fun h => c h.2)]
      · by_cases c2 : j < n ∧ (j : Int) ≠ who ∧ b j = true
        · rw [if_pos c2, if_pos ⟨by omega, c2.2⟩]
        · rw [if_neg c2, if_neg (fun h => c2 ⟨by omega, h.2⟩)]
theorem off_bars {T : List HoldT} {who : Int} {wt : Bool} {lo hi : Int} (h3 : T.length = 3) : barsL (offB who (fun i => stB (T.getD i hd0) wt lo hi) T 3) who wt lo hi = [] := by
  unfold barsL
  split
  · rw [brK_nil]
    intro i hi3 hne
    rw [(offB_at h3 3 (by omega)).2 i]
    split
    · cases wt <;> rfl
    · rename_i c
      cases h : stB (T.getD i hd0) wt lo hi
      · rfl
      · exact absurd ⟨hi3, hne, h⟩ c
  · rfl
theorem brK_pre {who : Int} {b : Nat → Bool} {n : Nat} : ∀ m, n ≤ m → brK who b n <+: brK who b m
  | 0, h => by obtain rfl : n = 0 := by omega
               exact List.prefix_refl _
  | m + 1, h => by
    by_cases e : n = m + 1
    · subst e; exact List.prefix_refl _
    · refine (brK_pre m (by omega)).trans ?_
      show brK who b m <+: brK who b (m + 1)
      rw [show brK who b (m + 1) = if (m : Int) ≠ who ∧ b m = true then brK who b m ++ [(m : Int)] else brK who b m from rfl]
      split
      · exact List.prefix_append _ _
      · exact List.prefix_refl _
theorem brK_get {who : Int} {b : Nat → Bool} {j m : Nat} (hj : j < m) (hc : (j : Int) ≠ who ∧ b j = true) : (brK who b j).length < (brK who b m).length ∧ (brK who b m).getD (brK who b j).length 0 = (j : Int) := by
  obtain ⟨r, hr⟩ := brK_pre (who := who) (b := b) (n := j + 1) m hj
  rw [show brK who b (j + 1) = brK who b j ++ [(j : Int)] from if_pos hc] at hr
  rw [← hr]
  constructor
  · simp
  · rw [List.getD_eq_getElem?_getD, List.append_assoc, List.getElem?_append_right (Nat.le_refl _)]
    simp

set_option maxRecDepth 100000 in
set_option maxHeartbeats 8000000 in
theorem walk (v0 : Value) (len0 : Nat) (w : World) (h0 : Byt w v0 len0) :
    Calls Try.prog 5 #[v0] w fun e w' => e = .returned (.bool true) ∧ Below w.heap.size w w' := by
  have HB0 := Lib.hid h0
  have hlen0 : len0 ≤ 9223372036854775807 := by obtain ⟨z, a, cap, -, h1, h2, -⟩ := h0; unfold maxLen at h2; omega
  obtain ⟨z0, a0, cap0, rfl, -, -, -⟩ := h0
  by_cases hL : len0 ≤ 1048576
  · go_enter Try.func5, Try.ntmps5
    go_wp2_with fail
    refine (drawLockBars_any _ len0 _ HB0.out).mono ?_; rintro e w1 ⟨v, T, who, wt, lo, hi, rfl, hd, hb⟩
    have ks_0 := new_box w1 lo hi 25
    have hal : Below w1.heap.size w1 (w1.alloc (.cells #[.int .i64 lo, .int .i64 hi] 25)) := (Below.refl _ _).alloc (Nat.le_refl _) _
    have HT_0 := Lib.hid (hd.out _ (Btw.of_below hal))
    have E_0 := Lib.hid (hb.trans (hal.mono hb.size))
    clear hd hb hal HB0
    obtain ⟨p, hp⟩ : ∃ p, lockOkB T = p := ⟨_, rfl⟩
    obtain ⟨ps, hps⟩ : ∃ p, spanOkB lo hi = p := ⟨_, rfl⟩
    have O2 := Lib.hid (fun W h => specLockOk_any v T W h)
    rw [hp] at O2
    have SP := Lib.hid (fun W => specSpanOk_any lo hi W)
    rw [hps] at SP
    have hyl := barsL_len T who wt lo hi
    obtain ⟨Y, hY⟩ : ∃ Y, barsL T who wt lo hi = Y := ⟨_, rfl⟩
    have IB := Lib.hid (fun W h => implLockBars_any v T who wt lo hi W h)
    rw [hY] at IB
    have SB := Lib.hid (fun W h => specLockBars_any v T who wt lo hi W h)
    rw [hY] at SB
    rw [hY] at hyl
    obtain ⟨x1, x2, -, -⟩ := id ks_0
    go_wp2_with fail
    refine (IB.out _ HT_0.out).mono ?_; rintro e w2 ⟨vl, rfl, ho, hb⟩
    have HL := Lib.hid (own_ints ho.out)
    clear ho
    have HT_1 := Lib.hid (HT_0.out.keep hb)
    have ks_1 := ks_0.keep hb
    have E_1 := Lib.hid (E_0.out.trans (hb.mono E_0.out.size))
    clear HT_0 ks_0 E_0 x1 x2 hb
    obtain ⟨x1, x2, -, -⟩ := id ks_1
    go_wp2_with fail
    refine (SB.out _ HT_1.out).mono ?_; rintro e w3 ⟨vm, rfl, ho, hb⟩
    have HM := Lib.hid (own_ints ho.out)
    clear ho
    have HT_2 := Lib.hid (HT_1.out.keep hb)
    have HL_2 := Lib.hid (HL.out.keep hb)
    have ks_2 := ks_1.keep hb
    have E_2 := Lib.hid (E_1.out.trans (hb.mono E_1.out.size))
    clear HT_1 HL ks_1 E_1 x1 x2 hb
    obtain ⟨x1, x2, -, -⟩ := id ks_2
    go_wp2_with fail
    refine (wpNums_same _ _ Y.length (fun i => Y.getD i 0) _ HL_2.out HM.out).mono ?_; rintro e w4 ⟨rfl, hb⟩
    have HT_3 := Lib.hid (HT_2.out.keep hb)
    have HL_3 := Lib.hid (HL_2.out.keep hb)
    have HM_3 := Lib.hid (HM.out.keep hb)
    have ks_3 := ks_2.keep hb
    have E_3 := Lib.hid (E_2.out.trans (hb.mono E_2.out.size))
    clear HT_2 HL_2 HM ks_2 E_2 x1 x2 hb
    clear HM_3
    obtain ⟨x1, x2, -, -⟩ := id ks_3
    go_wp2_with fail
    refine (O2.out _ HT_3.out).mono ?_; rintro e w5 ⟨rfl, hb⟩
    have HT_4 := Lib.hid (HT_3.out.keep hb)
    have HL_4 := Lib.hid (HL_3.out.keep hb)
    have ks_4 := ks_3.keep hb
    have E_4 := Lib.hid (E_3.out.trans (hb.mono E_3.out.size))
    clear HT_3 HL_3 ks_3 E_3 x1 x2 hb
    have HLk := HL_4
    obtain ⟨la, lc, rfl, ll, lm, -⟩ := HL_4.out
    unfold maxLen at lm
    cases p
    · have hY0 : Y = [] := by rw [← hY]; unfold barsL; rw [if_neg (by simp [hp])]
      subst hY0
      obtain ⟨x1, x2, -, -⟩ := id ks_4
      go_wp2
      go_ret
      exact ⟨rfl, E_4.out⟩
    · by_cases w0 : who < 0
      · have hY0 : Y = [] := by rw [← hY]; unfold barsL; rw [if_neg (by simp [whoB, show ¬ 0 ≤ who by omega])]
        subst hY0
        obtain ⟨x1, x2, -, -⟩ := id ks_4
        go_wp2
        go_ret
        exact ⟨rfl, E_4.out⟩
      · by_cases w1 : 3 ≤ who
        · have hY0 : Y = [] := by rw [← hY]; unfold barsL; rw [if_neg (by simp [whoB, show ¬ who < 3 by omega])]
          subst hY0
          obtain ⟨x1, x2, -, -⟩ := id ks_4
          go_wp2
          go_ret
          exact ⟨rfl, E_4.out⟩
        · obtain ⟨x1, x2, -, -⟩ := id ks_4
          go_wp2_with fail
          refine (SP.out _).mono ?_; rintro e w6 ⟨rfl, hb⟩
          have HT_5 := Lib.hid (HT_4.out.keep hb)
          have HL_5 := Lib.hid (HL_4.out.keep hb)
          have ks_5 := ks_4.keep hb
          have E_5 := Lib.hid (E_4.out.trans (hb.mono E_4.out.size))
          clear HT_4 HL_4 ks_4 E_4 x1 x2 hb
          cases ps
          · have hY0 : Y = [] := by rw [← hY]; unfold barsL; rw [if_neg (by simp [hps])]
            subst hY0
            obtain ⟨x1, x2, -, -⟩ := id ks_5
            go_wp2
            go_ret
            exact ⟨rfl, E_5.out⟩
          · obtain ⟨s0, s1, s2⟩ := spanOkB_iff.1 hps
            obtain ⟨n, rfl⟩ : ∃ n : Nat, who = n := ⟨who.toNat, by omega⟩
            obtain ⟨B, hB⟩ : ∃ B : Nat → Bool, (fun i => stB (T.getD i hd0) wt lo hi) = B := ⟨_, rfl⟩
            have hY3 : brK (n : Int) B 3 = Y := by rw [← hY, ← hB]; unfold barsL; rw [if_pos (by simp [hp, hps, whoB]; omega)]
            have HBv : Hid (∀ i, stB (T.getD i hd0) wt lo hi = B i) := fun i => by rw [← hB]
            have HFin : Hid (barsL (offB (n : Int) B T 3) (n : Int) wt lo hi = []) := by show _ = _; rw [← hB]; exact off_bars (ok_len hp)
            have HQ := Lib.hid hp
            have HPS := Lib.hid hps
            have HY3 := Lib.hid hY3
            clear hB hY hY3 hp hps IB SB O2 SP
            obtain ⟨x1, x2, -, -⟩ := id ks_5
            go_wp2_with fail
            go_loopg [8, 9, 10] 3 (fun g s8 s9 s10 wr => ∃ (k : Nat) (vx : Value), g = 3 - k ∧ k ≤ 3 ∧ s10 = .int .i64 k ∧ s8 = .int .i64 ((brK (n : Int) B k).length : Nat) ∧ vx = s9 ∧ Hid (Hds wr vx (offB (n : Int) B T k)) ∧ Below w6.heap.size w6 wr)
            case atStart => exact ⟨0, v, rfl, Nat.zero_le _, rfl, rfl, rfl, Lib.hid HT_5.out, Below.refl _ _⟩
            case round =>
              obtain ⟨k, vx, rfl, hk, rfl, rfl, rfl, HX, hb⟩ := hrel
              clear x1 x2
              have L1_0 := Lib.hid hb
              have HT_6 := Lib.hid (HT_5.out.keep hb)
              have HL_6 := Lib.hid (HL_5.out.keep hb)
              have ks_6 := ks_5.keep hb
              have E_6 := Lib.hid (E_5.out.trans (hb.mono E_5.out.size))
              clear HT_5 HL_5 ks_5 E_5 hb
              have hkl := brK_len (n : Int) B k
              by_cases hlt : k < 3
              · have hk3 : (k : Int) < 3 := by omega
                have HST : Hid (bI (T.getD k hd0) wt lo (hi - lo).toNat = B k) := by show _ = _; rw [← HBv.out k]; exact bI_st (ok_at HQ.out hlt) HPS.out
                obtain ⟨O, hO⟩ : ∃ O, offB (n : Int) B T (k + 1) = O := ⟨_, rfl⟩
                obtain ⟨P, hP⟩ : ∃ P, offB (n : Int) B T k = P := ⟨_, rfl⟩
                have hOP : O = if (k : Int) ≠ (n : Int) ∧ B k = true then P.set k ([], []) else P := by rw [← hO, ← hP]; rfl
                have hPq : lockOkB P = true := by rw [← hP]; exact offB_ok HQ.out k (by omega)
                rw [hP] at HX
                have HBS : Hid (brK (n : Int) B (k + 1) = if (k : Int) ≠ (n : Int) ∧ B k = true then brK (n : Int) B k ++ [(k : Int)] else brK (n : Int) B k) := rfl
                have HGet : Hid ((k : Int) ≠ (n : Int) ∧ B k = true → (brK (n : Int) B k).length < Y.length ∧ Y.getD (brK (n : Int) B k).length 0 = (k : Int)) := fun h => by rw [← HY3.out]; exact brK_get hlt h
                have HO := Lib.hid hO
                have HOP := Lib.hid hOP
                have HPQ := Lib.hid hPq
                clear hO hP hOP hPq
                generalize (brK (n : Int) B k) = R at *
                have hln : ∃ m : Nat, hi - lo = m := ⟨(hi - lo).toNat, by omega⟩
                obtain ⟨ln, hln⟩ := hln
                have hln2 : (hi - lo).toNat = ln := by omega
                rw [hln2] at HST
                generalize hh : T.getD k hd0 = hk0 at *
                by_cases hkn : k = n
                · subst hkn
                  obtain ⟨x1, x2, -, -⟩ := id ks_6
                  go_wp2_with fail
                  go_loopg [11, 12] ln (fun gi s11 s12 wi => ∃ j : Nat, gi = ln - j ∧ j ≤ ln ∧ s11 = .bool false ∧ s12 = .int .i64 (lo + j) ∧ Below wr.heap.size wr wi)
                  case atStart => exact ⟨0, rfl, Nat.zero_le _, rfl, by show Value.int .i64 lo = Value.int .i64 (lo + 0); rw [Int.add_zero], Below.refl _ _⟩
                  case round =>
                    obtain ⟨j, rfl, hj, rfl, rfl, hb⟩ := hrel
                    clear x1 x2
                    have L2_0 := Lib.hid hb
                    have HT_7 := Lib.hid (HT_6.out.keep hb)
                    have HL_7 := Lib.hid (HL_6.out.keep hb)
                    have HX_7 := Lib.hid (HX.out.keep hb)
                    have ks_7 := ks_6.keep hb
                    have L1_7 := Lib.hid (L1_0.out.trans (hb.mono L1_0.out.size))
                    have E_7 := Lib.hid (E_6.out.trans (hb.mono E_6.out.size))
                    clear HT_6 HL_6 HX ks_6 L1_0 E_6 hb
                    by_cases hjl : j < ln
                    · have hlt1 : lo + (j : Int) < hi := by omega
                      obtain ⟨x1, x2, -, -⟩ := id ks_7
                      go_wp2
                      go_roundg (ln - (j + 1))
                      case measure => omega
                      case rel => exact ⟨j + 1, rfl, by omega, rfl, by go_num, L2_0.out⟩
                    · obtain rfl : j = ln := by omega
                      have hge : ¬ lo + (j : Int) < hi := by omega
                      have hOP2 := HOP.out
                      rw [if_neg (fun h => h.1 rfl)] at hOP2
                      have hBS2 := HBS.out
                      rw [if_neg (fun h => h.1 rfl)] at hBS2
                      have HO2 := Lib.hid (HO.out.trans hOP2)
                      have HBS2 := Lib.hid hBS2
                      clear hOP2 hBS2
                      obtain ⟨x1, x2, -, -⟩ := id ks_7
                      go_wp2
                      go_roundg (3 - (k + 1))
                      case measure => omega
                      case rel => exact ⟨k + 1, vx, rfl, by omega, by go_num, by rw [HBS2.out], rfl, by rw [HO2.out]; exact Lib.hid HX_7.out, L1_7.out⟩
                · have hkn2 : ((k : Int) != (n : Int)) = true := by simp; omega
                  have hkn3 : (k : Int) ≠ (n : Int) := by omega
                  obtain ⟨x1, x2, -, -⟩ := id ks_6
                  go_wp2_with fail
                  go_loopg [11, 12] ln (fun gi s11 s12 wi => ∃ j : Nat, gi = ln - j ∧ j ≤ ln ∧ s11 = .bool (bI hk0 wt lo j) ∧ s12 = .int .i64 (lo + j) ∧ Below wr.heap.size wr wi)
                  case atStart => exact ⟨0, rfl, Nat.zero_le _, rfl, by show Value.int .i64 lo = Value.int .i64 (lo + 0); rw [Int.add_zero], Below.refl _ _⟩
                  case round =>
                    obtain ⟨j, rfl, hj, rfl, rfl, hb⟩ := hrel
                    clear x1 x2
                    have L2_0 := Lib.hid hb
                    have HT_7 := Lib.hid (HT_6.out.keep hb)
                    have HL_7 := Lib.hid (HL_6.out.keep hb)
                    have HX_7 := Lib.hid (HX.out.keep hb)
                    have ks_7 := ks_6.keep hb
                    have L1_7 := Lib.hid (L1_0.out.trans (hb.mono L1_0.out.size))
                    have E_7 := Lib.hid (E_6.out.trans (hb.mono E_6.out.size))
                    clear HT_6 HL_6 HX ks_6 L1_0 E_6 hb
                    by_cases hjl : j < ln
                    · have hlt1 : lo + (j : Int) < hi := by omega
                      have HI : Hid (bI hk0 wt lo (j + 1) = (bI hk0 wt lo j || (decide (2 ≤ mfn hk0 (lo + (j : Int))) || (wt && decide (1 ≤ mfn hk0 (lo + (j : Int))))))) := rfl
                      have i0 : 0 ≤ lo + (j : Int) := by omega
                      have i1 : lo + (j : Int) < 48 := by omega
                      have mF := may_at hlt HQ.out i0 i1 false
                      have mT := may_at hlt HQ.out i0 i1 true
                      rw [hh] at mF mT
                      have hmm := mfn_cases hk0 (lo + (j : Int))
                      generalize bI hk0 wt lo j = sm at *
                      generalize mfn hk0 (lo + (j : Int)) = m at *
                      obtain ⟨i, hi0⟩ : ∃ i : Int, lo + (j : Int) = i := ⟨_, rfl⟩
                      have hi1 : lo + ((j + 1 : Nat) : Int) = i + 1 := by omega
                      rw [hi0] at mF mT i0 i1 hlt1 ⊢
                      have HI1 := Lib.hid hi1
                      clear hi1
                      cases sm
                      · rcases hmm with rfl | rfl | rfl
                        · rw [show decide (wantOf false ≤ (0 : Int)) = false from by decide] at mF
                          rw [show decide (wantOf true ≤ (0 : Int)) = false from by decide] at mT
                          have MF := Lib.hid (fun W h => implLockMay_any v T (k : Int) false i (i + 1) W h)
                          rw [mF] at MF
                          have MT := Lib.hid (fun W h => implLockMay_any v T (k : Int) true i (i + 1) W h)
                          rw [mT] at MT
                          clear mF mT
                          obtain ⟨x1, x2, -, -⟩ := id ks_7
                          go_wp2_with fail
                          refine (wpAt_any i i0 (by omega) _).mono ?_; rintro e w7 ⟨rfl, hb⟩
                          have HT_8 := Lib.hid (HT_7.out.keep hb)
                          have HL_8 := Lib.hid (HL_7.out.keep hb)
                          have HX_8 := Lib.hid (HX_7.out.keep hb)
                          have ks_8 := ks_7.keep hb
                          have L1_8 := Lib.hid (L1_7.out.trans (hb.mono L1_7.out.size))
                          have L2_8 := Lib.hid (L2_0.out.trans (hb.mono L2_0.out.size))
                          have E_8 := Lib.hid (E_7.out.trans (hb.mono E_7.out.size))
                          clear HT_7 HL_7 HX_7 ks_7 L1_7 L2_0 E_7 x1 x2 hb
                          obtain ⟨x1, x2, -, -⟩ := id ks_8
                          go_wp2_with fail
                          refine (MT.out _ HT_8.out).mono ?_; rintro e w8 ⟨rfl, hb⟩
                          have HT_9 := Lib.hid (HT_8.out.keep hb)
                          have HL_9 := Lib.hid (HL_8.out.keep hb)
                          have HX_9 := Lib.hid (HX_8.out.keep hb)
                          have ks_9 := ks_8.keep hb
                          have L1_9 := Lib.hid (L1_8.out.trans (hb.mono L1_8.out.size))
                          have L2_9 := Lib.hid (L2_8.out.trans (hb.mono L2_8.out.size))
                          have E_9 := Lib.hid (E_8.out.trans (hb.mono E_8.out.size))
                          clear HT_8 HL_8 HX_8 ks_8 L1_8 L2_8 E_8 x1 x2 hb
                          cases wt
                          · obtain ⟨x1, x2, -, -⟩ := id ks_9
                            go_wp2
                            go_roundg (ln - (j + 1))
                            case measure => omega
                            case rel => exact ⟨j + 1, rfl, by omega, by rw [HI.out]; rfl, by rw [HI1.out], L2_9.out⟩
                          · obtain ⟨x1, x2, -, -⟩ := id ks_9
                            go_wp2_with fail
                            refine (wpAt_any i i0 (by omega) _).mono ?_; rintro e w9 ⟨rfl, hb⟩
                            have HT_10 := Lib.hid (HT_9.out.keep hb)
                            have HL_10 := Lib.hid (HL_9.out.keep hb)
                            have HX_10 := Lib.hid (HX_9.out.keep hb)
                            have ks_10 := ks_9.keep hb
                            have L1_10 := Lib.hid (L1_9.out.trans (hb.mono L1_9.out.size))
                            have L2_10 := Lib.hid (L2_9.out.trans (hb.mono L2_9.out.size))
                            have E_10 := Lib.hid (E_9.out.trans (hb.mono E_9.out.size))
                            clear HT_9 HL_9 HX_9 ks_9 L1_9 L2_9 E_9 x1 x2 hb
                            obtain ⟨x1, x2, -, -⟩ := id ks_10
                            go_wp2_with fail
                            refine (MF.out _ HT_10.out).mono ?_; rintro e w10 ⟨rfl, hb⟩
                            have HT_11 := Lib.hid (HT_10.out.keep hb)
                            have HL_11 := Lib.hid (HL_10.out.keep hb)
                            have HX_11 := Lib.hid (HX_10.out.keep hb)
                            have ks_11 := ks_10.keep hb
                            have L1_11 := Lib.hid (L1_10.out.trans (hb.mono L1_10.out.size))
                            have L2_11 := Lib.hid (L2_10.out.trans (hb.mono L2_10.out.size))
                            have E_11 := Lib.hid (E_10.out.trans (hb.mono E_10.out.size))
                            clear HT_10 HL_10 HX_10 ks_10 L1_10 L2_10 E_10 x1 x2 hb
                            obtain ⟨x1, x2, -, -⟩ := id ks_11
                            go_wp2
                            go_roundg (ln - (j + 1))
                            case measure => omega
                            case rel => exact ⟨j + 1, rfl, by omega, by rw [HI.out]; rfl, by rw [HI1.out], L2_11.out⟩
                        · rw [show decide (wantOf false ≤ (1 : Int)) = true from by decide] at mF
                          rw [show decide (wantOf true ≤ (1 : Int)) = false from by decide] at mT
                          have MF := Lib.hid (fun W h => implLockMay_any v T (k : Int) false i (i + 1) W h)
                          rw [mF] at MF
                          have MT := Lib.hid (fun W h => implLockMay_any v T (k : Int) true i (i + 1) W h)
                          rw [mT] at MT
                          clear mF mT
                          obtain ⟨x1, x2, -, -⟩ := id ks_7
                          go_wp2_with fail
                          refine (wpAt_any i i0 (by omega) _).mono ?_; rintro e w11 ⟨rfl, hb⟩
                          have HT_8 := Lib.hid (HT_7.out.keep hb)
                          have HL_8 := Lib.hid (HL_7.out.keep hb)
                          have HX_8 := Lib.hid (HX_7.out.keep hb)
                          have ks_8 := ks_7.keep hb
                          have L1_8 := Lib.hid (L1_7.out.trans (hb.mono L1_7.out.size))
                          have L2_8 := Lib.hid (L2_0.out.trans (hb.mono L2_0.out.size))
                          have E_8 := Lib.hid (E_7.out.trans (hb.mono E_7.out.size))
                          clear HT_7 HL_7 HX_7 ks_7 L1_7 L2_0 E_7 x1 x2 hb
                          obtain ⟨x1, x2, -, -⟩ := id ks_8
                          go_wp2_with fail
                          refine (MT.out _ HT_8.out).mono ?_; rintro e w12 ⟨rfl, hb⟩
                          have HT_9 := Lib.hid (HT_8.out.keep hb)
                          have HL_9 := Lib.hid (HL_8.out.keep hb)
                          have HX_9 := Lib.hid (HX_8.out.keep hb)
                          have ks_9 := ks_8.keep hb
                          have L1_9 := Lib.hid (L1_8.out.trans (hb.mono L1_8.out.size))
                          have L2_9 := Lib.hid (L2_8.out.trans (hb.mono L2_8.out.size))
                          have E_9 := Lib.hid (E_8.out.trans (hb.mono E_8.out.size))
                          clear HT_8 HL_8 HX_8 ks_8 L1_8 L2_8 E_8 x1 x2 hb
                          cases wt
                          · obtain ⟨x1, x2, -, -⟩ := id ks_9
                            go_wp2
                            go_roundg (ln - (j + 1))
                            case measure => omega
                            case rel => exact ⟨j + 1, rfl, by omega, by rw [HI.out]; rfl, by rw [HI1.out], L2_9.out⟩
                          · obtain ⟨x1, x2, -, -⟩ := id ks_9
                            go_wp2_with fail
                            refine (wpAt_any i i0 (by omega) _).mono ?_; rintro e w13 ⟨rfl, hb⟩
                            have HT_10 := Lib.hid (HT_9.out.keep hb)
                            have HL_10 := Lib.hid (HL_9.out.keep hb)
                            have HX_10 := Lib.hid (HX_9.out.keep hb)
                            have ks_10 := ks_9.keep hb
                            have L1_10 := Lib.hid (L1_9.out.trans (hb.mono L1_9.out.size))
                            have L2_10 := Lib.hid (L2_9.out.trans (hb.mono L2_9.out.size))
                            have E_10 := Lib.hid (E_9.out.trans (hb.mono E_9.out.size))
                            clear HT_9 HL_9 HX_9 ks_9 L1_9 L2_9 E_9 x1 x2 hb
                            obtain ⟨x1, x2, -, -⟩ := id ks_10
                            go_wp2_with fail
                            refine (MF.out _ HT_10.out).mono ?_; rintro e w14 ⟨rfl, hb⟩
                            have HT_11 := Lib.hid (HT_10.out.keep hb)
                            have HL_11 := Lib.hid (HL_10.out.keep hb)
                            have HX_11 := Lib.hid (HX_10.out.keep hb)
                            have ks_11 := ks_10.keep hb
                            have L1_11 := Lib.hid (L1_10.out.trans (hb.mono L1_10.out.size))
                            have L2_11 := Lib.hid (L2_10.out.trans (hb.mono L2_10.out.size))
                            have E_11 := Lib.hid (E_10.out.trans (hb.mono E_10.out.size))
                            clear HT_10 HL_10 HX_10 ks_10 L1_10 L2_10 E_10 x1 x2 hb
                            obtain ⟨x1, x2, -, -⟩ := id ks_11
                            go_wp2
                            go_roundg (ln - (j + 1))
                            case measure => omega
                            case rel => exact ⟨j + 1, rfl, by omega, by rw [HI.out]; rfl, by rw [HI1.out], L2_11.out⟩
                        · rw [show decide (wantOf false ≤ (2 : Int)) = true from by decide] at mF
                          rw [show decide (wantOf true ≤ (2 : Int)) = true from by decide] at mT
                          have MF := Lib.hid (fun W h => implLockMay_any v T (k : Int) false i (i + 1) W h)
                          rw [mF] at MF
                          have MT := Lib.hid (fun W h => implLockMay_any v T (k : Int) true i (i + 1) W h)
                          rw [mT] at MT
                          clear mF mT
                          obtain ⟨x1, x2, -, -⟩ := id ks_7
                          go_wp2_with fail
                          refine (wpAt_any i i0 (by omega) _).mono ?_; rintro e w15 ⟨rfl, hb⟩
                          have HT_8 := Lib.hid (HT_7.out.keep hb)
                          have HL_8 := Lib.hid (HL_7.out.keep hb)
                          have HX_8 := Lib.hid (HX_7.out.keep hb)
                          have ks_8 := ks_7.keep hb
                          have L1_8 := Lib.hid (L1_7.out.trans (hb.mono L1_7.out.size))
                          have L2_8 := Lib.hid (L2_0.out.trans (hb.mono L2_0.out.size))
                          have E_8 := Lib.hid (E_7.out.trans (hb.mono E_7.out.size))
                          clear HT_7 HL_7 HX_7 ks_7 L1_7 L2_0 E_7 x1 x2 hb
                          obtain ⟨x1, x2, -, -⟩ := id ks_8
                          go_wp2_with fail
                          refine (MT.out _ HT_8.out).mono ?_; rintro e w16 ⟨rfl, hb⟩
                          have HT_9 := Lib.hid (HT_8.out.keep hb)
                          have HL_9 := Lib.hid (HL_8.out.keep hb)
                          have HX_9 := Lib.hid (HX_8.out.keep hb)
                          have ks_9 := ks_8.keep hb
                          have L1_9 := Lib.hid (L1_8.out.trans (hb.mono L1_8.out.size))
                          have L2_9 := Lib.hid (L2_8.out.trans (hb.mono L2_8.out.size))
                          have E_9 := Lib.hid (E_8.out.trans (hb.mono E_8.out.size))
                          clear HT_8 HL_8 HX_8 ks_8 L1_8 L2_8 E_8 x1 x2 hb
                          obtain ⟨x1, x2, -, -⟩ := id ks_9
                          go_wp2
                          go_roundg (ln - (j + 1))
                          case measure => omega
                          case rel => exact ⟨j + 1, rfl, by omega, by rw [HI.out]; rfl, by rw [HI1.out], L2_9.out⟩
                      · obtain ⟨x1, x2, -, -⟩ := id ks_7
                        go_wp2
                        go_roundg (ln - (j + 1))
                        case measure => omega
                        case rel => exact ⟨j + 1, rfl, by omega, by rw [HI.out]; rfl, by rw [HI1.out], L2_0.out⟩
                    · obtain rfl : j = ln := by omega
                      have hge : ¬ lo + (j : Int) < hi := by omega
                      rw [HST.out]
                      have hOP2 := HOP.out
                      have hBS2 := HBS.out
                      have hG2 := HGet.out
                      cases hBk : B k
                      · rw [hBk, if_neg (fun h => by cases h.2)] at hOP2 hBS2
                        have HO2 := Lib.hid (HO.out.trans hOP2)
                        have HBS2 := Lib.hid hBS2
                        clear hOP2 hBS2 hG2
                        obtain ⟨x1, x2, -, -⟩ := id ks_7
                        go_wp2
                        go_roundg (3 - (k + 1))
                        case measure => omega
                        case rel => exact ⟨k + 1, vx, rfl, by omega, by go_num, by rw [HBS2.out], rfl, by rw [HO2.out]; exact Lib.hid HX_7.out, L1_7.out⟩
                      · obtain ⟨g1, g2⟩ := hG2 ⟨hkn3, hBk⟩
                        rw [hBk, if_pos ⟨hkn3, rfl⟩] at hOP2 hBS2
                        have HO2 := Lib.hid (HO.out.trans hOP2)
                        have HBS2 : Hid ((brK (n : Int) B (k + 1)).length = R.length + 1) := by show _ = _; rw [hBS2]; simp
                        have hst := off_set HPQ.out hlt
                        rw [← hOP2] at hst
                        obtain ⟨la2, lc2, he2, -, -, ld⟩ := HL_7.out
                        injection he2 with e1 e2 e3
                        subst e1
                        subst e3
                        obtain ⟨lb, loff, rfl, lcc⟩ := ld (by omega)
                        have c1 := lcc R.length g1
                        dsimp only at c1
                        rw [g2] at c1
                        have i0 : (0 : Int) ≤ (R.length : Int) := by omega
                        have i1 : (R.length : Int) < (Y.length : Int) := by omega
                        have HOF := Lib.hid (fun W h => implOff_any vx P (k : Int) W h)
                        rw [hst] at HOF
                        clear hst hOP2 hBS2 g2 lcc ld
                        obtain ⟨x1, x2, -, -⟩ := id ks_7
                        go_wp2_with fail
                        refine (HOF.out _ HX_7.out).mono ?_; rintro e w17 ⟨vz, rfl, hz, hb⟩
                        have HZ := Lib.hid hz.out.hds
                        clear hz
                        have HT_8 := Lib.hid (HT_7.out.keep hb)
                        have HL_8 := Lib.hid (HL_7.out.keep hb)
                        have HX_8 := Lib.hid (HX_7.out.keep hb)
                        have ks_8 := ks_7.keep hb
                        have L1_8 := Lib.hid (L1_7.out.trans (hb.mono L1_7.out.size))
                        have L2_8 := Lib.hid (L2_0.out.trans (hb.mono L2_0.out.size))
                        have E_8 := Lib.hid (E_7.out.trans (hb.mono E_7.out.size))
                        clear HT_7 HL_7 HX_7 ks_7 L1_7 L2_0 E_7 x1 x2 hb
                        obtain ⟨x1, x2, -, -⟩ := id ks_8
                        go_wp2
                        go_roundg (3 - (k + 1))
                        case measure => omega
                        case rel => exact ⟨k + 1, vz, rfl, by omega, by go_num, by rw [HBS2.out]; go_num, rfl, by rw [HO.out]; exact Lib.hid HZ.out, L1_8.out⟩
              · obtain rfl : k = 3 := by omega
                rw [HY3.out]
                have hF := HFin.out
                generalize offB (n : Int) B T 3 = X at *
                have IB2 := Lib.hid (fun W h => implLockBars_any vx X (n : Int) wt lo hi W h)
                rw [hF] at IB2
                clear hF
                obtain ⟨x1, x2, -, -⟩ := id ks_6
                go_wp2_with fail
                refine (IB2.out _ HX.out).mono ?_; rintro e w18 ⟨vb, rfl, ho, hb⟩
                obtain ⟨ba, bc, rfl, -, -, -⟩ := own_ints ho.out
                clear ho
                have HT_7 := Lib.hid (HT_6.out.keep hb)
                have HL_7 := Lib.hid (HL_6.out.keep hb)
                have HX_7 := Lib.hid (HX.out.keep hb)
                have ks_7 := ks_6.keep hb
                have L1_7 := Lib.hid (L1_0.out.trans (hb.mono L1_0.out.size))
                have E_7 := Lib.hid (E_6.out.trans (hb.mono E_6.out.size))
                clear HT_6 HL_6 HX ks_6 L1_0 E_6 x1 x2 hb
                obtain ⟨x1, x2, -, -⟩ := id ks_7
                go_wp2
                go_ret
                exact ⟨rfl, E_7.out⟩
  · go_enter Try.func5, Try.ntmps5
    go_wp2
    go_ret
    exact ⟨rfl, Below.refl _ _⟩

end Go.Proofs.Ytfifimdaepebeaa.fnLockBars
