/-
  laws.FnLockSame returns true at every code: the walk of the law. No condition.
-/
import Derived.Test.YtfifimdaepebeaaDrawLk2
import Derived.Test.YtfifimdaepebeaaImplMay
import Derived.Test.YtfifimdaepebeaaSpecMay
import Derived.Test.YtfifimdaepebeaaLkMath
import Derived.Test.YtfifimdaepebeaaLkLaws
import Derived.Test.YtfifimdaepebeaaImplGive
import Derived.Test.YtfifimdaepebeaaSpecGive
import Derived.Test.YtfifimdaepebeaaLockSame
import Derived.Test.YtfifimdaepebeaaDrawLk3
namespace Go.Proofs.Ytfifimdaepebeaa.fnLockSame
open Go.RowKit

/-- Each may do the same: at a position, the first n; at the first k positions. -/
def smI (A B : List HoldT) (i : Int) : Nat → Bool
  | 0 => true
  | n + 1 => smI A B i n && decide (mfn (A.getD n hd0) i = mfn (B.getD n hd0) i)
def smO (A B : List HoldT) : Nat → Bool
  | 0 => true
  | k + 1 => smO A B k && smI A B (k : Int) 3
theorem smI_iff (A B : List HoldT) (i : Int) : ∀ n, smI A B i n = true ↔ ∀ j, j < n → mfn (A.getD j hd0) i = mfn (B.getD j hd0) i
  | 0 => by simp [smI]
  | n + 1 => by
    unfold smI
    rw [Bool.and_eq_true, smI_iff A B i n, decide_eq_true_eq]
    constructor
    · rintro ⟨h, h'⟩ j hj
      by_cases e : j = n
      · subst e; exact h'
      · exact h j (by omega)
    · exact fun h => ⟨fun j hj => h j (by omega), h n (by omega)⟩
theorem smO_iff (A B : List HoldT) : ∀ k, smO A B k = true ↔ ∀ i : Nat, i < k → ∀ j, j < 3 → mfn (A.getD j hd0) (i : Int) = mfn (B.getD j hd0) (i : Int)
  | 0 => by simp [smO]
  | k + 1 => by
    unfold smO
    rw [Bool.and_eq_true, smO_iff A B k, smI_iff]
    constructor
    · rintro ⟨h, h'⟩ i hi
      by_cases e : i = k
      · subst e; exact h'
      · exact h i (by omega)
    · exact fun h => ⟨fun i hi => h i (by omega), h k (by omega)⟩
theorem same_fact {A B : List HoldT} (ha : lockOkB A = true) (hb : lockOkB B = true) : smO A B 48 = eqT A B := by
  unfold eqT
  rw [Bool.eq_iff_iff, smO_iff, decide_eq_true_eq]
  constructor
  · intro h
    refine tab_ext ha hb fun k hk i h0 h1 => ?_
    have := h i.toNat (by omega) k hk
    rwa [show ((i.toNat : Nat) : Int) = i by omega] at this
  · rintro rfl i hi j hj; rfl
theorem eqT_turn (A B : List HoldT) : eqT B A = eqT A B := by
  unfold eqT
  rw [Bool.eq_iff_iff, decide_eq_true_eq, decide_eq_true_eq]
  exact ⟨fun h => h.symm, fun h => h.symm⟩

set_option maxRecDepth 100000 in
set_option maxHeartbeats 8000000 in
theorem walk (v0 : Value) (len0 : Nat) (w : World) (h0 : Byt w v0 len0) :
    Calls Try.prog 10 #[v0] w fun e w' => e = .returned (.bool true) ∧ Below w.heap.size w w' := by
  have HB0 := Lib.hid h0
  have hlen0 : len0 ≤ 9223372036854775807 := by obtain ⟨z, a, cap, -, h1, h2, -⟩ := h0; unfold maxLen at h2; omega
  obtain ⟨z0, a0, cap0, rfl, -, -, -⟩ := h0
  by_cases hL : len0 ≤ 1048576
  · go_enter Try.func10, Try.ntmps10
    go_wp2_with fail
    refine (drawLockSame_any _ len0 _ HB0.out).mono ?_; rintro e w1 ⟨v, u, A, B, rfl, HT_0, HU_0, hb⟩
    have E_0 := Lib.hid hb
    clear hb HB0
    obtain ⟨q, hq⟩ : ∃ q, eqT A B = q := ⟨_, rfl⟩
    have hq2 : eqT B A = q := (eqT_turn A B).trans hq
    have hqq : (q != q) = false := by cases q <;> rfl
    have hqe : (q == q) = true := by cases q <;> rfl
    have S1 := Lib.hid (fun W h h' => implLockSame_any v u A B W h h')
    rw [hq] at S1
    have S2 := Lib.hid (fun W h h' => specLockSame_any v u A B W h h')
    rw [hq] at S2
    have S3 := Lib.hid (fun W h h' => implLockSame_any u v B A W h h')
    rw [hq2] at S3
    obtain ⟨pa, hpa⟩ : ∃ p, lockOkB A = p := ⟨_, rfl⟩
    obtain ⟨pb, hpb⟩ : ∃ p, lockOkB B = p := ⟨_, rfl⟩
    have OA := Lib.hid (fun W h => specLockOk_any v A W h)
    rw [hpa] at OA
    have OB := Lib.hid (fun W h => specLockOk_any u B W h)
    rw [hpb] at OB
    go_wp2_with fail
    refine (S1.out _ HT_0.out HU_0.out).mono ?_; rintro e w2 ⟨rfl, hb⟩
    have HT_1 := Lib.hid (HT_0.out.keep hb)
    have HU_1 := Lib.hid (HU_0.out.keep hb)
    have E_1 := Lib.hid (E_0.out.trans (hb.mono E_0.out.size))
    clear HT_0 HU_0 E_0 hb
    go_wp2_with fail
    refine (S2.out _ HT_1.out HU_1.out).mono ?_; rintro e w3 ⟨rfl, hb⟩
    have HT_2 := Lib.hid (HT_1.out.keep hb)
    have HU_2 := Lib.hid (HU_1.out.keep hb)
    have E_2 := Lib.hid (E_1.out.trans (hb.mono E_1.out.size))
    clear HT_1 HU_1 E_1 hb
    go_wp2_with fail
    refine (S3.out _ HU_2.out HT_2.out).mono ?_; rintro e w4 ⟨rfl, hb⟩
    have HT_3 := Lib.hid (HT_2.out.keep hb)
    have HU_3 := Lib.hid (HU_2.out.keep hb)
    have E_3 := Lib.hid (E_2.out.trans (hb.mono E_2.out.size))
    clear HT_2 HU_2 E_2 hb
    go_wp2_with fail
    refine (OA.out _ HT_3.out).mono ?_; rintro e w5 ⟨rfl, hb⟩
    have HT_4 := Lib.hid (HT_3.out.keep hb)
    have HU_4 := Lib.hid (HU_3.out.keep hb)
    have E_4 := Lib.hid (E_3.out.trans (hb.mono E_3.out.size))
    clear HT_3 HU_3 E_3 hb
    cases pa
    · go_wp2_with fail
      refine (S2.out _ HT_4.out HU_4.out).mono ?_; rintro e w6 ⟨rfl, hb⟩
      have HT_5 := Lib.hid (HT_4.out.keep hb)
      have HU_5 := Lib.hid (HU_4.out.keep hb)
      have E_5 := Lib.hid (E_4.out.trans (hb.mono E_4.out.size))
      clear HT_4 HU_4 E_4 hb
      go_wp2_with fail
      refine (S3.out _ HU_5.out HT_5.out).mono ?_; rintro e w7 ⟨rfl, hb⟩
      have HT_6 := Lib.hid (HT_5.out.keep hb)
      have HU_6 := Lib.hid (HU_5.out.keep hb)
      have E_6 := Lib.hid (E_5.out.trans (hb.mono E_5.out.size))
      clear HT_5 HU_5 E_5 hb
      go_wp2
      go_ret
      exact ⟨rfl, E_6.out⟩
    · go_wp2_with fail
      refine (OB.out _ HU_4.out).mono ?_; rintro e w8 ⟨rfl, hb⟩
      have HT_5 := Lib.hid (HT_4.out.keep hb)
      have HU_5 := Lib.hid (HU_4.out.keep hb)
      have E_5 := Lib.hid (E_4.out.trans (hb.mono E_4.out.size))
      clear HT_4 HU_4 E_4 hb
      cases pb
      · go_wp2_with fail
        refine (S2.out _ HT_5.out HU_5.out).mono ?_; rintro e w9 ⟨rfl, hb⟩
        have HT_6 := Lib.hid (HT_5.out.keep hb)
        have HU_6 := Lib.hid (HU_5.out.keep hb)
        have E_6 := Lib.hid (E_5.out.trans (hb.mono E_5.out.size))
        clear HT_5 HU_5 E_5 hb
        go_wp2_with fail
        refine (S3.out _ HU_6.out HT_6.out).mono ?_; rintro e w10 ⟨rfl, hb⟩
        have HT_7 := Lib.hid (HT_6.out.keep hb)
        have HU_7 := Lib.hid (HU_6.out.keep hb)
        have E_7 := Lib.hid (E_6.out.trans (hb.mono E_6.out.size))
        clear HT_6 HU_6 E_6 hb
        go_wp2
        go_ret
        exact ⟨rfl, E_7.out⟩
      · have hfin := same_fact hpa hpb
        rw [hq] at hfin
        have HA := Lib.hid hpa
        have HB := Lib.hid hpb
        have HF := Lib.hid hfin
        clear hfin hpa hpb hq hq2 S1 S2 S3 OA OB
        go_wp2_with fail
        go_loopg [6, 7] 48 (fun g s6 s7 wr => ∃ k : Nat, g = 48 - k ∧ k ≤ 48 ∧ s6 = .bool (smO A B k) ∧ s7 = .int .i64 k ∧ Below w8.heap.size w8 wr)
        case atStart => exact ⟨0, rfl, Nat.zero_le _, rfl, rfl, Below.refl _ _⟩
        case round =>
          obtain ⟨k, rfl, hk, rfl, rfl, hb⟩ := hrel
          have L1_0 := Lib.hid hb
          have HT_6 := Lib.hid (HT_5.out.keep hb)
          have HU_6 := Lib.hid (HU_5.out.keep hb)
          have E_6 := Lib.hid (E_5.out.trans (hb.mono E_5.out.size))
          clear HT_5 HU_5 E_5 hb
          by_cases hlt : k < 48
          · have hk0 : (0 : Int) ≤ (k : Int) := by omega
            have hk1 : (k : Int) < 48 := by omega
            have HO : Hid (smO A B (k + 1) = (smO A B k && smI A B (k : Int) 3)) := rfl
            generalize smO A B k = acc at *
            go_wp2_with fail
            go_loopg [6, 8] 3 (fun gi s6 s8 wi => ∃ j : Nat, gi = 3 - j ∧ j ≤ 3 ∧ s6 = .bool (acc && smI A B (k : Int) j) ∧ s8 = .int .i64 j ∧ Below wr.heap.size wr wi)
            case atStart => exact ⟨0, rfl, Nat.zero_le _, by show Value.bool acc = Value.bool (acc && true); rw [Bool.and_true], rfl, Below.refl _ _⟩
            case round =>
              obtain ⟨j, rfl, hj, rfl, rfl, hb⟩ := hrel
              have L2_0 := Lib.hid hb
              have HT_7 := Lib.hid (HT_6.out.keep hb)
              have HU_7 := Lib.hid (HU_6.out.keep hb)
              have L1_7 := Lib.hid (L1_0.out.trans (hb.mono L1_0.out.size))
              have E_7 := Lib.hid (E_6.out.trans (hb.mono E_6.out.size))
              clear HT_6 HU_6 L1_0 E_6 hb
              by_cases hjl : j < 3
              · have HI : Hid (smI A B (k : Int) (j + 1) = (smI A B (k : Int) j && decide (mfn (A.getD j hd0) (k : Int) = mfn (B.getD j hd0) (k : Int)))) := rfl
                have HS : Hid ((acc && smI A B (k : Int) (j + 1)) = ((acc && smI A B (k : Int) j) && decide (mfn (A.getD j hd0) (k : Int) = mfn (B.getD j hd0) (k : Int)))) := by show _ = _; rw [HI.out, Bool.and_assoc]
                clear HI
                generalize (acc && smI A B (k : Int) j) = sm at *
                cases sm
                · go_wp2
                  go_roundg (3 - (j + 1))
                  case measure => omega
                  case rel => exact ⟨j + 1, rfl, by omega, by rw [HS.out]; rfl, by go_num, L2_0.out⟩
                · have aF := may_at hjl HA.out hk0 hk1 false
                  have aT := may_at hjl HA.out hk0 hk1 true
                  have bF := may_at hjl HB.out hk0 hk1 false
                  have bT := may_at hjl HB.out hk0 hk1 true
                  have hma := mfn_cases (A.getD j hd0) (k : Int)
                  have hmb := mfn_cases (B.getD j hd0) (k : Int)
                  generalize mfn (A.getD j hd0) (k : Int) = ma at *
                  generalize mfn (B.getD j hd0) (k : Int) = mb at *
                  rcases hma with rfl | rfl | rfl
                  · rcases hmb with rfl | rfl | rfl
                    · rw [show decide (wantOf false ≤ (0 : Int)) = false from by decide] at aF
                      rw [show decide (wantOf true ≤ (0 : Int)) = false from by decide] at aT
                      rw [show decide (wantOf false ≤ (0 : Int)) = false from by decide] at bF
                      rw [show decide (wantOf true ≤ (0 : Int)) = false from by decide] at bT
                      have AF := Lib.hid (fun W h => implLockMay_any v A (j : Int) false (k : Int) ((k : Int) + 1) W h)
                      rw [aF] at AF
                      have AT := Lib.hid (fun W h => implLockMay_any v A (j : Int) true (k : Int) ((k : Int) + 1) W h)
                      rw [aT] at AT
                      have BF := Lib.hid (fun W h => implLockMay_any u B (j : Int) false (k : Int) ((k : Int) + 1) W h)
                      rw [bF] at BF
                      have BT := Lib.hid (fun W h => implLockMay_any u B (j : Int) true (k : Int) ((k : Int) + 1) W h)
                      rw [bT] at BT
                      clear aF aT bF bT
                      go_wp2_with fail
                      refine (wpAt_any (k : Int) hk0 (by omega) _).mono ?_; rintro e w11 ⟨rfl, hb⟩
                      have HT_8 := Lib.hid (HT_7.out.keep hb)
                      have HU_8 := Lib.hid (HU_7.out.keep hb)
                      have L1_8 := Lib.hid (L1_7.out.trans (hb.mono L1_7.out.size))
                      have L2_8 := Lib.hid (L2_0.out.trans (hb.mono L2_0.out.size))
                      have E_8 := Lib.hid (E_7.out.trans (hb.mono E_7.out.size))
                      clear HT_7 HU_7 L1_7 L2_0 E_7 hb
                      go_wp2_with fail
                      refine (AF.out _ HT_8.out).mono ?_; rintro e w12 ⟨rfl, hb⟩
                      have HT_9 := Lib.hid (HT_8.out.keep hb)
                      have HU_9 := Lib.hid (HU_8.out.keep hb)
                      have L1_9 := Lib.hid (L1_8.out.trans (hb.mono L1_8.out.size))
                      have L2_9 := Lib.hid (L2_8.out.trans (hb.mono L2_8.out.size))
                      have E_9 := Lib.hid (E_8.out.trans (hb.mono E_8.out.size))
                      clear HT_8 HU_8 L1_8 L2_8 E_8 hb
                      go_wp2_with fail
                      refine (wpAt_any (k : Int) hk0 (by omega) _).mono ?_; rintro e w13 ⟨rfl, hb⟩
                      have HT_10 := Lib.hid (HT_9.out.keep hb)
                      have HU_10 := Lib.hid (HU_9.out.keep hb)
                      have L1_10 := Lib.hid (L1_9.out.trans (hb.mono L1_9.out.size))
                      have L2_10 := Lib.hid (L2_9.out.trans (hb.mono L2_9.out.size))
                      have E_10 := Lib.hid (E_9.out.trans (hb.mono E_9.out.size))
                      clear HT_9 HU_9 L1_9 L2_9 E_9 hb
                      go_wp2_with fail
                      refine (BF.out _ HU_10.out).mono ?_; rintro e w14 ⟨rfl, hb⟩
                      have HT_11 := Lib.hid (HT_10.out.keep hb)
                      have HU_11 := Lib.hid (HU_10.out.keep hb)
                      have L1_11 := Lib.hid (L1_10.out.trans (hb.mono L1_10.out.size))
                      have L2_11 := Lib.hid (L2_10.out.trans (hb.mono L2_10.out.size))
                      have E_11 := Lib.hid (E_10.out.trans (hb.mono E_10.out.size))
                      clear HT_10 HU_10 L1_10 L2_10 E_10 hb
                      go_wp2_with fail
                      refine (wpAt_any (k : Int) hk0 (by omega) _).mono ?_; rintro e w15 ⟨rfl, hb⟩
                      have HT_12 := Lib.hid (HT_11.out.keep hb)
                      have HU_12 := Lib.hid (HU_11.out.keep hb)
                      have L1_12 := Lib.hid (L1_11.out.trans (hb.mono L1_11.out.size))
                      have L2_12 := Lib.hid (L2_11.out.trans (hb.mono L2_11.out.size))
                      have E_12 := Lib.hid (E_11.out.trans (hb.mono E_11.out.size))
                      clear HT_11 HU_11 L1_11 L2_11 E_11 hb
                      go_wp2_with fail
                      refine (AT.out _ HT_12.out).mono ?_; rintro e w16 ⟨rfl, hb⟩
                      have HT_13 := Lib.hid (HT_12.out.keep hb)
                      have HU_13 := Lib.hid (HU_12.out.keep hb)
                      have L1_13 := Lib.hid (L1_12.out.trans (hb.mono L1_12.out.size))
                      have L2_13 := Lib.hid (L2_12.out.trans (hb.mono L2_12.out.size))
                      have E_13 := Lib.hid (E_12.out.trans (hb.mono E_12.out.size))
                      clear HT_12 HU_12 L1_12 L2_12 E_12 hb
                      go_wp2_with fail
                      refine (wpAt_any (k : Int) hk0 (by omega) _).mono ?_; rintro e w17 ⟨rfl, hb⟩
                      have HT_14 := Lib.hid (HT_13.out.keep hb)
                      have HU_14 := Lib.hid (HU_13.out.keep hb)
                      have L1_14 := Lib.hid (L1_13.out.trans (hb.mono L1_13.out.size))
                      have L2_14 := Lib.hid (L2_13.out.trans (hb.mono L2_13.out.size))
                      have E_14 := Lib.hid (E_13.out.trans (hb.mono E_13.out.size))
                      clear HT_13 HU_13 L1_13 L2_13 E_13 hb
                      go_wp2_with fail
                      refine (BT.out _ HU_14.out).mono ?_; rintro e w18 ⟨rfl, hb⟩
                      have HT_15 := Lib.hid (HT_14.out.keep hb)
                      have HU_15 := Lib.hid (HU_14.out.keep hb)
                      have L1_15 := Lib.hid (L1_14.out.trans (hb.mono L1_14.out.size))
                      have L2_15 := Lib.hid (L2_14.out.trans (hb.mono L2_14.out.size))
                      have E_15 := Lib.hid (E_14.out.trans (hb.mono E_14.out.size))
                      clear HT_14 HU_14 L1_14 L2_14 E_14 hb
                      go_wp2
                      go_roundg (3 - (j + 1))
                      case measure => omega
                      case rel => exact ⟨j + 1, rfl, by omega, by rw [HS.out]; rfl, by go_num, L2_15.out⟩
                    · rw [show decide (wantOf false ≤ (0 : Int)) = false from by decide] at aF
                      rw [show decide (wantOf true ≤ (0 : Int)) = false from by decide] at aT
                      rw [show decide (wantOf false ≤ (1 : Int)) = true from by decide] at bF
                      rw [show decide (wantOf true ≤ (1 : Int)) = false from by decide] at bT
                      have AF := Lib.hid (fun W h => implLockMay_any v A (j : Int) false (k : Int) ((k : Int) + 1) W h)
                      rw [aF] at AF
                      have AT := Lib.hid (fun W h => implLockMay_any v A (j : Int) true (k : Int) ((k : Int) + 1) W h)
                      rw [aT] at AT
                      have BF := Lib.hid (fun W h => implLockMay_any u B (j : Int) false (k : Int) ((k : Int) + 1) W h)
                      rw [bF] at BF
                      have BT := Lib.hid (fun W h => implLockMay_any u B (j : Int) true (k : Int) ((k : Int) + 1) W h)
                      rw [bT] at BT
                      clear aF aT bF bT
                      go_wp2_with fail
                      refine (wpAt_any (k : Int) hk0 (by omega) _).mono ?_; rintro e w19 ⟨rfl, hb⟩
                      have HT_8 := Lib.hid (HT_7.out.keep hb)
                      have HU_8 := Lib.hid (HU_7.out.keep hb)
                      have L1_8 := Lib.hid (L1_7.out.trans (hb.mono L1_7.out.size))
                      have L2_8 := Lib.hid (L2_0.out.trans (hb.mono L2_0.out.size))
                      have E_8 := Lib.hid (E_7.out.trans (hb.mono E_7.out.size))
                      clear HT_7 HU_7 L1_7 L2_0 E_7 hb
                      go_wp2_with fail
                      refine (AF.out _ HT_8.out).mono ?_; rintro e w20 ⟨rfl, hb⟩
                      have HT_9 := Lib.hid (HT_8.out.keep hb)
                      have HU_9 := Lib.hid (HU_8.out.keep hb)
                      have L1_9 := Lib.hid (L1_8.out.trans (hb.mono L1_8.out.size))
                      have L2_9 := Lib.hid (L2_8.out.trans (hb.mono L2_8.out.size))
                      have E_9 := Lib.hid (E_8.out.trans (hb.mono E_8.out.size))
                      clear HT_8 HU_8 L1_8 L2_8 E_8 hb
                      go_wp2_with fail
                      refine (wpAt_any (k : Int) hk0 (by omega) _).mono ?_; rintro e w21 ⟨rfl, hb⟩
                      have HT_10 := Lib.hid (HT_9.out.keep hb)
                      have HU_10 := Lib.hid (HU_9.out.keep hb)
                      have L1_10 := Lib.hid (L1_9.out.trans (hb.mono L1_9.out.size))
                      have L2_10 := Lib.hid (L2_9.out.trans (hb.mono L2_9.out.size))
                      have E_10 := Lib.hid (E_9.out.trans (hb.mono E_9.out.size))
                      clear HT_9 HU_9 L1_9 L2_9 E_9 hb
                      go_wp2_with fail
                      refine (BF.out _ HU_10.out).mono ?_; rintro e w22 ⟨rfl, hb⟩
                      have HT_11 := Lib.hid (HT_10.out.keep hb)
                      have HU_11 := Lib.hid (HU_10.out.keep hb)
                      have L1_11 := Lib.hid (L1_10.out.trans (hb.mono L1_10.out.size))
                      have L2_11 := Lib.hid (L2_10.out.trans (hb.mono L2_10.out.size))
                      have E_11 := Lib.hid (E_10.out.trans (hb.mono E_10.out.size))
                      clear HT_10 HU_10 L1_10 L2_10 E_10 hb
                      go_wp2
                      go_roundg (3 - (j + 1))
                      case measure => omega
                      case rel => exact ⟨j + 1, rfl, by omega, by rw [HS.out]; rfl, by go_num, L2_11.out⟩
                    · rw [show decide (wantOf false ≤ (0 : Int)) = false from by decide] at aF
                      rw [show decide (wantOf true ≤ (0 : Int)) = false from by decide] at aT
                      rw [show decide (wantOf false ≤ (2 : Int)) = true from by decide] at bF
                      rw [show decide (wantOf true ≤ (2 : Int)) = true from by decide] at bT
                      have AF := Lib.hid (fun W h => implLockMay_any v A (j : Int) false (k : Int) ((k : Int) + 1) W h)
                      rw [aF] at AF
                      have AT := Lib.hid (fun W h => implLockMay_any v A (j : Int) true (k : Int) ((k : Int) + 1) W h)
                      rw [aT] at AT
                      have BF := Lib.hid (fun W h => implLockMay_any u B (j : Int) false (k : Int) ((k : Int) + 1) W h)
                      rw [bF] at BF
                      have BT := Lib.hid (fun W h => implLockMay_any u B (j : Int) true (k : Int) ((k : Int) + 1) W h)
                      rw [bT] at BT
                      clear aF aT bF bT
                      go_wp2_with fail
                      refine (wpAt_any (k : Int) hk0 (by omega) _).mono ?_; rintro e w23 ⟨rfl, hb⟩
                      have HT_8 := Lib.hid (HT_7.out.keep hb)
                      have HU_8 := Lib.hid (HU_7.out.keep hb)
                      have L1_8 := Lib.hid (L1_7.out.trans (hb.mono L1_7.out.size))
                      have L2_8 := Lib.hid (L2_0.out.trans (hb.mono L2_0.out.size))
                      have E_8 := Lib.hid (E_7.out.trans (hb.mono E_7.out.size))
                      clear HT_7 HU_7 L1_7 L2_0 E_7 hb
                      go_wp2_with fail
                      refine (AF.out _ HT_8.out).mono ?_; rintro e w24 ⟨rfl, hb⟩
                      have HT_9 := Lib.hid (HT_8.out.keep hb)
                      have HU_9 := Lib.hid (HU_8.out.keep hb)
                      have L1_9 := Lib.hid (L1_8.out.trans (hb.mono L1_8.out.size))
                      have L2_9 := Lib.hid (L2_8.out.trans (hb.mono L2_8.out.size))
                      have E_9 := Lib.hid (E_8.out.trans (hb.mono E_8.out.size))
                      clear HT_8 HU_8 L1_8 L2_8 E_8 hb
                      go_wp2_with fail
                      refine (wpAt_any (k : Int) hk0 (by omega) _).mono ?_; rintro e w25 ⟨rfl, hb⟩
                      have HT_10 := Lib.hid (HT_9.out.keep hb)
                      have HU_10 := Lib.hid (HU_9.out.keep hb)
                      have L1_10 := Lib.hid (L1_9.out.trans (hb.mono L1_9.out.size))
                      have L2_10 := Lib.hid (L2_9.out.trans (hb.mono L2_9.out.size))
                      have E_10 := Lib.hid (E_9.out.trans (hb.mono E_9.out.size))
                      clear HT_9 HU_9 L1_9 L2_9 E_9 hb
                      go_wp2_with fail
                      refine (BF.out _ HU_10.out).mono ?_; rintro e w26 ⟨rfl, hb⟩
                      have HT_11 := Lib.hid (HT_10.out.keep hb)
                      have HU_11 := Lib.hid (HU_10.out.keep hb)
                      have L1_11 := Lib.hid (L1_10.out.trans (hb.mono L1_10.out.size))
                      have L2_11 := Lib.hid (L2_10.out.trans (hb.mono L2_10.out.size))
                      have E_11 := Lib.hid (E_10.out.trans (hb.mono E_10.out.size))
                      clear HT_10 HU_10 L1_10 L2_10 E_10 hb
                      go_wp2
                      go_roundg (3 - (j + 1))
                      case measure => omega
                      case rel => exact ⟨j + 1, rfl, by omega, by rw [HS.out]; rfl, by go_num, L2_11.out⟩
                  · rcases hmb with rfl | rfl | rfl
                    · rw [show decide (wantOf false ≤ (1 : Int)) = true from by decide] at aF
                      rw [show decide (wantOf true ≤ (1 : Int)) = false from by decide] at aT
                      rw [show decide (wantOf false ≤ (0 : Int)) = false from by decide] at bF
                      rw [show decide (wantOf true ≤ (0 : Int)) = false from by decide] at bT
                      have AF := Lib.hid (fun W h => implLockMay_any v A (j : Int) false (k : Int) ((k : Int) + 1) W h)
                      rw [aF] at AF
                      have AT := Lib.hid (fun W h => implLockMay_any v A (j : Int) true (k : Int) ((k : Int) + 1) W h)
                      rw [aT] at AT
                      have BF := Lib.hid (fun W h => implLockMay_any u B (j : Int) false (k : Int) ((k : Int) + 1) W h)
                      rw [bF] at BF
                      have BT := Lib.hid (fun W h => implLockMay_any u B (j : Int) true (k : Int) ((k : Int) + 1) W h)
                      rw [bT] at BT
                      clear aF aT bF bT
                      go_wp2_with fail
                      refine (wpAt_any (k : Int) hk0 (by omega) _).mono ?_; rintro e w27 ⟨rfl, hb⟩
                      have HT_8 := Lib.hid (HT_7.out.keep hb)
                      have HU_8 := Lib.hid (HU_7.out.keep hb)
                      have L1_8 := Lib.hid (L1_7.out.trans (hb.mono L1_7.out.size))
                      have L2_8 := Lib.hid (L2_0.out.trans (hb.mono L2_0.out.size))
                      have E_8 := Lib.hid (E_7.out.trans (hb.mono E_7.out.size))
                      clear HT_7 HU_7 L1_7 L2_0 E_7 hb
                      go_wp2_with fail
                      refine (AF.out _ HT_8.out).mono ?_; rintro e w28 ⟨rfl, hb⟩
                      have HT_9 := Lib.hid (HT_8.out.keep hb)
                      have HU_9 := Lib.hid (HU_8.out.keep hb)
                      have L1_9 := Lib.hid (L1_8.out.trans (hb.mono L1_8.out.size))
                      have L2_9 := Lib.hid (L2_8.out.trans (hb.mono L2_8.out.size))
                      have E_9 := Lib.hid (E_8.out.trans (hb.mono E_8.out.size))
                      clear HT_8 HU_8 L1_8 L2_8 E_8 hb
                      go_wp2_with fail
                      refine (wpAt_any (k : Int) hk0 (by omega) _).mono ?_; rintro e w29 ⟨rfl, hb⟩
                      have HT_10 := Lib.hid (HT_9.out.keep hb)
                      have HU_10 := Lib.hid (HU_9.out.keep hb)
                      have L1_10 := Lib.hid (L1_9.out.trans (hb.mono L1_9.out.size))
                      have L2_10 := Lib.hid (L2_9.out.trans (hb.mono L2_9.out.size))
                      have E_10 := Lib.hid (E_9.out.trans (hb.mono E_9.out.size))
                      clear HT_9 HU_9 L1_9 L2_9 E_9 hb
                      go_wp2_with fail
                      refine (BF.out _ HU_10.out).mono ?_; rintro e w30 ⟨rfl, hb⟩
                      have HT_11 := Lib.hid (HT_10.out.keep hb)
                      have HU_11 := Lib.hid (HU_10.out.keep hb)
                      have L1_11 := Lib.hid (L1_10.out.trans (hb.mono L1_10.out.size))
                      have L2_11 := Lib.hid (L2_10.out.trans (hb.mono L2_10.out.size))
                      have E_11 := Lib.hid (E_10.out.trans (hb.mono E_10.out.size))
                      clear HT_10 HU_10 L1_10 L2_10 E_10 hb
                      go_wp2
                      go_roundg (3 - (j + 1))
                      case measure => omega
                      case rel => exact ⟨j + 1, rfl, by omega, by rw [HS.out]; rfl, by go_num, L2_11.out⟩
                    · rw [show decide (wantOf false ≤ (1 : Int)) = true from by decide] at aF
                      rw [show decide (wantOf true ≤ (1 : Int)) = false from by decide] at aT
                      rw [show decide (wantOf false ≤ (1 : Int)) = true from by decide] at bF
                      rw [show decide (wantOf true ≤ (1 : Int)) = false from by decide] at bT
                      have AF := Lib.hid (fun W h => implLockMay_any v A (j : Int) false (k : Int) ((k : Int) + 1) W h)
                      rw [aF] at AF
                      have AT := Lib.hid (fun W h => implLockMay_any v A (j : Int) true (k : Int) ((k : Int) + 1) W h)
                      rw [aT] at AT
                      have BF := Lib.hid (fun W h => implLockMay_any u B (j : Int) false (k : Int) ((k : Int) + 1) W h)
                      rw [bF] at BF
                      have BT := Lib.hid (fun W h => implLockMay_any u B (j : Int) true (k : Int) ((k : Int) + 1) W h)
                      rw [bT] at BT
                      clear aF aT bF bT
                      go_wp2_with fail
                      refine (wpAt_any (k : Int) hk0 (by omega) _).mono ?_; rintro e w31 ⟨rfl, hb⟩
                      have HT_8 := Lib.hid (HT_7.out.keep hb)
                      have HU_8 := Lib.hid (HU_7.out.keep hb)
                      have L1_8 := Lib.hid (L1_7.out.trans (hb.mono L1_7.out.size))
                      have L2_8 := Lib.hid (L2_0.out.trans (hb.mono L2_0.out.size))
                      have E_8 := Lib.hid (E_7.out.trans (hb.mono E_7.out.size))
                      clear HT_7 HU_7 L1_7 L2_0 E_7 hb
                      go_wp2_with fail
                      refine (AF.out _ HT_8.out).mono ?_; rintro e w32 ⟨rfl, hb⟩
                      have HT_9 := Lib.hid (HT_8.out.keep hb)
                      have HU_9 := Lib.hid (HU_8.out.keep hb)
                      have L1_9 := Lib.hid (L1_8.out.trans (hb.mono L1_8.out.size))
                      have L2_9 := Lib.hid (L2_8.out.trans (hb.mono L2_8.out.size))
                      have E_9 := Lib.hid (E_8.out.trans (hb.mono E_8.out.size))
                      clear HT_8 HU_8 L1_8 L2_8 E_8 hb
                      go_wp2_with fail
                      refine (wpAt_any (k : Int) hk0 (by omega) _).mono ?_; rintro e w33 ⟨rfl, hb⟩
                      have HT_10 := Lib.hid (HT_9.out.keep hb)
                      have HU_10 := Lib.hid (HU_9.out.keep hb)
                      have L1_10 := Lib.hid (L1_9.out.trans (hb.mono L1_9.out.size))
                      have L2_10 := Lib.hid (L2_9.out.trans (hb.mono L2_9.out.size))
                      have E_10 := Lib.hid (E_9.out.trans (hb.mono E_9.out.size))
                      clear HT_9 HU_9 L1_9 L2_9 E_9 hb
                      go_wp2_with fail
                      refine (BF.out _ HU_10.out).mono ?_; rintro e w34 ⟨rfl, hb⟩
                      have HT_11 := Lib.hid (HT_10.out.keep hb)
                      have HU_11 := Lib.hid (HU_10.out.keep hb)
                      have L1_11 := Lib.hid (L1_10.out.trans (hb.mono L1_10.out.size))
                      have L2_11 := Lib.hid (L2_10.out.trans (hb.mono L2_10.out.size))
                      have E_11 := Lib.hid (E_10.out.trans (hb.mono E_10.out.size))
                      clear HT_10 HU_10 L1_10 L2_10 E_10 hb
                      go_wp2_with fail
                      refine (wpAt_any (k : Int) hk0 (by omega) _).mono ?_; rintro e w35 ⟨rfl, hb⟩
                      have HT_12 := Lib.hid (HT_11.out.keep hb)
                      have HU_12 := Lib.hid (HU_11.out.keep hb)
                      have L1_12 := Lib.hid (L1_11.out.trans (hb.mono L1_11.out.size))
                      have L2_12 := Lib.hid (L2_11.out.trans (hb.mono L2_11.out.size))
                      have E_12 := Lib.hid (E_11.out.trans (hb.mono E_11.out.size))
                      clear HT_11 HU_11 L1_11 L2_11 E_11 hb
                      go_wp2_with fail
                      refine (AT.out _ HT_12.out).mono ?_; rintro e w36 ⟨rfl, hb⟩
                      have HT_13 := Lib.hid (HT_12.out.keep hb)
                      have HU_13 := Lib.hid (HU_12.out.keep hb)
                      have L1_13 := Lib.hid (L1_12.out.trans (hb.mono L1_12.out.size))
                      have L2_13 := Lib.hid (L2_12.out.trans (hb.mono L2_12.out.size))
                      have E_13 := Lib.hid (E_12.out.trans (hb.mono E_12.out.size))
                      clear HT_12 HU_12 L1_12 L2_12 E_12 hb
                      go_wp2_with fail
                      refine (wpAt_any (k : Int) hk0 (by omega) _).mono ?_; rintro e w37 ⟨rfl, hb⟩
                      have HT_14 := Lib.hid (HT_13.out.keep hb)
                      have HU_14 := Lib.hid (HU_13.out.keep hb)
                      have L1_14 := Lib.hid (L1_13.out.trans (hb.mono L1_13.out.size))
                      have L2_14 := Lib.hid (L2_13.out.trans (hb.mono L2_13.out.size))
                      have E_14 := Lib.hid (E_13.out.trans (hb.mono E_13.out.size))
                      clear HT_13 HU_13 L1_13 L2_13 E_13 hb
                      go_wp2_with fail
                      refine (BT.out _ HU_14.out).mono ?_; rintro e w38 ⟨rfl, hb⟩
                      have HT_15 := Lib.hid (HT_14.out.keep hb)
                      have HU_15 := Lib.hid (HU_14.out.keep hb)
                      have L1_15 := Lib.hid (L1_14.out.trans (hb.mono L1_14.out.size))
                      have L2_15 := Lib.hid (L2_14.out.trans (hb.mono L2_14.out.size))
                      have E_15 := Lib.hid (E_14.out.trans (hb.mono E_14.out.size))
                      clear HT_14 HU_14 L1_14 L2_14 E_14 hb
                      go_wp2
                      go_roundg (3 - (j + 1))
                      case measure => omega
                      case rel => exact ⟨j + 1, rfl, by omega, by rw [HS.out]; rfl, by go_num, L2_15.out⟩
                    · rw [show decide (wantOf false ≤ (1 : Int)) = true from by decide] at aF
                      rw [show decide (wantOf true ≤ (1 : Int)) = false from by decide] at aT
                      rw [show decide (wantOf false ≤ (2 : Int)) = true from by decide] at bF
                      rw [show decide (wantOf true ≤ (2 : Int)) = true from by decide] at bT
                      have AF := Lib.hid (fun W h => implLockMay_any v A (j : Int) false (k : Int) ((k : Int) + 1) W h)
                      rw [aF] at AF
                      have AT := Lib.hid (fun W h => implLockMay_any v A (j : Int) true (k : Int) ((k : Int) + 1) W h)
                      rw [aT] at AT
                      have BF := Lib.hid (fun W h => implLockMay_any u B (j : Int) false (k : Int) ((k : Int) + 1) W h)
                      rw [bF] at BF
                      have BT := Lib.hid (fun W h => implLockMay_any u B (j : Int) true (k : Int) ((k : Int) + 1) W h)
                      rw [bT] at BT
                      clear aF aT bF bT
                      go_wp2_with fail
                      refine (wpAt_any (k : Int) hk0 (by omega) _).mono ?_; rintro e w39 ⟨rfl, hb⟩
                      have HT_8 := Lib.hid (HT_7.out.keep hb)
                      have HU_8 := Lib.hid (HU_7.out.keep hb)
                      have L1_8 := Lib.hid (L1_7.out.trans (hb.mono L1_7.out.size))
                      have L2_8 := Lib.hid (L2_0.out.trans (hb.mono L2_0.out.size))
                      have E_8 := Lib.hid (E_7.out.trans (hb.mono E_7.out.size))
                      clear HT_7 HU_7 L1_7 L2_0 E_7 hb
                      go_wp2_with fail
                      refine (AF.out _ HT_8.out).mono ?_; rintro e w40 ⟨rfl, hb⟩
                      have HT_9 := Lib.hid (HT_8.out.keep hb)
                      have HU_9 := Lib.hid (HU_8.out.keep hb)
                      have L1_9 := Lib.hid (L1_8.out.trans (hb.mono L1_8.out.size))
                      have L2_9 := Lib.hid (L2_8.out.trans (hb.mono L2_8.out.size))
                      have E_9 := Lib.hid (E_8.out.trans (hb.mono E_8.out.size))
                      clear HT_8 HU_8 L1_8 L2_8 E_8 hb
                      go_wp2_with fail
                      refine (wpAt_any (k : Int) hk0 (by omega) _).mono ?_; rintro e w41 ⟨rfl, hb⟩
                      have HT_10 := Lib.hid (HT_9.out.keep hb)
                      have HU_10 := Lib.hid (HU_9.out.keep hb)
                      have L1_10 := Lib.hid (L1_9.out.trans (hb.mono L1_9.out.size))
                      have L2_10 := Lib.hid (L2_9.out.trans (hb.mono L2_9.out.size))
                      have E_10 := Lib.hid (E_9.out.trans (hb.mono E_9.out.size))
                      clear HT_9 HU_9 L1_9 L2_9 E_9 hb
                      go_wp2_with fail
                      refine (BF.out _ HU_10.out).mono ?_; rintro e w42 ⟨rfl, hb⟩
                      have HT_11 := Lib.hid (HT_10.out.keep hb)
                      have HU_11 := Lib.hid (HU_10.out.keep hb)
                      have L1_11 := Lib.hid (L1_10.out.trans (hb.mono L1_10.out.size))
                      have L2_11 := Lib.hid (L2_10.out.trans (hb.mono L2_10.out.size))
                      have E_11 := Lib.hid (E_10.out.trans (hb.mono E_10.out.size))
                      clear HT_10 HU_10 L1_10 L2_10 E_10 hb
                      go_wp2_with fail
                      refine (wpAt_any (k : Int) hk0 (by omega) _).mono ?_; rintro e w43 ⟨rfl, hb⟩
                      have HT_12 := Lib.hid (HT_11.out.keep hb)
                      have HU_12 := Lib.hid (HU_11.out.keep hb)
                      have L1_12 := Lib.hid (L1_11.out.trans (hb.mono L1_11.out.size))
                      have L2_12 := Lib.hid (L2_11.out.trans (hb.mono L2_11.out.size))
                      have E_12 := Lib.hid (E_11.out.trans (hb.mono E_11.out.size))
                      clear HT_11 HU_11 L1_11 L2_11 E_11 hb
                      go_wp2_with fail
                      refine (AT.out _ HT_12.out).mono ?_; rintro e w44 ⟨rfl, hb⟩
                      have HT_13 := Lib.hid (HT_12.out.keep hb)
                      have HU_13 := Lib.hid (HU_12.out.keep hb)
                      have L1_13 := Lib.hid (L1_12.out.trans (hb.mono L1_12.out.size))
                      have L2_13 := Lib.hid (L2_12.out.trans (hb.mono L2_12.out.size))
                      have E_13 := Lib.hid (E_12.out.trans (hb.mono E_12.out.size))
                      clear HT_12 HU_12 L1_12 L2_12 E_12 hb
                      go_wp2_with fail
                      refine (wpAt_any (k : Int) hk0 (by omega) _).mono ?_; rintro e w45 ⟨rfl, hb⟩
                      have HT_14 := Lib.hid (HT_13.out.keep hb)
                      have HU_14 := Lib.hid (HU_13.out.keep hb)
                      have L1_14 := Lib.hid (L1_13.out.trans (hb.mono L1_13.out.size))
                      have L2_14 := Lib.hid (L2_13.out.trans (hb.mono L2_13.out.size))
                      have E_14 := Lib.hid (E_13.out.trans (hb.mono E_13.out.size))
                      clear HT_13 HU_13 L1_13 L2_13 E_13 hb
                      go_wp2_with fail
                      refine (BT.out _ HU_14.out).mono ?_; rintro e w46 ⟨rfl, hb⟩
                      have HT_15 := Lib.hid (HT_14.out.keep hb)
                      have HU_15 := Lib.hid (HU_14.out.keep hb)
                      have L1_15 := Lib.hid (L1_14.out.trans (hb.mono L1_14.out.size))
                      have L2_15 := Lib.hid (L2_14.out.trans (hb.mono L2_14.out.size))
                      have E_15 := Lib.hid (E_14.out.trans (hb.mono E_14.out.size))
                      clear HT_14 HU_14 L1_14 L2_14 E_14 hb
                      go_wp2
                      go_roundg (3 - (j + 1))
                      case measure => omega
                      case rel => exact ⟨j + 1, rfl, by omega, by rw [HS.out]; rfl, by go_num, L2_15.out⟩
                  · rcases hmb with rfl | rfl | rfl
                    · rw [show decide (wantOf false ≤ (2 : Int)) = true from by decide] at aF
                      rw [show decide (wantOf true ≤ (2 : Int)) = true from by decide] at aT
                      rw [show decide (wantOf false ≤ (0 : Int)) = false from by decide] at bF
                      rw [show decide (wantOf true ≤ (0 : Int)) = false from by decide] at bT
                      have AF := Lib.hid (fun W h => implLockMay_any v A (j : Int) false (k : Int) ((k : Int) + 1) W h)
                      rw [aF] at AF
                      have AT := Lib.hid (fun W h => implLockMay_any v A (j : Int) true (k : Int) ((k : Int) + 1) W h)
                      rw [aT] at AT
                      have BF := Lib.hid (fun W h => implLockMay_any u B (j : Int) false (k : Int) ((k : Int) + 1) W h)
                      rw [bF] at BF
                      have BT := Lib.hid (fun W h => implLockMay_any u B (j : Int) true (k : Int) ((k : Int) + 1) W h)
                      rw [bT] at BT
                      clear aF aT bF bT
                      go_wp2_with fail
                      refine (wpAt_any (k : Int) hk0 (by omega) _).mono ?_; rintro e w47 ⟨rfl, hb⟩
                      have HT_8 := Lib.hid (HT_7.out.keep hb)
                      have HU_8 := Lib.hid (HU_7.out.keep hb)
                      have L1_8 := Lib.hid (L1_7.out.trans (hb.mono L1_7.out.size))
                      have L2_8 := Lib.hid (L2_0.out.trans (hb.mono L2_0.out.size))
                      have E_8 := Lib.hid (E_7.out.trans (hb.mono E_7.out.size))
                      clear HT_7 HU_7 L1_7 L2_0 E_7 hb
                      go_wp2_with fail
                      refine (AF.out _ HT_8.out).mono ?_; rintro e w48 ⟨rfl, hb⟩
                      have HT_9 := Lib.hid (HT_8.out.keep hb)
                      have HU_9 := Lib.hid (HU_8.out.keep hb)
                      have L1_9 := Lib.hid (L1_8.out.trans (hb.mono L1_8.out.size))
                      have L2_9 := Lib.hid (L2_8.out.trans (hb.mono L2_8.out.size))
                      have E_9 := Lib.hid (E_8.out.trans (hb.mono E_8.out.size))
                      clear HT_8 HU_8 L1_8 L2_8 E_8 hb
                      go_wp2_with fail
                      refine (wpAt_any (k : Int) hk0 (by omega) _).mono ?_; rintro e w49 ⟨rfl, hb⟩
                      have HT_10 := Lib.hid (HT_9.out.keep hb)
                      have HU_10 := Lib.hid (HU_9.out.keep hb)
                      have L1_10 := Lib.hid (L1_9.out.trans (hb.mono L1_9.out.size))
                      have L2_10 := Lib.hid (L2_9.out.trans (hb.mono L2_9.out.size))
                      have E_10 := Lib.hid (E_9.out.trans (hb.mono E_9.out.size))
                      clear HT_9 HU_9 L1_9 L2_9 E_9 hb
                      go_wp2_with fail
                      refine (BF.out _ HU_10.out).mono ?_; rintro e w50 ⟨rfl, hb⟩
                      have HT_11 := Lib.hid (HT_10.out.keep hb)
                      have HU_11 := Lib.hid (HU_10.out.keep hb)
                      have L1_11 := Lib.hid (L1_10.out.trans (hb.mono L1_10.out.size))
                      have L2_11 := Lib.hid (L2_10.out.trans (hb.mono L2_10.out.size))
                      have E_11 := Lib.hid (E_10.out.trans (hb.mono E_10.out.size))
                      clear HT_10 HU_10 L1_10 L2_10 E_10 hb
                      go_wp2
                      go_roundg (3 - (j + 1))
                      case measure => omega
                      case rel => exact ⟨j + 1, rfl, by omega, by rw [HS.out]; rfl, by go_num, L2_11.out⟩
                    · rw [show decide (wantOf false ≤ (2 : Int)) = true from by decide] at aF
                      rw [show decide (wantOf true ≤ (2 : Int)) = true from by decide] at aT
                      rw [show decide (wantOf false ≤ (1 : Int)) = true from by decide] at bF
                      rw [show decide (wantOf true ≤ (1 : Int)) = false from by decide] at bT
                      have AF := Lib.hid (fun W h => implLockMay_any v A (j : Int) false (k : Int) ((k : Int) + 1) W h)
                      rw [aF] at AF
                      have AT := Lib.hid (fun W h => implLockMay_any v A (j : Int) true (k : Int) ((k : Int) + 1) W h)
                      rw [aT] at AT
                      have BF := Lib.hid (fun W h => implLockMay_any u B (j : Int) false (k : Int) ((k : Int) + 1) W h)
                      rw [bF] at BF
                      have BT := Lib.hid (fun W h => implLockMay_any u B (j : Int) true (k : Int) ((k : Int) + 1) W h)
                      rw [bT] at BT
                      clear aF aT bF bT
                      go_wp2_with fail
                      refine (wpAt_any (k : Int) hk0 (by omega) _).mono ?_; rintro e w51 ⟨rfl, hb⟩
                      have HT_8 := Lib.hid (HT_7.out.keep hb)
                      have HU_8 := Lib.hid (HU_7.out.keep hb)
                      have L1_8 := Lib.hid (L1_7.out.trans (hb.mono L1_7.out.size))
                      have L2_8 := Lib.hid (L2_0.out.trans (hb.mono L2_0.out.size))
                      have E_8 := Lib.hid (E_7.out.trans (hb.mono E_7.out.size))
                      clear HT_7 HU_7 L1_7 L2_0 E_7 hb
                      go_wp2_with fail
                      refine (AF.out _ HT_8.out).mono ?_; rintro e w52 ⟨rfl, hb⟩
                      have HT_9 := Lib.hid (HT_8.out.keep hb)
                      have HU_9 := Lib.hid (HU_8.out.keep hb)
                      have L1_9 := Lib.hid (L1_8.out.trans (hb.mono L1_8.out.size))
                      have L2_9 := Lib.hid (L2_8.out.trans (hb.mono L2_8.out.size))
                      have E_9 := Lib.hid (E_8.out.trans (hb.mono E_8.out.size))
                      clear HT_8 HU_8 L1_8 L2_8 E_8 hb
                      go_wp2_with fail
                      refine (wpAt_any (k : Int) hk0 (by omega) _).mono ?_; rintro e w53 ⟨rfl, hb⟩
                      have HT_10 := Lib.hid (HT_9.out.keep hb)
                      have HU_10 := Lib.hid (HU_9.out.keep hb)
                      have L1_10 := Lib.hid (L1_9.out.trans (hb.mono L1_9.out.size))
                      have L2_10 := Lib.hid (L2_9.out.trans (hb.mono L2_9.out.size))
                      have E_10 := Lib.hid (E_9.out.trans (hb.mono E_9.out.size))
                      clear HT_9 HU_9 L1_9 L2_9 E_9 hb
                      go_wp2_with fail
                      refine (BF.out _ HU_10.out).mono ?_; rintro e w54 ⟨rfl, hb⟩
                      have HT_11 := Lib.hid (HT_10.out.keep hb)
                      have HU_11 := Lib.hid (HU_10.out.keep hb)
                      have L1_11 := Lib.hid (L1_10.out.trans (hb.mono L1_10.out.size))
                      have L2_11 := Lib.hid (L2_10.out.trans (hb.mono L2_10.out.size))
                      have E_11 := Lib.hid (E_10.out.trans (hb.mono E_10.out.size))
                      clear HT_10 HU_10 L1_10 L2_10 E_10 hb
                      go_wp2_with fail
                      refine (wpAt_any (k : Int) hk0 (by omega) _).mono ?_; rintro e w55 ⟨rfl, hb⟩
                      have HT_12 := Lib.hid (HT_11.out.keep hb)
                      have HU_12 := Lib.hid (HU_11.out.keep hb)
                      have L1_12 := Lib.hid (L1_11.out.trans (hb.mono L1_11.out.size))
                      have L2_12 := Lib.hid (L2_11.out.trans (hb.mono L2_11.out.size))
                      have E_12 := Lib.hid (E_11.out.trans (hb.mono E_11.out.size))
                      clear HT_11 HU_11 L1_11 L2_11 E_11 hb
                      go_wp2_with fail
                      refine (AT.out _ HT_12.out).mono ?_; rintro e w56 ⟨rfl, hb⟩
                      have HT_13 := Lib.hid (HT_12.out.keep hb)
                      have HU_13 := Lib.hid (HU_12.out.keep hb)
                      have L1_13 := Lib.hid (L1_12.out.trans (hb.mono L1_12.out.size))
                      have L2_13 := Lib.hid (L2_12.out.trans (hb.mono L2_12.out.size))
                      have E_13 := Lib.hid (E_12.out.trans (hb.mono E_12.out.size))
                      clear HT_12 HU_12 L1_12 L2_12 E_12 hb
                      go_wp2_with fail
                      refine (wpAt_any (k : Int) hk0 (by omega) _).mono ?_; rintro e w57 ⟨rfl, hb⟩
                      have HT_14 := Lib.hid (HT_13.out.keep hb)
                      have HU_14 := Lib.hid (HU_13.out.keep hb)
                      have L1_14 := Lib.hid (L1_13.out.trans (hb.mono L1_13.out.size))
                      have L2_14 := Lib.hid (L2_13.out.trans (hb.mono L2_13.out.size))
                      have E_14 := Lib.hid (E_13.out.trans (hb.mono E_13.out.size))
                      clear HT_13 HU_13 L1_13 L2_13 E_13 hb
                      go_wp2_with fail
                      refine (BT.out _ HU_14.out).mono ?_; rintro e w58 ⟨rfl, hb⟩
                      have HT_15 := Lib.hid (HT_14.out.keep hb)
                      have HU_15 := Lib.hid (HU_14.out.keep hb)
                      have L1_15 := Lib.hid (L1_14.out.trans (hb.mono L1_14.out.size))
                      have L2_15 := Lib.hid (L2_14.out.trans (hb.mono L2_14.out.size))
                      have E_15 := Lib.hid (E_14.out.trans (hb.mono E_14.out.size))
                      clear HT_14 HU_14 L1_14 L2_14 E_14 hb
                      go_wp2
                      go_roundg (3 - (j + 1))
                      case measure => omega
                      case rel => exact ⟨j + 1, rfl, by omega, by rw [HS.out]; rfl, by go_num, L2_15.out⟩
                    · rw [show decide (wantOf false ≤ (2 : Int)) = true from by decide] at aF
                      rw [show decide (wantOf true ≤ (2 : Int)) = true from by decide] at aT
                      rw [show decide (wantOf false ≤ (2 : Int)) = true from by decide] at bF
                      rw [show decide (wantOf true ≤ (2 : Int)) = true from by decide] at bT
                      have AF := Lib.hid (fun W h => implLockMay_any v A (j : Int) false (k : Int) ((k : Int) + 1) W h)
                      rw [aF] at AF
                      have AT := Lib.hid (fun W h => implLockMay_any v A (j : Int) true (k : Int) ((k : Int) + 1) W h)
                      rw [aT] at AT
                      have BF := Lib.hid (fun W h => implLockMay_any u B (j : Int) false (k : Int) ((k : Int) + 1) W h)
                      rw [bF] at BF
                      have BT := Lib.hid (fun W h => implLockMay_any u B (j : Int) true (k : Int) ((k : Int) + 1) W h)
                      rw [bT] at BT
                      clear aF aT bF bT
                      go_wp2_with fail
                      refine (wpAt_any (k : Int) hk0 (by omega) _).mono ?_; rintro e w59 ⟨rfl, hb⟩
                      have HT_8 := Lib.hid (HT_7.out.keep hb)
                      have HU_8 := Lib.hid (HU_7.out.keep hb)
                      have L1_8 := Lib.hid (L1_7.out.trans (hb.mono L1_7.out.size))
                      have L2_8 := Lib.hid (L2_0.out.trans (hb.mono L2_0.out.size))
                      have E_8 := Lib.hid (E_7.out.trans (hb.mono E_7.out.size))
                      clear HT_7 HU_7 L1_7 L2_0 E_7 hb
                      go_wp2_with fail
                      refine (AF.out _ HT_8.out).mono ?_; rintro e w60 ⟨rfl, hb⟩
                      have HT_9 := Lib.hid (HT_8.out.keep hb)
                      have HU_9 := Lib.hid (HU_8.out.keep hb)
                      have L1_9 := Lib.hid (L1_8.out.trans (hb.mono L1_8.out.size))
                      have L2_9 := Lib.hid (L2_8.out.trans (hb.mono L2_8.out.size))
                      have E_9 := Lib.hid (E_8.out.trans (hb.mono E_8.out.size))
                      clear HT_8 HU_8 L1_8 L2_8 E_8 hb
                      go_wp2_with fail
                      refine (wpAt_any (k : Int) hk0 (by omega) _).mono ?_; rintro e w61 ⟨rfl, hb⟩
                      have HT_10 := Lib.hid (HT_9.out.keep hb)
                      have HU_10 := Lib.hid (HU_9.out.keep hb)
                      have L1_10 := Lib.hid (L1_9.out.trans (hb.mono L1_9.out.size))
                      have L2_10 := Lib.hid (L2_9.out.trans (hb.mono L2_9.out.size))
                      have E_10 := Lib.hid (E_9.out.trans (hb.mono E_9.out.size))
                      clear HT_9 HU_9 L1_9 L2_9 E_9 hb
                      go_wp2_with fail
                      refine (BF.out _ HU_10.out).mono ?_; rintro e w62 ⟨rfl, hb⟩
                      have HT_11 := Lib.hid (HT_10.out.keep hb)
                      have HU_11 := Lib.hid (HU_10.out.keep hb)
                      have L1_11 := Lib.hid (L1_10.out.trans (hb.mono L1_10.out.size))
                      have L2_11 := Lib.hid (L2_10.out.trans (hb.mono L2_10.out.size))
                      have E_11 := Lib.hid (E_10.out.trans (hb.mono E_10.out.size))
                      clear HT_10 HU_10 L1_10 L2_10 E_10 hb
                      go_wp2_with fail
                      refine (wpAt_any (k : Int) hk0 (by omega) _).mono ?_; rintro e w63 ⟨rfl, hb⟩
                      have HT_12 := Lib.hid (HT_11.out.keep hb)
                      have HU_12 := Lib.hid (HU_11.out.keep hb)
                      have L1_12 := Lib.hid (L1_11.out.trans (hb.mono L1_11.out.size))
                      have L2_12 := Lib.hid (L2_11.out.trans (hb.mono L2_11.out.size))
                      have E_12 := Lib.hid (E_11.out.trans (hb.mono E_11.out.size))
                      clear HT_11 HU_11 L1_11 L2_11 E_11 hb
                      go_wp2_with fail
                      refine (AT.out _ HT_12.out).mono ?_; rintro e w64 ⟨rfl, hb⟩
                      have HT_13 := Lib.hid (HT_12.out.keep hb)
                      have HU_13 := Lib.hid (HU_12.out.keep hb)
                      have L1_13 := Lib.hid (L1_12.out.trans (hb.mono L1_12.out.size))
                      have L2_13 := Lib.hid (L2_12.out.trans (hb.mono L2_12.out.size))
                      have E_13 := Lib.hid (E_12.out.trans (hb.mono E_12.out.size))
                      clear HT_12 HU_12 L1_12 L2_12 E_12 hb
                      go_wp2_with fail
                      refine (wpAt_any (k : Int) hk0 (by omega) _).mono ?_; rintro e w65 ⟨rfl, hb⟩
                      have HT_14 := Lib.hid (HT_13.out.keep hb)
                      have HU_14 := Lib.hid (HU_13.out.keep hb)
                      have L1_14 := Lib.hid (L1_13.out.trans (hb.mono L1_13.out.size))
                      have L2_14 := Lib.hid (L2_13.out.trans (hb.mono L2_13.out.size))
                      have E_14 := Lib.hid (E_13.out.trans (hb.mono E_13.out.size))
                      clear HT_13 HU_13 L1_13 L2_13 E_13 hb
                      go_wp2_with fail
                      refine (BT.out _ HU_14.out).mono ?_; rintro e w66 ⟨rfl, hb⟩
                      have HT_15 := Lib.hid (HT_14.out.keep hb)
                      have HU_15 := Lib.hid (HU_14.out.keep hb)
                      have L1_15 := Lib.hid (L1_14.out.trans (hb.mono L1_14.out.size))
                      have L2_15 := Lib.hid (L2_14.out.trans (hb.mono L2_14.out.size))
                      have E_15 := Lib.hid (E_14.out.trans (hb.mono E_14.out.size))
                      clear HT_14 HU_14 L1_14 L2_14 E_14 hb
                      go_wp2
                      go_roundg (3 - (j + 1))
                      case measure => omega
                      case rel => exact ⟨j + 1, rfl, by omega, by rw [HS.out]; rfl, by go_num, L2_15.out⟩
              · obtain rfl : j = 3 := by omega
                go_wp2
                go_roundg (48 - (k + 1))
                case measure => omega
                case rel => exact ⟨k + 1, rfl, by omega, by rw [HO.out], by go_num, L1_7.out⟩
          · obtain rfl : k = 48 := by omega
            rw [HF.out]
            go_wp2
            go_ret
            exact ⟨rfl, E_6.out⟩
  · go_enter Try.func10, Try.ntmps10
    go_wp2
    go_ret
    exact ⟨rfl, Below.refl _ _⟩

end Go.Proofs.Ytfifimdaepebeaa.fnLockSame
