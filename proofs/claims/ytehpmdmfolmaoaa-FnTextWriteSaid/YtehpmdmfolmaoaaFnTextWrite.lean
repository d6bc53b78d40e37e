/-
  laws.FnTextWrite returns true at every code: the walk of the law. No condition.
-/
import Derived.Test.YtehpmdmfolmaoaaDrawTextW
import Derived.Test.YtehpmdmfolmaoaaImplWrite
import Derived.Test.YtehpmdmfolmaoaaRead
import Derived.Test.YtehpmdmfolmaoaaTextLaws
namespace Go.Proofs.Ytehpmdmfolmaoaa.fnTextWrite
open Go.RowKit

theorem mkB_get (l : List UInt8) (k : Nat) (h : k < (mkB l).size) : (mkB l)[k]'h = l.getD k 46 := by
  rw [List.getD_eq_getElem?_getD, List.getElem?_eq_getElem (by rw [mkB_size] at h; exact h)]; rfl

theorem read_back {l d : List UInt8} {n : Nat} (h : tokB (wrL l n d) = true) (h0 : 0 < d.length) (h48 : n + d.length ≤ 48) (hi : Int) (hh : hi = (n : Int) + d.length) (hX : (wrL l n d).length ≤ 2000000) (W : World) :
    Calls Try.prog 17 #[.string (mkB (wrL l n d)), .agg #[.int .i64 n, .int .i64 hi]] W fun e w' => e = .returned (.string (mkB d)) ∧ Below W.heap.size W w' := by
  have hhi : hi = ((n + d.length : Nat) : Int) := by omega
  have := implTextRead_any (wrL l n d) n hi hX W
  rw [hhi, trS_yes h (spanOkB_true ⟨by omega, by omega, by omega⟩), rd_wr] at this
  rw [hhi]
  exact this

set_option maxRecDepth 100000 in
set_option maxHeartbeats 8000000 in
theorem walk (v : Value) (len : Nat) (w : World) (h : Byt w v len) :
    Calls Try.prog 4 #[v] w fun e w' => e = .returned (.bool true) ∧ Below w.heap.size w w' := by
  have HB := Lib.hid h
  have hlen : len ≤ 9223372036854775807 := by obtain ⟨z, a, cap, -, h1, h2, -⟩ := h; unfold maxLen at h2; omega
  obtain ⟨z, ad, cap, rfl, -, -, -⟩ := h
  by_cases hL : len ≤ 1048576
  · go_enter Try.func4, Try.ntmps4
    go_wp2_with fail
    refine (drawTextWrite_any _ len _ HB.out).mono ?_; rintro e w1 ⟨l, a, d, rfl, hl, hd, ⟨ha0, ha1⟩, hb1⟩
    have H1 := Lib.hid (fun W => specTextWrite_any l a d (by omega) (by omega) W)
    have H2 := Lib.hid (fun W => implTextWrite_any l a d (by omega) (by omega) W)
    have HK : Hid (∀ W, Calls Try.prog 16 #[.string (mkB l)] W fun e w' => e = .returned (.bool (tokB l)) ∧ W = w') := fun W => specTextOk_any (mkB l) (by rw [mkB_size]; omega) W
    have HI : Hid (∀ W, Calls Try.prog 15 #[.string (mkB l)] W fun e w' => e = .returned (.bool (tokB l)) ∧ W = w') := fun W => implTextOk_any (mkB l) (by rw [mkB_size]; omega) W
    by_cases hok : twB l a d = true
    · have ht : tokB l = true := by unfold twB at hok; simp only [Bool.and_eq_true] at hok; exact hok.1
      have hw : wokB a d = true := by unfold twB at hok; simp only [Bool.and_eq_true] at hok; exact hok.2
      obtain ⟨hw0, hw1, hw2, hw3⟩ := wokB_iff.1 hw
      obtain ⟨n, rfl⟩ : ∃ n : Nat, a = n := ⟨a.toNat, by omega⟩
      have hd0 : 0 < d.length := by
        rcases d with _ | ⟨x, d⟩
        · exact absurd rfl hw1
        · simp
      have htX : tokB (wrL l n d) = true := tokB_wrL ht hw2 (by omega)
      have hx : twS l n d = wrL l n d := by rw [twS_ok ht, if_pos hw, Int.toNat_natCast]
      have hx2 : twS (wrL l n d) n d = wrL l n d := by rw [twS_ok htX, if_pos hw, Int.toNat_natCast, wr_wr]
      have hok2 : twB (wrL l n d) n d = true := by rw [twB_ok htX, hw]
      have hXl : (wrL l n d).length = max l.length (n + d.length) := wrL_len l n d
      have hll := tokB_len ht
      have H3 := Lib.hid (fun W => implTextWrite_any (wrL l n d) n d (by rw [hXl]; omega) (by omega) W)
      have H4 := Lib.hid (fun hi hh W => read_back htX hd0 (by omega) hi hh (by rw [hXl]; omega) W)
      have H5 : Hid (∀ W, Calls Try.prog 15 #[.string (mkB (wrL l n d))] W fun e w' => e = .returned (.bool true) ∧ W = w') := fun W => by
        have := implTextOk_any (mkB (wrL l n d)) (by rw [mkB_size, hXl]; omega) W
        rw [mkB_toList, htX] at this; exact this
      rw [hok, hx] at H1 H2
      rw [hok2, hx2] at H3
      rw [ht] at HK HI
      have HG := Lib.hid (fun i (h : i < max l.length (n + d.length)) => wrL_getD l n d i h)
      clear hx hx2 hok2 hok ht htX hw hw0 hw1 hw2
      generalize wrL l n d = X at *
      have q1 : ((mkB X).toList == (mkB X).toList) = true := by simp
      have q2 : ((mkB d).toList == (mkB d).toList) = true := by simp
      have z2 : (mkB l).size = l.length := mkB_size l
      have z3 : (mkB d).size = d.length := mkB_size d
      obtain ⟨N, hNN⟩ : ∃ N, max l.length (n + d.length) = N := ⟨_, rfl⟩
      rw [hNN] at HG hXl
      have z1 : (mkB X).size = N := by rw [mkB_size, hXl]
      have n1 : l.length ≤ N := by omega
      have n2 : n + d.length ≤ N := by omega
      have n3 : N ≤ 48 := by omega
      clear hXl
      go_wp2_with fail
      refine (H2.out _).mono ?_; rintro e w2 ⟨rfl, hb2⟩
      go_wp2_with fail
      refine (H1.out _).mono ?_; rintro e w3 ⟨rfl, hb3⟩
      go_wp2_with fail
      refine (HI.out _).mono ?_; rintro e w4 ⟨rfl, rfl⟩
      go_wp2_with fail
      refine (HK.out _).mono ?_; rintro e w4 ⟨rfl, rfl⟩
      have e3 := hb1.trans ((hb2.trans (hb3.mono hb2.size)).mono hb1.size)
      clear hb1 hb2 hb3
      by_cases c : l.length < n + d.length
      have hN : (n : Int) + d.length = N := by omega
      rotate_left
      have hN : l.length = N := by omega
      all_goals
        have HN := Lib.hid hNN
        clear hNN
        go_wp2_with fail
        refine (H4.out _ (by omega) _).mono ?_; rintro e w5 ⟨rfl, hb5⟩
        have e5 := e3.trans (hb5.mono e3.size)
        go_wp2
        go_loopg [11] N (fun g s11 wr => ∃ k : Nat, g = N - k ∧ k ≤ N ∧ s11 = .int .i64 k ∧ Below w5.heap.size w5 wr)
        case atStart => exact ⟨0, rfl, Nat.zero_le _, rfl, Below.refl _ _⟩
        case round =>
          obtain ⟨k, rfl, hk, rfl, hbr⟩ := hrel
          by_cases hlt : k < N
          · have hXk := HG.out k hlt
            have hpX : k < (mkB X).size := by rw [z1]; exact hlt
            have eX : (mkB X)[k]'hpX = X.getD k 46 := mkB_get X k hpX
            have i0 : (0 : Int) ≤ (k : Int) := by omega
            have i1 : (k : Int) < (N : Int) := by omega
            have d3 : decide (N ≤ k) = false := by simpa using hlt
            have d4 : decide (k < N) = true := by simpa using hlt
            by_cases hin : n ≤ k ∧ k < n + d.length
            · obtain ⟨hi1, hi2⟩ := hin
              have b0 : decide (n ≤ k) = true := by simpa using hi1
              have b1 : decide ((k : Int) < (n : Int) + (d.length : Int)) = true := by simp only [decide_eq_true_eq]; omega
              clear hXk eX
              try (exfalso; omega)
              all_goals
                go_wp2
                go_quiet (fail)
                have hb3 := fun j => hbr.trans ((below_drewN wr j).mono hbr.size)
                go_wp2
                go_roundg (N - (k + 1))
                case measure => omega
                case rel => exact ⟨k + 1, rfl, by omega, by go_num, hb3 _⟩
            · rw [if_neg hin] at hXk
              by_cases hkn : k < n
              · have b0 : decide (n ≤ k) = false := by simpa using hkn
                clear hin
                by_cases hkl : k < l.length
                · have hpl : k < (mkB l).size := by rw [z2]; exact hkl
                  have el : (mkB l)[k]'hpl = l.getD k 46 := mkB_get l k hpl
                  rw [if_pos hkl] at hXk
                  rw [hXk] at eX
                  generalize l.getD k 46 = cc at *
                  have d1 : decide (k < l.length) = true := by simpa using hkl
                  have d2 : decide (l.length ≤ k) = false := by simpa using hkl
                  have i2 : (k : Int) < (l.length : Int) := by omega
                  clear hXk
                  try (exfalso; omega)
                  all_goals
                    go_wp2
                    go_quiet (fail)
                    have hb3 := fun j => hbr.trans ((below_drewN wr j).mono hbr.size)
                    go_wp2
                    go_roundg (N - (k + 1))
                    case measure => omega
                    case rel => exact ⟨k + 1, rfl, by omega, by go_num, hb3 _⟩
                · rw [if_neg hkl] at hXk
                  rw [hXk] at eX
                  have d1 : decide (k < l.length) = false := by simpa using hkl
                  have d2 : decide (l.length ≤ k) = true := by simpa using hkl
                  clear hXk
                  try (exfalso; omega)
                  all_goals
                    go_wp2
                    go_quiet (fail)
                    have hb3 := fun j => hbr.trans ((below_drewN wr j).mono hbr.size)
                    go_wp2
                    go_roundg (N - (k + 1))
                    case measure => omega
                    case rel => exact ⟨k + 1, rfl, by omega, by go_num, hb3 _⟩
              · have hge : n + d.length ≤ k := by omega
                have b1 : decide ((k : Int) < (n : Int) + (d.length : Int)) = false := by simp only [decide_eq_false_iff_not]; omega
                clear hin
                by_cases hkl : k < l.length
                · have hpl : k < (mkB l).size := by rw [z2]; exact hkl
                  have el : (mkB l)[k]'hpl = l.getD k 46 := mkB_get l k hpl
                  rw [if_pos hkl] at hXk
                  rw [hXk] at eX
                  generalize l.getD k 46 = cc at *
                  have d1 : decide (k < l.length) = true := by simpa using hkl
                  have d2 : decide (l.length ≤ k) = false := by simpa using hkl
                  have i2 : (k : Int) < (l.length : Int) := by omega
                  clear hXk
                  try (exfalso; omega)
                  all_goals
                    go_wp2
                    go_quiet (fail)
                    have hb3 := fun j => hbr.trans ((below_drewN wr j).mono hbr.size)
                    go_wp2
                    go_roundg (N - (k + 1))
                    case measure => omega
                    case rel => exact ⟨k + 1, rfl, by omega, by go_num, hb3 _⟩
                · rw [if_neg hkl] at hXk
                  rw [hXk] at eX
                  have d1 : decide (k < l.length) = false := by simpa using hkl
                  have d2 : decide (l.length ≤ k) = true := by simpa using hkl
                  clear hXk
                  try (exfalso; omega)
                  all_goals
                    go_wp2
                    go_quiet (fail)
                    have hb3 := fun j => hbr.trans ((below_drewN wr j).mono hbr.size)
                    go_wp2
                    go_roundg (N - (k + 1))
                    case measure => omega
                    case rel => exact ⟨k + 1, rfl, by omega, by go_num, hb3 _⟩
          · obtain rfl : k = N := by omega
            have e6 := e5.trans (hbr.mono e5.size)
            go_wp2_with fail
            refine (H3.out _).mono ?_; rintro e w6 ⟨rfl, hb6⟩
            have e7 := e6.trans (hb6.mono e6.size)
            go_wp2_with fail
            refine (H5.out _).mono ?_; rintro e w7 ⟨rfl, rfl⟩
            go_wp2
            go_ret
            exact ⟨rfl, e7⟩
    · replace hok : twB l a d = false := by simpa using hok
      rw [hok] at H1 H2
      by_cases ht : tokB l = true
      · have hx : twS l a d = l := by
          rw [twS_ok ht, if_neg]
          intro hh; rw [twB_ok ht, hh] at hok; cases hok
        rw [hx] at H1 H2
        rw [ht] at HK HI
        clear hx ht hok
        go_wp2_with fail
        refine (H2.out _).mono ?_; rintro e w2 ⟨rfl, hb2⟩
        go_wp2_with fail
        refine (H1.out _).mono ?_; rintro e w3 ⟨rfl, hb3⟩
        go_wp2_with fail
        refine (HI.out _).mono ?_; rintro e w4 ⟨rfl, rfl⟩
        go_wp2_with fail
        refine (HK.out _).mono ?_; rintro e w4 ⟨rfl, rfl⟩
        go_wp2_with fail
        refine (HK.out _).mono ?_; rintro e w4 ⟨rfl, rfl⟩
        go_wp2
        go_ret
        exact ⟨rfl, hb1.trans ((hb2.trans (hb3.mono hb2.size)).mono hb1.size)⟩
      · replace ht : tokB l = false := by simpa using ht
        have hx : twS l a d = [] := by unfold twS; simp [ht]
        rw [hx] at H1 H2
        rw [ht] at HK HI
        have hne : ¬ l = [] := by rintro rfl; exact absurd ht (by decide)
        have q1 : ((mkB []).toList == (mkB l).toList) = false := by rw [mkB_toList', mkB_toList']; simpa using hne
        have q2 : (mkB l).toList.isEmpty = false := by rw [mkB_toList']; simpa using hne
        have q3 : (mkB []).toList.isEmpty = true := by rw [mkB_toList']; rfl
        clear hne
        clear hx ht hok
        go_wp2_with fail
        refine (H2.out _).mono ?_; rintro e w2 ⟨rfl, hb2⟩
        go_wp2_with fail
        refine (H1.out _).mono ?_; rintro e w3 ⟨rfl, hb3⟩
        go_wp2_with fail
        refine (HI.out _).mono ?_; rintro e w4 ⟨rfl, rfl⟩
        go_wp2_with fail
        refine (HK.out _).mono ?_; rintro e w4 ⟨rfl, rfl⟩
        go_wp2_with fail
        refine (HK.out _).mono ?_; rintro e w4 ⟨rfl, rfl⟩
        go_wp2
        go_ret
        exact ⟨rfl, hb1.trans ((hb2.trans (hb3.mono hb2.size)).mono hb1.size)⟩
  · go_enter Try.func4, Try.ntmps4
    go_wp2
    go_ret
    exact ⟨rfl, Below.refl _ _⟩

end Go.Proofs.Ytehpmdmfolmaoaa.fnTextWrite
