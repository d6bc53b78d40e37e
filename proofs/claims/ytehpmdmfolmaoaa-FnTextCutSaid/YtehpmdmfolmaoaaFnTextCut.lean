/-
  laws.FnTextCut returns true at every code: the walk of the law. No condition.
-/
import Derived.Test.YtehpmdmfolmaoaaDrawTextC
import Derived.Test.YtehpmdmfolmaoaaImplCut
import Derived.Test.YtehpmdmfolmaoaaTextLaws
import Derived.Test.YtehpmdmfolmaoaaSpecWrite
namespace Go.Proofs.Ytehpmdmfolmaoaa.fnTextCut
open Go.RowKit

theorem mkB_get (l : List UInt8) (k : Nat) (h : k < (mkB l).size) : (mkB l)[k]'h = l.getD k 46 := by
  rw [List.getD_eq_getElem?_getD, List.getElem?_eq_getElem (by rw [mkB_size] at h; exact h)]; rfl

set_option maxRecDepth 100000 in
set_option maxHeartbeats 4000000 in
theorem walk (v : Value) (len : Nat) (w : World) (h : Byt w v len) :
    Calls Try.prog 6 #[v] w fun e w' => e = .returned (.bool true) ∧ Below w.heap.size w w' := by
  have HB := Lib.hid h
  have hlen : len ≤ 9223372036854775807 := by obtain ⟨z, a, cap, -, h1, h2, -⟩ := h; unfold maxLen at h2; omega
  obtain ⟨z, a, cap, rfl, -, -, -⟩ := h
  by_cases hL : len ≤ 1048576
  · go_enter Try.func6, Try.ntmps6
    go_wp2_with fail
    refine (drawTextCut_any _ len _ HB.out).mono ?_; rintro e w1 ⟨l, n, rfl, hl, hb1⟩
    have H1 := Lib.hid (fun W => specTextCut_any l n (by omega) W)
    have H2 := Lib.hid (fun W => implTextCut_any l n (by omega) W)
    have HK : Hid (∀ W, Calls Try.prog 16 #[.string (mkB l)] W fun e w' => e = .returned (.bool (tokB l)) ∧ W = w') := fun W => specTextOk_any (mkB l) (by rw [mkB_size]; omega) W
    by_cases hok : tcB l n = true
    · have ht : tokB l = true := by unfold tcB at hok; simp only [Bool.and_eq_true] at hok; exact hok.1
      have hn : 0 ≤ n ∧ n ≤ 48 := by unfold tcB at hok; simp only [Bool.and_eq_true, decide_eq_true_eq] at hok; exact hok.2
      obtain ⟨m, rfl⟩ : ∃ m : Nat, n = m := ⟨n.toNat, by omega⟩
      have hm : m ≤ 48 := by omega
      have hx : tcS l m = cutL l m := by unfold tcS; rw [if_pos ht, if_pos hn, Int.toNat_natCast]
      have hx2 : tcS (cutL l m) m = cutL l m := by unfold tcS; rw [if_pos (tokB_cutL ht hm), if_pos hn, Int.toNat_natCast, cut_cut]
      have hok2 : tcB (cutL l m) m = true := by unfold tcB; rw [tokB_cutL ht hm]; simp; omega
      have H3 := Lib.hid (fun W => implTextCut_any (cutL l m) m (by rw [cutL_len]; omega) W)
      rw [hok, hx] at H1 H2
      rw [hok2, hx2] at H3
      have hg := fun i (h : i < m) => cutL_getD l m i h
      have HG := Lib.hid hg
      have hXl : (cutL l m).length = m := cutL_len l m
      clear hx hx2 hok2 hn hok ht hg HK
      generalize cutL l m = X at *
      have q1 : ((mkB X).toList == (mkB X).toList) = true := by simp
      have z1 : (mkB X).size = m := by rw [mkB_size, hXl]
      have z2 : (mkB l).size = l.length := mkB_size l
      have HXl := Lib.hid hXl
      clear hXl
      go_wp2_with fail
      refine (H2.out _).mono ?_; rintro e w2 ⟨rfl, hb2⟩
      go_wp2_with fail
      refine (H1.out _).mono ?_; rintro e w3 ⟨rfl, rfl⟩
      go_wp2
      go_loopg [9] m (fun g s9 wr => ∃ k : Nat, g = m - k ∧ k ≤ m ∧ s9 = .int .i64 k ∧ Below w2.heap.size w2 wr)
      case atStart => exact ⟨0, rfl, Nat.zero_le _, rfl, Below.refl _ _⟩
      case round =>
        obtain ⟨k, rfl, hk, rfl, hbr⟩ := hrel
        by_cases hlt : k < m
        · have hXk := HG.out k hlt
          have hpX : k < (mkB X).size := by rw [z1]; exact hlt
          have eX : (mkB X)[k]'hpX = X.getD k 46 := mkB_get X k hpX
          have i0 : (0 : Int) ≤ (k : Int) := by omega
          have i1 : (k : Int) < (m : Int) := by omega
          by_cases hin : k < l.length
          · have hpl : k < (mkB l).size := by rw [z2]; exact hin
            have el : (mkB l)[k]'hpl = l.getD k 46 := mkB_get l k hpl
            rw [if_pos hin] at hXk
            rw [hXk] at eX
            generalize l.getD k 46 = c at *
            have d1 : decide (k < l.length) = true := by simpa using hin
            have d2 : decide (l.length ≤ k) = false := by simpa using hin
            have i2 : (k : Int) < (l.length : Int) := by omega
            clear hXk
            go_wp2
            go_quiet (fail)
            have hb3 := fun j => hbr.trans ((below_drewN wr j).mono hbr.size)
            go_wp2
            go_roundg (m - (k + 1))
            case measure => omega
            case rel => exact ⟨k + 1, rfl, by omega, by go_num, hb3 _⟩
          · rw [if_neg hin] at hXk
            rw [hXk] at eX
            have d1 : decide (k < l.length) = false := by simpa using hin
            have d2 : decide (l.length ≤ k) = true := by simpa using hin
            clear hXk
            go_wp2
            go_quiet (fail)
            have hb3 := fun j => hbr.trans ((below_drewN wr j).mono hbr.size)
            go_wp2
            go_roundg (m - (k + 1))
            case measure => omega
            case rel => exact ⟨k + 1, rfl, by omega, by go_num, hb3 _⟩
        · obtain rfl : k = m := by omega
          have e3 := hb1.trans ((hb2.trans (hbr.mono hb2.size)).mono hb1.size)
          go_wp2_with fail
          refine (H3.out _).mono ?_; rintro e w4 ⟨rfl, hb4⟩
          go_wp2
          go_ret
          exact ⟨rfl, e3.trans (hb4.mono e3.size)⟩
    · replace hok : tcB l n = false := by simpa using hok
      rw [hok] at H1 H2
      by_cases ht : tokB l = true
      · have hx : tcS l n = l := by
          unfold tcS; rw [if_pos ht, if_neg]
          intro hh; unfold tcB at hok; simp [ht, hh] at hok
        rw [hx] at H1 H2
        rw [ht] at HK
        clear hx ht hok
        go_wp2_with fail
        refine (H2.out _).mono ?_; rintro e w2 ⟨rfl, hb2⟩
        go_wp2_with fail
        refine (H1.out _).mono ?_; rintro e w3 ⟨rfl, rfl⟩
        go_wp2_with fail
        refine (HK.out _).mono ?_; rintro e w3 ⟨rfl, rfl⟩
        go_wp2
        go_ret
        exact ⟨rfl, hb1.trans (hb2.mono hb1.size)⟩
      · replace ht : tokB l = false := by simpa using ht
        have hx : tcS l n = [] := by unfold tcS; simp [ht]
        rw [hx] at H1 H2
        rw [ht] at HK
        have hne : ¬ l = [] := by rintro rfl; exact absurd ht (by decide)
        have q1 : ((mkB []).toList == (mkB l).toList) = false := by rw [mkB_toList', mkB_toList']; simpa using hne
        have q2 : (mkB l).toList.isEmpty = false := by rw [mkB_toList']; simpa using hne
        have q3 : (mkB []).toList.isEmpty = true := by rw [mkB_toList']; rfl
        clear hne
        clear hx ht hok
        go_wp2_with fail
        refine (H2.out _).mono ?_; rintro e w2 ⟨rfl, hb2⟩
        go_wp2_with fail
        refine (H1.out _).mono ?_; rintro e w3 ⟨rfl, rfl⟩
        go_wp2_with fail
        refine (HK.out _).mono ?_; rintro e w3 ⟨rfl, rfl⟩
        go_wp2
        go_ret
        exact ⟨rfl, hb1.trans (hb2.mono hb1.size)⟩
  · go_enter Try.func6, Try.ntmps6
    go_wp2
    go_ret
    exact ⟨rfl, Below.refl _ _⟩

end Go.Proofs.Ytehpmdmfolmaoaa.fnTextCut
