/-
  laws.FnExactTextAll returns true at every string and list of patches: both sides return the same text and Bool; the list is left as it was. No condition.
-/
import Derived.Test.YtehpmdmfolmaoacImplAll
import Derived.Test.YtehpmdmfolmaoacToPatch
namespace Go.Proofs.Ytehpmdmfolmaoac.exTextAll
open Go.RowKit

set_option maxRecDepth 100000 in
set_option maxHeartbeats 4000000 in
theorem walk (s : ByteArray) (v : Value) (P : List Pch) (w : World) (h : s.size ≤ maxLen) (hp : Ptc w v P) :
    Calls Try.prog 8 #[.string s, v] w fun e w' => e = .returned (.bool true) ∧ Below w.heap.size w w' := by
  unfold maxLen at h
  obtain ⟨l, rfl, hl⟩ := mkB_of s
  have hsz : (mkB l).size = l.length := mkB_size l
  rw [hsz] at h
  clear hl
  have HP := Lib.hid hp
  have HSZ := Lib.hid (szPatchS_any v P w hp)
  by_cases hL : l.length ≤ 1048576
  · by_cases hS : P.length + szP P P.length ≤ 1048576
    · have hPn : P.length ≤ 1048576 := by omega
      have hPd : ∀ i, (P.getD i (0, [])).2.length ≤ 2000000 := fun i => by
        by_cases hi : i < P.length
        · have := szP_one P hi; omega
        · rw [List.getD_eq_getElem?_getD, List.getElem?_eq_none (by omega)]; simp
      have hPd2 : ∀ i, (P.getD i (0, [])).2.length ≤ 9223372036854775807 := fun i => by have := hPd i; omega
      have hm : P.length ≤ maxLen := by unfold maxLen; omega
      have HM := Lib.hid (And.intro hm hPd2)
      have H1 := Lib.hid (fun v W (h : Ptc W v P) => specTextAll_any v P l W h (by omega) hPd)
      have H2 := Lib.hid (fun v W (h : Ptc W v P) => implTextAll_any v P l W h (by omega) hPd (by omega))
      clear hPd hPd2 hm hp h
      generalize edS (edF P) P.length l = X at *
      generalize edB (edF P) P.length l = Y at *
      have hx : ((mkB X).toList == (mkB X).toList) = true := by simp
      have hy : (Y != Y) = false := by simp
      go_enter Try.func8, Try.ntmps8
      go_wp2_with fail
      refine HSZ.out.mono ?_; rintro e w1 ⟨hcase, hb1⟩
      obtain ⟨x, hx0, rfl⟩ : ∃ x : Int, 0 ≤ x ∧ e = .returned (.int .i64 x) := by
        rcases hcase with ⟨-, h⟩ | ⟨h, -⟩
        · exact h
        · omega
      clear hcase
      have P1 := Lib.hid (HP.out.keep hb1)
      clear HSZ
      go_wp2_with fail
      refine (toPatchS_any v P _ P1.out hPn).mono ?_; rintro e w2 ⟨b2, rfl, hr2, hb2⟩
      have R2 := Lib.hid (hr2.ptc HM.out.1 HM.out.2)
      have e2 := hb1.trans (hb2.mono hb1.size)
      have P2 := Lib.hid (P1.out.keep hb2)
      clear hr2 hb1 hb2 P1
      go_wp2_with fail
      refine (H1.out _ _ R2.out).mono ?_; rintro e w3 ⟨rfl, hb3⟩
      have e3 := e2.trans (hb3.mono e2.size)
      have P3 := Lib.hid (P2.out.keep hb3)
      clear hb3 P2 R2 e2
      go_wp2_with fail
      refine (toPatchS_any v P _ P3.out hPn).mono ?_; rintro e w4 ⟨b4, rfl, hr4, hb4⟩
      have R4 := Lib.hid (hr4.ptc HM.out.1 HM.out.2)
      have e4 := e3.trans (hb4.mono e3.size)
      have P4 := Lib.hid (P3.out.keep hb4)
      clear hr4 hb4 P3 e3
      go_wp2_with fail
      refine (H2.out _ _ R4.out).mono ?_; rintro e w5 ⟨rfl, hb5⟩
      have e5 := e4.trans (hb5.mono e4.size)
      have P5 := Lib.hid (P4.out.keep hb5)
      have R5 := Lib.hid (R4.out.keep hb5)
      clear hb5 P4 R4 e4
      go_wp2_with fail
      refine (toPatchS_any v P _ P5.out hPn).mono ?_; rintro e w6 ⟨b6, rfl, hr6, hb6⟩
      have Q6 := Lib.hid (hr6.ptc HM.out.1 HM.out.2)
      have R6 := Lib.hid (R5.out.keep hb6)
      have e6 := e5.trans (hb6.mono e5.size)
      clear hr6 hb6 P5 R5 e5
      go_wp2_with fail
      refine (eqPatchS_same _ _ P _ R6.out Q6.out).mono ?_; rintro e w7 ⟨rfl, hb7⟩
      go_wp2
      go_ret
      exact ⟨rfl, e6.trans (hb7.mono e6.size)⟩
    · go_enter Try.func8, Try.ntmps8
      go_wp2_with fail
      refine HSZ.out.mono ?_; rintro e w1 ⟨hcase, hb1⟩
      obtain rfl : e = .returned (.int .i64 (-1)) := by
        rcases hcase with ⟨h, -⟩ | ⟨-, h⟩
        · omega
        · exact h
      clear hcase
      go_wp2
      go_ret
      exact ⟨rfl, hb1⟩
  · go_enter Try.func8, Try.ntmps8
    go_wp2
    go_ret
    exact ⟨rfl, Below.refl _ _⟩

end Go.Proofs.Ytehpmdmfolmaoac.exTextAll
